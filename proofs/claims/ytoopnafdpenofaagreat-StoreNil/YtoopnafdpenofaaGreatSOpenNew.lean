/- Open of package store, of a disk that is all zeros. -/
import Derived.Test.YtoopnafdpenofaaGreatSNext0
import Derived.Test.YtoopnafdpenofaaGreatSLeft0
import Derived.Test.YtoopnafdpenofaaGreatDTake
namespace Go.Proofs.YtoopnafdpenofaaGreat
open Go.RowKit Go.Shelf
variable {w w' : World}

/-- A store that has nothing. -/
def sst0 (d : DSt) : SSt := ⟨d, fun _ _ => none, fun _ => none, 0, 0, false⟩
theorem sst0_ok (d : DSt) : (sst0 d).ok := ⟨fun _ _ _ h => (by cases h), fun _ _ h => (by cases h), Nat.le_refl _, Nat.zero_le _⟩
/-- A store in its three new blocks. -/
theorem open_spic {FD : List Nat} {D : Nat} {d : DSt} (hd : Dk w FD D d) : SPic (((w.alloc (.map #[] 0)).alloc (.map #[] 0)).alloc (.cells (storeV D w.heap.size (w.heap.size + 1) 0 0 false) TS)) FD [w.heap.size, w.heap.size + 1, w.heap.size + 2] (w.heap.size + 2) D w.heap.size (w.heap.size + 1) (fun _ => none) (fun _ => none) (fun _ _ => .slice none 0 0) (sst0 d) := by
  have hb : Below w.heap.size w (((w.alloc (.map #[] 0)).alloc (.map #[] 0)).alloc (.cells (storeV D w.heap.size (w.heap.size + 1) 0 0 false) TS)) := (((Below.refl _ w).alloc (Nat.le_refl _) _).alloc (by simp) _).alloc (by simp; omega) _
  obtain ⟨k1, k2, k3⟩ : (((w.alloc (.map #[] 0)).alloc (.map #[] 0)).alloc (.cells (storeV D w.heap.size (w.heap.size + 1) 0 0 false) TS)).heap[w.heap.size]? = some (.map #[] 0) ∧ (((w.alloc (.map #[] 0)).alloc (.map #[] 0)).alloc (.cells (storeV D w.heap.size (w.heap.size + 1) 0 0 false) TS)).heap[w.heap.size + 1]? = some (.map #[] 0) ∧ (((w.alloc (.map #[] 0)).alloc (.map #[] 0)).alloc (.cells (storeV D w.heap.size (w.heap.size + 1) 0 0 false) TS)).heap[w.heap.size + 2]? = some (.cells (storeV D w.heap.size (w.heap.size + 1) 0 0 false) TS (0, 0)) := three_blocks w _ _ _
  refine ⟨sst0_ok d, hd.below hb, k3, MapF.empty k1, MapF.empty k2, fun _ _ _ _ => rfl, fun _ _ _ h => (by cases h), fun _ => rfl, fun _ _ h => (by cases h), by simp, by simp, by simp, by omega, fun g hg hm => ?_, fun g hg => ?_⟩
  · have := hd.lt g hm; simp at hg; omega
  · simp at hg ⊢; omega
theorem zero_read {d : DSt} {i : Nat} (ho : d.off = false) (hz : ∀ x ∈ d.bs, x = b0) (hi : i < d.bs.length) : readD d (i : Int) = (zeros, 0) := by
  refine readD_free ho hi ?_
  have : d.at i = b0 := hz _ (at_mem hi)
  rw [this]; rfl
set_option maxRecDepth 100000 in
set_option maxHeartbeats 1000000 in
theorem open_new {FD : List Nat} {D : Nat} {d : DSt} (hd : Dk w FD D d) (ho : d.off = false) (hz : ∀ x ∈ d.bs, x = b0) :
    Calls Tryz.prog 12 #[.pointer (some ⟨D, 0, none⟩)] w fun e w' => ∃ S, e = .returned (.tuple #[.pointer (some ⟨S, 0, none⟩), .int .i64 0]) ∧ ∃ FD' G X Y fx fy A, SPic w' FD' G S D X Y fx fy A (sst0 d) ∧ (∀ g ∈ FD', g ∈ FD ∨ w.heap.size ≤ g) ∧ (∀ g ∈ G, w.heap.size ≤ g) ∧ Chg FD w w' := by
  obtain ⟨B, M, Dm, V, C, hpd⟩ := hd
  have hbl := blocks_pic hpd
  have hdn := down_pic hpd
  rw [ho] at hdn
  have n1 := hpd.n1
  have hd : Dk w FD D d := ⟨B, M, Dm, V, C, hpd⟩
  have hmm : ∀ (t : TypeId) (w : World), (Instr.makeMap t none).run Tryz.prog w = .ok (.map (some w.heap.size)) (w.alloc (.map #[] 0)) := fun t w => run_makeMap _ w
  have h3 := open_spic hd
  obtain ⟨W3, hW3⟩ : ∃ W3, ((w.alloc (.map #[] 0)).alloc (.map #[] 0)).alloc (.cells (storeV D w.heap.size (w.heap.size + 1) 0 0 false) TS) = W3 := ⟨_, rfl⟩
  have b3 : Below w.heap.size w W3 := by rw [← hW3]; exact (((Below.refl _ w).alloc (Nat.le_refl _) _).alloc (by simp) _).alloc (by simp; omega) _
  have hs3 : W3.heap.size = w.heap.size + 3 := by rw [← hW3]; simp
  rw [hW3] at h3
  have hrd : readD (sst0 d).d ((sst0 d).fin : Int) = (zeros, 0) := zero_read ho hz (by show 0 < d.bs.length; omega)
  have hld := load0_pic h3 (Or.inl hrd)
  have HWr : Hid (∀ W4, Below W3.heap.size W3 W4 → Calls Tryz.prog 45 #[.pointer (some ⟨w.heap.size + 2, 0, none⟩), .func (.func 83) #[] #[.pointer (some ⟨W4.heap.size, 0, none⟩)]] (W4.alloc (.cells #[.pointer (some ⟨w.heap.size + 2, 0, none⟩)] 33)) fun e w5 => e = .returned (.int .i64 0) ∧ Hid (∃ FD' G X Y fx fy A, SPic w5 FD' G (w.heap.size + 2) D X Y fx fy A (sst0 d) ∧ (∀ g ∈ FD', g ∈ FD ∨ w.heap.size ≤ g) ∧ (∀ g ∈ G, w.heap.size ≤ g) ∧ Chg FD w w5)) := fun W4 b4 => by
    have b5 : Below W4.heap.size W4 (W4.alloc (.cells #[.pointer (some ⟨w.heap.size + 2, 0, none⟩)] 33)) := (Below.refl _ _).alloc (Nat.le_refl _) _
    have h5 := (h3.below b4).below b5
    have hbl5 : Below w.heap.size w (W4.alloc (.cells #[.pointer (some ⟨w.heap.size + 2, 0, none⟩)] 33)) := b3.trans ((b4.mono b3.size).trans (b5.mono (Nat.le_trans b3.size b4.size)))
    have hseq := left0_seq (w := W4.alloc (.cells #[.pointer (some ⟨w.heap.size + 2, 0, none⟩)] 33)) (G := [w.heap.size, w.heap.size + 1, w.heap.size + 2]) (S := w.heap.size + 2) (D := D) (X := w.heap.size) (Y := w.heap.size + 1) (fx := fun _ => none) (fy := fun _ => none) (A := fun _ _ => .slice none 0 0) (s := sst0 d) W4.heap.size (Kg []) (RowR []) (by simp) (cell_of_row _ _ _ _ _ _ (heap_alloc_last W4 _)) (fun i _ hi => by
      show holdsD d (i : Int) zeros = true
      unfold holdsD
      rw [zero_read ho hz hi]
      simp)
    refine (write_any h5 83 _ enters_left [] [] _ hseq (fun g hg => (by cases hg)) ?_ ?_ (by simp)).mono ?_
    · rintro k Z b ⟨FD', hp, _⟩ _
      refine ⟨FD', ?_⟩
      have e : midD (sst0 d).d [] k = (sst0 d).d := by unfold midD; simp [writesD]
      rw [e] at hp
      exact hp
    · intro x hx
      rw [hz x hx]
      simp [b0]
    · rintro e w5 ⟨rfl, FD', hp, hn, hc⟩
      have e1 : lastsD (sst0 d).d [] = (true, (sst0 d).d) := rfl
      rw [e1] at hp
      refine ⟨by rw [e1]; rfl, FD', [w.heap.size, w.heap.size + 1, w.heap.size + 2], _, _, _, _, _, hp, fun g hg => (hn g hg).imp id (fun h => Nat.le_trans hbl5.size h), fun g hg => (by simp at hg; omega), ?_⟩
      exact (Chg.of (F := FD) hbl5).trans hc (fun k hk => by
        rcases List.mem_cons.1 hk with rfl | hk
        · exact Or.inr (by omega)
        · exact Or.inl hk)
  have hW4 : ((w.alloc (.map #[] 0)).alloc (.map #[] 0)).alloc (.cells #[.pointer (some ⟨D, 0, none⟩), .map (some w.heap.size), .map (some (w.heap.size + 1)), .int .i64 0, .int .i64 0, .bool false] TS) = W3 := hW3
  have hld2 : Calls Tryz.prog 44 #[.pointer (some ⟨w.heap.size + 1 + 1, 0, none⟩)] W3 fun e w' => e = .returned (.tuple #[]) ∧ Below W3.heap.size W3 w' := hld
  have HWr2 : Hid (∀ W4, Below W3.heap.size W3 W4 → Calls Tryz.prog 45 #[.pointer (some ⟨w.heap.size + 1 + 1, 0, none⟩), .func (.func 83) #[] #[.pointer (some ⟨W4.heap.size, 0, none⟩)]] (W4.alloc (.cells #[.pointer (some ⟨w.heap.size + 1 + 1, 0, none⟩)] 33)) fun e w5 => e = .returned (.int .i64 0) ∧ Hid (∃ FD' G X Y fx fy A, SPic w5 FD' G (w.heap.size + 2) D X Y fx fy A (sst0 d) ∧ (∀ g ∈ FD', g ∈ FD ∨ w.heap.size ≤ g) ∧ (∀ g ∈ G, w.heap.size ≤ g) ∧ Chg FD w w5)) := HWr
  clear hW3 hld HWr
  generalize d.bs.length = nb at *
  have hnz : ((nb : Int) == 0) = false := by simp; omega
  clear h3 hpd hd hrd b3 hs3
  go_enter Tryz.func12, Tryz.ntmps12
  go_wp2_with (first
    | (go_at_call 43; refine hbl.mono ?_; rintro e w' ⟨rfl, hw'⟩; obtain rfl := hw'.symm)
    | (go_at_call 40; refine hdn.mono ?_; rintro e w' ⟨rfl, hw'⟩; obtain rfl := hw'.symm)
    | (go_at_call 44; refine hld2.mono ?_; rintro e W4 ⟨rfl, b4⟩; have HB4 := hide b4; clear b4)
    | (go_at_call 46; refine (leftovers_any _ _).mono ?_; rintro e w' ⟨rfl, hw'⟩; obtain rfl := hw'.symm)
    | (go_at_call 45; (with_reducible_and_instances (refine (HWr2.out W4 HB4.out).mono ?_)); rintro e w5 ⟨rfl, hX⟩))
  go_ret2
  exact ⟨w.heap.size + 2, rfl, hX.out⟩
end Go.Proofs.YtoopnafdpenofaaGreat
