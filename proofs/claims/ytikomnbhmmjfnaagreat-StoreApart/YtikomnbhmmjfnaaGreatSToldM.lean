/- Open of package store, of a disk that is all zeros. -/
import Derived.Test.YtikomnbhmmjfnaaGreatSNext0
import Derived.Test.YtikomnbhmmjfnaaGreatSLeft0
import Derived.Test.YtikomnbhmmjfnaaGreatSettleN
namespace Go.Proofs.YtikomnbhmmjfnaaGreat
open Go.RowKit Go.Shelf
variable {w w' : World}

/-- A store that has nothing. -/
def sst0 (d : DSt) : SSt := ⟨d, fun _ _ => none, fun _ => none, 0, 0, false⟩
theorem sst0_ok (d : DSt) : (sst0 d).ok := ⟨fun _ _ _ h => (by cases h), fun _ _ h => (by cases h), Nat.le_refl _, Nat.zero_le _⟩
/-- A store in its three new blocks. -/
theorem open_spic {FD : List Nat} {D : Nat} {d : DSt} (hd : Dk w FD D d) : SPic (((w.alloc (.map #[] 0)).alloc (.map #[] 0)).alloc (.cells (storeV D w.heap.size (w.heap.size + 1) 0 0 false) TS)) FD [w.heap.size, w.heap.size + 1, w.heap.size + 2] (w.heap.size + 2) D w.heap.size (w.heap.size + 1) (fun _ => none) (fun _ => none) (fun _ _ => .slice none 0 0) (sst0 d) := by
  have hb : Below w.heap.size w (((w.alloc (.map #[] 0)).alloc (.map #[] 0)).alloc (.cells (storeV D w.heap.size (w.heap.size + 1) 0 0 false) TS)) := (((Below.refl _ w).alloc (Nat.le_refl _) _).alloc (by simp) _).alloc (by simp; omega) _
  obtain ⟨k1, k2, k3⟩ : (((w.alloc (.map #[] 0)).alloc (.map #[] 0)).alloc (.cells (storeV D w.heap.size (w.heap.size + 1) 0 0 false) TS)).heap[w.heap.size]? = some (.map #[] 0) ∧ (((w.alloc (.map #[] 0)).alloc (.map #[] 0)).alloc (.cells (storeV D w.heap.size (w.heap.size + 1) 0 0 false) TS)).heap[w.heap.size + 1]? = some (.map #[] 0) ∧ (((w.alloc (.map #[] 0)).alloc (.map #[] 0)).alloc (.cells (storeV D w.heap.size (w.heap.size + 1) 0 0 false) TS)).heap[w.heap.size + 2]? = some (.cells (storeV D w.heap.size (w.heap.size + 1) 0 0 false) TS (0, 0)) := three_blocks w _ _ _
  refine ⟨sst0_ok d, hd.below hb, k3, MapF.empty k1, MapF.empty k2, fun _ _ _ _ => rfl, fun _ _ _ h => (by cases h), fun _ => rfl, fun _ _ h => (by cases h), by simp, by simp, by simp, by omega, fun g hg hm => ?_, fun g hg => ?_⟩
  · have := hd.lt g hm; simp at hg; omega
  · simp at hg ⊢; omega
theorem zero_read {d : DSt} {i : Nat} (ho : d.off = false) (hz : ∀ x ∈ d.bs, x = b0) (hi : i < d.bs.length) : readD d (i : Int) = (zeros, 0) := by
  refine readD_free ho hi ?_
  have : d.at i = b0 := hz _ (at_mem hi)
  rw [this]; rfl
set_option maxRecDepth 100000 in
set_option maxHeartbeats 1000000 in
theorem open_new {FD : List Nat} {D : Nat} {d : DSt} (hd : Dk w FD D d) (ho : d.off = false) (hz : ∀ x ∈ d.bs, x = b0) :
    Calls Tryz.prog 12 #[.pointer (some ⟨D, 0, none⟩)] w fun e w' => ∃ S, e = .returned (.tuple #[.pointer (some ⟨S, 0, none⟩), .int .i64 0]) ∧ ∃ FD' G X Y fx fy A, SPic w' FD' G S D X Y fx fy A (sst0 d) ∧ (∀ g ∈ FD', g ∈ FD ∨ w.heap.size ≤ g) ∧ (∀ g ∈ G, w.heap.size ≤ g) ∧ Chg FD w w' := by
  obtain ⟨B, M, Dm, V, C, hpd⟩ := hd
  have hbl := blocks_pic hpd
  have hdn := down_pic hpd
  rw [ho] at hdn
  have n1 := hpd.n1
  have hd : Dk w FD D d := ⟨B, M, Dm, V, C, hpd⟩
  have hmm : ∀ (t : TypeId) (w : World), (Instr.makeMap t none).run Tryz.prog w = .ok (.map (some w.heap.size)) (w.alloc (.map #[] 0)) := fun t w => run_makeMap _ w
  have h3 := open_spic hd
  obtain ⟨W3, hW3⟩ : ∃ W3, ((w.alloc (.map #[] 0)).alloc (.map #[] 0)).alloc (.cells (storeV D w.heap.size (w.heap.size + 1) 0 0 false) TS) = W3 := ⟨_, rfl⟩
  have b3 : Below w.heap.size w W3 := by rw [← hW3]; exact (((Below.refl _ w).alloc (Nat.le_refl _) _).alloc (by simp) _).alloc (by simp; omega) _
  have hs3 : W3.heap.size = w.heap.size + 3 := by rw [← hW3]; simp
  rw [hW3] at h3
  have hrd : readD (sst0 d).d ((sst0 d).fin : Int) = (zeros, 0) := zero_read ho hz (by show 0 < d.bs.length; omega)
  have hld := load0_pic h3 (Or.inl hrd)
  have HWr : Hid (∀ W4, Below W3.heap.size W3 W4 → Calls Tryz.prog 45 #[.pointer (some ⟨w.heap.size + 2, 0, none⟩), .func (.func 83) #[] #[.pointer (some ⟨W4.heap.size, 0, none⟩)]] (W4.alloc (.cells #[.pointer (some ⟨w.heap.size + 2, 0, none⟩)] 33)) fun e w5 => e = .returned (.int .i64 0) ∧ Hid (∃ FD' G X Y fx fy A, SPic w5 FD' G (w.heap.size + 2) D X Y fx fy A (sst0 d) ∧ (∀ g ∈ FD', g ∈ FD ∨ w.heap.size ≤ g) ∧ (∀ g ∈ G, w.heap.size ≤ g) ∧ Chg FD w w5)) := fun W4 b4 => by
    have b5 : Below W4.heap.size W4 (W4.alloc (.cells #[.pointer (some ⟨w.heap.size + 2, 0, none⟩)] 33)) := (Below.refl _ _).alloc (Nat.le_refl _) _
    have h5 := (h3.below b4).below b5
    have hbl5 : Below w.heap.size w (W4.alloc (.cells #[.pointer (some ⟨w.heap.size + 2, 0, none⟩)] 33)) := b3.trans ((b4.mono b3.size).trans (b5.mono (Nat.le_trans b3.size b4.size)))
    have hseq := left0_seq (w := W4.alloc (.cells #[.pointer (some ⟨w.heap.size + 2, 0, none⟩)] 33)) (G := [w.heap.size, w.heap.size + 1, w.heap.size + 2]) (S := w.heap.size + 2) (D := D) (X := w.heap.size) (Y := w.heap.size + 1) (fx := fun _ => none) (fy := fun _ => none) (A := fun _ _ => .slice none 0 0) (s := sst0 d) W4.heap.size (Kg []) (RowR []) (by simp) (cell_of_row _ _ _ _ _ _ (heap_alloc_last W4 _)) (fun i _ hi => by
      show holdsD d (i : Int) zeros = true
      unfold holdsD
      rw [zero_read ho hz hi]
      simp)
    refine (write_any h5 83 _ enters_left [] [] _ hseq (fun g hg => (by cases hg)) ?_ ?_ (by simp)).mono ?_
    · rintro k Z b ⟨FD', hp, _⟩ _
      refine ⟨FD', ?_⟩
      have e : midD (sst0 d).d [] k = (sst0 d).d := by unfold midD; simp [writesD]
      rw [e] at hp
      exact hp
    · intro x hx
      rw [hz x hx]
      simp [b0]
    · rintro e w5 ⟨rfl, FD', hp, hn, hc⟩
      have e1 : lastsD (sst0 d).d [] = (true, (sst0 d).d) := rfl
      rw [e1] at hp
      refine ⟨by rw [e1]; rfl, FD', [w.heap.size, w.heap.size + 1, w.heap.size + 2], _, _, _, _, _, hp, fun g hg => (hn g hg).imp id (fun h => Nat.le_trans hbl5.size h), fun g hg => (by simp at hg; omega), ?_⟩
      exact (Chg.of (F := FD) hbl5).trans hc (fun k hk => by
        rcases List.mem_cons.1 hk with rfl | hk
        · exact Or.inr (by omega)
        · exact Or.inl hk)
  have hW4 : ((w.alloc (.map #[] 0)).alloc (.map #[] 0)).alloc (.cells #[.pointer (some ⟨D, 0, none⟩), .map (some w.heap.size), .map (some (w.heap.size + 1)), .int .i64 0, .int .i64 0, .bool false] TS) = W3 := hW3
  have hld2 : Calls Tryz.prog 44 #[.pointer (some ⟨w.heap.size + 1 + 1, 0, none⟩)] W3 fun e w' => e = .returned (.tuple #[]) ∧ Below W3.heap.size W3 w' := hld
  have HWr2 : Hid (∀ W4, Below W3.heap.size W3 W4 → Calls Tryz.prog 45 #[.pointer (some ⟨w.heap.size + 1 + 1, 0, none⟩), .func (.func 83) #[] #[.pointer (some ⟨W4.heap.size, 0, none⟩)]] (W4.alloc (.cells #[.pointer (some ⟨w.heap.size + 1 + 1, 0, none⟩)] 33)) fun e w5 => e = .returned (.int .i64 0) ∧ Hid (∃ FD' G X Y fx fy A, SPic w5 FD' G (w.heap.size + 2) D X Y fx fy A (sst0 d) ∧ (∀ g ∈ FD', g ∈ FD ∨ w.heap.size ≤ g) ∧ (∀ g ∈ G, w.heap.size ≤ g) ∧ Chg FD w w5)) := HWr
  clear hW3 hld HWr
  generalize d.bs.length = nb at *
  have hnz : ((nb : Int) == 0) = false := by simp; omega
  clear h3 hpd hd hrd b3 hs3
  go_enter Tryz.func12, Tryz.ntmps12
  go_wp2_with (first
    | (go_at_call 43; refine hbl.mono ?_; rintro e w' ⟨rfl, hw'⟩; obtain rfl := hw'.symm)
    | (go_at_call 40; refine hdn.mono ?_; rintro e w' ⟨rfl, hw'⟩; obtain rfl := hw'.symm)
    | (go_at_call 44; refine hld2.mono ?_; rintro e W4 ⟨rfl, b4⟩; have HB4 := hide b4; clear b4)
    | (go_at_call 46; refine (leftovers_any _ _).mono ?_; rintro e w' ⟨rfl, hw'⟩; obtain rfl := hw'.symm)
    | (go_at_call 45; (with_reducible_and_instances (refine (HWr2.out W4 HB4.out).mono ?_)); rintro e w5 ⟨rfl, hX⟩))
  go_ret2
  exact ⟨w.heap.size + 2, rfl, hX.out⟩
end Go.Proofs.YtikomnbhmmjfnaaGreat

/- Stores whose disk has power and no fuse: what is written lasts. -/
namespace Go.Proofs.YtikomnbhmmjfnaaGreat
open Go.RowKit Go.Shelf

def DSt.clean (d : DSt) : Prop := ∀ x ∈ d.bs, x.vs = []
theorem writes_free (xs : List (Nat × List Nat)) : ∀ (d : DSt), d.free → (∀ x ∈ xs, x.1 < d.bs.length ∧ x.2.length = 256) → (writesD d xs).1 = true ∧ (writesD d xs).2.free := by
  induction xs with
  | nil => intro d h _; exact ⟨rfl, h⟩
  | cons x r ih =>
    intro d h hx
    have h1 := hx x (by simp)
    have h2 := writeD_free h h1.1 h1.2
    simp only [writesD, h2, if_true]
    refine ih _ ⟨h.on, h.none⟩ (fun y hy => ?_)
    rw [setB_len]
    exact hx y (by simp [hy])
theorem lasts_free {d : DSt} (h : d.free) (hc : d.clean) (xs : List (Nat × List Nat)) (hx : ∀ x ∈ xs, x.1 < d.bs.length ∧ x.2.length = 256) : (lastsD d xs).1 = true ∧ (lastsD d xs).2.free ∧ (lastsD d xs).2.clean := by
  obtain ⟨h1, h2⟩ := writes_free xs d h hx
  unfold lastsD
  rw [if_pos h1]
  split
  · exact ⟨rfl, h, hc⟩
  · rw [syncD_free h2]
    refine ⟨rfl, ⟨h2.on, h2.none⟩, fun x hx => ?_⟩
    obtain ⟨y, _, rfl⟩ := List.mem_map.1 hx
    exact sync_vs y
theorem SSt.rowE_ok (s : SSt) (e : Ent) (h : s.fin + e.parts ≤ s.d.bs.length) : ∀ x ∈ s.rowE e, x.1 < s.d.bs.length ∧ x.2.length = 256 := by
  intro x hx
  obtain ⟨k, hk⟩ := List.getElem?_of_mem hx
  unfold SSt.rowE at hk
  rw [rowAt_at] at hk
  have hk2 : k < (blocksN s.num e.text).length := by
    rcases Nat.lt_or_ge k (blocksN s.num e.text).length with h1 | h1
    · exact h1
    · rw [List.getElem?_eq_none h1] at hk; cases hk
  rw [blocksN_length] at hk2
  rw [blocksN_at _ _ _ hk2] at hk
  cases hk
  have h3 : partsN e.text.length = e.parts := by rw [Ent.text_length]; rfl
  refine ⟨by show s.fin + k < _; omega, partN_length _ _ _ _ (pieceN_length _ _)⟩
theorem takeE_d (s : SSt) (e : Ent) : (s.takeE e).d = s.d := by
  unfold SSt.takeE SSt.doE SSt.fill SSt.sealL SSt.giveUp
  simp only
  split
  · split <;> rfl
  · split <;> rfl
theorem record_free {s : SSt} (h : s.d.free) (hc : s.d.clean) (e : Ent) (hr : s.fin + e.parts ≤ s.d.bs.length) : ∃ d, s.record e = (0, ({ s with d := d } : SSt).takeE e) ∧ d.free ∧ d.clean ∧ d.bs.length = s.d.bs.length := by
  obtain ⟨h1, h2, h3⟩ := lasts_free h hc (s.rowE e) (s.rowE_ok e hr)
  refine ⟨(lastsD s.d (s.rowE e)).2, ?_, h2, h3, lastsD_length _ _⟩
  unfold SSt.record
  rw [if_neg (by omega), if_pos h1]
theorem record_full {s : SSt} (e : Ent) (hr : s.d.bs.length < s.fin + e.parts) : s.record e = (7, s) := by unfold SSt.record; rw [if_pos hr]
theorem record_keeps {s : SSt} (h : s.d.free) (hc : s.d.clean) (e : Ent) : (s.record e).2.d.free ∧ (s.record e).2.d.clean := by
  by_cases hr : s.d.bs.length < s.fin + e.parts
  · rw [record_full e hr]; exact ⟨h, hc⟩
  · obtain ⟨d, h1, h2, h3, _⟩ := record_free h hc e (by omega)
    rw [h1]
    simp only [takeE_d]
    exact ⟨h2, h3⟩
theorem put_keeps {s : SSt} (h : s.d.free) (hc : s.d.clean) (l p : Int) (data : List Nat) (r : Bool) : (s.put l p data r).2.d.free ∧ (s.put l p data r).2.d.clean := by
  unfold SSt.put
  repeat' split
  all_goals first
    | exact ⟨h, hc⟩
    | exact record_keeps h hc _
theorem seal_keeps {s : SSt} (h : s.d.free) (hc : s.d.clean) (l : Int) : (s.seal l).2.d.free ∧ (s.seal l).2.d.clean := by
  unfold SSt.seal
  repeat' split
  all_goals first
    | exact ⟨h, hc⟩
    | exact record_keeps h hc _
theorem new_free (n : Nat) : (newD n).free ∧ (newD n).clean ∧ ∀ x ∈ (newD n).bs, x = b0 := by
  have h : ∀ x ∈ (newD n).bs, x = b0 := fun x hx => (List.mem_replicate.1 hx).2
  exact ⟨⟨rfl, rfl⟩, fun x hx => by rw [h x hx]; rfl, h⟩
end Go.Proofs.YtikomnbhmmjfnaaGreat

/- What a store tells of three loglets and six places, as plain data; what a call may change of it (P407 to P409). -/
namespace Go.Proofs.YtikomnbhmmjfnaaGreat
open Go.RowKit Go.Shelf Crcm

structure Tld where
  dat : Nat → Nat → List Nat
  there : Nat → Nat → Bool
  sealed : Nat → Bool
  trim : Nat → Nat
def cellT (t : Tld) (j : Nat) : Value := if j < 18 then .string (bstr (t.dat (j / 6) (j % 6))) else if j < 36 then .bool (t.there ((j - 18) / 6) ((j - 18) % 6)) else if j < 39 then .bool (t.sealed (j - 36)) else .int .i64 ((t.trim (j - 39) : Nat) : Int)
/-- Its cells. -/
def toldL (t : Tld) : List Value := (List.range 42).map (cellT t)
theorem toldL_len (t : Tld) : (toldL t).length = 42 := by simp [toldL]
theorem toldL_at (t : Tld) (j : Nat) (h : j < 42) : (toldL t)[j]? = some (cellT t j) := by simp [toldL, List.getElem?_range h]
theorem toldL_one (t : Tld) : ∀ v ∈ toldL t, v.oneCell' = true := by
  intro v hv
  obtain ⟨j, -, rfl⟩ := List.mem_map.1 hv
  unfold cellT
  repeat' split
  all_goals rfl
theorem toldL_ext {t u : Tld} (h1 : ∀ i k, i < 3 → k < 6 → t.dat i k = u.dat i k) (h2 : ∀ i k, i < 3 → k < 6 → t.there i k = u.there i k) (h3 : ∀ i, i < 3 → t.sealed i = u.sealed i) (h4 : ∀ i, i < 3 → t.trim i = u.trim i) : toldL t = toldL u := by
  unfold toldL
  refine List.map_congr_left fun j hj => ?_
  have hj := List.mem_range.1 hj
  unfold cellT
  split
  · rw [h1 _ _ (by omega) (by omega)]
  · split
    · rw [h2 _ _ (by omega) (by omega)]
    · split
      · rw [h3 _ (by omega)]
      · rw [h4 _ (by omega)]
/-- The cells, one by one. -/
theorem cellT_dat (t : Tld) (i k : Nat) (hi : i < 3) (hk : k < 6) : cellT t (i * 6 + k) = .string (bstr (t.dat i k)) := by
  unfold cellT
  rw [if_pos (by omega), show (i * 6 + k) / 6 = i by omega, show (i * 6 + k) % 6 = k by omega]
theorem cellT_there (t : Tld) (i k : Nat) (hi : i < 3) (hk : k < 6) : cellT t (18 + i * 6 + k) = .bool (t.there i k) := by
  unfold cellT
  rw [if_neg (by omega), if_pos (by omega), show (18 + i * 6 + k - 18) / 6 = i by omega, show (18 + i * 6 + k - 18) % 6 = k by omega]
theorem cellT_sealed (t : Tld) (i : Nat) (hi : i < 3) : cellT t (36 + i) = .bool (t.sealed i) := by
  unfold cellT
  rw [if_neg (by omega), if_neg (by omega), if_pos (by omega), show 36 + i - 36 = i by omega]
theorem cellT_trim (t : Tld) (i : Nat) : cellT t (39 + i) = .int .i64 ((t.trim i : Nat) : Int) := by
  unfold cellT
  rw [if_neg (by omega), if_neg (by omega), if_neg (by omega), show 39 + i - 39 = i by omega]
/-- One cell is stored. -/
theorem toldL_set {t u : Tld} (p : Nat) (hp : p < 42) (h : ∀ j, j < 42 → j ≠ p → cellT t j = cellT u j) : (toldL t).set p (cellT u p) = toldL u := by
  apply List.ext_getElem?
  intro j
  by_cases hj : j < 42
  · rw [toldL_at u j hj, List.getElem?_set]
    by_cases e : p = j
    · subst e
      rw [if_pos rfl, if_pos (by rw [toldL_len]; exact hp)]
    · rw [if_neg e, toldL_at t j hj, h j hj (Ne.symm e)]
  · rw [List.getElem?_eq_none (by rw [List.length_set, toldL_len]; omega), List.getElem?_eq_none (by rw [toldL_len]; omega)]
def Tld.setDat (t : Tld) (i k : Nat) (x : List Nat) : Tld := { t with dat := fun a b => if a = i ∧ b = k then x else t.dat a b }
def Tld.setThere (t : Tld) (i k : Nat) (x : Bool) : Tld := { t with there := fun a b => if a = i ∧ b = k then x else t.there a b }
def Tld.setSealed (t : Tld) (i : Nat) (x : Bool) : Tld := { t with sealed := fun a => if a = i then x else t.sealed a }
def Tld.setTrim (t : Tld) (i : Nat) (x : Nat) : Tld := { t with trim := fun a => if a = i then x else t.trim a }
theorem toldL_setDat (t : Tld) (i k : Nat) (x : List Nat) (hi : i < 3) (hk : k < 6) : (toldL t).set (i * 6 + k) (.string (bstr x)) = toldL (t.setDat i k x) := by
  have e : cellT (t.setDat i k x) (i * 6 + k) = .string (bstr x) := by rw [cellT_dat _ i k hi hk]; simp [Tld.setDat]
  rw [← e]
  refine toldL_set _ (by omega) fun j hj hne => ?_
  unfold cellT Tld.setDat
  simp only
  by_cases h18 : j < 18
  · rw [if_pos h18, if_pos h18, if_neg (by omega)]
  · rw [if_neg h18, if_neg h18]
theorem toldL_setThere (t : Tld) (i k : Nat) (x : Bool) (hi : i < 3) (hk : k < 6) : (toldL t).set (18 + i * 6 + k) (.bool x) = toldL (t.setThere i k x) := by
  have e : cellT (t.setThere i k x) (18 + i * 6 + k) = .bool x := by rw [cellT_there _ i k hi hk]; simp [Tld.setThere]
  rw [← e]
  refine toldL_set _ (by omega) fun j hj hne => ?_
  unfold cellT Tld.setThere
  simp only
  by_cases h18 : j < 18
  · rw [if_pos h18, if_pos h18]
  · rw [if_neg h18, if_neg h18]
    by_cases h36 : j < 36
    · rw [if_pos h36, if_pos h36, if_neg (by omega)]
    · rw [if_neg h36, if_neg h36]
theorem toldL_setSealed (t : Tld) (i : Nat) (x : Bool) (hi : i < 3) : (toldL t).set (36 + i) (.bool x) = toldL (t.setSealed i x) := by
  have e : cellT (t.setSealed i x) (36 + i) = .bool x := by rw [cellT_sealed _ i hi]; simp [Tld.setSealed]
  rw [← e]
  refine toldL_set _ (by omega) fun j hj hne => ?_
  unfold cellT Tld.setSealed
  simp only
  repeat' split
  all_goals first | rfl | omega
theorem toldL_setTrim (t : Tld) (i : Nat) (x : Nat) (hi : i < 3) : (toldL t).set (39 + i) (.int .i64 (x : Int)) = toldL (t.setTrim i x) := by
  have e : cellT (t.setTrim i x) (39 + i) = .int .i64 (x : Int) := by rw [cellT_trim]; simp [Tld.setTrim]
  rw [← e]
  refine toldL_set _ (by omega) fun j hj hne => ?_
  unfold cellT Tld.setTrim
  simp only
  repeat' split
  all_goals first | rfl | omega
/-- What a store tells. -/
def toldG (g : Nat → Nat → List Nat × Int) (sl : Nat → Bool) (tr : Nat → Nat) : Tld := ⟨fun i k => (g i k).1, fun i k => decide ((g i k).2 = 0), sl, tr⟩
def getF (s : SSt) (i k : Nat) : List Nat × Int := s.get (i : Int) (k : Int)
def toldOf (s : SSt) : Tld := toldG (getF s) (fun i => (s.log i).sealed) (fun i => (s.log i).trim)
theorem get_nat (s : SSt) (i k : Nat) (hi : i < 281474976710656) (hk : k < 4096) : s.get (i : Int) (k : Int) = if k < (s.log i).trim then (([], 32) : List Nat × Int) else match s.slots i k with | some d => (d, 0) | none => ([], 3) := by
  have h1 : isLogletN (i : Int) = true := by simp [isLogletN]; omega
  have h2 : isPlaceN (k : Int) = true := by simp [isPlaceN]; omega
  unfold SSt.get
  rw [h1, h2]
  simp only [Bool.and_self, if_true, Int.toNat_natCast]
  rfl
/-- In the midst of look: the places ahead of (i, k), the loglets ahead of j. -/
def partG (g : Nat → Nat → List Nat × Int) (sl : Nat → Bool) (tr : Nat → Nat) (i k j : Nat) : Tld := ⟨fun a b => if a < i ∨ (a = i ∧ b < k) then (g a b).1 else [], fun a b => if a < i ∨ (a = i ∧ b < k) then decide ((g a b).2 = 0) else false, fun a => if a < j then sl a else false, fun a => if a < j then tr a else 0⟩
def partT (s : SSt) (i k j : Nat) : Tld := partG (getF s) (fun i => (s.log i).sealed) (fun i => (s.log i).trim) i k j
def t0 : Tld := ⟨fun _ _ => [], fun _ _ => false, fun _ => false, fun _ => 0⟩
section
variable (g : Nat → Nat → List Nat × Int) (sl : Nat → Bool) (tr : Nat → Nat)
theorem part_firstG : toldL t0 = toldL (partG g sl tr 0 0 0) := by
  refine toldL_ext (fun i k _ _ => ?_) (fun i k _ _ => ?_) (fun i _ => ?_) (fun i _ => ?_)
  all_goals simp [t0, partG]
theorem part_lastG : toldL (partG g sl tr 3 0 3) = toldL (toldG g sl tr) := by
  refine toldL_ext (fun i k h _ => ?_) (fun i k h _ => ?_) (fun i h => ?_) (fun i h => ?_)
  · simp only [partG, toldG]; rw [if_pos (Or.inl h)]
  · simp only [partG, toldG]; rw [if_pos (Or.inl h)]
  · simp only [partG, toldG]; rw [if_pos h]
  · simp only [partG, toldG]; rw [if_pos h]
theorem part_rowG (i : Nat) : toldL (((partG g sl tr i 0 i).setSealed i (sl i)).setTrim i (tr i)) = toldL (partG g sl tr i 0 (i + 1)) := by
  refine toldL_ext (fun a k h _ => rfl) (fun a k h _ => rfl) (fun a h => ?_) (fun a h => ?_)
  all_goals
    simp only [partG, Tld.setSealed, Tld.setTrim]
    by_cases e : a = i
    · subst e; rw [if_pos rfl, if_pos (by omega)]
    · rw [if_neg e]
      by_cases h1 : a < i
      · rw [if_pos h1, if_pos (by omega)]
      · rw [if_neg h1, if_neg (by omega)]
theorem part_nextG (i k : Nat) : toldL (((partG g sl tr i k (i + 1)).setThere i k (decide ((g i k).2 = 0))).setDat i k (g i k).1) = toldL (partG g sl tr i (k + 1) (i + 1)) := by
  refine toldL_ext (fun a b h _ => ?_) (fun a b h _ => ?_) (fun a h => rfl) (fun a h => rfl)
  all_goals
    simp only [partG, Tld.setThere, Tld.setDat]
    by_cases e : a = i ∧ b = k
    · obtain ⟨rfl, rfl⟩ := e; rw [if_pos ⟨rfl, rfl⟩, if_pos (by omega)]
    · rw [if_neg e]
      by_cases h1 : a < i ∨ (a = i ∧ b < k)
      · rw [if_pos h1, if_pos (by omega)]
      · rw [if_neg h1, if_neg (by omega)]
theorem part_roundG (i : Nat) : toldL (partG g sl tr i 6 (i + 1)) = toldL (partG g sl tr (i + 1) 0 (i + 1)) := by
  refine toldL_ext (fun a b h h6 => ?_) (fun a b h h6 => ?_) (fun a h => rfl) (fun a h => rfl)
  all_goals
    simp only [partG]
    by_cases h1 : a < i ∨ (a = i ∧ b < 6)
    · rw [if_pos h1, if_pos (by omega)]
    · rw [if_neg h1, if_neg (by omega)]
end
theorem part_first (s : SSt) : toldL t0 = toldL (partT s 0 0 0) := part_firstG _ _ _
theorem part_last (s : SSt) : toldL (partT s 3 0 3) = toldL (toldOf s) := part_lastG _ _ _
theorem part_row (s : SSt) (i : Nat) : toldL (((partT s i 0 i).setSealed i (s.log i).sealed).setTrim i (s.log i).trim) = toldL (partT s i 0 (i + 1)) := part_rowG _ (fun i => (s.log i).sealed) (fun i => (s.log i).trim) i
theorem part_next (s : SSt) (i k : Nat) : toldL (((partT s i k (i + 1)).setThere i k (decide ((getF s i k).2 = 0))).setDat i k (getF s i k).1) = toldL (partT s i (k + 1) (i + 1)) := part_nextG _ _ _ i k
theorem part_round (s : SSt) (i : Nat) : toldL (partT s i 6 (i + 1)) = toldL (partT s (i + 1) 0 (i + 1)) := part_roundG _ _ _ i
/-- What may become of what is told (P407, P408). -/
structure Goes (repair : Bool) (s t : SSt) : Prop where
  same : ∀ a b : Nat, a < 3 → b < 6 → (getF s a b).2 = 0 → (getF t a b).2 = 0 → (getF s a b).1 = (getF t a b).1
  gone : ∀ a b : Nat, a < 3 → b < 6 → (getF s a b).2 = 0 → (getF t a b).2 ≠ 0 → b < (t.log a).trim
  shut : ∀ a b : Nat, a < 3 → b < 6 → (s.log a).sealed = true → repair = false → (getF s a b).2 ≠ 0 → (getF t a b).2 ≠ 0
  ends : ∀ a : Nat, a < 3 → (s.log a).sealed = true → (t.log a).sealed = true
  trim : ∀ a : Nat, a < 3 → (s.log a).trim ≤ (t.log a).trim
theorem Goes.refl (r : Bool) (s : SSt) : Goes r s s := ⟨fun _ _ _ _ _ _ => rfl, fun _ _ _ _ h h' => absurd h h', fun _ _ _ _ _ _ h => h, fun _ _ h => h, fun _ _ => Nat.le_refl _⟩
/-- What is told hangs on slots and loglets alone. -/
theorem Goes.of (r : Bool) (s t : SSt) (hs : ∀ a b d, s.slots a b = some d → (s.log a).trim ≤ b → t.slots a b = some d ∨ b < (t.log a).trim)
    (hn : ∀ a b, (s.log a).sealed = true → r = false → (s.slots a b = none ∨ b < (s.log a).trim) → (t.slots a b = none ∨ b < (t.log a).trim))
    (he : ∀ a, (s.log a).sealed = true → (t.log a).sealed = true) (ht : ∀ a, (s.log a).trim ≤ (t.log a).trim) : Goes r s t := by
  have get0 : ∀ (u : SSt) (a b : Nat), a < 3 → b < 6 → ((getF u a b).2 = 0 ↔ ∃ d, u.slots a b = some d ∧ (u.log a).trim ≤ b) := fun u a b h1 h2 => by
    unfold getF
    rw [get_nat u a b (by omega) (by omega)]
    split
    · simp; intro _ _; omega
    · cases u.slots a b with
      | none => simp
      | some d => simp; omega
  have getd : ∀ (u : SSt) (a b : Nat) (d : List Nat), a < 3 → b < 6 → u.slots a b = some d → (u.log a).trim ≤ b → (getF u a b).1 = d := fun u a b d h1 h2 h3 h4 => by
    unfold getF
    rw [get_nat u a b (by omega) (by omega), if_neg (by omega), h3]
  refine ⟨fun a b h1 h2 h3 h4 => ?_, fun a b h1 h2 h3 h4 => ?_, fun a b h1 h2 h3 h4 h5 => ?_, fun a _ => he a, fun a _ => ht a⟩
  · obtain ⟨d, e1, e2⟩ := (get0 s a b h1 h2).1 h3
    obtain ⟨d', e3, e4⟩ := (get0 t a b h1 h2).1 h4
    rcases hs a b d e1 e2 with e | e
    · rw [getd s a b d h1 h2 e1 e2, getd t a b d h1 h2 e e4]
    · omega
  · obtain ⟨d, e1, e2⟩ := (get0 s a b h1 h2).1 h3
    rcases hs a b d e1 e2 with e | e
    · rcases Nat.lt_or_ge b (t.log a).trim with h | h
      · exact h
      · exact absurd ((get0 t a b h1 h2).2 ⟨d, e, h⟩) h4
    · exact e
  · intro h6
    obtain ⟨d, e1, e2⟩ := (get0 t a b h1 h2).1 h6
    have : s.slots a b = none ∨ b < (s.log a).trim := by
      rcases Nat.lt_or_ge b (s.log a).trim with h | h
      · exact Or.inr h
      · left
        cases hh : s.slots a b with
        | none => rfl
        | some d' => exact absurd ((get0 s a b h1 h2).2 ⟨d', hh, h⟩) h5
    rcases hn a b h3 h4 this with e | e
    · rw [e] at e1; cases e1
    · omega
theorem log_setLog (s : SSt) (l : Nat) (x : LSt) (j : Nat) : (s.setLog l x).log j = if j = l then x else s.log j := by
  unfold SSt.setLog SSt.log
  simp only
  split <;> rfl
theorem Goes.fill (s : SSt) (l p : Nat) (data : List Nat) (r : Bool) (hr : (s.log l).sealed = true → r = true) (d : DSt) (n f : Nat) : Goes r s { s.fill l p data with d := d, num := n, fin := f } := by
  have hlog : ∀ a, ({ s.fill l p data with d := d, num := n, fin := f } : SSt).log a = if a = l then ⟨max (s.log l).tail (p + 1), (s.log l).trim, (s.log l).sealed⟩ else s.log a := fun a => by
    have := log_setLog s l ⟨max (s.log l).tail (p + 1), (s.log l).trim, (s.log l).sealed⟩ a
    unfold SSt.fill
    split
    · exact this
    · exact this
  have hslot : ∀ a b, ({ s.fill l p data with d := d, num := n, fin := f } : SSt).slots a b = if s.slots l p = none ∧ (s.log l).trim ≤ p ∧ a = l ∧ b = p then some data else s.slots a b := fun a b => by
    unfold SSt.fill
    split
    · rename_i h
      show (if a = l ∧ b = p then some data else s.slots a b) = _
      by_cases e : a = l ∧ b = p
      · rw [if_pos e, if_pos ⟨h.1, h.2, e.1, e.2⟩]
      · rw [if_neg e, if_neg (fun h => e h.2.2)]
    · rename_i h
      rw [if_neg (fun h' => h ⟨h'.1, h'.2.1⟩)]
      rfl
  refine Goes.of r s _ (fun a b d' h1 h2 => Or.inl ?_) (fun a b h1 h2 h3 => ?_) (fun a h => ?_) (fun a => ?_)
  · rw [hslot]
    split
    · rename_i h
      obtain ⟨h3, h4, rfl, rfl⟩ := h
      rw [h3] at h1; cases h1
    · exact h1
  · rw [hslot, hlog]
    by_cases e : a = l
    · subst e
      rw [hr h1] at h2; cases h2
    · rw [if_neg (fun h => e h.2.2.1), if_neg e]
      exact h3
  · rw [hlog]; split
    · rename_i e; subst e; exact h
    · exact h
  · rw [hlog]; split
    · rename_i e; subst e; exact Nat.le_refl _
    · exact Nat.le_refl _
theorem Goes.sealL (s : SSt) (l : Nat) (r : Bool) (d : DSt) (n f : Nat) : Goes r s { s.sealL l with d := d, num := n, fin := f } := by
  have hlog : ∀ a, ({ s.sealL l with d := d, num := n, fin := f } : SSt).log a = if a = l then ⟨(s.log l).tail, (s.log l).trim, true⟩ else s.log a := fun a => log_setLog s l _ a
  refine Goes.of r s _ (fun a b d' h1 h2 => Or.inl h1) (fun a b h1 h2 h3 => ?_) (fun a h => ?_) (fun a => ?_)
  · rw [hlog]
    rcases h3 with h3 | h3
    · exact Or.inl h3
    · right; split
      · rename_i e; subst e; exact h3
      · exact h3
  · rw [hlog]; split
    · rfl
    · exact h
  · rw [hlog]; split
    · rename_i e; subst e; exact Nat.le_refl _
    · exact Nat.le_refl _
theorem Goes.giveUp (s : SSt) (l p : Nat) (r : Bool) (d : DSt) (n f : Nat) : Goes r s { s.giveUp l p with d := d, num := n, fin := f } := by
  have hlog : ∀ a, ({ s.giveUp l p with d := d, num := n, fin := f } : SSt).log a = if a = l then ⟨max (s.log l).tail p, max (s.log l).trim p, (s.log l).sealed⟩ else s.log a := fun a => log_setLog s l _ a
  have hslot : ∀ a b, ({ s.giveUp l p with d := d, num := n, fin := f } : SSt).slots a b = if a = l ∧ (s.log l).trim ≤ b ∧ b < p then none else s.slots a b := fun a b => rfl
  refine Goes.of r s _ (fun a b d' h1 h2 => ?_) (fun a b h1 h2 h3 => ?_) (fun a h => ?_) (fun a => ?_)
  · rw [hslot, hlog]
    by_cases e : a = l ∧ (s.log l).trim ≤ b ∧ b < p
    · right
      rw [if_pos e.1]
      simp only
      omega
    · rw [if_neg e]; exact Or.inl h1
  · rw [hslot, hlog]
    rcases h3 with h3 | h3
    · left; split
      · rfl
      · exact h3
    · right; split
      · rename_i e; subst e; simp only; omega
      · exact h3
  · rw [hlog]; split
    · rename_i e; subst e; exact h
    · exact h
  · rw [hlog]; split
    · rename_i e; subst e; simp only; omega
    · exact Nat.le_refl _
/-- A store that has power and no fuse: what is refused changes nothing (P409), the rest as P407 and P408 say. -/
def CallOk (r : Bool) (s : SSt) (x : Int × SSt) : Prop := Goes r s x.2 ∧ (x.1 ≠ 0 → x.2 = s)
theorem CallOk.same (r : Bool) (s : SSt) (z : Int) : CallOk r s (z, s) := ⟨Goes.refl r s, fun _ => rfl⟩
theorem record_call {s : SSt} (h : s.d.free) (hc : s.d.clean) (e : Ent) (r : Bool) (hg : ∀ d n f, Goes r s { s.doE e with d := d, num := n, fin := f }) : CallOk r s (s.record e) := by
  by_cases hr : s.d.bs.length < s.fin + e.parts
  · rw [record_full e hr]; exact CallOk.same r s 7
  · obtain ⟨d, h1, -⟩ := record_free h hc e (by omega)
    rw [h1]
    refine ⟨?_, fun h => absurd rfl h⟩
    have h2 : ({ s with d := d } : SSt).takeE e = { s.doE e with d := d, num := s.num + 1, fin := s.fin + e.parts } := by
      unfold SSt.takeE SSt.doE SSt.fill SSt.sealL SSt.giveUp
      simp only
      split
      · have hl : ({ s with d := d } : SSt).log e.loglet = s.log e.loglet := rfl
        rw [hl]
        split <;> rfl
      · split <;> rfl
    rw [h2]
    exact hg _ _ _
theorem put_call {s : SSt} (h : s.d.free) (hc : s.d.clean) (l p : Nat) (data : List Nat) (r : Bool) : CallOk r s (s.put l p data r) := by
  unfold SSt.put
  split
  · split
    · exact CallOk.same r s 6
    · split
      · exact CallOk.same r s 8
      · split
        · exact CallOk.same r s 32
        · split
          · split
            · exact CallOk.same r s 0
            · exact CallOk.same r s 31
          · split
            · exact CallOk.same r s 30
            · rename_i hx
              refine record_call h hc _ r (fun d n f => ?_)
              refine Goes.fill s _ _ data r (fun hs => ?_) d n f
              rw [hs] at hx
              simpa using hx
  · exact CallOk.same r s 1
theorem seal_call {s : SSt} (h : s.d.free) (hc : s.d.clean) (l : Nat) (r : Bool) : CallOk r s (s.seal l) := by
  unfold SSt.seal
  split
  · split
    · exact CallOk.same r s 8
    · split
      · exact CallOk.same r s 0
      · exact record_call h hc _ r (fun d n f => Goes.sealL s _ r d n f)
  · exact CallOk.same r s 1
theorem trim_call {s : SSt} (h : s.d.free) (hc : s.d.clean) (l p : Nat) (r : Bool) : CallOk r s (s.trim l p) := by
  unfold SSt.trim
  split
  · split
    · exact CallOk.same r s 8
    · split
      · exact CallOk.same r s 0
      · exact record_call h hc _ r (fun d n f => Goes.giveUp s _ _ r d n f)
  · exact CallOk.same r s 1
theorem trim_keeps {s : SSt} (h : s.d.free) (hc : s.d.clean) (l p : Int) : (s.trim l p).2.d.free ∧ (s.trim l p).2.d.clean := by
  unfold SSt.trim
  repeat' split
  all_goals first
    | exact ⟨h, hc⟩
    | exact record_keeps h hc _
end Go.Proofs.YtikomnbhmmjfnaaGreat
