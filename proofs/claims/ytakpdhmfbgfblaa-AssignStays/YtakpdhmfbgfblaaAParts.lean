/- partitions and split of package assign. -/
import Derived.Test.YtakpdhmfbgfblaaADeck
namespace Go.Proofs.Ytakpdhmfbgfblaa
open Go.RowKit Go.Sort
variable {w w' : World} {D b : Nat} {v : Value} {xs : List Int}

/-- All partitions. -/
def allP (n : Nat) : List Int := (List.range n).map Int.ofNat
theorem allP_len (n : Nat) : (allP n).length = n := by simp [allP]
theorem allP_succ (n : Nat) : allP (n + 1) = allP n ++ [(n : Int)] := by simp [allP, List.range_succ]
theorem z_row (Y : World) (z : Int) : RowK kZ (Y.alloc (.cells #[.int .i64 z] 3)) (some ⟨Y.heap.size, 0, none⟩) [z] := by
  refine Or.inr ⟨_, 0, rfl, by simp, fun i hi c hc => ?_⟩
  obtain rfl : i = 0 := by simp at hi; omega
  obtain rfl : c = 0 := by have : kZ.sz = 1 := rfl; omega
  have hb : Blk (Y.alloc (.cells #[.int .i64 z] 3)) Y.heap.size _ _ := heap_alloc_new Y _
  exact hb.cell 0
theorem OwnK.cards {base : Nat} (h : OwnK kZ w base v xs) (D : Nat) : ∃ b, CardsAt w b v xs ∧ (b = D ∨ base ≤ b ∧ b < w.heap.size) := by
  rcases h.2 with ⟨e, h0⟩ | ⟨g, cap, cur, e, hb, hg, hn, hm, hs, ht⟩
  · exact ⟨D, Or.inl ⟨e, List.eq_nil_of_length_eq_zero h0⟩, Or.inl rfl⟩
  · refine ⟨g, Or.inr ⟨0, cap, cur, e, hn, hm, hg, by rw [hs]; show 0 + cap ≤ cap * 1; omega, fun j hj => ?_⟩, Or.inr ⟨hb, (Array.getElem?_eq_some_iff.1 hg).1⟩⟩
    have h1 : (cur.toList.take (xs.length * kZ.sz))[j]? = (kZ.Vs xs)[j]? := by rw [ht]
    rw [Vs_Z, List.getElem?_map, List.getElem?_take, if_pos (by show j < xs.length * 1; omega), Array.getElem?_toList] at h1
    rw [Nat.zero_add, h1, List.getD_eq_getElem?_getD, List.getElem?_eq_getElem hj]
    rfl
/-- What one append into the deck leaves. -/
theorem parts_step {W w3 : World} {v v' : Value} {l : List Int} {d : Int} {o : Obj} (hb : Below w.heap.size w W) (hsz : w.heap.size + 1 ≤ W.heap.size) (hbox : Blk W w.heap.size #[v] TDk) (hown : OwnK kZ W (w.heap.size + 1) v l)
    (hO : OwnK kZ w3 (w.heap.size + 1) v' (l ++ [d])) (hg : (W.alloc o).grownBy w3 v.ownBlock) :
    (∃ ad c, v' = .slice ad (l.length + 1) c) ∧ w3.cell? ⟨w.heap.size, 0, none⟩ = some v ∧ w3.frozen? ⟨w.heap.size, 0, none⟩ = false ∧ Below w.heap.size w (w3.setCell ⟨w.heap.size, 0, none⟩ v') ∧ w.heap.size + 1 ≤ (w3.setCell ⟨w.heap.size, 0, none⟩ v').heap.size ∧ Blk (w3.setCell ⟨w.heap.size, 0, none⟩ v') w.heap.size #[v'] TDk ∧ OwnK kZ (w3.setCell ⟨w.heap.size, 0, none⟩ v') (w.heap.size + 1) v' (l ++ [d]) := by
  have hblk : w3.heap[w.heap.size]? = W.heap[w.heap.size]? := by
    rw [hg.block _ (by simp; omega) (fun e => by have := (hown.block _ e.symm).1; omega)]
    exact Below.heap_alloc _ _ _ (by omega)
  have hb3 : Blk w3 w.heap.size #[v] TDk := hblk.trans hbox
  have hbw : Below w.heap.size w w3 := (hb.alloc hb.size o).grown hg (by simp; omega) (fun k hk => by have := (hown.block k hk).1; omega)
  have hs : Chg [w.heap.size] w3 (w3.setCell ⟨w.heap.size, 0, none⟩ v') := (Chg.refl _ _).set (Or.inl (by simp)) _ _
  obtain ⟨ad, c, hv, -⟩ := hO.form kZ_ok.tofit
  refine ⟨⟨ad, c, by rw [hv]; simp⟩, hb3.cell 0, hb3.free 0, hbw.setCell (p := ⟨w.heap.size, 0, none⟩) (Nat.le_refl _) _, by have := hg.size; simp [World.setCell] at this ⊢; omega, hb3.set 0 v', hO.chg hs (fun g hg hm => by have := (hO.block g hg).1; simp at hm; omega)⟩
set_option maxHeartbeats 1000000 in
theorem parts_any (n : Nat) (hn : n ≤ 1048576) (w : World) :
    Calls Try.prog 14 #[.int .i64 (n : Int)] w fun e w' => ∃ b, e = .returned (.pointer (some ⟨w.heap.size, 0, none⟩)) ∧ DeckP w' w.heap.size b (allP n) ∧ w.heap.size ≤ b ∧ b < w'.heap.size ∧ Below w.heap.size w w' := by
  obtain ⟨W1, hW1⟩ : ∃ W1, w.alloc (.cells #[.slice none 0 0] TDk) = W1 := ⟨_, rfl⟩
  have HB1 : Hid (Below w.heap.size w W1) := by rw [← hW1]; exact (Below.refl _ w).alloc (Nat.le_refl _) _
  have hs1 : w.heap.size + 1 ≤ W1.heap.size := by rw [← hW1]; simp
  have HX1 : Hid (Blk W1 w.heap.size #[.slice none 0 0] TDk) := by rw [← hW1]; exact heap_alloc_new w _
  go_enter Try.func14, Try.ntmps14
  go_wp2_with fail
  clear hW1
  go_loopw [8] (fun i wr => ∃ (k : Nat) (ad : Option Addr) (c : Nat), k ≤ n ∧ i = .int .i64 (k : Int) ∧ w.heap.size + 1 ≤ wr.heap.size ∧ Hid (Blk wr w.heap.size #[.slice ad k c] TDk) ∧ Hid (OwnK kZ wr (w.heap.size + 1) (.slice ad k c) (allP k)) ∧ Hid (Below w.heap.size w wr)) (fun i _ => n - (intOf i).toNat)
  case atStart => exact ⟨0, none, 0, by omega, rfl, hs1, HX1, OwnK.nil (K := kZ) W1 _, HB1⟩
  case round =>
    obtain ⟨k, ad, c, hk, rfl, hs, HX, HO, HB⟩ := hrel
    clear HB1 HX1
    by_cases hlt : k < n
    · have c0 := Blk.cell HX.out 0
      have f0 := Blk.free HX.out 0
      simp only [List.getElem?_toArray, List.getElem?_cons_zero] at c0
      have HRw := hid (z_row wr (k : Int))
      have HO2 := hid (HO.out.later ((Below.refl _ wr).alloc (Nat.le_refl _) (.cells #[.int .i64 (k : Int)] 3)))
      have HSt : Hid (∀ w3 v', OwnK kZ w3 (w.heap.size + 1) v' (allP k ++ [(k : Int)]) → (wr.alloc (.cells #[.int .i64 (k : Int)] 3)).grownBy w3 (Value.slice ad k c).ownBlock → _) := fun w3 v' h1 h2 => parts_step HB.out hs HX.out HO.out h1 h2
      rw [allP_len] at HSt
      go_wp2_with (first
        | (at_builtin; refine app_kd kZ_ok rfl _ _ rfl (w.heap.size + 1) (.slice ad k c) (allP k) rfl HO2.out (some ⟨wr.heap.size, 0, none⟩) 1 1 [(k : Int)] rfl rfl (fun e => by cases e) HRw.out (by rw [allP_len]; unfold maxLen; omega) (by rw [allP_len]; show (k + 1) * 8 ≤ _; omega) (by simp; omega) ?_; intro v3 w3 hown3 hg3; obtain ⟨⟨a3, c3, rfl⟩, z0, z1, z2⟩ := HSt.out w3 v3 hown3 hg3; have HZ := hid z2; clear hown3 hg3 z2))
      refine ⟨⟨k + 1, a3, c3, by omega, by go_num, HZ.out.2.1, HZ.out.2.2.1, (by rw [allP_succ]; exact HZ.out.2.2.2), HZ.out.1⟩, by simp [intOf]; omega⟩
    · obtain rfl : k = n := by omega
      obtain ⟨b, hb1, hb2⟩ := HO.out.cards w.heap.size
      have HF := hid (show ∃ b, DeckP wr w.heap.size b (allP k) ∧ w.heap.size ≤ b ∧ b < wr.heap.size from ⟨b, ⟨_, HX.out, hb1⟩, by rcases hb2 with h | h; omega; omega, by rcases hb2 with h | h; omega; omega⟩)
      clear hb1 hb2
      go_wp2_with fail
      go_ret
      obtain ⟨b, f1, f2, f3⟩ := HF.out
      exact ⟨b, rfl, f1, f2, f3, HB.out⟩
theorem split_any (p n : Nat) (hp : p ≤ 1048576) (hn : n ≤ 1048576) (w : World) :
    Calls Try.prog 16 #[.int .i64 (p : Int), .int .i64 (n : Int)] w fun e w' => e = .returned (.tuple #[.int .i64 ((p / n : Nat) : Int), .int .i64 (if n = 0 then 0 else ((p % n : Nat) : Int))]) ∧ Below w.heap.size w w' := by
  by_cases h0 : n = 0
  · subst h0
    go_enter Try.func16, Try.ntmps16
    go_wp2_with fail
    refine bodyPost_ret (results_tmp2 Try.results16 _ _ _) rfl ⟨?_, Below.refl _ _⟩
    simp
  · have hz : ((n : Int) == 0) = false := by simp; omega
    obtain ⟨q, hq⟩ : ∃ q, p / n = q := ⟨_, rfl⟩
    obtain ⟨r, hr⟩ : ∃ r, p % n = r := ⟨_, rfl⟩
    have hq1 : (p : Int) / (n : Int) = (q : Int) := by rw [← hq]; simp
    have hr1 : (p : Int) % (n : Int) = (r : Int) := by rw [← hr]; simp
    have hql : q ≤ 1048576 := by rw [← hq]; exact Nat.le_trans (Nat.div_le_self p n) hp
    rw [hq, hr, if_neg h0]
    clear hq hr
    go_enter Try.func16, Try.ntmps16
    go_wp2_with fail
    go_quiet (fail)
    all_goals go_wp2
    all_goals refine bodyPost_ret (results_tmp2 Try.results16 _ _ _) rfl ⟨?_, below_drewN' (Below.refl _ _) _⟩
    all_goals simp [hr1]
    all_goals go_num
end Go.Proofs.Ytakpdhmfbgfblaa
