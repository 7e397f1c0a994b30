/- decideBatch and, of a batch, Decide of a ledger. -/
import Derived.Test.YtdifchlbnilenaaGreatLDecB4
import Derived.Test.YtdifchlbnilenaaGreatLDecB7
namespace Go.Proofs.YtdifchlbnilenaaGreat
open Go.RowKit Go.Shelf
variable {w w' : World} {L t M n N : Nat} {vr vo va : Value} {g : Lg}

theorem decideBatch_any (h : LPic w L t M n N vr vo va g) (hn : n + 1 ≤ 4000000000000) (k p e q : Int) (tx : Bool) (rs : List Rec) (ad : Option Addr) (len cap : Nat) (hB : BArg w ⟨k, p, e, q, tx, rs⟩ ad len cap) :
    Calls Tryz.prog 60 #[.pointer (some ⟨L, 0, none⟩), .agg #[.int .i64 k, .int .i64 p, .int .i64 e, .int .i64 q, .bool tx, .slice ad len cap]] w fun x w' => x = .returned (decV (decB g ⟨k, p, e, q, tx, rs⟩)) ∧ Below w.heap.size w w' := by
  obtain ⟨o, dup, er, hd⟩ : ∃ o dup er, decN g.tb ⟨k, p, e, q, tx, rs⟩ = (o, dup, er) := ⟨_, _, _, rfl⟩
  by_cases her : er = 0
  rotate_left
  · have hb : decB g ⟨k, p, e, q, tx, rs⟩ = (o, dup, er) := by unfold decB; rw [hd, if_pos (Or.inl her)]
    rw [hb]
    exact decB7 h k p e q tx rs ad len cap hB o dup er hd her
  subst her
  cases dup with
  | true =>
    have hb : decB g ⟨k, p, e, q, tx, rs⟩ = (o, true, 0) := by unfold decB; rw [hd, if_pos (Or.inr rfl)]
    rw [hb]
    exact decB8 h k p e q tx rs ad len cap hB o hd
  | false =>
  have h0 : ¬ ((decN g.tb ⟨k, p, e, q, tx, rs⟩).2.2 ≠ 0 ∨ (decN g.tb ⟨k, p, e, q, tx, rs⟩).2.1 = true) := by rw [hd]; simp
  have hn53 : ∀ (c1 : ¬ (k ≠ 1 ∧ opAt p g.opn = none ∧ knownT g.tb p e = true)) (c2 : ¬ (k = 1 ∧ (opAt p g.opn).isSome = true ∧ tx = false)), decB g ⟨k, p, e, q, tx, rs⟩ = if 281474976710656 < g.fin + lenN ⟨k, p, e, q, tx, rs⟩ then (0, false, 53) else (g.fin, false, 0) := fun c1 c2 => by
    unfold decB
    rw [if_neg h0, if_neg c1, if_neg c2]
  rcases opI_of p g.opn with ⟨e1, e2⟩ | ⟨i, e1, e2, e3⟩
  · have hz : decide (0 ≤ opI p g.opn) = false := by rw [e2]; rfl
    by_cases hk : k = 1
    · subst hk
      exact decB6 h p e q tx rs ad len cap hB o hd hz _ (hn53 (by simp) (by rw [e1]; simp))
    · cases hkn : knownT g.tb p e with
      | true => exact decB1 h hn k p e q tx rs ad len cap hB o hd hk hz hkn _ (by unfold decB; rw [if_neg h0, if_pos ⟨hk, e1, hkn⟩])
      | false => exact decB2 h hn k p e q tx rs ad len cap hB o hd hk hz hkn _ (hn53 (by rw [hkn]; simp) (by simp [hk]))
  · have hz : decide (0 ≤ opI p g.opn) = true := by rw [e2]; simp
    by_cases hk : k = 1
    · subst hk
      cases tx with
      | true => exact decB5 h p e q rs ad len cap hB o hd hz _ (hn53 (by simp) (by simp))
      | false => exact decB4 h p e q rs ad len cap hB o hd hz _ (by unfold decB; rw [if_neg h0, if_neg (by simp), if_pos ⟨rfl, by rw [e1]; rfl, rfl⟩])
    · exact decB3 h k p e q tx rs ad len cap hB o hd hk hz _ (hn53 (by rw [e1]; simp) (by simp [hk]))
/-- Decide of an entry that is a batch, or may not be. -/
theorem DecideL_batch (h : LPic w L t M n N vr vo va g) (hn : n + 1 ≤ 4000000000000) (kd nn k p e q : Int) (tx : Bool) (rs : List Rec) (ad : Option Addr) (len cap : Nat) (hB : BArg w ⟨k, p, e, q, tx, rs⟩ ad len cap) (hk : kd = 1 ∨ mayE ⟨kd, nn, ⟨k, p, e, q, tx, rs⟩⟩ = false) :
    Calls Tryz.prog 24 #[.pointer (some ⟨L, 0, none⟩), .agg #[.int .i64 kd, .int .i64 nn, .int .i64 k, .int .i64 p, .int .i64 e, .int .i64 q, .bool tx, .slice ad len cap]] w fun x w' => x = .returned (decV (decE g ⟨kd, nn, ⟨k, p, e, q, tx, rs⟩⟩)) ∧ Below w.heap.size w w' := by
  obtain ⟨W0, hW0⟩ : ∃ W0, w.alloc (.cells #[.int .i64 kd, .int .i64 nn, .int .i64 k, .int .i64 p, .int .i64 e, .int .i64 q, .bool tx, .slice ad len cap] 32) = W0 := ⟨_, rfl⟩
  have b0 : Below w.heap.size w W0 := by rw [← hW0]; exact (Below.refl _ _).alloc (Nat.le_refl _) _
  have X0 : Blk W0 w.heap.size #[.int .i64 kd, .int .i64 nn, .int .i64 k, .int .i64 p, .int .i64 e, .int .i64 q, .bool tx, .slice ad len cap] 32 := by rw [← hW0]; exact heap_alloc_new w _
  have HM0 := hid (madeL_any (h.later b0).c0)
  have HMy := hid (mayBe13_any kd nn k p e q tx rs ad len cap W0 (hB.later b0))
  have HB0 := hid b0
  have HP := hid (h.later b0)
  have HBa := hid (hB.later b0)
  have HX := hid X0
  have c0 := X0.cell 0
  have c1 := X0.cell 1
  have c2 := X0.cell 2
  have c3 := X0.cell 3
  have c4 := X0.cell 4
  have c5 := X0.cell 5
  have c6 := X0.cell 6
  have c7 := X0.cell 7
  have lx := X0.lt
  simp only [List.getElem?_toArray, List.getElem?_cons_zero, List.getElem?_cons_succ] at c0 c1 c2 c3 c4 c5 c6 c7
  clear h hB b0 X0
  cases hm : mayE ⟨kd, nn, ⟨k, p, e, q, tx, rs⟩⟩ with
  | false =>
    have HR : Hid (decE g ⟨kd, nn, ⟨k, p, e, q, tx, rs⟩⟩ = (0, false, 1)) := by unfold decE; rw [if_pos hm]; exact rfl
    rw [hm] at HMy
    clear hm hk
    go_enter Tryz.func24, Tryz.ntmps24
    go_wp2_with (first
      | (go_at_call 53; (with_reducible_and_instances (refine HM0.out.mono ?_)); rintro x w1 ⟨rfl, hw1⟩; obtain rfl := hw1.symm)
      | (go_at_call 32; (with_reducible_and_instances (refine HMy.out.mono ?_)); rintro x w2 ⟨rfl, hb2⟩; have HB2 := hid (HB0.out.trans (hb2.mono HB0.out.size)); clear hb2))
    refine bodyPost_ret (results_tmp3 Tryz.results24 _ _ _) rfl ⟨by rw [HR.out]; rfl, HB2.out⟩
  | true =>
    obtain rfl : kd = 1 := by rcases hk with hk | hk; exact hk; rw [hm] at hk; cases hk
    have HR : Hid (decE g ⟨1, nn, ⟨k, p, e, q, tx, rs⟩⟩ = decB g ⟨k, p, e, q, tx, rs⟩) := by unfold decE; rw [if_neg (by rw [hm]; simp), if_pos rfl]; exact rfl
    rw [hm] at HMy
    clear hm hk
    have HDb : Hid (∀ W, Below W0.heap.size W0 W → Calls Tryz.prog 60 #[.pointer (some ⟨L, 0, none⟩), .agg #[.int .i64 k, .int .i64 p, .int .i64 e, .int .i64 q, .bool tx, .slice ad len cap]] W fun x w' => x = .returned (decV (decB g ⟨k, p, e, q, tx, rs⟩)) ∧ Below W.heap.size W w') := fun W hW => decideBatch_any (HP.out.later hW) hn k p e q tx rs ad len cap (HBa.out.later hW)
    generalize decB g ⟨k, p, e, q, tx, rs⟩ = d at *
    obtain ⟨o, dd, er⟩ := d
    go_enter Tryz.func24, Tryz.ntmps24
    go_wp2_with (first
      | (go_at_call 53; (with_reducible_and_instances (refine HM0.out.mono ?_)); rintro x w1 ⟨rfl, hw1⟩; obtain rfl := hw1.symm)
      | (go_at_call 32; (with_reducible_and_instances (refine HMy.out.mono ?_)); rintro x w2 ⟨rfl, hb2⟩; have HB2 := hid hb2; clear hb2; have hx := HX.out.later HB2.out; have d0 := hx.cell 0; have d2 := hx.cell 2; have d3 := hx.cell 3; have d4 := hx.cell 4; have d5 := hx.cell 5; have d6 := hx.cell 6; have d7 := hx.cell 7; simp only [List.getElem?_toArray, List.getElem?_cons_zero, List.getElem?_cons_succ] at d0 d2 d3 d4 d5 d6 d7; clear hx; have HD2 := hid (HDb.out _ HB2.out); unfold decV at HD2; dsimp only at HD2)
      | (go_at_call 60; (with_reducible_and_instances (refine HD2.out.mono ?_)); rintro x w3 ⟨rfl, hb3⟩; have HB3 := hid (HB0.out.trans ((HB2.out.trans (hb3.mono HB2.out.size)).mono HB0.out.size)); clear hb3))
    refine bodyPost_ret (results_tmp3 Tryz.results24 _ _ _) rfl ⟨by rw [HR.out]; rfl, HB3.out⟩
end Go.Proofs.YtdifchlbnilenaaGreat
