/- What the statements' helper Copied answers: the same batch, its Records in memory of their own. -/
import Derived.Test.YtdifchlbnilenaaGreatLen
namespace Go.Proofs.YtdifchlbnilenaaGreat
open Go.RowKit

theorem copied_step {w w1 : World} {k p e s : Int} {t : Bool} {rs : List Rec} {ad : Option Addr} {len cap : Nat} {v1 : Value} (hl : rs.length = len)
    (hown : w1.ownsRow (w.heap.size + 1 + 1) 84 3 v1 (0 + len) (recsV ([] ++ rs))) (hg : ((w2 w k p e s t (.slice ad len cap)).alloc (.cells #[] 84)).grownBy w1 (some (w.heap.size + 1 + 1))) :
    ∃ a1 c1, v1 = .slice a1 len c1 ∧ Hid (OwnR w1 (w.heap.size + 1 + 1) (.slice a1 len c1) rs) ∧ Below w.heap.size w w1 ∧ BBox w1 w.heap.size k p e s t (.slice ad len cap) ∧ BBox w1 (w.heap.size + 1) 0 0 0 0 false (.slice none 0 0) := by
  have B3 : Below w.heap.size w ((w2 w k p e s t (.slice ad len cap)).alloc (.cells #[] 84)) := (w2_below w k p e s t _).alloc (by rw [w2_size]; omega) _
  have X0 : BBox ((w2 w k p e s t (.slice ad len cap)).alloc (.cells #[] 84)) w.heap.size k p e s t (.slice ad len cap) := (w2_box0 w k p e s t _).later ((Below.refl _ _).alloc (Nat.le_refl _) _)
  have X1 : BBox ((w2 w k p e s t (.slice ad len cap)).alloc (.cells #[] 84)) (w.heap.size + 1) 0 0 0 0 false (.slice none 0 0) := (w2_box1 w k p e s t _).later ((Below.refl _ _).alloc (Nat.le_refl _) _)
  have HW : OwnR w1 (w.heap.size + 1 + 1) v1 rs := by
    simp only [Nat.zero_add, List.nil_append] at hown; rw [← hl] at hown; exact hown
  obtain ⟨a1, c1, rfl, -⟩ := HW.form
  rw [hl] at HW ⊢
  exact ⟨a1, c1, rfl, HW, B3.grown hg B3.size (by intro k hk; simp at hk; omega), X0.grown hg (by simp; omega), X1.grown hg (by simp)⟩
theorem own_mono {w : World} {b b' : Nat} {v : Value} {rs : List Rec} (h : OwnR w b v rs) (hb : b' ≤ b) : OwnR w b' v rs := by
  refine ⟨h.1, ?_⟩
  rcases h.2 with h2 | ⟨g, cap, cur, hv, hgb, r⟩
  · exact Or.inl h2
  · exact Or.inr ⟨g, cap, cur, hv, Nat.le_trans hb hgb, r⟩
set_option maxHeartbeats 1000000 in
theorem copied_own (k p e s : Int) (t : Bool) (rs : List Rec) (ad : Option Addr) (len cap : Nat) (w : World) (h : BArg w ⟨k, p, e, s, t, rs⟩ ad len cap) (hm : len * 40 ≤ 140737488351232) :
    Calls Tryz.prog 36 #[.agg #[.int .i64 k, .int .i64 p, .int .i64 e, .int .i64 s, .bool t, .slice ad len cap]] w fun r w' => ∃ ad' cap', r = .returned (.agg #[.int .i64 k, .int .i64 p, .int .i64 e, .int .i64 s, .bool t, .slice ad' len cap']) ∧ OwnR w' w.heap.size (.slice ad' len cap') rs ∧ Below w.heap.size w w' := by
  have HA : Hid (BArg w ⟨k, p, e, s, t, rs⟩ ad len cap) := h
  have HO : Hid (((w2 w k p e s t (.slice ad len cap)).alloc (.cells #[] 84)).ownsRow (w.heap.size + 1 + 1) 84 3 (.slice (some ⟨w.heap.size + 1 + 1, 0, none⟩) 0 0) 0 (recsV [])) := by
    have h := emptyR_own (w2 w k p e s t (.slice ad len cap)) (w.heap.size + 1 + 1) (by rw [w2_size]; omega)
    rw [w2_size] at h
    exact h
  have B3 : Hid (Below w.heap.size w ((w2 w k p e s t (.slice ad len cap)).alloc (.cells #[] 84))) := (w2_below w k p e s t _).alloc (by rw [w2_size]; omega) _
  clear h
  go_enter Tryz.func36, Tryz.ntmps36
  go_wp2_with (at_builtin; refine app_recs rfl (.tmp 3) (.tmp 5) rfl (w.heap.size + 1 + 1) (.slice (some ⟨w.heap.size + 1 + 1, 0, none⟩) 0 0) 0 [] rfl HO.out ad len cap rs rfl HA.out.len_eq HA.out.nil (HA.out.row.later B3.out) (by omega) (by simp) ?_; intro v1 w1 hown1 hg1; obtain ⟨a1, n1, rfl, HW, HB, Y0, Y1⟩ := copied_step HA.out.len_eq hown1 hg1; have c0 := Y0.c0; have c1 := Y0.c1; have c2 := Y0.c2; have c3 := Y0.c3; have c4 := Y0.c4; have c5 := Y0.c5; have d0 := Y1.c0; have d1 := Y1.c1; have d2 := Y1.c2; have d3 := Y1.c3; have d4 := Y1.c4; have d5 := Y1.c5; have f5 := Y0.free 5; have g0 := Y1.free 0; have g1 := Y1.free 1; have g2 := Y1.free 2; have g3 := Y1.free 3; have g4 := Y1.free 4; have g5 := Y1.free 5; have Y1 : Hid (BBox w1 (w.heap.size + 1) 0 0 0 0 false (.slice none 0 0)) := Y1; clear hg1 hown1 Y0 HO B3)
  have Y1' := Y1.out.setOther (show w.heap.size + 1 ≠ w.heap.size by omega) 5 (.slice a1 len n1)
  refine bodyPost_ret (v := .agg #[.int .i64 k, .int .i64 p, .int .i64 e, .int .i64 s, .bool t, .slice a1 len n1]) (results_cell_row Tryz.results36 _ _ (w.heap.size + 1) 24 _ (0, 0) _ rfl (Y1'.set6 k p e s t (.slice a1 len n1)) Tryz.underlying24 rfl (by kernel_rfl)) rfl ⟨a1, n1, rfl, ?_, ?_⟩
  · have h := (ownsRow_setCell_below HW.out (a := ⟨w.heap.size, 5, none⟩) (by show w.heap.size < _; omega) (.slice a1 len n1))
    exact own_mono (OwnR.set6 h (B := w.heap.size + 1) (by omega) k p e s t (.slice a1 len n1)) (by omega)
  · exact set6_below (HB.setCell (p := ⟨w.heap.size, 5, none⟩) (Nat.le_refl _) _) (by omega) k p e s t _
end Go.Proofs.YtdifchlbnilenaaGreat
