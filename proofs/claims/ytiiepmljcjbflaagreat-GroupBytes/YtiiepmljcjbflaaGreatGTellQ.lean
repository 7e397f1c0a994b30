/- PutEvent of the document's package (by gentell15.py). -/
import Derived.Test.YtiiepmljcjbflaaGreatGTellR
import Derived.Test.YtiiepmljcjbflaaGreatRRight15
namespace Go.Proofs.YtiiepmljcjbflaaGreat
open Go.RowKit
variable {w w' : World}

set_option maxRecDepth 40000 in
theorem rputT_any (x : Ev) (w : World) : Calls Tryz.prog 9 #[.agg (evA x)] w fun r w' => (∃ v, r = .returned (.tuple #[v, .int .i64 (if x.may then 0 else 1)]) ∧ Own w' w.heap.size v (if x.may then tellE x else [])) ∧ Below w.heap.size w w' := by
  have HM := hid (fun W => rright_any x W)
  have HTe := hid (fun (h : x.may) W => write_any x (may_fit h) W)
  obtain ⟨R, hR⟩ : ∃ R, tellE x = R := ⟨_, rfl⟩
  rw [hR]
  rw [hR] at HTe
  have HMy : Hid (x.may ↔ decide x.may = true) := by simp; exact hid trivial
  obtain ⟨k, nm, a, b, c, d, e, f, y⟩ := x
  obtain ⟨t, ht⟩ : ∃ t, nmS nm = t := ⟨_, rfl⟩
  have hE : evA ⟨k, nm, a, b, c, d, e, f, y⟩ = #[.int .i64 k, .string t, .int .i64 a, .int .i64 b, .int .i64 c, .int .i64 d, .int .i64 e, .int .i64 f, .bool y] := by rw [← ht]
  rw [hE] at HM HTe ⊢
  clear hR hE ht
  obtain ⟨W0, hW0⟩ : ∃ W0, w.alloc (.cells #[.int .i64 k, .string t, .int .i64 a, .int .i64 b, .int .i64 c, .int .i64 d, .int .i64 e, .int .i64 f, .bool y] REv) = W0 := ⟨_, rfl⟩
  have b0 : Below w.heap.size w W0 := by rw [← hW0]; exact (Below.refl _ _).alloc (Nat.le_refl _) _
  have x0 : Blk W0 w.heap.size #[.int .i64 k, .string t, .int .i64 a, .int .i64 b, .int .i64 c, .int .i64 d, .int .i64 e, .int .i64 f, .bool y] REv := by rw [← hW0]; exact heap_alloc_new w _
  have HB0 := hid b0
  have HS : Hid (∀ W, Below W0.heap.size W0 W → W.cell? ⟨w.heap.size, 0, none⟩ = some (.int .i64 k) ∧ W.cell? ⟨w.heap.size, 1, none⟩ = some (.string t) ∧ W.cell? ⟨w.heap.size, 2, none⟩ = some (.int .i64 a) ∧ W.cell? ⟨w.heap.size, 3, none⟩ = some (.int .i64 b) ∧ W.cell? ⟨w.heap.size, 4, none⟩ = some (.int .i64 c) ∧ W.cell? ⟨w.heap.size, 5, none⟩ = some (.int .i64 d) ∧ W.cell? ⟨w.heap.size, 6, none⟩ = some (.int .i64 e) ∧ W.cell? ⟨w.heap.size, 7, none⟩ = some (.int .i64 f) ∧ W.cell? ⟨w.heap.size, 8, none⟩ = some (.bool y)) := fun W hW => by
    have hx := x0.later hW
    exact ⟨hx.cell 0, hx.cell 1, hx.cell 2, hx.cell 3, hx.cell 4, hx.cell 5, hx.cell 6, hx.cell 7, hx.cell 8⟩
  obtain ⟨c0, c1, c2, c3, c4, c5, c6, c7, c8⟩ := HS.out W0 (Below.refl _ _)
  clear b0 x0
  by_cases hm : Ev.may ⟨k, nm, a, b, c, d, e, f, y⟩
  · rw [if_pos hm, if_pos hm]
    have HTm := hid (HTe.out hm)
    rw [decide_eq_true hm] at HM
    clear hm HTe HMy
    go_enter Tryz.func9, Tryz.ntmps9
    go_wp2_with (first
      | (go_at_call 29; (with_reducible_and_instances (refine (HM.out W0).mono ?_)); rintro r w1 ⟨rfl, hb1⟩; have HB1 := hid hb1; obtain ⟨e0, e1, e2, e3, e4, e5, e6, e7, e8⟩ := HS.out w1 hb1; clear hb1)
      | (go_at_call 30; (with_reducible_and_instances (refine (HTm.out w1).mono ?_)); rintro r w2 ⟨v2, rfl, ho2, hb2⟩; have HO2 := hid ho2; have HB2 := hid (HB0.out.trans ((HB1.out.trans (hb2.mono HB1.out.size)).mono HB0.out.size)); have hs2 := HB1.out.size; clear ho2 hb2))
    refine bodyPost_ret (results_tmp2 Tryz.results9 _ _ _) rfl ⟨⟨_, rfl, HO2.out.down (by have := HB0.out.size; omega)⟩, HB2.out⟩
  · rw [if_neg hm, if_neg hm]
    rw [decide_eq_false hm] at HM
    clear hm HTe HMy
    go_enter Tryz.func9, Tryz.ntmps9
    go_wp2_with (go_at_call 29; (with_reducible_and_instances (refine (HM.out W0).mono ?_)); rintro r w1 ⟨rfl, hb1⟩; have HB1 := hid (HB0.out.trans (hb1.mono HB0.out.size)); clear hb1)
    refine bodyPost_ret (results_tmp2 Tryz.results9 _ _ _) rfl ⟨⟨_, rfl, Own.nil _ _⟩, HB1.out⟩
end Go.Proofs.YtiiepmljcjbflaaGreat
