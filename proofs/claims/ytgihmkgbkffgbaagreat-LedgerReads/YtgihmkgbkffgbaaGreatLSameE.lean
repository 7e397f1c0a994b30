/- sameEntry of the statements of layer 13: of two like entries. -/
import Derived.Test.YtgihmkgbkffgbaaGreatLEnt
import Derived.Test.YtgihmkgbkffgbaaGreatPZEnc
namespace Go.Proofs.YtgihmkgbkffgbaaGreat
open Go.RowKit
variable {w w' : World}

set_option maxHeartbeats 1000000 in
theorem sameE_like (kd nn k p e q : Int) (tx : Bool) (rs : List Rec) (ad ad2 : Option Addr) (len cap cap2 : Nat) (w : World) (h : BArg w ⟨k, p, e, q, tx, rs⟩ ad len cap) (h2 : BArg w ⟨k, p, e, q, tx, rs⟩ ad2 len cap2) :
    Calls Tryz.prog 7 #[.agg #[.int .i64 kd, .int .i64 nn, .int .i64 k, .int .i64 p, .int .i64 e, .int .i64 q, .bool tx, .slice ad len cap], .agg #[.int .i64 kd, .int .i64 nn, .int .i64 k, .int .i64 p, .int .i64 e, .int .i64 q, .bool tx, .slice ad2 len cap2]] w fun r w' => r = .returned (.bool true) ∧ Below w.heap.size w w' := by
  obtain ⟨Wa, hWa⟩ : ∃ Wa, w.alloc (.cells #[.int .i64 kd, .int .i64 nn, .int .i64 k, .int .i64 p, .int .i64 e, .int .i64 q, .bool tx, .slice ad len cap] TEt) = Wa := ⟨_, rfl⟩
  obtain ⟨W0, hW0⟩ : ∃ W0, Wa.alloc (.cells #[.int .i64 kd, .int .i64 nn, .int .i64 k, .int .i64 p, .int .i64 e, .int .i64 q, .bool tx, .slice ad2 len cap2] 31) = W0 := ⟨_, rfl⟩
  have ba : Below w.heap.size w Wa := by rw [← hWa]; exact (Below.refl _ _).alloc (Nat.le_refl _) _
  have bb : Below Wa.heap.size Wa W0 := by rw [← hW0]; exact (Below.refl _ _).alloc (Nat.le_refl _) _
  have b0 : Below w.heap.size w W0 := ba.trans (bb.mono ba.size)
  have X0 : Blk W0 w.heap.size #[.int .i64 kd, .int .i64 nn, .int .i64 k, .int .i64 p, .int .i64 e, .int .i64 q, .bool tx, .slice ad len cap] TEt := (show Blk Wa w.heap.size _ TEt from by rw [← hWa]; exact heap_alloc_new w _).later bb
  have Y0 : Blk W0 Wa.heap.size #[.int .i64 kd, .int .i64 nn, .int .i64 k, .int .i64 p, .int .i64 e, .int .i64 q, .bool tx, .slice ad2 len cap2] 31 := by rw [← hW0]; exact heap_alloc_new Wa _
  have HS := hid (same_any k p e q k p e q tx tx rs rs ad ad2 len cap len cap2 W0 (h.later b0) (h2.later b0))
  have HB0 := hid b0
  have lx := X0.lt
  have ly := Y0.lt
  have c0 := X0.cell 0
  have c1 := X0.cell 1
  have c2 := X0.cell 2
  have c3 := X0.cell 3
  have c4 := X0.cell 4
  have c5 := X0.cell 5
  have c6 := X0.cell 6
  have c7 := X0.cell 7
  have d0 := Y0.cell 0
  have d1 := Y0.cell 1
  have d2 := Y0.cell 2
  have d3 := Y0.cell 3
  have d4 := Y0.cell 4
  have d5 := Y0.cell 5
  have d6 := Y0.cell 6
  have d7 := Y0.cell 7
  simp only [List.getElem?_toArray, List.getElem?_cons_zero, List.getElem?_cons_succ] at c0 c1 c2 c3 c4 c5 c6 c7 d0 d1 d2 d3 d4 d5 d6 d7
  clear h h2 b0 ba bb X0 Y0
  go_enter Tryz.func7, Tryz.ntmps7
  go_wp2_with (go_at_call 22; (with_reducible_and_instances (refine HS.out.mono ?_)); rintro r W1 ⟨qq, rfl, hq, hb⟩; obtain rfl : qq = true := hq.2 rfl; have HB1 := hid (HB0.out.trans (hb.mono HB0.out.size)); clear hq hb)
  go_ret
  exact ⟨rfl, HB1.out⟩
end Go.Proofs.YtgihmkgbkffgbaaGreat
