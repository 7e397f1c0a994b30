/- The walk of the statement BatchLens: it returns true at every input, and writes nothing that was there. -/
import Derived.Test.YtmkdkclakndkpabKnows2
namespace Go.Proofs.Ytmkdkclakndkpab
open Go.RowKit

set_option maxHeartbeats 1000000 in
theorem lens_walk (k p e s : Int) (t : Bool) (rs : List Rec) (ad : Option Addr) (len cap : Nat) (w : World) (h : BArg w ⟨k, p, e, s, t, rs⟩ ad len cap) (hm : len * 40 ≤ 140737488351232) :
    Calls Try.prog 3 #[.agg #[.int .i64 k, .int .i64 p, .int .i64 e, .int .i64 s, .bool t, .slice ad len cap]] w fun r w' => r = .returned (.bool true) ∧ Below w.heap.size w w' := by
  have b0 : Below w.heap.size w (w.alloc (.cells #[.int .i64 k, .int .i64 p, .int .i64 e, .int .i64 s, .bool t, .slice ad len cap] 24)) := (Below.refl _ _).alloc (Nat.le_refl _) _
  have X0 : Hid (BBox (w.alloc (.cells #[.int .i64 k, .int .i64 p, .int .i64 e, .int .i64 s, .bool t, .slice ad len cap] 24)) w.heap.size k p e s t (.slice ad len cap)) := BBox.new w k p e s t _
  have A0 : Hid (BArg (w.alloc (.cells #[.int .i64 k, .int .i64 p, .int .i64 e, .int .i64 s, .bool t, .slice ad len cap] 24)) ⟨k, p, e, s, t, rs⟩ ad len cap) := h.later b0
  clear h
  rcases (show k = 2 ∨ k = 3 ∨ (k ≠ 2 ∧ k ≠ 3) by omega) with rfl | rfl | ⟨h2, h3⟩
  case' inr.inr => have hk : (k == 2 || k == 3) = false := by simp [h2, h3]
  all_goals
    go_enter Try.func3, Try.ntmps3
    go_wp2_with fail
    refine (copied_any _ p e s t rs ad len cap _ A0.out hm).mono ?_
    rintro r w1 ⟨a1, c1, rfl, A1, b1⟩
    have b01 : Below w.heap.size w w1 := b0.trans (b1.mono b0.size)
    have X1 : Hid (BBox w1 w.heap.size _ p e s t (.slice ad len cap)) := X0.out.later b1
    clear b0 b1 X0 A0 A1
    go_wp2_with fail
    refine (len_any _ p e s t a1 len c1 _).mono ?_
    rintro r w2 ⟨rfl, b2⟩
    have b02 : Below w.heap.size w w2 := b01.trans (b2.mono b01.size)
    have X2 : Hid (BBox w2 w.heap.size _ p e s t (.slice ad len cap)) := X1.out.later b2
    have c0 := X2.out.c0
    have c5 := X2.out.c5
    clear b01 b2 X1
    try rw [hk]
    go_wp2_with (go_at_call 6; refine (knows2_any _).mono ?_; rintro r w3 ⟨rfl, b3⟩)
    go_ret
    exact ⟨rfl, b02.trans (b3.mono b02.size)⟩
end Go.Proofs.Ytmkdkclakndkpab
