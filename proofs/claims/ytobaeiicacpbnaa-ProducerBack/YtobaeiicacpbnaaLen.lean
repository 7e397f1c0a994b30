/- What the Go functions batch.isMarker, batch.Len and batch.size answer. -/
import Derived.Test.YtobaeiicacpbnaaBoxes
namespace Go.Proofs.Ytobaeiicacpbnaa
open Go.RowKit

theorem isMarker_any (k p e s : Int) (t : Bool) (v : Value) (w : World) :
    Calls Try.prog 44 #[.agg #[.int .i64 k, .int .i64 p, .int .i64 e, .int .i64 s, .bool t, v]] w fun r w' => r = .returned (.bool (k == 2 || k == 3)) ∧ Below w.heap.size w w' := by
  have b0 : Below w.heap.size w (w.alloc (.cells #[.int .i64 k, .int .i64 p, .int .i64 e, .int .i64 s, .bool t, v] 33)) := (Below.refl _ _).alloc (Nat.le_refl _) _
  rcases (show k = 2 ∨ k = 3 ∨ (k ≠ 2 ∧ k ≠ 3) by omega) with rfl | rfl | ⟨h2, h3⟩
  · go_enter Try.func44, Try.ntmps44
    go_wp2
    go_ret
    exact ⟨rfl, b0⟩
  · go_enter Try.func44, Try.ntmps44
    go_wp2
    go_ret
    exact ⟨rfl, b0⟩
  · have hm : (k == 2 || k == 3) = false := by simp [h2, h3]
    rw [hm]
    go_enter Try.func44, Try.ntmps44
    go_wp2
    go_ret
    exact ⟨rfl, b0⟩
theorem len_any (k p e s : Int) (t : Bool) (ad : Option Addr) (len cap : Nat) (w : World) :
    Calls Try.prog 32 #[.agg #[.int .i64 k, .int .i64 p, .int .i64 e, .int .i64 s, .bool t, .slice ad len cap]] w fun r w' => r = .returned (.int .i64 (if k == 2 || k == 3 then 1 else len)) ∧ Below w.heap.size w w' := by
  have b0 : Below w.heap.size w (w.alloc (.cells #[.int .i64 k, .int .i64 p, .int .i64 e, .int .i64 s, .bool t, .slice ad len cap] 33)) := (Below.refl _ _).alloc (Nat.le_refl _) _
  have X0 : Hid (BBox (w.alloc (.cells #[.int .i64 k, .int .i64 p, .int .i64 e, .int .i64 s, .bool t, .slice ad len cap] 33)) w.heap.size k p e s t (.slice ad len cap)) := BBox.new w k p e s t _
  cases hm : (k == 2 || k == 3) with
  | true =>
    go_enter Try.func32, Try.ntmps32
    go_wp2_with (go_at_call 44; refine (isMarker_any _ _ _ _ _ _ _).mono ?_; rintro e w1 ⟨rfl, b1⟩; rw [hm])
    go_ret
    exact ⟨rfl, b0.trans (b1.mono b0.size)⟩
  | false =>
    go_enter Try.func32, Try.ntmps32
    go_wp2_with (go_at_call 44; refine (isMarker_any _ _ _ _ _ _ _).mono ?_; rintro e w1 ⟨rfl, b1⟩; rw [hm]; have c5 := (X0.out.later b1).c5)
    go_ret
    exact ⟨rfl, b0.trans (b1.mono b0.size)⟩
end Go.Proofs.Ytobaeiicacpbnaa
