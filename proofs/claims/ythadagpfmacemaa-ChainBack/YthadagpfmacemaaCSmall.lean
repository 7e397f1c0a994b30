/- What is small in package chain: insist, isNumber, lastFirst, farthest, follows. -/
import Derived.Test.YthadagpfmacemaaCRow
import Derived.WalkLawsBesides
namespace Go.Proofs.Ythadagpfmacemaa
open Go.RowKit
variable {w w' : World} {l : List Pt} {A : Nat → Sl} {ad : Option Addr} {m c : Nat}

/-- What a refusal raises. -/
abbrev refusal (y : Int) : List PanicEntry := [{ v := .iface 90 (.agg #[.int .i64 y]), recovered := false }]
theorem insist_ok (y : Int) (w : World) : Calls Try.prog 31 #[.bool true, .int .i64 y] w fun e w' => e = .returned (.tuple #[]) ∧ w' = w := by
  go_enter Try.func31, Try.ntmps31
  go_wp2_with fail
  go_end0
  exact ⟨rfl, rfl⟩
theorem insist_no (y : Int) (w : World) : Calls Try.prog 31 #[.bool false, .int .i64 y] w fun e w' => e = .panicked (refusal y) ∧ w' = w := by
  go_enter Try.func31, Try.ntmps31
  go_wp2_with fail
  exact ⟨rfl, rfl, rfl⟩
theorem isNumber_any (n : Int) (w : World) : Calls Try.prog 51 #[.int .i64 n] w fun e w' => e = .returned (.bool (decide (isN n))) ∧ w' = w := by
  rw [isN_dec]
  by_cases h : 0 ≤ n
  · go_enter Try.func51, Try.ntmps51
    go_wp2_with fail
    go_ret
    exact ⟨by simp [h], rfl⟩
  · rw [show decide (0 ≤ n) = false from decide_eq_false h]
    go_enter Try.func51, Try.ntmps51
    go_wp2_with fail
    go_ret
    exact ⟨rfl, rfl⟩
theorem lastFirst_any (h : CArg w l A ad m c) : Calls Try.prog 44 #[.slice ad m c] w fun e w' => e = .returned (.int .i64 (lastF l)) ∧ w' = w := by
  have hl := h.len
  have hm : m ≤ 9223372036854775807 := by have := h.cap; have := h.room; unfold maxLen at this; omega
  by_cases h0 : m = 0
  · have e : lastF l = 0 := by unfold lastF; rw [hl, if_pos h0]
    rw [e]
    subst h0
    go_enter Try.func44, Try.ntmps44
    go_wp2_with fail
    go_ret
    exact ⟨rfl, rfl⟩
  · have e : lastF l = (ptAt l (m - 1)).first := by unfold lastF; rw [hl, if_neg h0]
    rw [e]
    obtain ⟨b, off, rfl, hs, hc⟩ := h.cells (by omega)
    have r0 := (hc (m - 1) (by omega)).1
    have hq : ((m : Int) == 0) = false := by simp; omega
    have hix : ((m : Int) - 1).toNat = m - 1 := by omega
    clear h hc hl
    generalize (ptAt l (m - 1)).first = x at *
    go_enter Try.func44, Try.ntmps44
    go_wp2_with fail
    go_ret
    exact ⟨rfl, rfl⟩
theorem farthest_any (h : CArg w l A ad m c) (hb : -1 ≤ lastF l ∧ lastF l < 281474976710656) : Calls Try.prog 45 #[.slice ad m c] w fun e w' => e = .returned (.int .i64 (farF l)) ∧ w' = w := by
  have hl := h.len
  have hm : m ≤ 9223372036854775807 := by have := h.cap; have := h.room; unfold maxLen at this; omega
  have HL := lastFirst_any h
  by_cases h0 : m = 0
  · have e : farF l = 0 := by unfold farF; rw [hl, if_pos h0]
    rw [e]
    subst h0
    go_enter Try.func45, Try.ntmps45
    go_wp2_with fail
    go_ret
    exact ⟨rfl, rfl⟩
  · have e : farF l = lastF l + 4096 := by unfold farF; rw [hl, if_neg h0]
    rw [e]
    have hq : ((m : Int) == 0) = false := by simp; omega
    clear h e hl
    generalize lastF l = x at *
    go_enter Try.func45, Try.ntmps45
    go_wp2_with (go_at_call 44; refine HL.mono ?_; rintro e w1 ⟨rfl, rfl⟩)
    go_ret
    exact ⟨by go_num, rfl⟩
theorem follows_any (f : Int) (h : CArg w l A ad m c) (hb : -1 ≤ lastF l ∧ lastF l < 281474976710656) : Calls Try.prog 54 #[.int .i64 f, .slice ad m c] w fun e w' => e = .returned (.bool (decide (followsP f l))) ∧ w' = w := by
  have hl := h.len
  have hm : m ≤ 9223372036854775807 := by have := h.cap; have := h.room; unfold maxLen at this; omega
  have HL := lastFirst_any h
  have HF := farthest_any h hb
  by_cases h0 : m = 0
  · have e : decide (followsP f l) = true := by simp [followsP, hl, h0]
    rw [e]
    subst h0
    go_enter Try.func54, Try.ntmps54
    go_wp2_with fail
    go_ret
    exact ⟨rfl, rfl⟩
  · have hq : ((m : Int) == 0) = false := by simp; omega
    rw [follows_dec (by rw [hl]; exact h0)]
    clear h hl
    generalize lastF l = x at *
    generalize farF l = y at *
    by_cases h1 : x ≤ f
    · go_enter Try.func54, Try.ntmps54
      go_wp2_with first | (go_at_call 44; refine HL.mono ?_; rintro e w1 ⟨rfl, rfl⟩) | (go_at_call 45; refine HF.mono ?_; rintro e w1 ⟨rfl, rfl⟩)
      go_ret
      exact ⟨by simp [h1], rfl⟩
    · rw [show decide (x ≤ f) = false from decide_eq_false h1]
      go_enter Try.func54, Try.ntmps54
      go_wp2_with (go_at_call 44; refine HL.mono ?_; rintro e w1 ⟨rfl, rfl⟩)
      go_ret
      exact ⟨rfl, rfl⟩
end Go.Proofs.Ythadagpfmacemaa
