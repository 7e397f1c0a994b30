/- What the document's own Check (package ref) answers: checkN. -/
import Derived.Test.YtmkdkclakndkpaaRefCheck
import Derived.Test.YtmkdkclakndkpaaLong
import Derived.Test.YtmkdkclakndkpaaCheckMath
namespace Go.Proofs.Ytmkdkclakndkpaa
open Go.RowKit

/-- What argOk says, as the walk asks it. -/
theorem argOk_yes (k p e s : Int) (t : Bool) (rs : List Rec) (h : argOk ⟨k, p, e, s, t, rs⟩ = true) :
    (k = 1 ∧ p = -1 ∧ e = 0 ∧ s = 0 ∧ t = false) ∨ (k = 1 ∧ 0 ≤ p ∧ p < 281474976710656 ∧ 0 ≤ e ∧ e < 2147483648) ∨ ((k = 2 ∨ k = 3) ∧ 0 ≤ p ∧ p < 281474976710656 ∧ 0 ≤ e ∧ e < 2147483648 ∧ s = 0 ∧ t = false) := by
  simp only [argOk, Bat.marker] at h
  by_cases hp : p = -1
  · subst hp
    left
    rcases (show k = 1 ∨ k = 2 ∨ k = 3 ∨ (k ≠ 1 ∧ k ≠ 2 ∧ k ≠ 3) by omega) with rfl | rfl | rfl | ⟨h1, h2, h3⟩
    · simp at h; exact ⟨rfl, rfl, h.1.1, h.1.2, h.2⟩
    · simp at h
    · simp at h
    · simp [h1, h2, h3] at h
  · right
    have hp' : (p == -1) = false := by simpa using hp
    rw [hp'] at h
    rcases (show k = 1 ∨ k = 2 ∨ k = 3 ∨ (k ≠ 1 ∧ k ≠ 2 ∧ k ≠ 3) by omega) with rfl | rfl | rfl | ⟨h1, h2, h3⟩
    · left; simp at h; exact ⟨rfl, h.1.1.1, h.1.1.2, h.1.2, h.2⟩
    · right; simp at h; exact ⟨Or.inl rfl, h.1.1.1.1, h.1.1.1.2, h.1.1.2, h.1.2, h.2.1, h.2.2⟩
    · right; simp at h; exact ⟨Or.inr rfl, h.1.1.1.1, h.1.1.1.2, h.1.1.2, h.1.2, h.2.1, h.2.2⟩
    · simp [h1, h2, h3] at h
set_option maxHeartbeats 2000000 in
theorem refCheck_many (k p e s : Int) (t : Bool) (rs : List Rec) (ad : Option Addr) (len cap : Nat) (w : World) (hl : rs.length = len) (h : argOk ⟨k, p, e, s, t, rs⟩ = true) (h2 : manyOk ⟨k, p, e, s, t, rs⟩ = false) :
    Calls Try.prog 12 #[.agg #[.int .i64 k, .int .i64 p, .int .i64 e, .int .i64 s, .bool t, .slice ad len cap]] w fun r w' => r = .returned (.int .i64 6) ∧ Below w.heap.size w w' := by
  have b0 : Below w.heap.size w (w.alloc (.cells #[.int .i64 k, .int .i64 p, .int .i64 e, .int .i64 s, .bool t, .slice ad len cap] 24)) := (Below.refl _ _).alloc (Nat.le_refl _) _
  have h3 := argOk_yes k p e s t rs h
  clear h
  simp only [manyOk, Bat.marker, hl] at h2
  rcases h3 with ⟨rfl, rfl, rfl, rfl, rfl⟩ | ⟨rfl, a1, a2, a3, a4⟩ | ⟨rfl | rfl, a1, a2, a3, a4, rfl, rfl⟩
  · have h5 : len = 0 ∨ 64 < len := by simp at h2; omega
    rcases h5 with rfl | h5
    all_goals
      go_enter Try.func12, Try.ntmps12
      go_wp2
      go_ret
      exact ⟨rfl, b0⟩
  · have h5 : len = 0 ∨ 64 < len := by simp at h2; omega
    have hp : (p == -1) = false := by simp; omega
    rcases h5 with rfl | h5
    all_goals
      go_enter Try.func12, Try.ntmps12
      go_wp2
      go_ret
      exact ⟨rfl, b0⟩
  all_goals
    have h5 : 0 < len := by simp at h2; omega
    have hp : (p == -1) = false := by simp; omega
    go_enter Try.func12, Try.ntmps12
    go_wp2
    go_ret
    exact ⟨rfl, b0⟩
end Go.Proofs.Ytmkdkclakndkpaa
