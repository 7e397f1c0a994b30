/- What the document's own Check (package ref) answers where Kind, Producer, Epoch, InTxn or a marker's Seq may not be, and where there are too many or too few Records. -/
import Derived.Test.YtmkdkclakndkpaaRefLen
namespace Go.Proofs.Ytmkdkclakndkpaa
open Go.RowKit

theorem checkN_arg (b : Bat) (h : argOk b = false) : checkN b = 1 := by unfold checkN; rw [h]; rfl
theorem checkN_many (b : Bat) (h : argOk b = true) (h2 : manyOk b = false) : checkN b = 6 := by unfold checkN; rw [h, h2]; rfl
/-- What may not be in a batch, in the order in which it is asked. -/
theorem argOk_no (k p e s : Int) (t : Bool) (rs : List Rec) (h : argOk ⟨k, p, e, s, t, rs⟩ = false) :
    (k ≠ 1 ∧ k ≠ 2 ∧ k ≠ 3) ∨ (p = -1 ∧ (k = 2 ∨ k = 3 ∨ (k = 1 ∧ (e ≠ 0 ∨ (e = 0 ∧ s ≠ 0) ∨ (e = 0 ∧ s = 0 ∧ t = true))))) ∨
      (p ≠ -1 ∧ (k = 1 ∨ k = 2 ∨ k = 3) ∧ (p < 0 ∨ (0 ≤ p ∧ 281474976710656 ≤ p) ∨ (0 ≤ p ∧ p < 281474976710656 ∧ e < 0) ∨ (0 ≤ p ∧ p < 281474976710656 ∧ 0 ≤ e ∧ 2147483648 ≤ e) ∨
        (0 ≤ p ∧ p < 281474976710656 ∧ 0 ≤ e ∧ e < 2147483648 ∧ k ≠ 1 ∧ (s ≠ 0 ∨ (s = 0 ∧ t = true))))) := by
  by_cases hk : k = 1 ∨ k = 2 ∨ k = 3
  · right
    by_cases hp : p = -1
    · left
      refine ⟨hp, ?_⟩
      rcases hk with rfl | rfl | rfl
      · right; right
        refine ⟨rfl, ?_⟩
        by_cases h1 : e = 0
        · by_cases h2 : s = 0
          · cases t with
            | true => right; right; exact ⟨h1, h2, rfl⟩
            | false => simp [argOk, Bat.marker, hp, h1, h2] at h
          · right; left; exact ⟨h1, h2⟩
        · left; exact h1
      · left; rfl
      · right; left; rfl
    · right
      refine ⟨hp, hk, ?_⟩
      by_cases h1 : 0 ≤ p
      · by_cases h2 : p < 281474976710656
        · by_cases h3 : 0 ≤ e
          · by_cases h4 : e < 2147483648
            · right; right; right; right
              refine ⟨h1, h2, h3, h4, ?_⟩
              by_cases h5 : k = 1
              · subst h5; simp [argOk, Bat.marker, hp, h1, h2, h3, h4] at h
              · refine ⟨h5, ?_⟩
                by_cases h6 : s = 0
                · right
                  refine ⟨h6, ?_⟩
                  cases t with
                  | true => rfl
                  | false => rcases hk with rfl | rfl | rfl <;> simp [argOk, Bat.marker, hp, h1, h2, h3, h4, h6] at h
                · left; exact h6
            · right; right; right; left; exact ⟨h1, h2, h3, by omega⟩
          · right; right; left; exact ⟨h1, h2, by omega⟩
        · right; left; exact ⟨h1, by omega⟩
      · left; omega
  · left; omega

set_option maxHeartbeats 4000000 in
theorem refCheck_arg (k p e s : Int) (t : Bool) (rs : List Rec) (ad : Option Addr) (len cap : Nat) (w : World) (h : argOk ⟨k, p, e, s, t, rs⟩ = false) :
    Calls Try.prog 12 #[.agg #[.int .i64 k, .int .i64 p, .int .i64 e, .int .i64 s, .bool t, .slice ad len cap]] w fun r w' => r = .returned (.int .i64 1) ∧ Below w.heap.size w w' := by
  have b0 : Below w.heap.size w (w.alloc (.cells #[.int .i64 k, .int .i64 p, .int .i64 e, .int .i64 s, .bool t, .slice ad len cap] 24)) := (Below.refl _ _).alloc (Nat.le_refl _) _
  rcases argOk_no k p e s t rs h with ⟨h1, h2, h3⟩ | ⟨rfl, h4⟩ | ⟨h1, h2, h4⟩
  · clear h
    have hm : (k == 2 || k == 3) = false := by simp [h2, h3]
    have hk : (k == 1) = false := by simp [h1]
    go_enter Try.func12, Try.ntmps12
    go_wp2
    go_ret
    exact ⟨rfl, b0⟩
  · clear h
    rcases h4 with rfl | rfl | ⟨rfl, h4 | ⟨rfl, h4⟩ | ⟨rfl, rfl, rfl⟩⟩
    all_goals
      go_enter Try.func12, Try.ntmps12
      go_wp2
      go_ret
      exact ⟨rfl, b0⟩
  · clear h
    have hp : (p == -1) = false := by simp [h1]
    rcases h4 with h4 | ⟨h4, h5⟩ | ⟨h4, h5, h6⟩ | ⟨h4, h5, h6, h7⟩ | ⟨h4, h5, h6, h7, h8, h9 | ⟨rfl, rfl⟩⟩
    all_goals rcases h2 with rfl | rfl | rfl
    all_goals first
      | exact absurd rfl h8
      | (go_enter Try.func12, Try.ntmps12
         go_wp2
         go_ret
         exact ⟨rfl, b0⟩)
end Go.Proofs.Ytmkdkclakndkpaa
