/- What comes of a batch that was read: it is written again and held against the bytes. -/
import Derived.Test.YtmkdkclakndkpaaReadN1
namespace Go.Proofs.Ytmkdkclakndkpaa
open Go.RowKit

theorem bits_two : ∀ n, n < 256 → (bits .and .i64 (n : Nat) 2 != 0) = (n / 2 % 2 == 1) := by decide +kernel
theorem bits_one : ∀ n, n < 256 → (bits .and .i64 (n : Nat) 1 == 0) = (n % 2 == 0) := by decide +kernel
/-- Decode: nothing to be read. -/
theorem decode_none {l : List Nat} (h : l.length < 18 ∨ readN1 l 18 (toldRecs l) = none) : decodeN l = (bat0, 20) := by
  rw [← decode1_eq, decode1]
  by_cases h1 : l.length < 18
  · rw [if_pos h1]
  · rw [if_neg h1, h.resolve_left h1]
theorem decode_some {l : List Nat} {rs : List Rec} {q : Nat} (h : 18 ≤ l.length) (h2 : readN1 l 18 (toldRecs l) = some (rs, q)) (hc : checkN (batOf l rs) = 0) (hw : writeN (batOf l rs) = l) : decodeN l = (batOf l rs, 0) := by
  rw [← decode1_eq, decode1, if_neg (by omega), h2]
  simp only
  rw [if_pos ⟨hc, hw⟩]
theorem decode_other {l : List Nat} {rs : List Rec} {q : Nat} (h : 18 ≤ l.length) (h2 : readN1 l 18 (toldRecs l) = some (rs, q)) (hc : ¬ (checkN (batOf l rs) = 0 ∧ writeN (batOf l rs) = l)) : decodeN l = (bat0, 22) := by
  rw [← decode1_eq, decode1, if_neg (by omega), h2]
  simp only
  rw [if_neg hc]
end Go.Proofs.Ytmkdkclakndkpaa
