/- P103, Put, as a function over plain numbers. -/
import Derived.Test.YtiiepmljcjbflaaGreatGetTextN
namespace Go.Proofs.YtiiepmljcjbflaaGreat
open Go.RowKit

/-- P103, Put: the error's number and the bytes. -/
def putN (n size : Int) : Int × List Nat :=
  if 1 ≤ size ∧ size ≤ 6 then (if 0 ≤ n ∧ n < 2 ^ (8 * size.toNat) then (0, spellN n.toNat size.toNat) else (11, [])) else (1, [])
theorem pow_size (size : Nat) (h6 : size ≤ 6) : ∃ p : Nat, wrap64 (2 ^ (8 * size)) = (p : Int) ∧ p ≤ 281474976710656 ∧ p = 2 ^ (8 * size) := by
  have h : (2 : Nat) ^ (8 * size) ≤ 2 ^ 48 := Nat.pow_le_pow_right (by omega) (by omega)
  have e : ((2 ^ (8 * size) : Nat) : Int) = (2 : Int) ^ (8 * size) := by rw [Int.natCast_pow]; rfl
  refine ⟨2 ^ (8 * size), ?_, h, rfl⟩
  rw [← e]
  generalize (2 : Nat) ^ (8 * size) = q at *
  have : (q : Int) ≤ 281474976710656 := by omega
  simp [wrap64]; omega
theorem putN_no (n size : Int) (h : ¬ (1 ≤ size ∧ size ≤ 6)) : putN n size = (1, []) := by unfold putN; rw [if_neg h]
theorem putN_range (n : Int) (size : Nat) (h1 : 1 ≤ size) (h6 : size ≤ 6) (h : ¬ (0 ≤ n ∧ n < 2 ^ (8 * size))) : putN n size = (11, []) := by
  unfold putN; rw [if_pos (by omega), Int.toNat_natCast, if_neg h]
theorem putN_ok (n size : Nat) (h1 : 1 ≤ size) (h6 : size ≤ 6) (h : n < 2 ^ (8 * size)) : putN n size = (0, spellN n size) := by
  have e : ((2 ^ (8 * size) : Nat) : Int) = (2 : Int) ^ (8 * size) := by rw [Int.natCast_pow]; rfl
  unfold putN; rw [if_pos (by omega), Int.toNat_natCast, Int.toNat_natCast, if_pos ⟨by omega, by rw [← e]; omega⟩]
end Go.Proofs.YtiiepmljcjbflaaGreat
