/- Plain mathematics: a number as its bytes, the lowest first; there and back. -/
import Derived.Test.YtciifdmdkfickaaBase
namespace Go.Proofs.Ytciifdmdkfickaa
open Go.RowKit

/-- The bytes of n, the lowest first. -/
def spellN (n : Nat) : Nat → List Nat
  | 0 => []
  | k + 1 => spellN n k ++ [n / 2 ^ (8 * k) % 256]
theorem spellN_length (n k : Nat) : (spellN n k).length = k := by
  induction k with
  | zero => rfl
  | succ k ih => simp [spellN, ih]
theorem spellN_lt (n k : Nat) : ∀ x ∈ spellN n k, x < 256 := by
  induction k with
  | zero => intro x hx; simp [spellN] at hx
  | succ k ih =>
    intro x hx
    simp only [spellN, List.mem_append, List.mem_singleton] at hx
    rcases hx with h | h
    · exact ih x h
    · subst h; exact Nat.mod_lt _ (by omega)
theorem spell_one (k : Nat) (h : k ≤ 255) : spellN k 1 = [k] := by
  simp [spellN]; omega
/-- The number that some bytes tell, the lowest first. -/
def valN : List Nat → Nat
  | [] => 0
  | x :: l => x + 256 * valN l
theorem pow8 (k : Nat) : 2 ^ (8 * (k + 1)) = 256 * 2 ^ (8 * k) := by
  rw [show 8 * (k + 1) = 8 * k + 8 by omega, Nat.pow_add]; omega
theorem valN_snoc (l : List Nat) (x : Nat) : valN (l ++ [x]) = valN l + x * 2 ^ (8 * l.length) := by
  induction l with
  | nil => simp [valN]
  | cons y l ih =>
    rw [List.cons_append, valN, ih, valN, List.length_cons, pow8]
    rw [Nat.mul_add, Nat.add_assoc]
    congr 2
    rw [← Nat.mul_assoc, Nat.mul_comm 256 x, Nat.mul_assoc]
theorem valN_lt (l : List Nat) (h : ∀ x ∈ l, x < 256) : valN l < 2 ^ (8 * l.length) := by
  induction l with
  | nil => simp [valN]
  | cons y l ih =>
    have h1 := ih (fun x hx => h x (by simp [hx]))
    have h2 := h y (by simp)
    rw [valN, List.length_cons, pow8]
    omega
theorem pow8_le (k : Nat) (h : k ≤ 6) : 2 ^ (8 * k) ≤ 281474976710656 := Nat.pow_le_pow_right (n := 2) (j := 48) (by omega) (by omega)
theorem valN_bound (l : List Nat) (h : ∀ x ∈ l, x < 256) (h6 : l.length ≤ 6) : valN l < 281474976710656 := Nat.lt_of_lt_of_le (valN_lt l h) (pow8_le _ h6)
/-- There and back. -/
theorem valN_spellN (n k : Nat) : valN (spellN n k) = n % 2 ^ (8 * k) := by
  induction k with
  | zero => simp [spellN, valN, Nat.mod_one]
  | succ k ih =>
    rw [spellN, valN_snoc, ih, spellN_length, pow8, Nat.mul_comm 256, Nat.mod_mul, Nat.mul_comm (2 ^ (8 * k)) (_ % 256)]
theorem i64_or_nat (a b : Nat) (ha : a < 9223372036854775808) (hb : b < 9223372036854775808) : bits .or .i64 (a : Int) (b : Int) = ((a ||| b : Nat) : Int) := by
  have hx : a ||| b < 2 ^ 63 := Nat.or_lt_two_pow (by omega) (by omega)
  have h1 : (BitVec.ofInt 64 (a : Int)).toNat = a := by
    rw [BitVec.ofInt_natCast, BitVec.toNat_ofNat]; exact Nat.mod_eq_of_lt (by omega)
  have h2 : (BitVec.ofInt 64 (b : Int)).toNat = b := by
    rw [BitVec.ofInt_natCast, BitVec.toNat_ofNat]; exact Nat.mod_eq_of_lt (by omega)
  show IntKind.i64.wrap ((BitVec.ofInt 64 (a : Int) ||| BitVec.ofInt 64 (b : Int)).toNat : Int) = _
  rw [BitVec.toNat_or, h1, h2]
  simp [IntKind.wrap, IntKind.bits, IntKind.signed]
  omega
/-- One byte more. -/
theorem or_step (l : List Nat) (x : Nat) (h : ∀ y ∈ l, y < 256) (hx : x < 256) (h6 : l.length < 6) :
    bits .or .i64 ((valN l : Nat) : Int) ((x * 2 ^ (8 * l.length) : Nat) : Int) = ((valN (l ++ [x]) : Nat) : Int) := by
  have hv := valN_lt l h
  have hp := pow8_le (l.length + 1) (by omega)
  rw [pow8] at hp
  have hm : x * 2 ^ (8 * l.length) < 256 * 2 ^ (8 * l.length) := Nat.mul_lt_mul_of_pos_right hx (Nat.pow_pos (by omega))
  rw [i64_or_nat _ _ (by omega) (by omega), valN_snoc]
  rw [Nat.or_comm, nat_join (8 * l.length) (x * 2 ^ (8 * l.length)) (valN l) (by simp) hv, Nat.add_comm]
theorem shl_eq (x k : Nat) (hx : x < 256) (h6 : k < 6) : wrap64 ((x : Int) * 2 ^ (8 * k)) = ((x * 2 ^ (8 * k) : Nat) : Int) := by
  have hp := pow8_le (k + 1) (by omega)
  rw [pow8] at hp
  have hm : x * 2 ^ (8 * k) < 256 * 2 ^ (8 * k) := Nat.mul_lt_mul_of_pos_right hx (Nat.pow_pos (by omega))
  have e : (x : Int) * 2 ^ (8 * k) = ((x * 2 ^ (8 * k) : Nat) : Int) := by rw [Int.natCast_mul, Int.natCast_pow]; rfl
  rw [e]
  generalize x * 2 ^ (8 * k) = q at *
  simp [wrap64]; omega
theorem add_step (l : List Nat) (x k : Nat) (h : ∀ y ∈ l, y < 256) (hx : x < 256) (hk : l.length = k) (h6 : k < 6) :
    wrap64 (((valN l : Nat) : Int) + wrap64 ((x : Int) * 2 ^ (8 * k))) = ((valN (l ++ [x]) : Nat) : Int) := by
  rw [shl_eq x k hx h6, valN_snoc, hk]
  have hv := valN_bound l h (by omega)
  have hp := pow8_le (k + 1) (by omega)
  rw [pow8] at hp
  have hm : x * 2 ^ (8 * k) < 256 * 2 ^ (8 * k) := Nat.mul_lt_mul_of_pos_right hx (Nat.pow_pos (by omega))
  generalize x * 2 ^ (8 * k) = q at *
  simp [wrap64]; omega
theorem orw_step (l : List Nat) (x k : Nat) (h : ∀ y ∈ l, y < 256) (hx : x < 256) (hk : l.length = k) (h6 : k < 6) :
    bits .or .i64 ((valN l : Nat) : Int) (wrap64 ((x : Int) * 2 ^ (8 * k))) = ((valN (l ++ [x]) : Nat) : Int) := by
  rw [shl_eq x k hx h6]
  subst hk
  exact or_step l x h hx h6
end Go.Proofs.Ytciifdmdkfickaa
