/- Plain mathematics: a number as its bytes, the lowest first; there and back. -/
import Derived.Test.YtdifchlbnilenaaGreatFoot
namespace Go.Proofs.YtdifchlbnilenaaGreat
open Go.RowKit

/-- The bytes of n, the lowest first. -/
def spellN (n : Nat) : Nat → List Nat
  | 0 => []
  | k + 1 => spellN n k ++ [n / 2 ^ (8 * k) % 256]
theorem spellN_length (n k : Nat) : (spellN n k).length = k := by
  induction k with
  | zero => rfl
  | succ k ih => simp [spellN, ih]
theorem spellN_lt (n k : Nat) : ∀ x ∈ spellN n k, x < 256 := by
  induction k with
  | zero => intro x hx; simp [spellN] at hx
  | succ k ih =>
    intro x hx
    simp only [spellN, List.mem_append, List.mem_singleton] at hx
    rcases hx with h | h
    · exact ih x h
    · subst h; exact Nat.mod_lt _ (by omega)
theorem spell_one (k : Nat) (h : k ≤ 255) : spellN k 1 = [k] := by
  simp [spellN]; omega
/-- The number that some bytes tell, the lowest first. -/
def valN : List Nat → Nat
  | [] => 0
  | x :: l => x + 256 * valN l
theorem pow8 (k : Nat) : 2 ^ (8 * (k + 1)) = 256 * 2 ^ (8 * k) := by
  rw [show 8 * (k + 1) = 8 * k + 8 by omega, Nat.pow_add]; omega
theorem valN_snoc (l : List Nat) (x : Nat) : valN (l ++ [x]) = valN l + x * 2 ^ (8 * l.length) := by
  induction l with
  | nil => simp [valN]
  | cons y l ih =>
    rw [List.cons_append, valN, ih, valN, List.length_cons, pow8]
    rw [Nat.mul_add, Nat.add_assoc]
    congr 2
    rw [← Nat.mul_assoc, Nat.mul_comm 256 x, Nat.mul_assoc]
theorem valN_lt (l : List Nat) (h : ∀ x ∈ l, x < 256) : valN l < 2 ^ (8 * l.length) := by
  induction l with
  | nil => simp [valN]
  | cons y l ih =>
    have h1 := ih (fun x hx => h x (by simp [hx]))
    have h2 := h y (by simp)
    rw [valN, List.length_cons, pow8]
    omega
theorem pow8_le (k : Nat) (h : k ≤ 6) : 2 ^ (8 * k) ≤ 281474976710656 := Nat.pow_le_pow_right (n := 2) (j := 48) (by omega) (by omega)
theorem valN_bound (l : List Nat) (h : ∀ x ∈ l, x < 256) (h6 : l.length ≤ 6) : valN l < 281474976710656 := Nat.lt_of_lt_of_le (valN_lt l h) (pow8_le _ h6)
/-- There and back. -/
theorem valN_spellN (n k : Nat) : valN (spellN n k) = n % 2 ^ (8 * k) := by
  induction k with
  | zero => simp [spellN, valN, Nat.mod_one]
  | succ k ih =>
    rw [spellN, valN_snoc, ih, spellN_length, pow8, Nat.mul_comm 256, Nat.mod_mul, Nat.mul_comm (2 ^ (8 * k)) (_ % 256)]
theorem i64_or_nat (a b : Nat) (ha : a < 9223372036854775808) (hb : b < 9223372036854775808) : bits .or .i64 (a : Int) (b : Int) = ((a ||| b : Nat) : Int) := by
  have hx : a ||| b < 2 ^ 63 := Nat.or_lt_two_pow (by omega) (by omega)
  have h1 : (BitVec.ofInt 64 (a : Int)).toNat = a := by
    rw [BitVec.ofInt_natCast, BitVec.toNat_ofNat]; exact Nat.mod_eq_of_lt (by omega)
  have h2 : (BitVec.ofInt 64 (b : Int)).toNat = b := by
    rw [BitVec.ofInt_natCast, BitVec.toNat_ofNat]; exact Nat.mod_eq_of_lt (by omega)
  show IntKind.i64.wrap ((BitVec.ofInt 64 (a : Int) ||| BitVec.ofInt 64 (b : Int)).toNat : Int) = _
  rw [BitVec.toNat_or, h1, h2]
  simp [IntKind.wrap, IntKind.bits, IntKind.signed]
  omega
/-- One byte more. -/
theorem or_step (l : List Nat) (x : Nat) (h : ∀ y ∈ l, y < 256) (hx : x < 256) (h6 : l.length < 6) :
    bits .or .i64 ((valN l : Nat) : Int) ((x * 2 ^ (8 * l.length) : Nat) : Int) = ((valN (l ++ [x]) : Nat) : Int) := by
  have hv := valN_lt l h
  have hp := pow8_le (l.length + 1) (by omega)
  rw [pow8] at hp
  have hm : x * 2 ^ (8 * l.length) < 256 * 2 ^ (8 * l.length) := Nat.mul_lt_mul_of_pos_right hx (Nat.pow_pos (by omega))
  rw [i64_or_nat _ _ (by omega) (by omega), valN_snoc]
  rw [Nat.or_comm, nat_join (8 * l.length) (x * 2 ^ (8 * l.length)) (valN l) (by simp) hv, Nat.add_comm]
theorem shl_eq (x k : Nat) (hx : x < 256) (h6 : k < 6) : wrap64 ((x : Int) * 2 ^ (8 * k)) = ((x * 2 ^ (8 * k) : Nat) : Int) := by
  have hp := pow8_le (k + 1) (by omega)
  rw [pow8] at hp
  have hm : x * 2 ^ (8 * k) < 256 * 2 ^ (8 * k) := Nat.mul_lt_mul_of_pos_right hx (Nat.pow_pos (by omega))
  have e : (x : Int) * 2 ^ (8 * k) = ((x * 2 ^ (8 * k) : Nat) : Int) := by rw [Int.natCast_mul, Int.natCast_pow]; rfl
  rw [e]
  generalize x * 2 ^ (8 * k) = q at *
  simp [wrap64]; omega
theorem add_step (l : List Nat) (x k : Nat) (h : ∀ y ∈ l, y < 256) (hx : x < 256) (hk : l.length = k) (h6 : k < 6) :
    wrap64 (((valN l : Nat) : Int) + wrap64 ((x : Int) * 2 ^ (8 * k))) = ((valN (l ++ [x]) : Nat) : Int) := by
  rw [shl_eq x k hx h6, valN_snoc, hk]
  have hv := valN_bound l h (by omega)
  have hp := pow8_le (k + 1) (by omega)
  rw [pow8] at hp
  have hm : x * 2 ^ (8 * k) < 256 * 2 ^ (8 * k) := Nat.mul_lt_mul_of_pos_right hx (Nat.pow_pos (by omega))
  generalize x * 2 ^ (8 * k) = q at *
  simp [wrap64]; omega
theorem orw_step (l : List Nat) (x k : Nat) (h : ∀ y ∈ l, y < 256) (hx : x < 256) (hk : l.length = k) (h6 : k < 6) :
    bits .or .i64 ((valN l : Nat) : Int) (wrap64 ((x : Int) * 2 ^ (8 * k))) = ((valN (l ++ [x]) : Nat) : Int) := by
  rw [shl_eq x k hx h6]
  subst hk
  exact or_step l x h hx h6
end Go.Proofs.YtdifchlbnilenaaGreat

/- P103, Get, as a function over plain lists: the number, the place behind it, the error's number. -/
namespace Go.Proofs.YtdifchlbnilenaaGreat
open Go.RowKit

/-- P103, Get. -/
def getN (l : List Nat) (p size : Int) : Int × Int × Int :=
  if 1 ≤ size ∧ size ≤ 6 ∧ 0 ≤ p then
    (if p + size ≤ l.length then (((valN ((l.drop p.toNat).take size.toNat) : Nat) : Int), p + size, 0) else (0, 0, 20))
  else (0, 0, 1)
theorem getN_arg (l : List Nat) (p size : Int) (h : ¬ (1 ≤ size ∧ size ≤ 6 ∧ 0 ≤ p)) : getN l p size = (0, 0, 1) := by unfold getN; rw [if_neg h]
theorem getN_end (l : List Nat) (p size : Int) (h : 1 ≤ size ∧ size ≤ 6 ∧ 0 ≤ p) (h2 : ¬ p + size ≤ l.length) : getN l p size = (0, 0, 20) := by unfold getN; rw [if_pos h, if_neg h2]
theorem getN_ok (l : List Nat) (p s : Nat) (h : 1 ≤ s ∧ s ≤ 6) (h2 : p + s ≤ l.length) : getN l p s = (((valN ((l.drop p).take s) : Nat) : Int), ((p + s : Nat) : Int), 0) := by
  unfold getN; rw [if_pos (by omega), if_pos (by omega), Int.toNat_natCast, Int.toNat_natCast, Int.natCast_add]
end Go.Proofs.YtdifchlbnilenaaGreat

/- P104, GetText, as a function over plain lists. -/
namespace Go.Proofs.YtdifchlbnilenaaGreat
open Go.RowKit

/-- How long the text at p is, by its two bytes. -/
def lenAt (l : List Nat) (p : Nat) : Nat := valN ((l.drop p).take 2)
/-- P104, GetText: the text, the place behind it, the error's number. -/
def getTextN (l : List Nat) (p : Int) : ByteArray × Int × Int :=
  if 0 ≤ p then
    (if p.toNat + 2 + lenAt l p.toNat ≤ l.length then (bstr ((l.drop (p.toNat + 2)).take (lenAt l p.toNat)), ((p.toNat + 2 + lenAt l p.toNat : Nat) : Int), 0) else (bstr [], 0, 20))
  else (bstr [], 0, 1)
theorem getTextN_arg (l : List Nat) (p : Int) (h : ¬ 0 ≤ p) : getTextN l p = (bstr [], 0, 1) := by unfold getTextN; rw [if_neg h]
theorem getTextN_end (l : List Nat) (p : Nat) (h2 : ¬ p + 2 + lenAt l p ≤ l.length) : getTextN l p = (bstr [], 0, 20) := by
  unfold getTextN; rw [if_pos (by omega), Int.toNat_natCast, if_neg h2]
theorem getTextN_ok (l : List Nat) (p : Nat) (h2 : p + 2 + lenAt l p ≤ l.length) : getTextN l p = (bstr ((l.drop (p + 2)).take (lenAt l p)), ((p + 2 + lenAt l p : Nat) : Int), 0) := by
  unfold getTextN; rw [if_pos (by omega), Int.toNat_natCast, if_pos h2]
theorem lenAt_lt (l : List Nat) (p : Nat) (h : ∀ x ∈ l, x < 256) : lenAt l p < 65536 := by
  have h1 := valN_lt ((l.drop p).take 2) (drop_take_lt h p 2)
  have h2 : ((l.drop p).take 2).length ≤ 2 := List.length_take_le _ _
  have h3 : 2 ^ (8 * ((l.drop p).take 2).length) ≤ 2 ^ 16 := Nat.pow_le_pow_right (by omega) (by omega)
  unfold lenAt
  omega
theorem bstr_nil : bstr [] = ⟨#[]⟩ := rfl
end Go.Proofs.YtdifchlbnilenaaGreat
