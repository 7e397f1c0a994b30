/- P104, GetText, as a function over plain lists. -/
import Derived.Test.YtciifdmdkfickaaGetN
namespace Go.Proofs.Ytciifdmdkfickaa
open Go.RowKit

/-- How long the text at p is, by its two bytes. -/
def lenAt (l : List Nat) (p : Nat) : Nat := valN ((l.drop p).take 2)
/-- P104, GetText: the text, the place behind it, the error's number. -/
def getTextN (l : List Nat) (p : Int) : ByteArray × Int × Int :=
  if 0 ≤ p then
    (if p.toNat + 2 + lenAt l p.toNat ≤ l.length then (bstr ((l.drop (p.toNat + 2)).take (lenAt l p.toNat)), ((p.toNat + 2 + lenAt l p.toNat : Nat) : Int), 0) else (bstr [], 0, 20))
  else (bstr [], 0, 1)
theorem getTextN_arg (l : List Nat) (p : Int) (h : ¬ 0 ≤ p) : getTextN l p = (bstr [], 0, 1) := by unfold getTextN; rw [if_neg h]
theorem getTextN_end (l : List Nat) (p : Nat) (h2 : ¬ p + 2 + lenAt l p ≤ l.length) : getTextN l p = (bstr [], 0, 20) := by
  unfold getTextN; rw [if_pos (by omega), Int.toNat_natCast, if_neg h2]
theorem getTextN_ok (l : List Nat) (p : Nat) (h2 : p + 2 + lenAt l p ≤ l.length) : getTextN l p = (bstr ((l.drop (p + 2)).take (lenAt l p)), ((p + 2 + lenAt l p : Nat) : Int), 0) := by
  unfold getTextN; rw [if_pos (by omega), Int.toNat_natCast, if_pos h2]
theorem lenAt_lt (l : List Nat) (p : Nat) (h : ∀ x ∈ l, x < 256) : lenAt l p < 65536 := by
  have h1 := valN_lt ((l.drop p).take 2) (drop_take_lt h p 2)
  have h2 : ((l.drop p).take 2).length ≤ 2 := List.length_take_le _ _
  have h3 : 2 ^ (8 * ((l.drop p).take 2).length) ≤ 2 ^ 16 := Nat.pow_le_pow_right (by omega) (by omega)
  unfold lenAt
  omega
theorem bstr_nil : bstr [] = ⟨#[]⟩ := rfl
end Go.Proofs.Ytciifdmdkfickaa
