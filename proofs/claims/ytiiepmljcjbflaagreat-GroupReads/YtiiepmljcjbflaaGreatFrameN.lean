/- P105, Unframe, as a function over plain lists. -/
import Derived.Test.YtiiepmljcjbflaaGreatGetTextN
import Derived.Test.YtiiepmljcjbflaaGreatCrc
namespace Go.Proofs.YtiiepmljcjbflaaGreat
open Go.RowKit Crcm

/-- The body's length that a frame at p tells. -/
def sizeAt (l : List Nat) (p : Nat) : Nat := valN ((l.drop (p + 1)).take 4)
/-- What is summed of the frame at p. -/
def toldAt (l : List Nat) (p : Nat) : List Nat := (l.drop p).take (5 + sizeAt l p)
/-- The sum that the frame at p bears. -/
def sumAt (l : List Nat) (p : Nat) : Nat := valN ((l.drop (p + 5 + sizeAt l p)).take 4)
def bodyAt (l : List Nat) (p : Nat) : List Nat := (l.drop (p + 5)).take (sizeAt l p)
def kindAt (l : List Nat) (p : Nat) : Nat := valN ((l.drop p).take 1)
/-- P105, Unframe: the error's number. -/
def unframeE (l : List Nat) (p : Nat) : Int :=
  if l.length < p + 5 then 20 else if 65536 < sizeAt l p then 22 else if l.length < p + 9 + sizeAt l p then 20 else if sumAt l p = crc (toldAt l p) then 0 else 21
/-- P105, Unframe: the kind, the body, the place behind it, the error's number. -/
def unframeN (l : List Nat) (p : Int) : Int × List Nat × Int × Int :=
  if 0 ≤ p then (if unframeE l p.toNat = 0 then (((kindAt l p.toNat : Nat) : Int), bodyAt l p.toNat, ((p.toNat + 9 + sizeAt l p.toNat : Nat) : Int), 0) else (0, [], 0, unframeE l p.toNat)) else (0, [], 0, 1)
theorem sizeAt_lt (l : List Nat) (p : Nat) (h : ∀ x ∈ l, x < 256) : sizeAt l p < 4294967296 := by
  have h1 := valN_lt ((l.drop (p + 1)).take 4) (drop_take_lt h (p + 1) 4)
  have h2 : ((l.drop (p + 1)).take 4).length ≤ 4 := List.length_take_le _ _
  have h3 : 2 ^ (8 * ((l.drop (p + 1)).take 4).length) ≤ 2 ^ 32 := Nat.pow_le_pow_right (by omega) (by omega)
  unfold sizeAt
  omega
theorem unframeE_zero {l : List Nat} {p : Nat} (h : unframeE l p = 0) : sizeAt l p ≤ 65536 ∧ p + 9 + sizeAt l p ≤ l.length ∧ sumAt l p = crc (toldAt l p) := by
  unfold unframeE at h
  by_cases h1 : l.length < p + 5
  · rw [if_pos h1] at h; omega
  · rw [if_neg h1] at h
    by_cases h2 : 65536 < sizeAt l p
    · rw [if_pos h2] at h; omega
    · rw [if_neg h2] at h
      by_cases h3 : l.length < p + 9 + sizeAt l p
      · rw [if_pos h3] at h; omega
      · rw [if_neg h3] at h
        by_cases h4 : sumAt l p = crc (toldAt l p)
        · exact ⟨by omega, by omega, h4⟩
        · rw [if_neg h4] at h; omega
theorem unframeN_arg (l : List Nat) (p : Int) (h : ¬ 0 ≤ p) : unframeN l p = (0, [], 0, 1) := by unfold unframeN; rw [if_neg h]
theorem unframeN_ok (l : List Nat) (p : Nat) (h : unframeE l p = 0) : unframeN l p = (((kindAt l p : Nat) : Int), bodyAt l p, ((p + 9 + sizeAt l p : Nat) : Int), 0) := by
  unfold unframeN; rw [if_pos (by omega), Int.toNat_natCast, if_pos h]
theorem unframeN_err (l : List Nat) (p : Nat) (h : unframeE l p ≠ 0) : unframeN l p = (0, [], 0, unframeE l p) := by
  unfold unframeN; rw [if_pos (by omega), Int.toNat_natCast, if_neg h]
theorem kindAt_eq (l : List Nat) (p : Nat) (h : p < l.length) : kindAt l p = l.getD p 0 := by
  unfold kindAt
  have e := drop_take_snoc l p 0 (by omega)
  rw [Nat.zero_add] at e
  rw [e]
  simp [valN]
end Go.Proofs.YtiiepmljcjbflaaGreat

/- P105, Frame, as a function over plain lists. -/
namespace Go.Proofs.YtiiepmljcjbflaaGreat
open Go.RowKit Crcm

/-- What is summed of a frame. -/
def toldN (kind : Nat) (l : List Nat) : List Nat := spellN kind 1 ++ spellN l.length 4 ++ l
/-- A frame's bytes. -/
def frameBs (kind : Nat) (l : List Nat) : List Nat := toldN kind l ++ spellN (crc (toldN kind l)) 4
/-- P105, Frame: the error's number and the bytes. -/
def frameN (kind : Int) (l : List Nat) : Int × List Nat :=
  if 0 ≤ kind ∧ kind ≤ 255 then (if l.length ≤ 65536 then (0, frameBs kind.toNat l) else (6, [])) else (1, [])
theorem toldN_length (kind : Nat) (l : List Nat) : (toldN kind l).length = 5 + l.length := by simp [toldN, spellN_length]; omega
theorem frameBs_length (kind : Nat) (l : List Nat) : (frameBs kind l).length = 9 + l.length := by simp [frameBs, toldN_length, spellN_length]; omega
theorem frameN_ok (kind : Nat) (l : List Nat) (hk : kind ≤ 255) (hl : l.length ≤ 65536) : frameN kind l = (0, frameBs kind l) := by
  unfold frameN; rw [if_pos (by omega), if_pos hl, Int.toNat_natCast]
theorem frameN_kind (kind : Int) (l : List Nat) (hk : ¬ (0 ≤ kind ∧ kind ≤ 255)) : frameN kind l = (1, []) := by unfold frameN; rw [if_neg hk]
theorem frameN_size (kind : Int) (l : List Nat) (hk : 0 ≤ kind ∧ kind ≤ 255) (hl : ¬ l.length ≤ 65536) : frameN kind l = (6, []) := by unfold frameN; rw [if_pos hk, if_neg hl]
end Go.Proofs.YtiiepmljcjbflaaGreat
