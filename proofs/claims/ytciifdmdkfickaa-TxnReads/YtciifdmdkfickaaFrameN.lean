/- P105, Frame, as a function over plain lists. -/
import Derived.Test.YtciifdmdkfickaaValue
import Derived.Test.YtciifdmdkfickaaCrc
namespace Go.Proofs.Ytciifdmdkfickaa
open Go.RowKit Crcm

/-- What is summed of a frame. -/
def toldN (kind : Nat) (l : List Nat) : List Nat := spellN kind 1 ++ spellN l.length 4 ++ l
/-- A frame's bytes. -/
def frameBs (kind : Nat) (l : List Nat) : List Nat := toldN kind l ++ spellN (crc (toldN kind l)) 4
/-- P105, Frame: the error's number and the bytes. -/
def frameN (kind : Int) (l : List Nat) : Int × List Nat :=
  if 0 ≤ kind ∧ kind ≤ 255 then (if l.length ≤ 65536 then (0, frameBs kind.toNat l) else (6, [])) else (1, [])
theorem toldN_length (kind : Nat) (l : List Nat) : (toldN kind l).length = 5 + l.length := by simp [toldN, spellN_length]; omega
theorem frameBs_length (kind : Nat) (l : List Nat) : (frameBs kind l).length = 9 + l.length := by simp [frameBs, toldN_length, spellN_length]; omega
theorem frameN_ok (kind : Nat) (l : List Nat) (hk : kind ≤ 255) (hl : l.length ≤ 65536) : frameN kind l = (0, frameBs kind l) := by
  unfold frameN; rw [if_pos (by omega), if_pos hl, Int.toNat_natCast]
theorem frameN_kind (kind : Int) (l : List Nat) (hk : ¬ (0 ≤ kind ∧ kind ≤ 255)) : frameN kind l = (1, []) := by unfold frameN; rw [if_neg hk]
theorem frameN_size (kind : Int) (l : List Nat) (hk : 0 ≤ kind ∧ kind ≤ 255) (hl : ¬ l.length ≤ 65536) : frameN kind l = (6, []) := by unfold frameN; rw [if_pos hk, if_neg hl]
end Go.Proofs.Ytciifdmdkfickaa
