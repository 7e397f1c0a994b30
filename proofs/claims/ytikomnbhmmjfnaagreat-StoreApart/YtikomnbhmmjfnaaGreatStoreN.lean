/- Chapter 4's entries as bytes: an entry's text, its parts, a part as a block. -/
import Derived.Test.YtikomnbhmmjfnaaGreatJoinN
import Derived.Test.YtikomnbhmmjfnaaGreatCrc
namespace Go.Proofs.YtikomnbhmmjfnaaGreat
open Go.RowKit Crcm

/-- An entry's bytes. -/
def entryN (kind loglet pos : Nat) (data : List Nat) : List Nat := spellN kind 1 ++ spellN loglet 6 ++ spellN pos 6 ++ data
theorem entryN_length (kind loglet pos : Nat) (data : List Nat) : (entryN kind loglet pos data).length = 13 + data.length := by simp [entryN, spellN_length]; omega
/-- How many parts so many bytes stand in. -/
def partsN (n : Nat) : Nat := (n + 239) / 240
/-- A part, ahead of its sum. -/
def partBs (number k count : Nat) (piece : List Nat) : List Nat := spellN 165 1 ++ spellN number 6 ++ spellN k 2 ++ spellN count 2 ++ spellN piece.length 1 ++ piece ++ List.replicate (240 - piece.length) 0
theorem partBs_length (number k count : Nat) (piece : List Nat) (h : piece.length ≤ 240) : (partBs number k count piece).length = 252 := by simp [partBs, spellN_length]; omega
/-- A part as a block. -/
def partN (number k count : Nat) (piece : List Nat) : List Nat := partBs number k count piece ++ spellN (crc (partBs number k count piece)) 4
theorem partN_length (number k count : Nat) (piece : List Nat) (h : piece.length ≤ 240) : (partN number k count piece).length = 256 := by simp [partN, partBs_length _ _ _ _ h, spellN_length]
/-- Part k of a text. -/
def pieceN (text : List Nat) (k : Nat) : List Nat := (text.drop (k * 240)).take 240
theorem pieceN_length (text : List Nat) (k : Nat) : (pieceN text k).length ≤ 240 := by simp [pieceN]; omega
/-- The blocks of the entry of that number. -/
def blocksN (number : Nat) (text : List Nat) : List (List Nat) := (List.range (partsN text.length)).map fun k => partN number k (partsN text.length) (pieceN text k)
theorem blocksN_length (number : Nat) (text : List Nat) : (blocksN number text).length = partsN text.length := by simp [blocksN]
theorem blocksN_at (number : Nat) (text : List Nat) (k : Nat) (h : k < partsN text.length) : (blocksN number text)[k]? = some (partN number k (partsN text.length) (pieceN text k)) := by
  simp [blocksN, List.getElem?_range h]
theorem partN_lt (number k count : Nat) (piece : List Nat) (h : ∀ x ∈ piece, x < 256) : ∀ x ∈ partN number k count piece, x < 256 := by
  intro x hx
  simp only [partN, partBs, List.mem_append, List.mem_replicate] at hx
  rcases hx with (((((((hx | hx) | hx) | hx) | hx) | hx) | hx)) | hx
  · exact spellN_lt _ _ x hx
  · exact spellN_lt _ _ x hx
  · exact spellN_lt _ _ x hx
  · exact spellN_lt _ _ x hx
  · exact spellN_lt _ _ x hx
  · exact h x hx
  · omega
  · exact spellN_lt _ _ x hx
theorem pieceN_lt {text : List Nat} (h : ∀ x ∈ text, x < 256) (k : Nat) : ∀ x ∈ pieceN text k, x < 256 := fun x hx => h x (List.mem_of_mem_drop (List.mem_of_mem_take hx))
end Go.Proofs.YtikomnbhmmjfnaaGreat
