/- A chain as bytes, as plain data: what is read out of a list of bytes. -/
import Derived.Test.YthadagpfmacemaaCTrim
import Derived.Test.YthadagpfmacemaaNumber
namespace Go.Proofs.Ythadagpfmacemaa
open Go.RowKit

/-- The number of s bytes at p. -/
def nAt (l : List Nat) (p s : Nat) : Nat := valN ((l.drop p).take s)
/-- k nodes from p on. -/
def nodesAt (l : List Nat) (p k : Nat) : List Int := (List.range k).map (fun i => ((nAt l (p + i) 1 : Nat) : Int))
/-- The part at p, and where it ends. -/
def partAt (l : List Nat) (p : Nat) : Pt := ⟨(nAt l p 6 : Nat), (nAt l (p + 6) 6 : Nat), nodesAt l (p + 13) (nAt l (p + 12) 1)⟩
def partEnd (l : List Nat) (p : Nat) : Nat := p + 13 + nAt l (p + 12) 1
/-- Where the n-th part begins. -/
def posAt (l : List Nat) : Nat → Nat
  | 0 => 8
  | n + 1 => partEnd l (posAt l n)
def partsAt (l : List Nat) (n : Nat) : List Pt := (List.range n).map (fun i => partAt l (posAt l i))
def cntAt (l : List Nat) : Nat := nAt l 7 1
/-- The chain that the bytes are. -/
def readC (l : List Nat) : Ch := ⟨(nAt l 0 1 : Nat), (nAt l 1 6 : Nat), partsAt l (cntAt l)⟩
/-- Decode's error, and its chain. -/
def decE (l : List Nat) (n : Int) : Int := if n ≤ 256 then (if posAt l (cntAt l) = l.length ∧ mayC (readC l).owner (readC l).trim (readC l).parts n then 0 else 22) else 6
def decC (l : List Nat) (n : Int) : Ch := if decE l n = 0 then readC l else ⟨0, 0, []⟩
theorem nodesAt_succ (l : List Nat) (p k : Nat) : nodesAt l p (k + 1) = nodesAt l p k ++ [((nAt l (p + k) 1 : Nat) : Int)] := by unfold nodesAt; rw [List.range_succ, List.map_append]; rfl
theorem partsAt_succ (l : List Nat) (n : Nat) : partsAt l (n + 1) = partsAt l n ++ [partAt l (posAt l n)] := by unfold partsAt; rw [List.range_succ, List.map_append]; rfl
theorem nodesAt_length (l : List Nat) (p k : Nat) : (nodesAt l p k).length = k := by simp [nodesAt]
theorem partsAt_length (l : List Nat) (n : Nat) : (partsAt l n).length = n := by simp [partsAt]
theorem posAt_ge (l : List Nat) (n : Nat) : 8 ≤ posAt l n := by
  induction n with
  | zero => exact Nat.le_refl _
  | succ n ih => show 8 ≤ partEnd l (posAt l n); unfold partEnd; omega
theorem posAt_mono (l : List Nat) {i n : Nat} (h : i ≤ n) : posAt l i ≤ posAt l n := by
  induction n with
  | zero => obtain rfl : i = 0 := by omega
            exact Nat.le_refl _
  | succ n ih =>
    by_cases e : i = n + 1
    · rw [e]; exact Nat.le_refl _
    · have := ih (by omega)
      show posAt l i ≤ partEnd l (posAt l n)
      unfold partEnd; omega
theorem nAt_lt (l : List Nat) (h : ∀ x ∈ l, x < 256) (p s : Nat) (h6 : s ≤ 6) : nAt l p s < 281474976710656 := by
  unfold nAt
  exact valN_bound _ (fun x hx => h x (List.mem_of_mem_drop (List.mem_of_mem_take hx))) (by rw [List.length_take]; omega)
theorem nAt_one (l : List Nat) (h : ∀ x ∈ l, x < 256) (p : Nat) : nAt l p 1 < 256 := by
  unfold nAt
  have := valN_lt ((l.drop p).take 1) (fun x hx => h x (List.mem_of_mem_drop (List.mem_of_mem_take hx)))
  have h2 : ((l.drop p).take 1).length ≤ 1 := by rw [List.length_take]; omega
  refine Nat.lt_of_lt_of_le this ?_
  exact Nat.le_trans (Nat.pow_le_pow_right (by decide) (show 8 * ((l.drop p).take 1).length ≤ 8 * 1 by omega)) (by decide)
theorem decE_6 {l : List Nat} {n : Int} (h : ¬ n ≤ 256) : decE l n = 6 := by unfold decE; rw [if_neg h]
theorem decE_0 {l : List Nat} {n : Int} (h : n ≤ 256) (h2 : posAt l (cntAt l) = l.length ∧ mayC (readC l).owner (readC l).trim (readC l).parts n) : decE l n = 0 := by unfold decE; rw [if_pos h, if_pos h2]
theorem decE_22 {l : List Nat} {n : Int} (h : n ≤ 256) (h2 : ¬ (posAt l (cntAt l) = l.length ∧ mayC (readC l).owner (readC l).trim (readC l).parts n)) : decE l n = 22 := by unfold decE; rw [if_pos h, if_neg h2]
theorem decC_ok {l : List Nat} {n : Int} (h : decE l n = 0) : decC l n = readC l := by unfold decC; rw [if_pos h]
theorem decC_no {l : List Nat} {n : Int} (h : decE l n ≠ 0) : decC l n = ⟨0, 0, []⟩ := by unfold decC; rw [if_neg h]
theorem getN_in (l : List Nat) (p s : Nat) (h : 1 ≤ s ∧ s ≤ 6) (h2 : p + s ≤ l.length) : getN l p s = (((nAt l p s : Nat) : Int), ((p + s : Nat) : Int), 0) := getN_ok l p s h h2
end Go.Proofs.Ythadagpfmacemaa
