/- All bytes of the first parts of a row of them. No function of the program is named here. -/
import Derived.Test.YtciifdmdkfickaaBase
namespace Go.Proofs.Ytciifdmdkfickaa
open Go.RowKit

/-- All bytes of the first k parts. -/
def allN (ps : List Part) (k : Nat) : List Nat := ((ps.take k).map (·.l)).flatten
theorem allN_succ (ps : List Part) (k : Nat) (p : Part) (h : ps[k]? = some p) : allN ps (k + 1) = allN ps k ++ p.l := by
  unfold allN
  obtain ⟨hk, e⟩ := List.getElem?_eq_some_iff.1 h
  rw [List.take_succ_eq_append_getElem hk, e]
  simp
theorem allN_le (ps : List Part) (k : Nat) : (allN ps k).length ≤ (allN ps ps.length).length := by
  have e : allN ps ps.length = allN ps k ++ ((ps.drop k).map (·.l)).flatten := by
    unfold allN
    rw [List.take_length, ← List.flatten_append, ← List.map_append, List.take_append_drop]
  rw [e]; simp
theorem allN_lt (w : World) (ps : List Part) (h : ∀ (i : Nat) (p : Part), ps[i]? = some p → p.ok w) (k : Nat) : ∀ x ∈ allN ps k, x < 256 := by
  intro x hx
  unfold allN at hx
  rw [List.mem_flatten] at hx
  obtain ⟨l, hl, hx⟩ := hx
  rw [List.mem_map] at hl
  obtain ⟨p, hp, rfl⟩ := hl
  obtain ⟨i, hi, e⟩ := List.getElem_of_mem (List.mem_of_mem_take hp)
  exact (h i p (by rw [List.getElem?_eq_getElem hi, e])).2.2.1 x hx
end Go.Proofs.Ytciifdmdkfickaa
