/- One block that is written again and again, and what a crash leaves of it: plain mathematics. -/
import Derived.Test.YtofpojfkooigiaaKnows3
namespace Go.Proofs.Ytofpojfkooigiaa
open Go.RowKit

/-- Three blocks; the second one has the versions vs. -/
def stC (vs : List (List Nat)) : DSt := ⟨[b0, ⟨some (fullN 99), vs⟩, b0], false, -1⟩
theorem stC_zero1 : (writeD (newD 3) 1 (fullN 99)).1 = 0 := by kernel_rfl
theorem stC_zero2 : syncD (writeD (newD 3) 1 (fullN 99)).2 = (0, stC []) := by kernel_rfl
theorem stC_write (vs : List (List Nat)) (l : List Nat) (hl : l.length = 256) : writeD (stC vs) 1 l = (0, stC (vs ++ [l])) := by
  have h := writeD_free (s := stC vs) ⟨rfl, rfl⟩ (i := 1) (by show 1 < 3; omega) hl
  exact h
theorem stC_few (vs : List (List Nat)) (h : vs.length ≤ 1073741824) : (stC vs).few := fun x hx => by
  simp only [stC, List.mem_cons, List.not_mem_nil, or_false] at hx
  rcases hx with rfl | rfl | rfl
  · simp [b0]
  · exact h
  · simp [b0]
theorem stC_crash (vs : List (List Nat)) (h : vs ≠ []) (c : Int) : crashD (stC vs) [c] = ⟨[b0, DBlock.crash ⟨some (fullN 99), vs⟩ c, b0], false, -1⟩ := by
  unfold crashD stC
  simp only [crashBs, b0, if_pos, h, if_false, List.headD_cons, List.tail_cons]
theorem stC_read (x : DBlock) (hx : x.vs = []) : readD ⟨[b0, x, b0], false, -1⟩ 1 = (match x.dur with
    | some t => (t, 0)
    | none => ([], 22)) := by
  show (match x.now with
    | some t => (t, (0 : Int))
    | none => ([], 22)) = _
  unfold DBlock.now
  rw [if_pos hx]
theorem crash_vs (x : DBlock) (c : Int) : (x.crash c).vs = [] := by
  unfold DBlock.crash
  split
  · rfl
  · split <;> rfl
theorem choose_read (vs : List (List Nat)) (h : vs ≠ []) (c : Int) : readD (crashD (stC vs) [c]) 1 = if c = 0 then (fullN 99, 0) else if 0 < c ∧ c ≤ vs.length then (vs.getD (c.toNat - 1) [], 0) else ([], 22) := by
  rw [stC_crash vs h, stC_read _ (crash_vs _ _)]
  unfold DBlock.crash
  by_cases h0 : c = 0
  · rw [if_pos h0, if_pos h0]
  · rw [if_neg h0, if_neg h0]
    by_cases h1 : 0 < c ∧ c ≤ vs.length
    · rw [if_pos h1, if_pos h1]
    · rw [if_neg h1, if_neg h1]
/-- The versions when the first m bytes were written. -/
def fillsV (l : List Nat) (m : Nat) : List (List Nat) := (l.take m).map fullN
theorem fillsV_zero (l : List Nat) : fillsV l 0 = [] := by unfold fillsV; simp
theorem fillsV_succ (l : List Nat) (m : Nat) (h : m < l.length) : fillsV l (m + 1) = fillsV l m ++ [fullN (l.getD m 0)] := by
  unfold fillsV
  rw [take_snoc l m h, List.map_append]
  rfl
theorem fillsV_len (l : List Nat) (m : Nat) (h : m ≤ l.length) : (fillsV l m).length = m := by
  unfold fillsV
  rw [List.length_map, List.length_take]
  omega
theorem fillsV_all (l : List Nat) (k : Nat) (h : k < l.length) : (fillsV l l.length).getD k [] = fullN (l.getD k 0) := by
  unfold fillsV
  rw [List.take_length, List.getD_eq_getElem?_getD, List.getElem?_map, List.getElem?_eq_getElem h, List.getD_eq_getElem?_getD, List.getElem?_eq_getElem h]
  rfl
end Go.Proofs.Ytofpojfkooigiaa
