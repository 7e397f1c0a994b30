/- Names that may be: rising, no two alike. -/
import Derived.Test.YtakpdhmfbgfblaaARange0
namespace Go.Proofs.Ytakpdhmfbgfblaa
open Go.RowKit Go.Sort Go.Lib
variable {l : List Nm}

theorem nm_trans {a b c : Nm} (h1 : a ≤ b) (h2 : b ≤ c) : a ≤ c := List.le_trans h1 h2
theorem nm_total (a b : Nm) : a ≤ b ∨ b ≤ a := List.le_total a b
theorem nm_anti {a b : Nm} (h1 : a ≤ b) (h2 : b ≤ a) : a = b := List.le_antisymm h1 h2
theorem risN_sorted (l : List Nm) : (risN l).Pairwise (· ≤ ·) := by
  have h := List.pairwise_mergeSort (le := fun x y : Nm => decide (x ≤ y)) (fun a b c h1 h2 => by simp only [decide_eq_true_eq] at *; exact nm_trans h1 h2) (fun a b => by simp only [Bool.or_eq_true, decide_eq_true_eq]; exact nm_total a b) l
  exact h.imp (fun h => by simpa using h)
theorem risZ_sorted (l : List Int) : (risZ l).Pairwise (· ≤ ·) := by
  have h := List.pairwise_mergeSort (le := fun x y : Int => decide (x ≤ y)) (fun a b c h1 h2 => by simp only [decide_eq_true_eq] at *; omega) (fun a b => by simp only [Bool.or_eq_true, decide_eq_true_eq]; omega) l
  exact h.imp (fun h => by simpa using h)
theorem compact_keeps {s : List Nm} (h : (compact s).length = s.length) : ∀ j, 0 < j → j < s.length → s.getD j [] ≠ s.getD (j - 1) [] := by
  intro j h0 hj
  unfold compact compactUpTo at h
  rw [List.length_map] at h
  have hf : ((List.range s.length).filter (keeps s.toArray)) = List.range s.length := by
    refine (List.filter_sublist).eq_of_length ?_
    rw [h, List.length_range]
  have hk := List.filter_eq_self.1 hf j (by simpa using hj)
  unfold keeps at hk
  simp only [decide_eq_true_eq] at hk
  rcases hk with hk | hk
  · omega
  · intro e
    apply hk
    have e1 : s.toArray[j]! = s.getD j [] := by simp [List.getD_eq_getElem?_getD, hj]
    have e2 : s.toArray[j - 1]! = s.getD (j - 1) [] := by
      have : j - 1 < s.length := by omega
      simp [List.getD_eq_getElem?_getD, this]
    rw [e1, e2]
    exact e
theorem getD_at {α : Type} (l : List α) (z : α) (i : Nat) (h : i < l.length) : l.getD i z = l[i] := by rw [List.getD_eq_getElem?_getD, List.getElem?_eq_getElem h]; rfl
theorem sorted_nodup {s : List Nm} (hs : s.Pairwise (· ≤ ·)) (h : (compact s).length = s.length) : s.Nodup := by
  have hk := compact_keeps h
  unfold List.Nodup
  rw [List.pairwise_iff_getElem] at hs ⊢
  intro i j hi hj hij e
  have h1 := hk j (by omega) hj
  rw [getD_at _ _ _ hj, getD_at _ _ _ (show j - 1 < s.length by omega)] at h1
  apply h1
  have h2 : s[j - 1] ≤ s[j] := hs (j - 1) j (by omega) hj (by omega)
  refine nm_anti ?_ h2
  by_cases e2 : i = j - 1
  · subst e2; rw [e]; exact List.le_refl _
  · rw [← e]; exact hs i (j - 1) hi (by omega) (by omega)
theorem may_nodup {p : Int} (h : mayN l p = true) : (risN l).Nodup := by
  refine sorted_nodup (risN_sorted l) ?_
  unfold mayN at h
  simp only [Bool.and_eq_true] at h
  have := h.2.2
  rw [risN_len]
  simpa using this
end Go.Proofs.Ytakpdhmfbgfblaa
