/- Which part holder finds. -/
import Derived.Test.YthadagpfmacemaaLWhereN
import Derived.Test.YthadagpfmacemaaCExtN
namespace Go.Proofs.Ythadagpfmacemaa
open Go.RowKit
variable {l : List Pt}

theorem holdT_none {a : Int} {k : Nat} : holdT l a k = none ↔ ∀ j, j < k → a < (ptAt l j).first := by
  induction k with
  | zero => simp [holdT]
  | succ k ih =>
    rw [holdT]
    split
    · rename_i h
      constructor
      · intro e; cases e
      · intro e; have := e k (by omega); omega
    · rename_i h
      rw [ih]
      constructor
      · intro e j hj
        by_cases hjk : j = k
        · subst hjk; omega
        · exact e j (by omega)
      · intro e j hj; exact e j (by omega)
theorem holdT_some {a : Int} {k i : Nat} : holdT l a k = some i ↔ i < k ∧ (ptAt l i).first ≤ a ∧ ∀ j, i < j → j < k → a < (ptAt l j).first := by
  induction k with
  | zero => simp [holdT]
  | succ k ih =>
    rw [holdT]
    split
    · rename_i h
      constructor
      · intro e; cases e; exact ⟨by omega, h, fun j h1 h2 => by omega⟩
      · rintro ⟨h1, h2, h3⟩
        by_cases hik : i = k
        · rw [hik]
        · have := h3 k (by omega) (by omega); omega
    · rename_i h
      rw [ih]
      constructor
      · rintro ⟨h1, h2, h3⟩
        refine ⟨by omega, h2, fun j h4 h5 => ?_⟩
        by_cases hjk : j = k
        · subst hjk; omega
        · exact h3 j h4 (by omega)
      · rintro ⟨h1, h2, h3⟩
        have hik : i ≠ k := by intro e; subst e; exact h h2
        exact ⟨by omega, h2, fun j h4 h5 => h3 j h4 (by omega)⟩
theorem holdT_congr {l2 : List Pt} {a : Int} {k : Nat} (h : ∀ j, j < k → ptAt l j = ptAt l2 j) : holdT l a k = holdT l2 a k := by
  induction k with
  | zero => rfl
  | succ k ih => rw [holdT, holdT, h k (by omega), ih (fun j hj => h j (by omega))]
theorem extL_len (t : Int) (l : List Pt) (e : Int) (p : Pt) : (extL t l e p).length = needN t l e + 1 := by
  unfold extL
  have := needN_le t l e
  rw [List.length_append, List.length_take, List.length_singleton]
  omega
theorem extL_old (t : Int) (l : List Pt) (e : Int) (p : Pt) {j : Nat} (hj : j < needN t l e) : ptAt (extL t l e p) j = ptAt l j := by
  unfold extL
  have := needN_le t l e
  rw [ptAt_left _ _ _ (by rw [List.length_take]; omega), ptAt_take l _ j hj]
theorem extL_new (t : Int) (l : List Pt) (e : Int) (p : Pt) : ptAt (extL t l e p) (needN t l e) = p := by
  unfold extL
  have := needN_le t l e
  have h : (l.take (needN t l e)).length = needN t l e := by rw [List.length_take]; omega
  have h2 := ptAt_snoc (l.take (needN t l e)) p
  rw [h] at h2
  exact h2
end Go.Proofs.Ythadagpfmacemaa
