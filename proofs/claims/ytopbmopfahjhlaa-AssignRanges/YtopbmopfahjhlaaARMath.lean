/- The document's Range gives what the program's gives. -/
import Derived.Test.YtopbmopfahjhlaaARRange
namespace Go.Proofs.Ytopbmopfahjhlaa
open Go.RowKit

theorem rowQ_take (n a k : Nat) (h : a + k ≤ n) : ((allP n).drop a).take k = rowQ a k := by
  apply List.ext_getElem
  · rw [List.length_take, List.length_drop, allP_len, rowQ_len]; omega
  · intro i h1 h2
    rw [rowQ_len] at h2
    simp [allP, rowQ]
theorem rgA_top (n m i : Nat) (hi : i ≤ m) : rgA n m i ≤ n := by
  unfold rgA
  have h1 := Nat.mul_le_mul_right (n / m) hi
  have h2 : m * (n / m) + n % m = n := Nat.div_add_mod n m
  omega
theorem fRange_at (n m i : Nat) (hi : i < m) (nm : Nm) (k : Nat) : fRange (n / m) ((allP n).drop (rgA n m i), n % m - i) nm k = (rowQ (rgA n m i) (rgN n m i), ((allP n).drop (rgA n m (i + 1)), n % m - (i + 1))) := by
  have ht := rgA_top n m (i + 1) hi
  rw [rgA_succ] at ht
  have hl : ((allP n).drop (rgA n m i)).length = n - rgA n m i := by rw [List.length_drop, allP_len]
  unfold fRange
  by_cases h : n % m - i = 0
  · have hN : rgN n m i = n / m := by unfold rgN; rw [if_neg (by omega)]; rfl
    rw [hN] at ht
    have hk : drawK ((n / m : Nat) : Int) (n - rgA n m i) = n / m := by unfold drawK; omega
    rw [if_pos h]
    unfold drawN
    rw [hl, hk, rowQ_take _ _ _ ht, rgA_succ, hN, List.drop_drop]
    congr 2
    show n % m - i = _
    omega
  · have hN : rgN n m i = n / m + 1 := by unfold rgN; rw [if_pos (by omega)]
    rw [hN] at ht
    have hk : drawK ((n / m : Nat) + 1 : Int) (n - rgA n m i) = n / m + 1 := by unfold drawK; omega
    rw [if_neg h]
    unfold drawN
    show ((List.take (drawK _ ((allP n).drop (rgA n m i)).length) _), _) = _
    rw [hl, hk, rowQ_take _ _ _ ht, rgA_succ, hN, List.drop_drop]
    congr 2
theorem range_all (n m : Nat) (ns : List Nm) : ∀ i, i ≤ m → allS (fRange (n / m)) ns ((allP n, n % m), List.replicate m []) i = (((allP n).drop (rgA n m i), n % m - i), rgP n m i ++ List.replicate (m - i) [])
  | 0, _ => by
    show ((allP n, n % m), List.replicate m []) = _
    rw [show rgA n m 0 = 0 by unfold rgA; rw [Nat.zero_mul, Nat.zero_min]]
    simp [rgP]
  | i + 1, hi => by
    rw [allS_succ, range_all n m ns i (by omega)]
    have hg : (rgP n m i ++ List.replicate (m - i) []).getD i [] = [] := by
      rw [List.getD_eq_getElem?_getD, List.getElem?_append_right (by rw [rgP_len]; exact Nat.le_refl _), rgP_len, Nat.sub_self, List.getElem?_replicate]
      split <;> rfl
    unfold stp
    dsimp only
    rw [hg, fRange_at n m i hi, List.nil_append]
    congr 1
    rw [rgP_succ, List.set_append_right _ _ (by rw [rgP_len]; exact Nat.le_refl _), rgP_len, Nat.sub_self, show m - i = (m - (i + 1)) + 1 by omega, List.replicate_succ, List.set_cons_zero, List.append_assoc]
    rfl
theorem risZ_rowQ (a k : Nat) : risZ (rowQ a k) = rowQ a k := by
  refine List.mergeSort_of_pairwise ?_
  unfold rowQ
  rw [List.pairwise_map]
  exact List.pairwise_lt_range.imp (fun h => by simp; omega)
theorem range_same (l : List Nm) (n : Nat) : rangeP l n = rgP n l.length l.length := by
  unfold rangeP
  show (allS (fRange (n / l.length)) (risN l) ((allP n, n % l.length), List.replicate l.length []) (risN l).length).2.map risZ = _
  rw [risN_len, range_all n l.length (risN l) l.length (Nat.le_refl _), Nat.sub_self, List.replicate_zero, List.append_nil]
  show (rgP n l.length l.length).map risZ = _
  unfold rgP
  rw [List.map_map]
  exact List.map_congr_left (fun j _ => risZ_rowQ _ _)
end Go.Proofs.Ytopbmopfahjhlaa
