/- What must come: the numbers of knows. -/
import Derived.Test.YtakpdhmfbgfblaaASticky
import Derived.Test.YtakpdhmfbgfblaaASame
namespace Go.Proofs.Ytakpdhmfbgfblaa
open Go.RowKit Go.Sort Go.Lib

theorem le_ba : decide (([98] : Nm) ≤ [97]) = false := by decide
theorem le_bc : decide (([98] : Nm) ≤ [99]) = true := by decide
theorem risN_ba : risN [[98], [97]] = [[97], [98]] := by
  unfold risN
  simp only [List.mergeSort, List.MergeSort.Internal.splitInTwo]
  simp [le_ba]
theorem risN_bc : risN [[98], [99]] = [[98], [99]] := by
  refine List.mergeSort_of_pairwise ?_
  simp
  decide
theorem may_ba : mayN [[98], [97]] 3 = true := by unfold mayN; rw [risN_ba]; decide
theorem may_bc : mayN [[98], [99]] 3 = true := by unfold mayN; rw [risN_bc]; decide
theorem risZ_0 : risZ [0] = [0] := by unfold risZ; simp
theorem risZ_1 : risZ [1] = [1] := by unfold risZ; simp
theorem risZ_2 : risZ [2] = [2] := by unfold risZ; simp
theorem risZ_01 : risZ [0, 1] = [0, 1] := List.mergeSort_of_pairwise (by simp)
theorem risZ_21 : risZ [2, 1] = [1, 2] := by unfold risZ; simp [List.mergeSort, List.MergeSort.Internal.splitInTwo]
theorem range_kn : rangeP [[98], [97]] 3 = [[0, 1], [2]] := by
  unfold rangeP
  rw [risN_ba]
  have : (stepsN (fun _ => fRange (3 / 2)) [[97], [98]] ((allP 3, 3 % 2), List.replicate 2 []) 1).2 = [[0, 1], [2]] := by decide
  show (stepsN (fun _ => fRange (3 / 2)) [[97], [98]] ((allP 3, 3 % 2), List.replicate 2 []) 1).2.map risZ = _
  rw [this]
  simp [risZ_01, risZ_2]
theorem had_kn : (hadN [[97], [98]] [[0, 1], [2]] (allP 3) [[98], [99]]).2 = [[2], []] := by
  have h1 : pickN (allP 3) [2] = ([0, 1], [2]) := by decide
  have h2 : lstd [[97], [98]] [[0, 1], [2]] [98] = [2] := by decide
  have h3 : lstd [[97], [98]] [[0, 1], [2]] [99] = [] := by decide
  unfold hadN
  simp only [List.foldl_cons, List.foldl_nil, hadS, h2, h3, h1, risZ_2]
  simp [pickN, risZ_nil]
theorem two_all (f : Stp Dk) (n0 n1 : Nm) (s : Dk) (p q : List Int) : allS f [n0, n1] (s, [p, q]) 2 = ((f (f s n0 p.length).2 n1 q.length).2, [p ++ (f s n0 p.length).1, q ++ (f (f s n0 p.length).2 n1 q.length).1]) := rfl
theorem sticky_kn : stickyP [[97], [98]] [[0, 1], [2]] [[98], [99]] 3 = [[1, 2], [0]] := by
  unfold stickyP
  rw [risN_bc, had_kn]
  show (stepsN (stickF (3 / 2) [[98], [99]] [[2], []]) [[98], [99]] ((allP 3, 3 % 2), List.replicate 2 []) 4).2.map risZ = _
  have e1 : pickN (allP 3) [2] = ([0, 1], [2]) := by decide
  have a1 : allS (fKeep 1 [[98], [99]] [[2], []]) [[98], [99]] ((allP 3, 1), [[], []]) 2 = (([0, 1], 1), [[2], []]) := by
    rw [two_all]
    have h1 : fKeep 1 [[98], [99]] [[2], []] (allP 3, 1) [98] 0 = ([2], ([0, 1], 1)) := by
      show (risZ (pickN (allP 3) [2]).2, ((pickN (allP 3) [2]).1, 1)) = _
      rw [e1, risZ_2]
    have h2 : fKeep 1 [[98], [99]] [[2], []] ([0, 1], 1) [99] 0 = ([], ([0, 1], 1)) := by
      show (risZ [], (([0, 1] : List Int), 1)) = _
      rw [risZ_nil]
    simp only [List.length_nil, h1, h2]
    rfl
  have a2 : allS (fOne 1 [[98], [99]] [[2], []]) [[98], [99]] (([0, 1], 1), [[2], []]) 2 = (([0, 1], 1), [[2], []]) := by decide
  have a3 : allS (fFill 1) [[98], [99]] (([0, 1], 1), [[2], []]) 2 = (([1], 1), [[2], [0]]) := by decide
  have a4 : allS (fLast 1) [[98], [99]] (([1], 1), [[2], [0]]) 2 = (([], 1), [[2, 1], [0]]) := by decide
  show (allS (fLast 1) [[98], [99]] (allS (fFill 1) [[98], [99]] (allS (fOne 1 [[98], [99]] [[2], []]) [[98], [99]] (allS (fKeep 1 [[98], [99]] [[2], []]) [[98], [99]] ((allP 3, 1), [[], []]) 2) 2) 2) 2).2.map risZ = _
  rw [a1, a2, a3, a4]
  simp [risZ_21, risZ_0]
end Go.Proofs.Ytakpdhmfbgfblaa
