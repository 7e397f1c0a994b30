/- New of package disk. -/
import Derived.Test.YtofpojfkooigiaaDLooks
namespace Go.Proofs.Ytofpojfkooigiaa
open Go.RowKit

theorem new_at (n i : Nat) : (newD n).at i = b0 := by
  unfold newD DSt.at
  rw [List.getD_eq_getElem?_getD, List.getElem?_replicate]
  split <;> rfl
theorem durV_b0 : durV b0 = z256 ++ [Value.bool false] := by
  unfold durV b0
  simp only [z256_zeros]
theorem flat_rep {α β : Type} (n : Nat) (x : α) (f g : α → List β) (h : f x = g x) : (List.replicate n x).flatMap f = (List.replicate n x).flatMap g := by
  induction n with
  | zero => rfl
  | succ n ih => rw [List.replicate_succ, List.flatMap_cons, List.flatMap_cons, ih, h]
theorem new_pic {w : World} {n B M D : Nat} (h1 : 1 ≤ n) (h2 : n ≤ 4096) (hB : w.heap[B]? = some (.cells (madeCells (z256 ++ [Value.bool false]).toArray (n * 257)) TD (0, 0))) (hM : w.heap[M]? = some (.map #[] 0)) (hD : w.heap[D]? = some (.cells (diskV B M n false (-1)) TK (0, 0))) :
    Pic w [B, M, D] D B M (.map []) (fun _ => 0) (fun _ => 0) (newD n) := by
  have hl : (newD n).bs.length = n := List.length_replicate
  have hv : ∀ i, ((newD n).at i).vs = [] := fun i => by rw [new_at]; rfl
  have lt : ∀ {g o}, w.heap[g]? = some o → g < w.heap.size := fun h => (Array.getElem?_eq_some_iff.1 h).1
  refine ⟨by omega, by omega, newD_ok n, by simp [newD], by rw [hl]; exact hD, ?_, ?_, ?_, ?_, ?_, ?_, by simp, by simp, by simp, ?_, ?_⟩
  · rw [hB]
    have h3 : (newD n).bs.flatMap durV = (List.replicate n b0).flatMap (fun _ => z256 ++ [Value.bool false]) := by
      exact flat_rep n b0 durV (fun _ => z256 ++ [Value.bool false]) durV_b0
    rw [h3, ← made_row]
  · exact (show w.ownsMap Try.prog 3 RV M 0 (.map []) from ⟨#[], 0, hM, ⟨by simp, MapKept.stamped_empty 0, by simp⟩, Nat.le_refl _, rfl⟩)
  · intro kl
    constructor
    · intro h; cases h
    · rintro ⟨i, _, _, h⟩; exact absurd (hv i) h
  · intro i _ h; exact absurd (hv i) h
  · intro i _ h; exact absurd (hv i) h
  · intro i j _ _ _ h; exact absurd (hv i) h
  · intro i _ h; exact absurd (hv i) h
  · intro g hg
    simp at hg
    rcases hg with rfl | rfl | rfl
    · exact lt hB
    · exact lt hM
    · exact lt hD
set_option maxRecDepth 100000 in
set_option maxHeartbeats 2000000 in
theorem new_ok (n : Int) (w : World) (h1 : 1 ≤ n) (h2 : n ≤ 4096) : Calls Try.prog 9 #[.int .i64 n] w fun x w' => ∃ F D, x = .returned (.tuple #[.pointer (some ⟨D, 0, none⟩), .int .i64 0]) ∧ Dk w' F D (newD n.toNat) ∧ (∀ g ∈ F, w.heap.size ≤ g) ∧ Below w.heap.size w w' := by
  obtain ⟨N, hN⟩ : ∃ N : Nat, n = N := ⟨n.toNat, by omega⟩
  subst hN
  obtain ⟨it, i1, i2, i3, i4⟩ := info_parts Try.infoD
  have hmm : ∀ w, (Instr.makeMap 45 none).run Try.prog w = .ok (.map (some w.heap.size)) (w.alloc (.map #[] 0)) := fun w => run_makeMap _ w
  go_enter Try.func9, Try.ntmps9
  go_wp2_with (at_make; refine wpList_make_full _ rfl _ _ _ rfl w.heap.size TD it _ 257 Try.underlying44 i1 i2 i3 .i64 .i64 _ _ N rfl rfl rfl rfl (by rw [i4]; omega) (by unfold maxLen; omega) (Nat.le_refl _) ?_; intro w1 hrow hgr; have HR : Hid (w1.ownsRow w.heap.size TD 257 (.slice (some ⟨w.heap.size, 0, none⟩) N N) N (madeCells (z256 ++ [Value.bool false]).toArray (N * 257)).toList) := hrow; have HG : Hid (w.grownBy w1 none) := hgr; clear hrow hgr)
  go_ret2
  have hB : w1.heap[w.heap.size]? = some (.cells (madeCells (z256 ++ [Value.bool false]).toArray (N * 257)) TD (0, 0)) := by
    rcases HR.out.2 with ⟨e, _⟩ | ⟨g, cap, cur, e, _, r2, _, _, r5, r6⟩
    · cases e
    · cases e
      rw [r2]
      have : cur = madeCells (z256 ++ [Value.bool false]).toArray (N * 257) := by
        apply Array.toList_inj.1
        rw [← r6, List.take_of_length_le (by rw [Array.length_toList, r5]; exact Nat.le_refl _)]
      rw [this]
  have hlt : w.heap.size < w1.heap.size := (Array.getElem?_eq_some_iff.1 hB).1
  have h3 : (↑N : Int).toNat = N := by omega
  rw [h3]
  refine ⟨[w.heap.size, w1.heap.size, w1.heap.size + 1], w1.heap.size + 1, rfl, ⟨_, _, _, _, _, new_pic (by omega) (by omega) ?_ (heap_alloc2_old _ _ _) (heap_alloc2_new _ _ _)⟩, ?_, ?_⟩
  · rw [heap_alloc_old _ _ (by simp; omega), heap_alloc_old _ _ hlt]
    exact hB
  · intro g hg
    simp at hg
    omega
  · have b1 : Below w.heap.size w w1 := ⟨HG.out.os, HG.out.tape, HG.out.output, HG.out.size, fun k hk => HG.out.block k hk (by simp)⟩
    exact (b1.alloc (by omega) _).alloc (by simp; omega) _
set_option maxRecDepth 100000 in
set_option maxHeartbeats 2000000 in
theorem new_no (n : Int) (w : World) (h : ¬ (1 ≤ n ∧ n ≤ 4096)) : Calls Try.prog 9 #[.int .i64 n] w fun x w' => x = .returned (.tuple #[.pointer none, .int .i64 1]) ∧ Below w.heap.size w w' := by
  by_cases h1 : n < 1
  · go_enter Try.func9, Try.ntmps9
    go_wp2
    go_ret2
    exact ⟨rfl, Below.refl _ _⟩
  · have h2 : 4096 < n := by omega
    go_enter Try.func9, Try.ntmps9
    go_wp2
    go_ret2
    exact ⟨rfl, Below.refl _ _⟩
end Go.Proofs.Ytofpojfkooigiaa
