/- 'slices.Sorted(maps.Keys(m))': the dirty blocks, rising. -/
import Derived.Test.YtikomnbhmmjfnaaGreatSortPlain
import Derived.Test.YtikomnbhmmjfnaaGreatSettleN
namespace Go.Proofs.YtikomnbhmmjfnaaGreat
open Go.RowKit Go.Maps Go.Sort Go.Shelf
variable {w : World} {F : List Nat} {D B M : Nat} {Dm : DataW Value} {V C : Nat → Nat} {s : DSt}

theorem sortsA (m : Nat) : AnyZI.SortsIn Tryz.prog Tryz.sortedA_ren Fence.wide m :=
  ⟨fun blk off cap ss W hH hblk hsz => callsIn_wide.2 (AnyM.slices_Sort_int Tryz.sortA blk off cap ss W hH hblk hsz),
   fun p cap W => callsIn_wide.2 (AnyM.slices_Sort_int_none Tryz.sortA p cap W)⟩
theorem keys_any (mb : Option Nat) (W : World) : Calls Tryz.prog 92 #[.map mb] W fun e w' => e = .returned (.func (.func 117) #[] #[.pointer (some ⟨W.heap.size, 0, none⟩)]) ∧ w' = W.alloc (.cells #[.map mb] 39) :=
  (callsIn_wide (n := 5)).1 (AnyZI.keys_in Tryz.keysA Fence.wide 5 trivial rfl mb W)
theorem sorted_eq (s : DSt) : ((dirt s.bs 0).map (fun i : Nat => (i : Int))).mergeSort leI = (dirt s.bs 0).map (fun i : Nat => (i : Int)) := by
  refine List.mergeSort_of_pairwise ?_
  refine List.pairwise_map.2 ((dirt_sorted s.bs 0).imp (fun {a b} hab => ?_))
  simp only [leI, decide_eq_true_eq]
  omega
set_option maxHeartbeats 1000000 in
theorem sorted_pic (h : Pic w F D B M Dm V C s) : Calls Tryz.prog 56 #[.func (.func 117) #[] #[.pointer (some ⟨w.heap.size, 0, none⟩)]] (w.alloc (.cells #[.map (some M)] 39)) fun e w' => ∃ v, e = .returned v ∧
    w'.ownsRow w.heap.size 3 1 v (dirt s.bs 0).length ((dirt s.bs 0).map (fun i : Nat => Value.int .i64 (i : Int))) ∧ Below w.heap.size w w' := by
  have hsz := h.size
  have hle := dirtyBs_le s.bs
  have hn := h.n2
  unfold dirtyD at hsz
  have hseq : SeqGives Fence.wide 2 Tryz.prog 117 #[.pointer (some ⟨w.heap.size, 0, none⟩)] encZ (fun ss => ss.Perm (intKeys Dm)) (Maps.size Dm) (w.alloc (.cells #[.map (some M)] 39)) :=
    AnyZI.keys_gives (ρ := Tryz.keysA_ren) { Tryz.keysA with } Fence.wide _ trivial rfl (by omega) w.heap.size M (Maps.size Dm) Dm _ (by simp) (by simp) (ownsMap_kept h.hM ((Below.refl w.heap.size w).alloc (Nat.le_refl _) _ |>.block M (h.lt M h.mM)))
  have cS := AnyZI.sorted_in Tryz.sortedA Fence.wide 5 trivial trivial trivial trivial rfl (by omega) (sortsA _) (enters_of Tryz.func90 (by kernel_rfl) rfl) 117 #[.pointer (some ⟨w.heap.size, 0, none⟩)] trivial (enters_of Tryz.func117 (by kernel_rfl) rfl) _ _ (by unfold maxLen; omega) (by omega) _ hseq
  refine ((callsIn_wide (n := 5)).1 cS).mono ?_
  rintro e w' ⟨v, ss, rfl, hS, hrow, hnil, hb⟩
  refine ⟨v, rfl, ?_, ?_⟩
  · have hp : ss.Perm ((dirt s.bs 0).map (fun i : Nat => (i : Int))) := hS.trans h.keys.symm
    rw [show (fun x y : Int => decide (x ≤ y)) = leI from rfl, mergeSort_of_perm_i hp, sorted_eq] at hrow
    have hl : ss.length = (dirt s.bs 0).length := by rw [hp.length_eq, List.length_map]
    rw [hl, List.map_map] at hrow
    exact ownsRow_base_a hrow (by simp)
  · exact ((Below.refl _ w).alloc (Nat.le_refl _) _).trans (hb.mono (by simp))
end Go.Proofs.YtikomnbhmmjfnaaGreat
