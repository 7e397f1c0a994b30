/- The looks of package disk: made, has, Blocks, Down, Dirty; Cut. -/
import Derived.Test.YtofpojfkooigiaaPic2
namespace Go.Proofs.Ytofpojfkooigiaa
open Go.RowKit
variable {w : World} {F : List Nat} {D B M : Nat} {Dm : DataW Value} {V C : Nat → Nat} {s : DSt}

set_option maxRecDepth 100000 in
set_option maxHeartbeats 1000000 in
theorem made_pic (h : Pic w F D B M Dm V C s) : Calls Try.prog 32 #[.pointer (some ⟨D, 0, none⟩)] w fun e w' => e = .returned (.bool true) ∧ w' = w := by
  obtain ⟨c0, -, -, -⟩ := h.cells
  have n1 := h.n1
  generalize s.bs.length = n at *
  clear h
  go_enter Try.func32, Try.ntmps32
  go_wp2
  all_goals go_ret
  all_goals simp
  all_goals omega
set_option maxRecDepth 100000 in
set_option maxHeartbeats 1000000 in
theorem has_pic (h : Pic w F D B M Dm V C s) (i : Int) : Calls Try.prog 35 #[.pointer (some ⟨D, 0, none⟩), .int .i64 i] w fun e w' => e = .returned (.bool (s.has i)) ∧ w' = w := by
  obtain ⟨c0, -, -, -⟩ := h.cells
  have hm := made_pic h
  unfold DSt.has
  generalize s.bs.length = n at *
  clear h
  go_enter Try.func35, Try.ntmps35
  go_wp2_with (go_at_call 32; refine hm.mono ?_; rintro e w' ⟨rfl, hw'⟩; obtain rfl := hw'.symm)
  all_goals go_ret
  all_goals simp
  all_goals omega
set_option maxRecDepth 100000 in
set_option maxHeartbeats 1000000 in
theorem blocks_pic (h : Pic w F D B M Dm V C s) : Calls Try.prog 21 #[.pointer (some ⟨D, 0, none⟩)] w fun e w' => e = .returned (.int .i64 (s.bs.length : Nat)) ∧ w' = w := by
  obtain ⟨c0, -, -, -⟩ := h.cells
  have hm := made_pic h
  generalize s.bs.length = n at *
  clear h
  go_enter Try.func21, Try.ntmps21
  go_wp2_with (go_at_call 32; refine hm.mono ?_; rintro e w' ⟨rfl, hw'⟩; obtain rfl := hw'.symm)
  all_goals go_ret
  all_goals simp
set_option maxRecDepth 100000 in
set_option maxHeartbeats 1000000 in
theorem down_pic (h : Pic w F D B M Dm V C s) : Calls Try.prog 19 #[.pointer (some ⟨D, 0, none⟩)] w fun e w' => e = .returned (.bool s.off) ∧ w' = w := by
  obtain ⟨-, -, c2, -⟩ := h.cells
  have hm := made_pic h
  generalize s.off = n at *
  clear h
  go_enter Try.func19, Try.ntmps19
  go_wp2_with (go_at_call 32; refine hm.mono ?_; rintro e w' ⟨rfl, hw'⟩; obtain rfl := hw'.symm)
  all_goals go_ret
  all_goals simp
set_option maxRecDepth 100000 in
set_option maxHeartbeats 1000000 in
theorem dirty_pic (h : Pic w F D B M Dm V C s) : Calls Try.prog 20 #[.pointer (some ⟨D, 0, none⟩)] w fun e w' => e = .returned (.int .i64 (dirtyD s : Nat)) ∧ w' = w := by
  obtain ⟨-, c1, -, -⟩ := h.cells
  have hm := made_pic h
  have hsz := h.size
  have HM : Hid (w.ownsMap Try.prog 3 RV M (Maps.size Dm) Dm) := h.hM
  clear h
  go_enter Try.func20, Try.ntmps20
  go_wp2_with (first
    | (go_at_call 32; refine hm.mono ?_; rintro e w' ⟨rfl, hw'⟩; obtain rfl := hw'.symm)
    | (at_len; refine wpList_len_own _ rfl _ 45 rfl 3 76 Try.underlying45 _ M (Maps.size Dm) Dm rfl HM.out ?_))
  all_goals go_ret
  all_goals simp
  all_goals omega
/-- The disk behind a store into its struct. -/
theorem Pic.set (h : Pic w F D B M Dm V C s) (off : Bool) (fuse : Int) {w' : World} (hb : Chg [D] w w') (hD : w'.heap[D]? = some (.cells (diskV B M s.bs.length off fuse) TK (0, 0))) (h1 : -1 ≤ fuse) (h2 : fuse ≤ 9223372036854775807) : Pic w' F D B M Dm V C ⟨s.bs, off, fuse⟩ := by
  have hk : ∀ g ∈ F, g ≠ D → w'.heap[g]? = w.heap[g]? := fun g hg hne => hb.block g (h.lt g hg) (by simpa using hne)
  exact ⟨h.n1, h.n2, ⟨h.ok.dur, h.ok.vs, h1⟩, h2, hD, (hk B h.mB (fun e => h.neDB e.symm)).trans h.hB, ownsMap_kept h.hM (hk M h.mM (fun e => h.neM.1 e.symm)), h.has, h.look, fun i hi hv => ownsRow_kept (h.row i hi hv) (hk _ (h.mV i hi hv) (h.neV hi hv).1), h.apart, h.mD, h.mB, h.mM, h.mV, fun g hg => Nat.lt_of_lt_of_le (h.lt g hg) hb.size⟩
theorem Pic.set3 (h : Pic w F D B M Dm V C s) (fuse : Int) : (w.setCell ⟨D, 3, none⟩ (.int .i64 fuse)).heap[D]? = some (.cells (diskV B M s.bs.length s.off fuse) TK (0, 0)) := by
  rw [heap_setCell_same w D 3 _ TK _ h.hD]; rfl
theorem Pic.set23 (h : Pic w F D B M Dm V C s) (off : Bool) (fuse : Int) : ((w.setCell ⟨D, 2, none⟩ (.bool off)).setCell ⟨D, 3, none⟩ (.int .i64 fuse)).heap[D]? = some (.cells (diskV B M s.bs.length off fuse) TK (0, 0)) := by
  rw [heap_setCell_same _ D 3 _ TK _ (heap_setCell_same w D 2 _ TK _ h.hD)]; rfl
set_option maxRecDepth 100000 in
set_option maxHeartbeats 1000000 in
theorem cut_pic (h : Pic w F D B M Dm V C s) (n : Int) (hn : n ≤ 9223372036854775807) : Calls Try.prog 14 #[.pointer (some ⟨D, 0, none⟩), .int .i64 n] w fun e w' => e = .returned (.tuple #[]) ∧ Pic w' F D B M Dm V C (cutD s n) ∧ Chg [D] w w' := by
  obtain ⟨-, -, c2, c3⟩ := h.cells
  have f3 := h.free 3
  have hm := made_pic h
  have H : Hid (Pic w F D B M Dm V C s) := h
  clear h
  unfold cutD
  cases hoff : s.off with
  | true =>
    rw [hoff] at c2
    go_enter Try.func14, Try.ntmps14
    go_wp2_with (go_at_call 32; refine hm.mono ?_; rintro e w' ⟨rfl, hw'⟩; obtain rfl := hw'.symm)
    refine bodyPost_ret (results_none rfl _ _ _) rfl ?_
    exact ⟨rfl, H.out, Chg.refl _ _⟩
  | false =>
    rw [hoff] at c2
    go_enter Try.func14, Try.ntmps14
    go_wp2_with (go_at_call 32; refine hm.mono ?_; rintro e w' ⟨rfl, hw'⟩; obtain rfl := hw'.symm)
    all_goals refine bodyPost_end (results_none rfl _ _ _) rfl ⟨rfl, ?_, (Chg.refl [D] w).set (Or.inl (by simp)) _ _⟩
    · have := H.out.set false (-1) ((Chg.refl [D] w).set (g := D) (Or.inl (by simp)) 3 (.int .i64 (-1))) (by rw [← hoff]; exact H.out.set3 _) (by omega) (by omega)
      exact this
    · have e : n = -1 := by omega
      subst e
      exact H.out.set false (-1) ((Chg.refl [D] w).set (g := D) (Or.inl (by simp)) 3 (.int .i64 (-1))) (by rw [← hoff]; exact H.out.set3 _) (by omega) (by omega)
    · exact H.out.set false n ((Chg.refl [D] w).set (g := D) (Or.inl (by simp)) 3 (.int .i64 n)) (by rw [← hoff]; exact H.out.set3 _) (by omega) (by omega)
end Go.Proofs.Ytofpojfkooigiaa
