/- may of a request of package node, of one that may not be, too; with it PutRequest and GetRequest are whole. -/
import Derived.Test.YtjldflfoncfndaaGreatPPut
import Derived.Test.YtjldflfoncfndaaGreatRTells
import Derived.Deep.QuietTactic
import Derived.BigQuiet
namespace Go.Proofs.YtjldflfoncfndaaGreat
open Go.RowKit Crcm

theorem below_drewM {N : Nat} {w0 w : World} (h : Below N w0 w) : ∀ n, Below N w0 (w.drewN n)
  | 0 => h
  | n + 1 => (below_drewM h n).drew
set_option maxRecDepth 100000 in
set_option maxHeartbeats 4000000 in
/-- The ways that call nothing. -/
theorem qmay_early (k l p : Int) (ad : Option Addr) (len cap : Nat) (w : World) (h : ¬ (1 ≤ k ∧ k < 7 ∧ 0 ≤ l ∧ l < 281474976710656 ∧ 0 ≤ p)) :
    Calls Tryz.prog 34 #[reqV k l p ad len cap] w fun x w' => x = .returned (.bool false) ∧ Below w.heap.size w w' := by
  have HB : Hid (Below w.heap.size w (w.alloc (.cells #[.int .i64 k, .int .i64 l, .int .i64 p, .slice ad len cap] 27))) := (show Hid _ from (Below.refl _ w).alloc (Nat.le_refl _) _)
  unfold reqV
  by_cases h0 : 1 ≤ k
  rotate_left
  · have hd : decide (1 ≤ k) = false := by simpa using h0
    clear h
    go_enter Tryz.func34, Tryz.ntmps34
    go_wp2_with fail
    go_quiet (fail)
    all_goals go_wp2
    all_goals go_ret
    all_goals exact ⟨rfl, below_drewM HB.out _⟩
  by_cases h1 : k < 7
  rotate_left
  · have hd : decide (k < 7) = false := by simpa using h1
    have hd0 : decide (1 ≤ k) = true := by simpa using h0
    clear h
    go_enter Tryz.func34, Tryz.ntmps34
    go_wp2_with fail
    go_quiet (fail)
    all_goals go_wp2
    all_goals go_ret
    all_goals exact ⟨rfl, below_drewM HB.out _⟩
  by_cases h2 : 0 ≤ l
  rotate_left
  · have hd : decide (0 ≤ l) = false := by simpa using h2
    have hd0 : decide (1 ≤ k) = true := by simpa using h0
    have hd1 : decide (k < 7) = true := by simpa using h1
    clear h
    go_enter Tryz.func34, Tryz.ntmps34
    go_wp2_with fail
    go_quiet (fail)
    all_goals go_wp2
    all_goals go_ret
    all_goals exact ⟨rfl, below_drewM HB.out _⟩
  by_cases h3 : l < 281474976710656
  rotate_left
  · have hd : decide (l < 281474976710656) = false := by simpa using h3
    have hd0 : decide (1 ≤ k) = true := by simpa using h0
    have hd1 : decide (k < 7) = true := by simpa using h1
    have hd2 : decide (0 ≤ l) = true := by simpa using h2
    clear h
    go_enter Tryz.func34, Tryz.ntmps34
    go_wp2_with fail
    go_quiet (fail)
    all_goals go_wp2
    all_goals go_ret
    all_goals exact ⟨rfl, below_drewM HB.out _⟩
  by_cases h4 : 0 ≤ p
  rotate_left
  · have hd : decide (0 ≤ p) = false := by simpa using h4
    have hd0 : decide (1 ≤ k) = true := by simpa using h0
    have hd1 : decide (k < 7) = true := by simpa using h1
    have hd2 : decide (0 ≤ l) = true := by simpa using h2
    have hd3 : decide (l < 281474976710656) = true := by simpa using h3
    clear h
    go_enter Tryz.func34, Tryz.ntmps34
    go_wp2_with fail
    go_quiet (fail)
    all_goals go_wp2
    all_goals go_ret
    all_goals exact ⟨rfl, below_drewM HB.out _⟩
  exact absurd ⟨h0, h1, h2, h3, h4⟩ h
set_option maxRecDepth 100000 in
set_option maxHeartbeats 8000000 in
/-- The way that asks maxPos, which says no. -/
theorem qmay_pos (k l p : Int) (ad : Option Addr) (len cap : Nat) (w : World) (h1 : 1 ≤ k) (h2 : k < 7) (h3 : 0 ≤ l) (h4 : l < 281474976710656) (h5 : 0 ≤ p) (h6 : ¬ p ≤ maxPosN k) :
    Calls Tryz.prog 34 #[reqV k l p ad len cap] w fun x w' => x = .returned (.bool false) ∧ Below w.heap.size w w' := by
  have HP : Hid (∀ W : World, Calls Tryz.prog 65 #[reqV k l p ad len cap] W fun x w' => x = .returned (.int .i64 (maxPosN k)) ∧ Below W.heap.size W w') := (show Hid _ from fun W => maxPos_any k l p ad len cap W)
  generalize maxPosN k = mp at *
  have hd6 : decide (p ≤ mp) = false := by simpa using h6
  have hd1 : decide (1 ≤ k) = true := by simpa using h1
  have hd2 : decide (k < 7) = true := by simpa using h2
  have hd3 : decide (0 ≤ l) = true := by simpa using h3
  have hd4 : decide (l < 281474976710656) = true := by simpa using h4
  have hd5 : decide (0 ≤ p) = true := by simpa using h5
  unfold reqV at *
  have HS : Hid (∀ W : World, Below (w.heap.size + 1) (w.alloc (.cells #[.int .i64 k, .int .i64 l, .int .i64 p, .slice ad len cap] 27)) W → W.cell? ⟨w.heap.size, 0, none⟩ = some (.int .i64 k) ∧ W.cell? ⟨w.heap.size, 1, none⟩ = some (.int .i64 l) ∧ W.cell? ⟨w.heap.size, 2, none⟩ = some (.int .i64 p) ∧ W.cell? ⟨w.heap.size, 3, none⟩ = some (.slice ad len cap)) := (show Hid _ from fun W hW => by
    have q := (hW.block w.heap.size (by omega)).trans (heap_alloc_last w _)
    refine ⟨?_, ?_, ?_, ?_⟩ <;> (rw [cell_of_row _ _ _ _ _ _ q]; rfl))
  go_enter Tryz.func34, Tryz.ntmps34
  go_wp2_with fail
  generalize hW0 : w.alloc (.cells #[.int .i64 k, .int .i64 l, .int .i64 p, .slice ad len cap] 27) = W0 at *
  have hsz : W0.heap.size = w.heap.size + 1 := by rw [← hW0]; simp
  have B0 : Hid (Below w.heap.size w W0.drew) := (show Hid _ from (by rw [← hW0]; exact ((Below.refl _ w).alloc (Nat.le_refl _) _).drew))
  have C0 : Hid (Below (w.heap.size + 1) W0 W0.drew) := (show Hid _ from (Below.refl _ W0).drew)
  clear hW0
  obtain ⟨c0, c1, c2, c3⟩ := HS.out _ C0.out
  refine wp_region_any (by kernel_rfl) ?_
  change wpAny _ _ _ _ _ _ _ (World.drew _)
  refine wpAny_ready (rs := [0]) (by kernel_rfl) (by simp) ?_
  refine AllReady.cons rfl (fun K hK => ?_) AllReady.nil
  go_simp
  refine hK _ _ ?_
  clear hK K
  refine wpAny_ready (rs := [1]) (by kernel_rfl) (by simp) ?_
  refine AllReady.cons rfl (fun K hK => ?_) AllReady.nil
  go_simp
  refine hK _ _ ?_
  clear hK K
  refine wpAny_ready (rs := [2]) (by kernel_rfl) (by simp) ?_
  refine AllReady.cons rfl (fun K hK => ?_) AllReady.nil
  go_simp
  refine hK _ _ ?_
  clear hK K
  refine wpAny_ready (rs := [3]) (by kernel_rfl) (by simp) ?_
  refine AllReady.cons rfl (fun K hK => ?_) AllReady.nil
  go_simp
  refine hK _ _ ?_
  clear hK K
  refine wpAny_ready (rs := [4]) (by kernel_rfl) (by simp) ?_
  refine AllReady.cons rfl (fun K hK => ?_) AllReady.nil
  go_simp
  refine hK _ _ ?_
  clear hK K
  refine wpAny_ready (rs := [5]) (by kernel_rfl) (by simp) ?_
  refine AllReady.cons rfl (fun K hK => ?_) AllReady.nil
  go_simp
  refine hK _ _ ?_
  clear hK K
  refine wpAny_ready (rs := [6]) (by kernel_rfl) (by simp) ?_
  refine AllReady.cons rfl (fun K hK => ?_) AllReady.nil
  go_simp
  refine hK _ _ ?_
  clear hK K
  refine wpAny_ready (rs := [7]) (by kernel_rfl) (by simp) ?_
  refine AllReady.cons rfl (fun K hK => ?_) AllReady.nil
  go_simp
  refine hK _ _ ?_
  clear hK K
  refine wpAny_ready (rs := [8]) (by kernel_rfl) (by simp) ?_
  refine AllReady.cons rfl (fun K hK => ?_) AllReady.nil
  go_simp
  refine hK _ _ ?_
  clear hK K
  refine wpAny_ready (rs := [9]) (by kernel_rfl) (by simp) ?_
  refine AllReady.cons rfl (fun K hK => ?_) AllReady.nil
  go_simp
  refine hK _ _ ?_
  clear hK K
  refine wpAny_ready (rs := [10]) (by kernel_rfl) (by simp) ?_
  refine AllReady.cons rfl (fun K hK => ?_) AllReady.nil
  go_simp
  refine hK _ _ ?_
  clear hK K
  refine wpAny_ready (rs := [11]) (by kernel_rfl) (by simp) ?_
  refine AllReady.cons rfl (fun K hK => ?_) AllReady.nil
  go_simp
  refine hK _ _ ?_
  clear hK K
  refine wpAny_ready (rs := [12]) (by kernel_rfl) (by simp) ?_
  refine AllReady.cons rfl (fun K hK => ?_) AllReady.nil
  go_simp
  refine hK _ _ ?_
  clear hK K
  refine wpAny_ready (rs := [13]) (by kernel_rfl) (by simp) ?_
  refine AllReady.cons rfl (fun K hK => ?_) AllReady.nil
  go_simp
  refine hK _ _ ?_
  clear hK K
  refine wpAny_ready (rs := [14]) (by kernel_rfl) (by simp) ?_
  refine AllReady.cons rfl (fun K hK => ?_) AllReady.nil
  go_simp
  refine hK _ _ ?_
  clear hK K
  refine wpAny_ready (rs := [15]) (by kernel_rfl) (by simp) ?_
  refine AllReady.cons rfl (fun K hK => ?_) AllReady.nil
  go_simp
  refine hK _ _ ?_
  clear hK K
  refine wpAny_ready (rs := [16]) (by kernel_rfl) (by simp) ?_
  refine AllReady.cons rfl (fun K hK => ?_) AllReady.nil
  go_simp
  refine hK _ _ ?_
  clear hK K
  refine wpAny_ready (rs := [17]) (by kernel_rfl) (by simp) ?_
  refine AllReady.cons rfl (fun K hK => ?_) AllReady.nil
  go_simp
  refine hK _ _ ?_
  clear hK K
  refine wpAny_ready (rs := [18]) (by kernel_rfl) (by simp) ?_
  refine AllReady.cons rfl (fun K hK => ?_) AllReady.nil
  go_simp
  refine hK _ _ ?_
  clear hK K
  refine wpAny_ready (rs := [19]) (by kernel_rfl) (by simp) ?_
  refine AllReady.cons rfl (fun K hK => ?_) AllReady.nil
  go_simp
  refine hK _ _ ?_
  clear hK K
  refine wpAny_ready (rs := [20]) (by kernel_rfl) (by simp) ?_
  refine AllReady.cons rfl (fun K hK => ?_) AllReady.nil
  go_simp
  refine hK _ _ ?_
  clear hK K
  refine wpAny_ready (rs := [21]) (by kernel_rfl) (by simp) ?_
  refine AllReady.cons rfl (fun K hK => ?_) AllReady.nil
  go_simp
  refine hK _ _ ?_
  clear hK K
  refine wpAny_ready (rs := [22]) (by kernel_rfl) (by simp) ?_
  refine AllReady.cons rfl (fun K hK => ?_) AllReady.nil
  go_simp
  refine hK _ _ ?_
  clear hK K
  refine wpAny_ready (rs := [23]) (by kernel_rfl) (by simp) ?_
  refine AllReady.cons rfl (fun K hK => ?_) AllReady.nil
  go_simp
  refine hK _ _ ?_
  clear hK K
  refine wpAny_ready (rs := [24, 26]) (by kernel_rfl) (by simp) ?_
  refine AllReady.cons rfl (fun K hK => ?_) (AllReady.cons rfl (fun K hK => ?_) (AllReady.nil))
  · skip
    go_simp
    refine hK _ _ ?_
    clear hK K
    refine wpAny_ready (rs := [25, 26]) (by kernel_rfl) (by simp) ?_
    refine AllReady.cons rfl (fun K hK => ?_) (AllReady.cons rfl (fun K hK => ?_) (AllReady.nil))
    · skip
      go_simp
      refine hK _ _ ?_
      clear hK K
      refine wpAny_ready (rs := [26]) (by kernel_rfl) (by simp) ?_
      refine AllReady.cons rfl (fun K hK => ?_) AllReady.nil
      go_simp
      refine hK _ _ ?_
      clear hK K
      refine wpAny_ready (rs := [27]) (by kernel_rfl) (by simp) ?_
      refine AllReady.cons rfl (fun K hK => ?_) AllReady.nil
      go_simp
      go_wp2_with (go_at_call 65; refine (HP.out _).mono ?_; rintro x w1 ⟨rfl, b1⟩; have C1 : Hid (Below (w.heap.size + 1) W0 w1) := (show Hid _ from C0.out.trans (b1.mono (Nat.le_of_eq hsz.symm))); have B1 : Hid (Below w.heap.size w w1) := (show Hid _ from B0.out.trans (b1.mono B0.out.size)); obtain ⟨-, -, e2, -⟩ := HS.out _ C1.out; clear b1)
      refine wpAny_ready (rs := [28]) (by kernel_rfl) (by simp) ?_
      refine AllReady.cons rfl (fun K hK => ?_) AllReady.nil
      go_simp
      refine hK _ _ ?_
      clear hK K
      refine wpAny_ready (rs := [29]) (by kernel_rfl) (by simp) ?_
      refine AllReady.cons rfl (fun K hK => ?_) AllReady.nil
      go_simp
      refine hK _ _ ?_
      clear hK K
      refine wpAny_ready (rs := [30]) (by kernel_rfl) (by simp) ?_
      refine AllReady.cons rfl (fun K hK => ?_) AllReady.nil
      go_simp
      refine hK _ _ ?_
      clear hK K
      refine wpAny_take (i := 31) (v := undef) rfl (by kernel_rfl) (by kernel_rfl) (by kernel_rfl) (fun _ _ _ h => h) (Or.inr ⟨rfl, rfl⟩) ?_
      refine wpAny_take (i := 32) (v := undef) rfl (by kernel_rfl) (by kernel_rfl) (by kernel_rfl) (fun _ _ _ h => h) (Or.inr ⟨rfl, rfl⟩) ?_
      refine wpAny_take (i := 33) (v := undef) rfl (by kernel_rfl) (by kernel_rfl) (by kernel_rfl) (fun _ _ _ h => h) (Or.inr ⟨rfl, rfl⟩) ?_
      refine wpAny_take (i := 34) (v := undef) rfl (by kernel_rfl) (by kernel_rfl) (by kernel_rfl) (fun _ _ _ h => h) (Or.inr ⟨rfl, rfl⟩) ?_
      refine wpAny_take (i := 35) (v := undef) rfl (by kernel_rfl) (by kernel_rfl) (by kernel_rfl) (fun _ _ _ h => h) (Or.inr ⟨rfl, rfl⟩) ?_
      refine wpAny_take (i := 36) (v := undef) rfl (by kernel_rfl) (by kernel_rfl) (by kernel_rfl) (fun _ _ _ h => h) (Or.inr ⟨rfl, rfl⟩) ?_
      refine wpAny_ready (rs := [37]) (by kernel_rfl) (by simp) ?_
      refine AllReady.cons rfl (fun K hK => ?_) AllReady.nil
      go_simp
      refine hK _ _ ?_
      clear hK K
      refine wpAny_ready (rs := [38]) (by kernel_rfl) (by simp) ?_
      refine AllReady.cons rfl (fun K hK => ?_) AllReady.nil
      go_simp
      refine hK _ _ ?_
      clear hK K
      refine wpAny_done (by kernel_rfl) ?_ _
      go_wp2
      go_ret
      exact ⟨rfl, B1.out⟩
    · skip
      go_simp
      refine hK _ _ ?_
      clear hK K
      refine wpAny_ready (rs := [25, 27]) (by kernel_rfl) (by simp) ?_
      refine AllReady.cons rfl (fun K hK => ?_) (AllReady.cons rfl (fun K hK => ?_) (AllReady.nil))
      · skip
        go_simp
        refine hK _ _ ?_
        clear hK K
        refine wpAny_ready (rs := [27]) (by kernel_rfl) (by simp) ?_
        refine AllReady.cons rfl (fun K hK => ?_) AllReady.nil
        go_simp
        go_wp2_with (go_at_call 65; refine (HP.out _).mono ?_; rintro x w1 ⟨rfl, b1⟩; have C1 : Hid (Below (w.heap.size + 1) W0 w1) := (show Hid _ from C0.out.trans (b1.mono (Nat.le_of_eq hsz.symm))); have B1 : Hid (Below w.heap.size w w1) := (show Hid _ from B0.out.trans (b1.mono B0.out.size)); obtain ⟨-, -, e2, -⟩ := HS.out _ C1.out; clear b1)
        refine wpAny_ready (rs := [28]) (by kernel_rfl) (by simp) ?_
        refine AllReady.cons rfl (fun K hK => ?_) AllReady.nil
        go_simp
        refine hK _ _ ?_
        clear hK K
        refine wpAny_ready (rs := [29]) (by kernel_rfl) (by simp) ?_
        refine AllReady.cons rfl (fun K hK => ?_) AllReady.nil
        go_simp
        refine hK _ _ ?_
        clear hK K
        refine wpAny_ready (rs := [30]) (by kernel_rfl) (by simp) ?_
        refine AllReady.cons rfl (fun K hK => ?_) AllReady.nil
        go_simp
        refine hK _ _ ?_
        clear hK K
        refine wpAny_take (i := 31) (v := undef) rfl (by kernel_rfl) (by kernel_rfl) (by kernel_rfl) (fun _ _ _ h => h) (Or.inr ⟨rfl, rfl⟩) ?_
        refine wpAny_take (i := 32) (v := undef) rfl (by kernel_rfl) (by kernel_rfl) (by kernel_rfl) (fun _ _ _ h => h) (Or.inr ⟨rfl, rfl⟩) ?_
        refine wpAny_take (i := 33) (v := undef) rfl (by kernel_rfl) (by kernel_rfl) (by kernel_rfl) (fun _ _ _ h => h) (Or.inr ⟨rfl, rfl⟩) ?_
        refine wpAny_take (i := 34) (v := undef) rfl (by kernel_rfl) (by kernel_rfl) (by kernel_rfl) (fun _ _ _ h => h) (Or.inr ⟨rfl, rfl⟩) ?_
        refine wpAny_take (i := 35) (v := undef) rfl (by kernel_rfl) (by kernel_rfl) (by kernel_rfl) (fun _ _ _ h => h) (Or.inr ⟨rfl, rfl⟩) ?_
        refine wpAny_take (i := 36) (v := undef) rfl (by kernel_rfl) (by kernel_rfl) (by kernel_rfl) (fun _ _ _ h => h) (Or.inr ⟨rfl, rfl⟩) ?_
        refine wpAny_ready (rs := [37]) (by kernel_rfl) (by simp) ?_
        refine AllReady.cons rfl (fun K hK => ?_) AllReady.nil
        go_simp
        refine hK _ _ ?_
        clear hK K
        refine wpAny_ready (rs := [38]) (by kernel_rfl) (by simp) ?_
        refine AllReady.cons rfl (fun K hK => ?_) AllReady.nil
        go_simp
        refine hK _ _ ?_
        clear hK K
        refine wpAny_done (by kernel_rfl) ?_ _
        go_wp2
        go_ret
        exact ⟨rfl, B1.out⟩
      · skip
        go_simp
        go_wp2_with (go_at_call 65; refine (HP.out _).mono ?_; rintro x w1 ⟨rfl, b1⟩; have C1 : Hid (Below (w.heap.size + 1) W0 w1) := (show Hid _ from C0.out.trans (b1.mono (Nat.le_of_eq hsz.symm))); have B1 : Hid (Below w.heap.size w w1) := (show Hid _ from B0.out.trans (b1.mono B0.out.size)); obtain ⟨-, -, e2, -⟩ := HS.out _ C1.out; clear b1)
        refine wpAny_ready (rs := [25]) (by kernel_rfl) (by simp) ?_
        refine AllReady.cons rfl (fun K hK => ?_) AllReady.nil
        go_simp
        refine hK _ _ ?_
        clear hK K
        refine wpAny_ready (rs := [28]) (by kernel_rfl) (by simp) ?_
        refine AllReady.cons rfl (fun K hK => ?_) AllReady.nil
        go_simp
        refine hK _ _ ?_
        clear hK K
        refine wpAny_ready (rs := [29]) (by kernel_rfl) (by simp) ?_
        refine AllReady.cons rfl (fun K hK => ?_) AllReady.nil
        go_simp
        refine hK _ _ ?_
        clear hK K
        refine wpAny_ready (rs := [30]) (by kernel_rfl) (by simp) ?_
        refine AllReady.cons rfl (fun K hK => ?_) AllReady.nil
        go_simp
        refine hK _ _ ?_
        clear hK K
        refine wpAny_take (i := 31) (v := undef) rfl (by kernel_rfl) (by kernel_rfl) (by kernel_rfl) (fun _ _ _ h => h) (Or.inr ⟨rfl, rfl⟩) ?_
        refine wpAny_take (i := 32) (v := undef) rfl (by kernel_rfl) (by kernel_rfl) (by kernel_rfl) (fun _ _ _ h => h) (Or.inr ⟨rfl, rfl⟩) ?_
        refine wpAny_take (i := 33) (v := undef) rfl (by kernel_rfl) (by kernel_rfl) (by kernel_rfl) (fun _ _ _ h => h) (Or.inr ⟨rfl, rfl⟩) ?_
        refine wpAny_take (i := 34) (v := undef) rfl (by kernel_rfl) (by kernel_rfl) (by kernel_rfl) (fun _ _ _ h => h) (Or.inr ⟨rfl, rfl⟩) ?_
        refine wpAny_take (i := 35) (v := undef) rfl (by kernel_rfl) (by kernel_rfl) (by kernel_rfl) (fun _ _ _ h => h) (Or.inr ⟨rfl, rfl⟩) ?_
        refine wpAny_take (i := 36) (v := undef) rfl (by kernel_rfl) (by kernel_rfl) (by kernel_rfl) (fun _ _ _ h => h) (Or.inr ⟨rfl, rfl⟩) ?_
        refine wpAny_ready (rs := [37]) (by kernel_rfl) (by simp) ?_
        refine AllReady.cons rfl (fun K hK => ?_) AllReady.nil
        go_simp
        refine hK _ _ ?_
        clear hK K
        refine wpAny_ready (rs := [38]) (by kernel_rfl) (by simp) ?_
        refine AllReady.cons rfl (fun K hK => ?_) AllReady.nil
        go_simp
        refine hK _ _ ?_
        clear hK K
        refine wpAny_done (by kernel_rfl) ?_ _
        go_wp2
        go_ret
        exact ⟨rfl, B1.out⟩
  · skip
    go_simp
    refine hK _ _ ?_
    clear hK K
    refine wpAny_ready (rs := [24, 27]) (by kernel_rfl) (by simp) ?_
    refine AllReady.cons rfl (fun K hK => ?_) (AllReady.cons rfl (fun K hK => ?_) (AllReady.nil))
    · skip
      go_simp
      refine hK _ _ ?_
      clear hK K
      refine wpAny_ready (rs := [25, 27]) (by kernel_rfl) (by simp) ?_
      refine AllReady.cons rfl (fun K hK => ?_) (AllReady.cons rfl (fun K hK => ?_) (AllReady.nil))
      · skip
        go_simp
        refine hK _ _ ?_
        clear hK K
        refine wpAny_ready (rs := [27]) (by kernel_rfl) (by simp) ?_
        refine AllReady.cons rfl (fun K hK => ?_) AllReady.nil
        go_simp
        go_wp2_with (go_at_call 65; refine (HP.out _).mono ?_; rintro x w1 ⟨rfl, b1⟩; have C1 : Hid (Below (w.heap.size + 1) W0 w1) := (show Hid _ from C0.out.trans (b1.mono (Nat.le_of_eq hsz.symm))); have B1 : Hid (Below w.heap.size w w1) := (show Hid _ from B0.out.trans (b1.mono B0.out.size)); obtain ⟨-, -, e2, -⟩ := HS.out _ C1.out; clear b1)
        refine wpAny_ready (rs := [28]) (by kernel_rfl) (by simp) ?_
        refine AllReady.cons rfl (fun K hK => ?_) AllReady.nil
        go_simp
        refine hK _ _ ?_
        clear hK K
        refine wpAny_ready (rs := [29]) (by kernel_rfl) (by simp) ?_
        refine AllReady.cons rfl (fun K hK => ?_) AllReady.nil
        go_simp
        refine hK _ _ ?_
        clear hK K
        refine wpAny_ready (rs := [30]) (by kernel_rfl) (by simp) ?_
        refine AllReady.cons rfl (fun K hK => ?_) AllReady.nil
        go_simp
        refine hK _ _ ?_
        clear hK K
        refine wpAny_take (i := 31) (v := undef) rfl (by kernel_rfl) (by kernel_rfl) (by kernel_rfl) (fun _ _ _ h => h) (Or.inr ⟨rfl, rfl⟩) ?_
        refine wpAny_take (i := 32) (v := undef) rfl (by kernel_rfl) (by kernel_rfl) (by kernel_rfl) (fun _ _ _ h => h) (Or.inr ⟨rfl, rfl⟩) ?_
        refine wpAny_take (i := 33) (v := undef) rfl (by kernel_rfl) (by kernel_rfl) (by kernel_rfl) (fun _ _ _ h => h) (Or.inr ⟨rfl, rfl⟩) ?_
        refine wpAny_take (i := 34) (v := undef) rfl (by kernel_rfl) (by kernel_rfl) (by kernel_rfl) (fun _ _ _ h => h) (Or.inr ⟨rfl, rfl⟩) ?_
        refine wpAny_take (i := 35) (v := undef) rfl (by kernel_rfl) (by kernel_rfl) (by kernel_rfl) (fun _ _ _ h => h) (Or.inr ⟨rfl, rfl⟩) ?_
        refine wpAny_take (i := 36) (v := undef) rfl (by kernel_rfl) (by kernel_rfl) (by kernel_rfl) (fun _ _ _ h => h) (Or.inr ⟨rfl, rfl⟩) ?_
        refine wpAny_ready (rs := [37]) (by kernel_rfl) (by simp) ?_
        refine AllReady.cons rfl (fun K hK => ?_) AllReady.nil
        go_simp
        refine hK _ _ ?_
        clear hK K
        refine wpAny_ready (rs := [38]) (by kernel_rfl) (by simp) ?_
        refine AllReady.cons rfl (fun K hK => ?_) AllReady.nil
        go_simp
        refine hK _ _ ?_
        clear hK K
        refine wpAny_done (by kernel_rfl) ?_ _
        go_wp2
        go_ret
        exact ⟨rfl, B1.out⟩
      · skip
        go_simp
        go_wp2_with (go_at_call 65; refine (HP.out _).mono ?_; rintro x w1 ⟨rfl, b1⟩; have C1 : Hid (Below (w.heap.size + 1) W0 w1) := (show Hid _ from C0.out.trans (b1.mono (Nat.le_of_eq hsz.symm))); have B1 : Hid (Below w.heap.size w w1) := (show Hid _ from B0.out.trans (b1.mono B0.out.size)); obtain ⟨-, -, e2, -⟩ := HS.out _ C1.out; clear b1)
        refine wpAny_ready (rs := [25]) (by kernel_rfl) (by simp) ?_
        refine AllReady.cons rfl (fun K hK => ?_) AllReady.nil
        go_simp
        refine hK _ _ ?_
        clear hK K
        refine wpAny_ready (rs := [28]) (by kernel_rfl) (by simp) ?_
        refine AllReady.cons rfl (fun K hK => ?_) AllReady.nil
        go_simp
        refine hK _ _ ?_
        clear hK K
        refine wpAny_ready (rs := [29]) (by kernel_rfl) (by simp) ?_
        refine AllReady.cons rfl (fun K hK => ?_) AllReady.nil
        go_simp
        refine hK _ _ ?_
        clear hK K
        refine wpAny_ready (rs := [30]) (by kernel_rfl) (by simp) ?_
        refine AllReady.cons rfl (fun K hK => ?_) AllReady.nil
        go_simp
        refine hK _ _ ?_
        clear hK K
        refine wpAny_take (i := 31) (v := undef) rfl (by kernel_rfl) (by kernel_rfl) (by kernel_rfl) (fun _ _ _ h => h) (Or.inr ⟨rfl, rfl⟩) ?_
        refine wpAny_take (i := 32) (v := undef) rfl (by kernel_rfl) (by kernel_rfl) (by kernel_rfl) (fun _ _ _ h => h) (Or.inr ⟨rfl, rfl⟩) ?_
        refine wpAny_take (i := 33) (v := undef) rfl (by kernel_rfl) (by kernel_rfl) (by kernel_rfl) (fun _ _ _ h => h) (Or.inr ⟨rfl, rfl⟩) ?_
        refine wpAny_take (i := 34) (v := undef) rfl (by kernel_rfl) (by kernel_rfl) (by kernel_rfl) (fun _ _ _ h => h) (Or.inr ⟨rfl, rfl⟩) ?_
        refine wpAny_take (i := 35) (v := undef) rfl (by kernel_rfl) (by kernel_rfl) (by kernel_rfl) (fun _ _ _ h => h) (Or.inr ⟨rfl, rfl⟩) ?_
        refine wpAny_take (i := 36) (v := undef) rfl (by kernel_rfl) (by kernel_rfl) (by kernel_rfl) (fun _ _ _ h => h) (Or.inr ⟨rfl, rfl⟩) ?_
        refine wpAny_ready (rs := [37]) (by kernel_rfl) (by simp) ?_
        refine AllReady.cons rfl (fun K hK => ?_) AllReady.nil
        go_simp
        refine hK _ _ ?_
        clear hK K
        refine wpAny_ready (rs := [38]) (by kernel_rfl) (by simp) ?_
        refine AllReady.cons rfl (fun K hK => ?_) AllReady.nil
        go_simp
        refine hK _ _ ?_
        clear hK K
        refine wpAny_done (by kernel_rfl) ?_ _
        go_wp2
        go_ret
        exact ⟨rfl, B1.out⟩
    · skip
      go_simp
      go_wp2_with (go_at_call 65; refine (HP.out _).mono ?_; rintro x w1 ⟨rfl, b1⟩; have C1 : Hid (Below (w.heap.size + 1) W0 w1) := (show Hid _ from C0.out.trans (b1.mono (Nat.le_of_eq hsz.symm))); have B1 : Hid (Below w.heap.size w w1) := (show Hid _ from B0.out.trans (b1.mono B0.out.size)); obtain ⟨-, -, e2, -⟩ := HS.out _ C1.out; clear b1)
      refine wpAny_ready (rs := [24]) (by kernel_rfl) (by simp) ?_
      refine AllReady.cons rfl (fun K hK => ?_) AllReady.nil
      go_simp
      refine hK _ _ ?_
      clear hK K
      refine wpAny_ready (rs := [25]) (by kernel_rfl) (by simp) ?_
      refine AllReady.cons rfl (fun K hK => ?_) AllReady.nil
      go_simp
      refine hK _ _ ?_
      clear hK K
      refine wpAny_ready (rs := [28]) (by kernel_rfl) (by simp) ?_
      refine AllReady.cons rfl (fun K hK => ?_) AllReady.nil
      go_simp
      refine hK _ _ ?_
      clear hK K
      refine wpAny_ready (rs := [29]) (by kernel_rfl) (by simp) ?_
      refine AllReady.cons rfl (fun K hK => ?_) AllReady.nil
      go_simp
      refine hK _ _ ?_
      clear hK K
      refine wpAny_ready (rs := [30]) (by kernel_rfl) (by simp) ?_
      refine AllReady.cons rfl (fun K hK => ?_) AllReady.nil
      go_simp
      refine hK _ _ ?_
      clear hK K
      refine wpAny_take (i := 31) (v := undef) rfl (by kernel_rfl) (by kernel_rfl) (by kernel_rfl) (fun _ _ _ h => h) (Or.inr ⟨rfl, rfl⟩) ?_
      refine wpAny_take (i := 32) (v := undef) rfl (by kernel_rfl) (by kernel_rfl) (by kernel_rfl) (fun _ _ _ h => h) (Or.inr ⟨rfl, rfl⟩) ?_
      refine wpAny_take (i := 33) (v := undef) rfl (by kernel_rfl) (by kernel_rfl) (by kernel_rfl) (fun _ _ _ h => h) (Or.inr ⟨rfl, rfl⟩) ?_
      refine wpAny_take (i := 34) (v := undef) rfl (by kernel_rfl) (by kernel_rfl) (by kernel_rfl) (fun _ _ _ h => h) (Or.inr ⟨rfl, rfl⟩) ?_
      refine wpAny_take (i := 35) (v := undef) rfl (by kernel_rfl) (by kernel_rfl) (by kernel_rfl) (fun _ _ _ h => h) (Or.inr ⟨rfl, rfl⟩) ?_
      refine wpAny_take (i := 36) (v := undef) rfl (by kernel_rfl) (by kernel_rfl) (by kernel_rfl) (fun _ _ _ h => h) (Or.inr ⟨rfl, rfl⟩) ?_
      refine wpAny_ready (rs := [37]) (by kernel_rfl) (by simp) ?_
      refine AllReady.cons rfl (fun K hK => ?_) AllReady.nil
      go_simp
      refine hK _ _ ?_
      clear hK K
      refine wpAny_ready (rs := [38]) (by kernel_rfl) (by simp) ?_
      refine AllReady.cons rfl (fun K hK => ?_) AllReady.nil
      go_simp
      refine hK _ _ ?_
      clear hK K
      refine wpAny_done (by kernel_rfl) ?_ _
      go_wp2
      go_ret
      exact ⟨rfl, B1.out⟩
set_option maxRecDepth 100000 in
set_option maxHeartbeats 4000000 in
/-- The way that asks maxData, which says no. -/
theorem qmay_data (k l p : Int) (ad : Option Addr) (len cap : Nat) (w : World) (h1 : 1 ≤ k) (h2 : k < 7) (h3 : 0 ≤ l) (h4 : l < 281474976710656) (h5 : 0 ≤ p) (h6 : p ≤ maxPosN k) (h7 : ¬ (len : Int) ≤ maxDataN k) :
    Calls Tryz.prog 34 #[reqV k l p ad len cap] w fun x w' => x = .returned (.bool false) ∧ Below w.heap.size w w' := by
  have HP : Hid (∀ W : World, Calls Tryz.prog 65 #[reqV k l p ad len cap] W fun x w' => x = .returned (.int .i64 (maxPosN k)) ∧ Below W.heap.size W w') := (show Hid _ from fun W => maxPos_any k l p ad len cap W)
  have HD : Hid (∀ W : World, Calls Tryz.prog 66 #[reqV k l p ad len cap] W fun x w' => x = .returned (.int .i64 (maxDataN k)) ∧ Below W.heap.size W w') := (show Hid _ from fun W => maxData_any k l p ad len cap W)
  generalize maxPosN k = mp at *
  generalize maxDataN k = md at *
  unfold reqV at *
  have HS : Hid (∀ W : World, Below (w.heap.size + 1) (w.alloc (.cells #[.int .i64 k, .int .i64 l, .int .i64 p, .slice ad len cap] 27)) W → W.cell? ⟨w.heap.size, 0, none⟩ = some (.int .i64 k) ∧ W.cell? ⟨w.heap.size, 1, none⟩ = some (.int .i64 l) ∧ W.cell? ⟨w.heap.size, 2, none⟩ = some (.int .i64 p) ∧ W.cell? ⟨w.heap.size, 3, none⟩ = some (.slice ad len cap)) := (show Hid _ from fun W hW => by
    have q := (hW.block w.heap.size (by omega)).trans (heap_alloc_last w _)
    refine ⟨?_, ?_, ?_, ?_⟩ <;> (rw [cell_of_row _ _ _ _ _ _ q]; rfl))
  go_enter Tryz.func34, Tryz.ntmps34
  go_wp2_with fail
  generalize hW0 : w.alloc (.cells #[.int .i64 k, .int .i64 l, .int .i64 p, .slice ad len cap] 27) = W0 at *
  have hsz : W0.heap.size = w.heap.size + 1 := by rw [← hW0]; simp
  have B0 : Hid (Below w.heap.size w W0.drew) := (show Hid _ from (by rw [← hW0]; exact ((Below.refl _ w).alloc (Nat.le_refl _) _).drew))
  have C0 : Hid (Below (w.heap.size + 1) W0 W0.drew) := (show Hid _ from (Below.refl _ W0).drew)
  clear hW0
  go_region_held3 (fun W => W.cell? ⟨w.heap.size, 0, none⟩ = some (.int .i64 k) ∧ W.cell? ⟨w.heap.size, 1, none⟩ = some (.int .i64 l) ∧ W.cell? ⟨w.heap.size, 2, none⟩ = some (.int .i64 p) ∧ W.cell? ⟨w.heap.size, 3, none⟩ = some (.slice ad len cap))
    (first | exact HS.out _ C0.out | exact HS.out _ C1.out | exact HS.out _ C2.out)
    (first
      | (go_at_call 65; refine (HP.out _).mono ?_; rintro x w1 ⟨rfl, b1⟩; have C1 : Hid (Below (w.heap.size + 1) W0 w1) := (show Hid _ from C0.out.trans (b1.mono (Nat.le_of_eq hsz.symm))); have C1s : Hid (w.heap.size + 1 ≤ w1.heap.size) := (show Hid _ from Nat.le_trans (Nat.le_of_eq hsz.symm) b1.size); have B1 : Hid (Below w.heap.size w w1) := (show Hid _ from B0.out.trans (b1.mono B0.out.size)); clear b1)
      | (go_at_call 66; refine (HD.out _).mono ?_; rintro x w2 ⟨rfl, b2⟩; have C2 : Hid (Below (w.heap.size + 1) W0 w2) := (show Hid _ from C1.out.trans (b2.mono C1s.out)); have B2 : Hid (Below w.heap.size w w2) := (show Hid _ from B1.out.trans (b2.mono B1.out.size)); clear b2))
  go_wp2
  go_ret
  exact ⟨by simpa using h7, B2.out⟩
theorem qmay_any (k l p : Int) (ad : Option Addr) (len cap : Nat) (w : World) :
    Calls Tryz.prog 34 #[reqV k l p ad len cap] w fun x w' => x = .returned (.bool (reqMay k l p len)) ∧ Below w.heap.size w w' := by
  cases hm : reqMay k l p len with
  | true => exact qmay_yes k l p ad len cap w hm
  | false =>
    by_cases h : 1 ≤ k ∧ k < 7 ∧ 0 ≤ l ∧ l < 281474976710656 ∧ 0 ≤ p
    · obtain ⟨h1, h2, h3, h4, h5⟩ := h
      by_cases h6 : p ≤ maxPosN k
      · by_cases h7 : (len : Int) ≤ maxDataN k
        · exfalso
          have := reqMay_yes (len := len) ⟨h1, (by omega : k ≤ 6), h3, h4, h5, h6, h7⟩
          rw [hm] at this
          cases this
        · exact qmay_data k l p ad len cap w h1 h2 h3 h4 h5 h6 h7
      · exact qmay_pos k l p ad len cap w h1 h2 h3 h4 h5 h6
    · exact qmay_early k l p ad len cap w h
end Go.Proofs.YtjldflfoncfndaaGreat
