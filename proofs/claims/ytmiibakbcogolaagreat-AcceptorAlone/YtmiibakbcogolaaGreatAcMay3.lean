/- may of an Ask of the kind 3 of package acceptor. -/
import Derived.Test.YtmiibakbcogolaaGreatAcMay0
namespace Go.Proofs.YtmiibakbcogolaaGreat.Ac
open Go.RowKit Crcm

set_option maxRecDepth 100000 in
set_option maxHeartbeats 8000000 in
theorem amay_3 (g v b : Int) (ad : Option Addr) (len cap : Nat) (w : World) :
    Calls Tryz.prog 34 #[askV 3 g v b ad len cap] w fun x w' => x = .returned (.bool (askMay 3 g v b len)) ∧ Below w.heap.size w w' := by
  have HB : Hid (Below w.heap.size w (w.alloc (.cells #[.int .i64 3, .int .i64 g, .int .i64 v, .int .i64 b, .slice ad len cap] 30))) := (show Hid _ from (Below.refl _ w).alloc (Nat.le_refl _) _)
  unfold askV
  by_cases h0 : isLogletN g = true
  rotate_left
  · skip
    have hf : isLogletN g = false := by simpa using h0
    have HV : Hid (askMay 3 g v b len = false) := hid (by simp [askMay, hf])
    go_enter Tryz.func34, Tryz.ntmps34
    go_wp2_with fail
    go_quiet (first | (go_at_call 66; exact Calls.quiet_of_same (isNum hf _)))
    all_goals go_wp2
    all_goals go_ret
    all_goals exact ⟨congrArg (fun x => Ending.returned (.bool x)) HV.out.symm, below_drewM HB.out _⟩
  by_cases h1 : isLogletN v = true
  rotate_left
  · skip
    have hf : isLogletN v = false := by simpa using h1
    have HV : Hid (askMay 3 g v b len = false) := hid (by simp [askMay, hf])
    go_enter Tryz.func34, Tryz.ntmps34
    go_wp2_with fail
    go_quiet (first | (go_at_call 66; exact Calls.quiet_of_same (isNum h0 _)) | (go_at_call 66; exact Calls.quiet_of_same (isNum hf _)))
    all_goals go_wp2
    all_goals go_ret
    all_goals exact ⟨congrArg (fun x => Ending.returned (.bool x)) HV.out.symm, below_drewM HB.out _⟩
  by_cases h2 : decide (0 < v) = true
  rotate_left
  · skip
    have hd : decide (0 < v) = false := by cases hx : decide (0 < v) <;> simp_all
    have HV : Hid (askMay 3 g v b len = false) := hid (by unfold askMay; rw [hd]; simp)
    go_enter Tryz.func34, Tryz.ntmps34
    go_wp2_with fail
    go_quiet (first | (go_at_call 66; exact Calls.quiet_of_same (isNum h0 _)) | (go_at_call 66; exact Calls.quiet_of_same (isNum h1 _)))
    all_goals go_wp2
    all_goals go_ret
    all_goals exact ⟨congrArg (fun x => Ending.returned (.bool x)) HV.out.symm, below_drewM HB.out _⟩
  by_cases h3 : isLogletN b = true
  rotate_left
  · skip
    have hf : isLogletN b = false := by simpa using h3
    have HV : Hid (askMay 3 g v b len = false) := hid (by simp [askMay, hf])
    go_enter Tryz.func34, Tryz.ntmps34
    go_wp2_with fail
    go_quiet (first | (go_at_call 66; exact Calls.quiet_of_same (isNum h0 _)) | (go_at_call 66; exact Calls.quiet_of_same (isNum h1 _)) | (go_at_call 66; exact Calls.quiet_of_same (isNum hf _)))
    all_goals go_wp2
    all_goals go_ret
    all_goals exact ⟨congrArg (fun x => Ending.returned (.bool x)) HV.out.symm, below_drewM HB.out _⟩
  by_cases h4 : decide (0 < b) = false
  rotate_left
  · skip
    have hd : decide (0 < b) = true := by cases hx : decide (0 < b) <;> simp_all
    have HV : Hid (askMay 3 g v b len = false) := hid (by unfold askMay; rw [hd]; simp)
    go_enter Tryz.func34, Tryz.ntmps34
    go_wp2_with fail
    go_quiet (first | (go_at_call 66; exact Calls.quiet_of_same (isNum h0 _)) | (go_at_call 66; exact Calls.quiet_of_same (isNum h1 _)) | (go_at_call 66; exact Calls.quiet_of_same (isNum h3 _)))
    all_goals go_wp2
    all_goals go_ret
    all_goals exact ⟨congrArg (fun x => Ending.returned (.bool x)) HV.out.symm, below_drewM HB.out _⟩
  have HV : Hid (askMay 3 g v b len = decide ((len : Int) ≤ 4000)) := hid (by unfold askMay maxValN; rw [h0, h1, h2, h3, h4]; simp)
  have HX : Hid (∀ W : World, Calls Tryz.prog 67 #[.agg #[.int .i64 3, .int .i64 g, .int .i64 v, .int .i64 b, .slice ad len cap]] W fun x w' => x = .returned (.int .i64 4000) ∧ Below W.heap.size W w') := (show Hid _ from fun W => maxValue_any 3 g v b ad len cap W)
  have HI : Hid (isLogletN g = true ∧ isLogletN v = true ∧ isLogletN b = true) := (show Hid _ from ⟨h0, h1, h3⟩)
  clear h0 h1 h3
  have HS : Hid (∀ W : World, Below (w.heap.size + 1) (w.alloc (.cells #[.int .i64 3, .int .i64 g, .int .i64 v, .int .i64 b, .slice ad len cap] 30)) W → W.cell? ⟨w.heap.size, 0, none⟩ = some (.int .i64 3) ∧ W.cell? ⟨w.heap.size, 1, none⟩ = some (.int .i64 g) ∧ W.cell? ⟨w.heap.size, 2, none⟩ = some (.int .i64 v) ∧ W.cell? ⟨w.heap.size, 3, none⟩ = some (.int .i64 b) ∧ W.cell? ⟨w.heap.size, 4, none⟩ = some (.slice ad len cap)) := (show Hid _ from fun W hW => by
    have q := (hW.block w.heap.size (by omega)).trans (heap_alloc_last w _)
    refine ⟨?_, ?_, ?_, ?_, ?_⟩ <;> (rw [cell_of_row _ _ _ _ _ _ q]; rfl))
  go_enter Tryz.func34, Tryz.ntmps34
  go_wp2_with fail
  generalize hW0 : w.alloc (.cells #[.int .i64 3, .int .i64 g, .int .i64 v, .int .i64 b, .slice ad len cap] 30) = W0 at *
  have hsz : W0.heap.size = w.heap.size + 1 := by rw [← hW0]; simp
  have B0 : Hid (Below w.heap.size w W0.drew) := (show Hid _ from HB.out.drew)
  have C0 : Hid (Below (w.heap.size + 1) W0 W0.drew) := (show Hid _ from (Below.refl _ W0).drew)
  clear hW0
  go_region_held3 (fun W => W.cell? ⟨w.heap.size, 0, none⟩ = some (.int .i64 3) ∧ W.cell? ⟨w.heap.size, 1, none⟩ = some (.int .i64 g) ∧ W.cell? ⟨w.heap.size, 2, none⟩ = some (.int .i64 v) ∧ W.cell? ⟨w.heap.size, 3, none⟩ = some (.int .i64 b) ∧ W.cell? ⟨w.heap.size, 4, none⟩ = some (.slice ad len cap))
    (first | exact HS.out _ C0.out | exact HS.out _ C1.out)
    (first
      | (go_at_call 66; (with_reducible_and_instances (refine (isNum HI.out.1 _).mono ?_)); rintro x w' ⟨rfl, hw'⟩; obtain rfl := hw'.symm)
      | (go_at_call 66; (with_reducible_and_instances (refine (isNum HI.out.2.1 _).mono ?_)); rintro x w' ⟨rfl, hw'⟩; obtain rfl := hw'.symm)
      | (go_at_call 66; (with_reducible_and_instances (refine (isNum HI.out.2.2 _).mono ?_)); rintro x w' ⟨rfl, hw'⟩; obtain rfl := hw'.symm)
      | (go_at_call 67; refine (HX.out _).mono ?_; rintro x w1 ⟨rfl, b1⟩; have C1 : Hid (Below (w.heap.size + 1) W0 w1) := (show Hid _ from C0.out.trans (b1.mono (Nat.le_of_eq hsz.symm))); have B1 : Hid (Below w.heap.size w w1) := (show Hid _ from B0.out.trans (b1.mono B0.out.size)); clear b1))
  all_goals go_wp2
  all_goals go_ret
  all_goals exact ⟨by first | exact congrArg (fun x => Ending.returned (.bool x)) HV.out.symm | (rw [HV.out]; simp; done) | (rw [HV.out]; simp; omega), B1.out⟩
end Go.Proofs.YtmiibakbcogolaaGreat.Ac
