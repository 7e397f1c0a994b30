/- may of an Ask of the kind 1 of package acceptor. -/
import Derived.Test.YtmiibakbcogolaaGreatAcMay0
namespace Go.Proofs.YtmiibakbcogolaaGreat.Ac
open Go.RowKit Crcm

set_option maxRecDepth 100000 in
set_option maxHeartbeats 8000000 in
theorem amay_1 (g v b : Int) (ad : Option Addr) (len cap : Nat) (w : World) (h : askMay 1 g v b 0 = false) :
    Calls Tryz.prog 34 #[askV 1 g v b ad len cap] w fun x w' => x = .returned (.bool (askMay 1 g v b len)) ∧ Below w.heap.size w w' := by
  have HB : Hid (Below w.heap.size w (w.alloc (.cells #[.int .i64 1, .int .i64 g, .int .i64 v, .int .i64 b, .slice ad len cap] 30))) := (show Hid _ from (Below.refl _ w).alloc (Nat.le_refl _) _)
  unfold askV
  by_cases h0 : isLogletN g = true
  rotate_left
  · skip
    have hf : isLogletN g = false := by simpa using h0
    have HV : Hid (askMay 1 g v b len = false) := hid (by simp [askMay, hf])
    go_enter Tryz.func34, Tryz.ntmps34
    go_wp2_with fail
    go_quiet (first | (go_at_call 66; exact Calls.quiet_of_same (isNum hf _)))
    all_goals go_wp2
    all_goals go_ret
    all_goals exact ⟨congrArg (fun x => Ending.returned (.bool x)) HV.out.symm, below_drewM HB.out _⟩
  by_cases h1 : isLogletN v = true
  rotate_left
  · skip
    have hf : isLogletN v = false := by simpa using h1
    have HV : Hid (askMay 1 g v b len = false) := hid (by simp [askMay, hf])
    go_enter Tryz.func34, Tryz.ntmps34
    go_wp2_with fail
    go_quiet (first | (go_at_call 66; exact Calls.quiet_of_same (isNum h0 _)) | (go_at_call 66; exact Calls.quiet_of_same (isNum hf _)))
    all_goals go_wp2
    all_goals go_ret
    all_goals exact ⟨congrArg (fun x => Ending.returned (.bool x)) HV.out.symm, below_drewM HB.out _⟩
  by_cases h2 : decide (0 < v) = true
  rotate_left
  · skip
    have hd : decide (0 < v) = false := by cases hx : decide (0 < v) <;> simp_all
    have HV : Hid (askMay 1 g v b len = false) := hid (by unfold askMay; rw [hd]; simp)
    go_enter Tryz.func34, Tryz.ntmps34
    go_wp2_with fail
    go_quiet (first | (go_at_call 66; exact Calls.quiet_of_same (isNum h0 _)) | (go_at_call 66; exact Calls.quiet_of_same (isNum h1 _)))
    all_goals go_wp2
    all_goals go_ret
    all_goals exact ⟨congrArg (fun x => Ending.returned (.bool x)) HV.out.symm, below_drewM HB.out _⟩
  by_cases h3 : isLogletN b = true
  rotate_left
  · skip
    have hf : isLogletN b = false := by simpa using h3
    have HV : Hid (askMay 1 g v b len = false) := hid (by simp [askMay, hf])
    go_enter Tryz.func34, Tryz.ntmps34
    go_wp2_with fail
    go_quiet (first | (go_at_call 66; exact Calls.quiet_of_same (isNum h0 _)) | (go_at_call 66; exact Calls.quiet_of_same (isNum h1 _)) | (go_at_call 66; exact Calls.quiet_of_same (isNum hf _)))
    all_goals go_wp2
    all_goals go_ret
    all_goals exact ⟨congrArg (fun x => Ending.returned (.bool x)) HV.out.symm, below_drewM HB.out _⟩
  by_cases h4 : decide (0 < b) = true
  rotate_left
  · skip
    have hd : decide (0 < b) = false := by cases hx : decide (0 < b) <;> simp_all
    have HV : Hid (askMay 1 g v b len = false) := hid (by unfold askMay; rw [hd]; simp)
    go_enter Tryz.func34, Tryz.ntmps34
    go_wp2_with fail
    go_quiet (first | (go_at_call 66; exact Calls.quiet_of_same (isNum h0 _)) | (go_at_call 66; exact Calls.quiet_of_same (isNum h1 _)) | (go_at_call 66; exact Calls.quiet_of_same (isNum h3 _)))
    all_goals go_wp2
    all_goals go_ret
    all_goals exact ⟨congrArg (fun x => Ending.returned (.bool x)) HV.out.symm, below_drewM HB.out _⟩
  exfalso
  unfold askMay at h
  rw [h0, h1, h2, h3, h4] at h
  simp [maxValN] at h
end Go.Proofs.YtmiibakbcogolaaGreat.Ac
