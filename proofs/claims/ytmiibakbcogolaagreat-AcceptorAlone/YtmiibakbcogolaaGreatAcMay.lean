/- may of an Ask of package acceptor, of whatever kind. -/
import Derived.Test.YtmiibakbcogolaaGreatAcMay1
import Derived.Test.YtmiibakbcogolaaGreatAcMayH
import Derived.Test.YtmiibakbcogolaaGreatAcMay2
import Derived.Test.YtmiibakbcogolaaGreatAcMay3
import Derived.Test.YtmiibakbcogolaaGreatAcMay4
namespace Go.Proofs.YtmiibakbcogolaaGreat.Ac
open Go.RowKit Crcm

set_option maxRecDepth 100000 in
set_option maxHeartbeats 4000000 in
theorem amay_out (k g v b : Int) (ad : Option Addr) (len cap : Nat) (w : World) (h : ¬ (1 ≤ k ∧ k < 5)) :
    Calls Tryz.prog 34 #[askV k g v b ad len cap] w fun x w' => x = .returned (.bool (askMay k g v b len)) ∧ Below w.heap.size w w' := by
  have HB : Hid (Below w.heap.size w (w.alloc (.cells #[.int .i64 k, .int .i64 g, .int .i64 v, .int .i64 b, .slice ad len cap] 30))) := (show Hid _ from (Below.refl _ w).alloc (Nat.le_refl _) _)
  unfold askV
  by_cases h0 : 1 ≤ k
  · have h1 : ¬ k < 5 := fun hh => h ⟨h0, hh⟩
    have HV : Hid (askMay k g v b len = false) := hid (by simp [askMay, h1])
    have hd0 : decide (1 ≤ k) = true := by simpa using h0
    have hd1 : decide (k < 5) = false := by simpa using h1
    clear h
    go_enter Tryz.func34, Tryz.ntmps34
    go_wp2_with fail
    go_quiet (fail)
    all_goals go_wp2
    all_goals go_ret
    all_goals exact ⟨congrArg (fun x => Ending.returned (.bool x)) HV.out.symm, below_drewM HB.out _⟩
  · have HV : Hid (askMay k g v b len = false) := hid (by simp [askMay, h0])
    have hd0 : decide (1 ≤ k) = false := by simpa using h0
    clear h
    go_enter Tryz.func34, Tryz.ntmps34
    go_wp2_with fail
    go_quiet (fail)
    all_goals go_wp2
    all_goals go_ret
    all_goals exact ⟨congrArg (fun x => Ending.returned (.bool x)) HV.out.symm, below_drewM HB.out _⟩
theorem amay_any (k g v b : Int) (ad : Option Addr) (len cap : Nat) (w : World) :
    Calls Tryz.prog 34 #[askV k g v b ad len cap] w fun x w' => x = .returned (.bool (askMay k g v b len)) ∧ Below w.heap.size w w' := by
  by_cases h : 1 ≤ k ∧ k < 5
  · obtain ⟨h1, h2⟩ := h
    have hk : k = 1 ∨ k = 2 ∨ k = 3 ∨ k = 4 := by omega
    rcases hk with rfl | rfl | rfl | rfl
    · cases hm : askMay 1 g v b 0 with
      | true => exact amay_1y g v b ad len cap w hm
      | false => exact amay_1 g v b ad len cap w hm
    · exact amay_2 g v b ad len cap w
    · exact amay_3 g v b ad len cap w
    · exact amay_4 g v b ad len cap w
  · exact amay_out k g v b ad len cap w h
end Go.Proofs.YtmiibakbcogolaaGreat.Ac
