/- learn of package acceptor. -/
import Derived.Test.YtmiibakbcogolaaGreatPAcR
import Derived.Deep.RegionLaw
import Derived.Deep.DeepCutAuto
namespace Go.Proofs.YtmiibakbcogolaaGreat.Ac
open Go.RowKit Crcm

set_option maxRecDepth 100000 in
set_option maxHeartbeats 4000000 in
theorem learn_old (kp kb : Nat) (kv : List Nat) (k g v b : Int) (ad : Option Addr) (len cap : Nat) (w : World) :
    Calls Tryz.prog 94 #[knV ⟨kp, kb, true, kv⟩, askV k g v b ad len cap] w fun x w' => x = .returned (.tuple #[knV ⟨kp, kb, true, kv⟩, .int .i64 0]) ∧ Below w.heap.size w w' := by
  unfold knV askV
  simp only
  generalize bstr kv = str
  go_enter Tryz.func94, Tryz.ntmps94
  go_wp2
  refine bodyPost_ret (ret_kn Tryz.results94 _ _ (w.heap.size + 1 + 1) _ _ _ _ rfl (last3 _ _ _ _ _)) rfl ⟨rfl, below3 _ _ _ _⟩
set_option maxRecDepth 100000 in
set_option maxHeartbeats 4000000 in
theorem learn_new (kp kb : Nat) (kv : List Nat) (k g v b : Int) (ad : Option Addr) (len cap : Nat) (l : List Nat) (w : World) (hp : Part.ok w ⟨ad, len, cap, l⟩) :
    Calls Tryz.prog 94 #[knV ⟨kp, kb, false, kv⟩, askV k g v b ad len cap] w fun x w' => x = .returned (.tuple #[knV ⟨kp, max kb 1, true, l⟩, .int .i64 0]) ∧ Below w.heap.size w w' := by
  unfold knV askV
  simp only
  obtain ⟨m, hm⟩ : ∃ m : Int, m = ((max kb 1 : Nat) : Int) := ⟨_, rfl⟩
  rw [← hm]
  have hm1 : (if (kb : Int) < 1 then (1 : Int) else (kb : Int)) = m := by split <;> omega
  clear hm
  have kc := fun o1 o2 o3 => conv_any (hp.later (below3 w o1 o2 o3).drew).2.2 len cap hp.1
  clear hp
  simp only at kc
  generalize bstr kv = str
  generalize bstr l = str2 at *
  go_enter Tryz.func94, Tryz.ntmps94
  go_upto_region 4 with fail
  go_region_law (fail)
  all_goals go_wp2
  all_goals refine bodyPost_ret (ret_kn Tryz.results94 _ _ (w.heap.size + 1 + 1) _ _ _ _ rfl ((last3 _ _ _ _ _).later (Below.refl _ _).drew)) rfl ⟨rfl, (below3 _ _ _ _).drew⟩
theorem learn_any (kn : Kn) (k g v b : Int) (ad : Option Addr) (len cap : Nat) (l : List Nat) (w : World) (hp : Part.ok w ⟨ad, len, cap, l⟩) :
    Calls Tryz.prog 94 #[knV kn, askV k g v b ad len cap] w fun x w' => x = .returned (.tuple #[knV (learnN kn l).2, .int .i64 ((learnN kn l).1 : Nat)]) ∧ Below w.heap.size w w' := by
  obtain ⟨kp, kb, ks, kv⟩ := kn
  cases ks with
  | true => exact learn_old kp kb kv k g v b ad len cap w
  | false => exact learn_new kp kb kv k g v b ad len cap l w hp
end Go.Proofs.YtmiibakbcogolaaGreat.Ac
