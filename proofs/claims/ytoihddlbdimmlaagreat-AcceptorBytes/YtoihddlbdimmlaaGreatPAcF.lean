/- asks and tells of the document's package of layer 8: which Asks and Answers may be. three and PutAsk of the document's package of layer 8. numbers and GetAsk of the document's package of layer 8. tells and truth of the document's package of layer 8. PutAnswer of the document's package of layer 8. GetAnswer of the document's package of layer 8. -/
import Derived.Test.YtoihddlbdimmlaaGreatAcMay0
import Derived.Test.YtoihddlbdimmlaaGreatPAcT
import Derived.Test.YtoihddlbdimmlaaGreatPAcB
import Derived.Test.YtoihddlbdimmlaaGreatAcBox
import Derived.Test.YtoihddlbdimmlaaGreatAcFramed
import Derived.Test.YtoihddlbdimmlaaGreatPRef
import Derived.Deep.DeepCutAuto
namespace Go.Proofs.YtoihddlbdimmlaaGreat.Ac
open Go.RowKit Crcm

def inN (n l : Int) : Bool := decide (l ≤ n) && decide (n < 281474976710656)
set_option maxRecDepth 100000 in
theorem in_any (n l : Int) (w : World) : Calls Tryz.prog 73 #[.int .i64 n, .int .i64 l] w fun e w' => e = .returned (.bool (inN n l)) ∧ w' = w := by
  unfold inN
  by_cases h : l ≤ n
  · go_enter Tryz.func73, Tryz.ntmps73
    go_wp2
    go_ret
    exact ⟨by simp [h], rfl⟩
  · have hd : decide (l ≤ n) = false := by simpa using h
    go_enter Tryz.func73, Tryz.ntmps73
    go_wp2
    go_ret
    exact ⟨by simp, rfl⟩
theorem inIs {n l : Int} {x : Bool} (h : inN n l = x) (w : World) : Calls Tryz.prog 73 #[.int .i64 n, .int .i64 l] w fun e w' => e = .returned (.bool x) ∧ w' = w := by
  rw [← h]
  exact in_any n l w
theorem inN_iff {n l : Int} : inN n l = true ↔ l ≤ n ∧ n < 281474976710656 := by simp [inN]
theorem in0 (n : Int) : inN n 0 = isLogletN n := rfl
theorem may_t {k g v b : Int} {len : Nat} (h : (1 ≤ k ∧ k < 5) ∧ (0 ≤ g ∧ g < 281474976710656) ∧ (0 ≤ v ∧ v < 281474976710656) ∧ (0 < v ↔ k ≠ 4) ∧ (0 ≤ b ∧ b < 281474976710656) ∧ (0 < b ↔ (k = 1 ∨ k = 2)) ∧ (len : Int) ≤ maxValN k) : true = askMay k g v b len := by
  obtain ⟨⟨h1, h2⟩, h3, h4, h5, h6, h7, h8⟩ := h
  symm
  unfold askMay
  rw [isLogletN_iff.2 h3, isLogletN_iff.2 h4, isLogletN_iff.2 h6]
  have e1 : decide (0 < v) = !decide (k = 4) := by
    by_cases hk : k = 4
    · have : ¬ 0 < v := fun hh => (h5.1 hh) hk
      simp [hk]; omega
    · have : 0 < v := h5.2 hk
      simp [hk, this]
  have e2 : decide (0 < b) = decide (k = 1 ∨ k = 2) := by
    by_cases hk : k = 1 ∨ k = 2
    · have : 0 < b := h7.2 hk
      simp [hk, this]
    · have : ¬ 0 < b := fun hh => hk (h7.1 hh)
      simp [hk]; omega
  rw [e1, e2]
  simp [h1, h2, h8]
theorem may_f {k g v b : Int} {len : Nat} (h : ¬ ((1 ≤ k ∧ k < 5) ∧ (0 ≤ g ∧ g < 281474976710656) ∧ (0 ≤ v ∧ v < 281474976710656) ∧ (0 < v ↔ k ≠ 4) ∧ (0 ≤ b ∧ b < 281474976710656) ∧ (0 < b ↔ (k = 1 ∨ k = 2)) ∧ (len : Int) ≤ maxValN k)) : false = askMay k g v b len := by
  cases hm : askMay k g v b len with
  | false => rfl
  | true =>
    exfalso
    apply h
    simp only [askMay, Bool.and_eq_true, decide_eq_true_eq, isLogletN_iff, beq_iff_eq] at hm
    obtain ⟨⟨⟨⟨⟨⟨⟨h1, h2⟩, h3⟩, h4⟩, h5⟩, h6⟩, h7⟩, h8⟩ := hm
    refine ⟨⟨h1, h2⟩, h3, h4, ?_, h6, ?_, h8⟩
    · by_cases hk : k = 4
      · simp [hk] at h5; simp [hk]; omega
      · simp [hk] at h5; simp [hk]; omega
    · by_cases hk : k = 1 ∨ k = 2
      · simp [hk] at h7; simp [hk]; omega
      · simp [hk] at h7; simp [hk]; omega
set_option maxRecDepth 100000 in
set_option maxHeartbeats 4000000 in
theorem rasks_out (k : Int) (g v b : Int) (ad : Option Addr) (len cap : Nat) (w : World) (h : ¬ (1 ≤ k ∧ k < 5)) :
    Calls Tryz.prog 38 #[askV k g v b ad len cap] w fun x w' => x = .returned (.bool (askMay k g v b len)) ∧ Below w.heap.size w w' := by
  have HB : Hid (Below w.heap.size w (w.alloc (.cells #[.int .i64 k, .int .i64 g, .int .i64 v, .int .i64 b, .slice ad len cap] 24))) := hid ((Below.refl _ w).alloc (Nat.le_refl _) _)
  unfold askV
  by_cases h0 : k < 1
  · skip
    have hd0 : decide (k < 1) = true := by simpa using h0
    have HV : Hid (false = askMay k g v b len) := hid (by exact may_f (fun hh => h hh.1))
    go_enter Tryz.func38, Tryz.ntmps38
    go_wp2_with fail
    go_ret
    exact ⟨congrArg (fun x => Ending.returned (.bool x)) HV.out, HB.out⟩
  · skip
    have hd0 : decide (k < 1) = false := by simpa using h0
    have hd1 : decide (4 < k) = true := by simp; omega
    have HV : Hid (false = askMay k g v b len) := hid (by exact may_f (fun hh => h hh.1))
    go_enter Tryz.func38, Tryz.ntmps38
    go_wp2_with fail
    go_ret
    exact ⟨congrArg (fun x => Ending.returned (.bool x)) HV.out, HB.out⟩
set_option maxRecDepth 100000 in
set_option maxHeartbeats 4000000 in
theorem rasks_1 (g v b : Int) (ad : Option Addr) (len cap : Nat) (w : World) :
    Calls Tryz.prog 38 #[askV 1 g v b ad len cap] w fun x w' => x = .returned (.bool (askMay 1 g v b len)) ∧ Below w.heap.size w w' := by
  have HB : Hid (Below w.heap.size w (w.alloc (.cells #[.int .i64 1, .int .i64 g, .int .i64 v, .int .i64 b, .slice ad len cap] 24))) := hid ((Below.refl _ w).alloc (Nat.le_refl _) _)
  unfold askV
  have hmv : maxValN 1 = 0 := by simp [maxValN]
  by_cases h0 : inN g 0 = true
  rotate_left
  · skip
    have hf : inN g 0 = false := by simpa using h0
    have HV : Hid (false = askMay 1 g v b len) := hid (by exact may_f (fun hh => h0 (inN_iff.2 hh.2.1)))
    go_enter Tryz.func38, Tryz.ntmps38
    go_wp2_with (first | (go_at_call 73; (with_reducible_and_instances (refine (inIs hf _).mono ?_)); rintro x w' ⟨rfl, hw'⟩; obtain rfl := hw'.symm))
    go_ret
    exact ⟨congrArg (fun x => Ending.returned (.bool x)) HV.out, HB.out⟩
  have i0 := inN_iff.1 h0
  by_cases h1 : 4000 < len
  · skip
    have hd : decide ((4000 : Int) < (len : Int)) = true := by simp; omega
    have HV : Hid (false = askMay 1 g v b len) := hid (by exact may_f (fun hh => by have := hh.2.2.2.2.2.2; rw [hmv] at this; omega))
    go_enter Tryz.func38, Tryz.ntmps38
    go_wp2_with (first | (go_at_call 73; (with_reducible_and_instances (refine (inIs h0 _).mono ?_)); rintro x w' ⟨rfl, hw'⟩; obtain rfl := hw'.symm))
    go_ret
    exact ⟨congrArg (fun x => Ending.returned (.bool x)) HV.out, HB.out⟩
  have hd : decide ((4000 : Int) < (len : Int)) = false := by simp; omega
  by_cases h2 : inN v 1 = true
  rotate_left
  · skip
    have hf : inN v 1 = false := by simpa using h2
    have HV : Hid (false = askMay 1 g v b len) := hid (by exact may_f (fun hh => h2 (inN_iff.2 ⟨by have := hh.2.2.2.1.2 (by omega); omega, hh.2.2.1.2⟩)))
    go_enter Tryz.func38, Tryz.ntmps38
    go_wp2_with (first | (go_at_call 73; (with_reducible_and_instances (refine (inIs h0 _).mono ?_)); rintro x w' ⟨rfl, hw'⟩; obtain rfl := hw'.symm) | (go_at_call 73; (with_reducible_and_instances (refine (inIs hf _).mono ?_)); rintro x w' ⟨rfl, hw'⟩; obtain rfl := hw'.symm))
    go_ret
    exact ⟨congrArg (fun x => Ending.returned (.bool x)) HV.out, HB.out⟩
  have i2 := inN_iff.1 h2
  by_cases h3 : inN b 1 = true
  rotate_left
  · skip
    have hf : inN b 1 = false := by simpa using h3
    have HV : Hid (false = askMay 1 g v b len) := hid (by exact may_f (fun hh => h3 (inN_iff.2 ⟨by have := hh.2.2.2.2.2.1.2 (by omega); omega, hh.2.2.2.2.1.2⟩)))
    go_enter Tryz.func38, Tryz.ntmps38
    go_wp2_with (first | (go_at_call 73; (with_reducible_and_instances (refine (inIs h0 _).mono ?_)); rintro x w' ⟨rfl, hw'⟩; obtain rfl := hw'.symm) | (go_at_call 73; (with_reducible_and_instances (refine (inIs h2 _).mono ?_)); rintro x w' ⟨rfl, hw'⟩; obtain rfl := hw'.symm) | (go_at_call 73; (with_reducible_and_instances (refine (inIs hf _).mono ?_)); rintro x w' ⟨rfl, hw'⟩; obtain rfl := hw'.symm))
    go_ret
    exact ⟨congrArg (fun x => Ending.returned (.bool x)) HV.out, HB.out⟩
  have i3 := inN_iff.1 h3
  by_cases h4 : len = 0
  rotate_left
  · skip
    have e4 : ((len : Int) == 0) = false := by simp; omega
    have HV : Hid (false = askMay 1 g v b len) := hid (by exact may_f (fun hh => by have := hh.2.2.2.2.2.2; rw [hmv] at this; omega))
    go_enter Tryz.func38, Tryz.ntmps38
    go_wp2_with (first | (go_at_call 73; (with_reducible_and_instances (refine (inIs h0 _).mono ?_)); rintro x w' ⟨rfl, hw'⟩; obtain rfl := hw'.symm) | (go_at_call 73; (with_reducible_and_instances (refine (inIs h2 _).mono ?_)); rintro x w' ⟨rfl, hw'⟩; obtain rfl := hw'.symm) | (go_at_call 73; (with_reducible_and_instances (refine (inIs h3 _).mono ?_)); rintro x w' ⟨rfl, hw'⟩; obtain rfl := hw'.symm))
    go_ret
    exact ⟨congrArg (fun x => Ending.returned (.bool x)) HV.out, HB.out⟩
  subst h4
  have HV : Hid (true = askMay 1 g v b 0) := hid (by exact may_t ⟨by omega, i0, by omega, by omega, by omega, by omega, by rw [hmv]; simp⟩)
  go_enter Tryz.func38, Tryz.ntmps38
  go_wp2_with (first | (go_at_call 73; (with_reducible_and_instances (refine (inIs h0 _).mono ?_)); rintro x w' ⟨rfl, hw'⟩; obtain rfl := hw'.symm) | (go_at_call 73; (with_reducible_and_instances (refine (inIs h2 _).mono ?_)); rintro x w' ⟨rfl, hw'⟩; obtain rfl := hw'.symm) | (go_at_call 73; (with_reducible_and_instances (refine (inIs h3 _).mono ?_)); rintro x w' ⟨rfl, hw'⟩; obtain rfl := hw'.symm))
  go_ret
  exact ⟨congrArg (fun x => Ending.returned (.bool x)) HV.out, HB.out⟩
set_option maxRecDepth 100000 in
set_option maxHeartbeats 4000000 in
theorem rasks_2 (g v b : Int) (ad : Option Addr) (len cap : Nat) (w : World) :
    Calls Tryz.prog 38 #[askV 2 g v b ad len cap] w fun x w' => x = .returned (.bool (askMay 2 g v b len)) ∧ Below w.heap.size w w' := by
  have HB : Hid (Below w.heap.size w (w.alloc (.cells #[.int .i64 2, .int .i64 g, .int .i64 v, .int .i64 b, .slice ad len cap] 24))) := hid ((Below.refl _ w).alloc (Nat.le_refl _) _)
  unfold askV
  have hmv : maxValN 2 = 4000 := by simp [maxValN]
  by_cases h0 : inN g 0 = true
  rotate_left
  · skip
    have hf : inN g 0 = false := by simpa using h0
    have HV : Hid (false = askMay 2 g v b len) := hid (by exact may_f (fun hh => h0 (inN_iff.2 hh.2.1)))
    go_enter Tryz.func38, Tryz.ntmps38
    go_wp2_with (first | (go_at_call 73; (with_reducible_and_instances (refine (inIs hf _).mono ?_)); rintro x w' ⟨rfl, hw'⟩; obtain rfl := hw'.symm))
    go_ret
    exact ⟨congrArg (fun x => Ending.returned (.bool x)) HV.out, HB.out⟩
  have i0 := inN_iff.1 h0
  by_cases h1 : 4000 < len
  · skip
    have hd : decide ((4000 : Int) < (len : Int)) = true := by simp; omega
    have HV : Hid (false = askMay 2 g v b len) := hid (by exact may_f (fun hh => by have := hh.2.2.2.2.2.2; rw [hmv] at this; omega))
    go_enter Tryz.func38, Tryz.ntmps38
    go_wp2_with (first | (go_at_call 73; (with_reducible_and_instances (refine (inIs h0 _).mono ?_)); rintro x w' ⟨rfl, hw'⟩; obtain rfl := hw'.symm))
    go_ret
    exact ⟨congrArg (fun x => Ending.returned (.bool x)) HV.out, HB.out⟩
  have hd : decide ((4000 : Int) < (len : Int)) = false := by simp; omega
  by_cases h2 : inN v 1 = true
  rotate_left
  · skip
    have hf : inN v 1 = false := by simpa using h2
    have HV : Hid (false = askMay 2 g v b len) := hid (by exact may_f (fun hh => h2 (inN_iff.2 ⟨by have := hh.2.2.2.1.2 (by omega); omega, hh.2.2.1.2⟩)))
    go_enter Tryz.func38, Tryz.ntmps38
    go_wp2_with (first | (go_at_call 73; (with_reducible_and_instances (refine (inIs h0 _).mono ?_)); rintro x w' ⟨rfl, hw'⟩; obtain rfl := hw'.symm) | (go_at_call 73; (with_reducible_and_instances (refine (inIs hf _).mono ?_)); rintro x w' ⟨rfl, hw'⟩; obtain rfl := hw'.symm))
    go_ret
    exact ⟨congrArg (fun x => Ending.returned (.bool x)) HV.out, HB.out⟩
  have i2 := inN_iff.1 h2
  by_cases h3 : inN b 1 = true
  rotate_left
  · skip
    have hf : inN b 1 = false := by simpa using h3
    have HV : Hid (false = askMay 2 g v b len) := hid (by exact may_f (fun hh => h3 (inN_iff.2 ⟨by have := hh.2.2.2.2.2.1.2 (by omega); omega, hh.2.2.2.2.1.2⟩)))
    go_enter Tryz.func38, Tryz.ntmps38
    go_wp2_with (first | (go_at_call 73; (with_reducible_and_instances (refine (inIs h0 _).mono ?_)); rintro x w' ⟨rfl, hw'⟩; obtain rfl := hw'.symm) | (go_at_call 73; (with_reducible_and_instances (refine (inIs h2 _).mono ?_)); rintro x w' ⟨rfl, hw'⟩; obtain rfl := hw'.symm) | (go_at_call 73; (with_reducible_and_instances (refine (inIs hf _).mono ?_)); rintro x w' ⟨rfl, hw'⟩; obtain rfl := hw'.symm))
    go_ret
    exact ⟨congrArg (fun x => Ending.returned (.bool x)) HV.out, HB.out⟩
  have i3 := inN_iff.1 h3
  have HV : Hid (true = askMay 2 g v b len) := hid (by exact may_t ⟨by omega, i0, by omega, by omega, by omega, by omega, by rw [hmv]; omega⟩)
  go_enter Tryz.func38, Tryz.ntmps38
  go_wp2_with (first | (go_at_call 73; (with_reducible_and_instances (refine (inIs h0 _).mono ?_)); rintro x w' ⟨rfl, hw'⟩; obtain rfl := hw'.symm) | (go_at_call 73; (with_reducible_and_instances (refine (inIs h2 _).mono ?_)); rintro x w' ⟨rfl, hw'⟩; obtain rfl := hw'.symm) | (go_at_call 73; (with_reducible_and_instances (refine (inIs h3 _).mono ?_)); rintro x w' ⟨rfl, hw'⟩; obtain rfl := hw'.symm))
  go_ret
  exact ⟨congrArg (fun x => Ending.returned (.bool x)) HV.out, HB.out⟩
set_option maxRecDepth 100000 in
set_option maxHeartbeats 4000000 in
theorem rasks_3 (g v b : Int) (ad : Option Addr) (len cap : Nat) (w : World) :
    Calls Tryz.prog 38 #[askV 3 g v b ad len cap] w fun x w' => x = .returned (.bool (askMay 3 g v b len)) ∧ Below w.heap.size w w' := by
  have HB : Hid (Below w.heap.size w (w.alloc (.cells #[.int .i64 3, .int .i64 g, .int .i64 v, .int .i64 b, .slice ad len cap] 24))) := hid ((Below.refl _ w).alloc (Nat.le_refl _) _)
  unfold askV
  have hmv : maxValN 3 = 4000 := by simp [maxValN]
  by_cases h0 : inN g 0 = true
  rotate_left
  · skip
    have hf : inN g 0 = false := by simpa using h0
    have HV : Hid (false = askMay 3 g v b len) := hid (by exact may_f (fun hh => h0 (inN_iff.2 hh.2.1)))
    go_enter Tryz.func38, Tryz.ntmps38
    go_wp2_with (first | (go_at_call 73; (with_reducible_and_instances (refine (inIs hf _).mono ?_)); rintro x w' ⟨rfl, hw'⟩; obtain rfl := hw'.symm))
    go_ret
    exact ⟨congrArg (fun x => Ending.returned (.bool x)) HV.out, HB.out⟩
  have i0 := inN_iff.1 h0
  by_cases h1 : 4000 < len
  · skip
    have hd : decide ((4000 : Int) < (len : Int)) = true := by simp; omega
    have HV : Hid (false = askMay 3 g v b len) := hid (by exact may_f (fun hh => by have := hh.2.2.2.2.2.2; rw [hmv] at this; omega))
    go_enter Tryz.func38, Tryz.ntmps38
    go_wp2_with (first | (go_at_call 73; (with_reducible_and_instances (refine (inIs h0 _).mono ?_)); rintro x w' ⟨rfl, hw'⟩; obtain rfl := hw'.symm))
    go_ret
    exact ⟨congrArg (fun x => Ending.returned (.bool x)) HV.out, HB.out⟩
  have hd : decide ((4000 : Int) < (len : Int)) = false := by simp; omega
  by_cases h2 : inN v 1 = true
  rotate_left
  · skip
    have hf : inN v 1 = false := by simpa using h2
    have HV : Hid (false = askMay 3 g v b len) := hid (by exact may_f (fun hh => h2 (inN_iff.2 ⟨by have := hh.2.2.2.1.2 (by omega); omega, hh.2.2.1.2⟩)))
    go_enter Tryz.func38, Tryz.ntmps38
    go_wp2_with (first | (go_at_call 73; (with_reducible_and_instances (refine (inIs h0 _).mono ?_)); rintro x w' ⟨rfl, hw'⟩; obtain rfl := hw'.symm) | (go_at_call 73; (with_reducible_and_instances (refine (inIs hf _).mono ?_)); rintro x w' ⟨rfl, hw'⟩; obtain rfl := hw'.symm))
    go_ret
    exact ⟨congrArg (fun x => Ending.returned (.bool x)) HV.out, HB.out⟩
  have i2 := inN_iff.1 h2
  by_cases h3 : b = 0
  rotate_left
  · skip
    have e3 : (b == 0) = false := by simpa using h3
    have HV : Hid (false = askMay 3 g v b len) := hid (by exact may_f (fun hh => by have := hh.2.2.2.2.2.1; have h9 := hh.2.2.2.2.1; omega))
    go_enter Tryz.func38, Tryz.ntmps38
    go_wp2_with (first | (go_at_call 73; (with_reducible_and_instances (refine (inIs h0 _).mono ?_)); rintro x w' ⟨rfl, hw'⟩; obtain rfl := hw'.symm) | (go_at_call 73; (with_reducible_and_instances (refine (inIs h2 _).mono ?_)); rintro x w' ⟨rfl, hw'⟩; obtain rfl := hw'.symm))
    go_ret
    exact ⟨congrArg (fun x => Ending.returned (.bool x)) HV.out, HB.out⟩
  subst h3
  have HV : Hid (true = askMay 3 g v 0 len) := hid (by exact may_t ⟨by omega, i0, by omega, by omega, by omega, by omega, by rw [hmv]; omega⟩)
  go_enter Tryz.func38, Tryz.ntmps38
  go_wp2_with (first | (go_at_call 73; (with_reducible_and_instances (refine (inIs h0 _).mono ?_)); rintro x w' ⟨rfl, hw'⟩; obtain rfl := hw'.symm) | (go_at_call 73; (with_reducible_and_instances (refine (inIs h2 _).mono ?_)); rintro x w' ⟨rfl, hw'⟩; obtain rfl := hw'.symm))
  go_ret
  exact ⟨congrArg (fun x => Ending.returned (.bool x)) HV.out, HB.out⟩
set_option maxRecDepth 100000 in
set_option maxHeartbeats 4000000 in
theorem rasks_4 (g v b : Int) (ad : Option Addr) (len cap : Nat) (w : World) :
    Calls Tryz.prog 38 #[askV 4 g v b ad len cap] w fun x w' => x = .returned (.bool (askMay 4 g v b len)) ∧ Below w.heap.size w w' := by
  have HB : Hid (Below w.heap.size w (w.alloc (.cells #[.int .i64 4, .int .i64 g, .int .i64 v, .int .i64 b, .slice ad len cap] 24))) := hid ((Below.refl _ w).alloc (Nat.le_refl _) _)
  unfold askV
  have hmv : maxValN 4 = 0 := by simp [maxValN]
  by_cases h0 : inN g 0 = true
  rotate_left
  · skip
    have hf : inN g 0 = false := by simpa using h0
    have HV : Hid (false = askMay 4 g v b len) := hid (by exact may_f (fun hh => h0 (inN_iff.2 hh.2.1)))
    go_enter Tryz.func38, Tryz.ntmps38
    go_wp2_with (first | (go_at_call 73; (with_reducible_and_instances (refine (inIs hf _).mono ?_)); rintro x w' ⟨rfl, hw'⟩; obtain rfl := hw'.symm))
    go_ret
    exact ⟨congrArg (fun x => Ending.returned (.bool x)) HV.out, HB.out⟩
  have i0 := inN_iff.1 h0
  by_cases h1 : 4000 < len
  · skip
    have hd : decide ((4000 : Int) < (len : Int)) = true := by simp; omega
    have HV : Hid (false = askMay 4 g v b len) := hid (by exact may_f (fun hh => by have := hh.2.2.2.2.2.2; rw [hmv] at this; omega))
    go_enter Tryz.func38, Tryz.ntmps38
    go_wp2_with (first | (go_at_call 73; (with_reducible_and_instances (refine (inIs h0 _).mono ?_)); rintro x w' ⟨rfl, hw'⟩; obtain rfl := hw'.symm))
    go_ret
    exact ⟨congrArg (fun x => Ending.returned (.bool x)) HV.out, HB.out⟩
  have hd : decide ((4000 : Int) < (len : Int)) = false := by simp; omega
  by_cases h2 : v = 0
  rotate_left
  · skip
    have e2 : (v == 0) = false := by simpa using h2
    have HV : Hid (false = askMay 4 g v b len) := hid (by exact may_f (fun hh => by have := hh.2.2.2.1; have h9 := hh.2.2.1; simp at this; omega))
    go_enter Tryz.func38, Tryz.ntmps38
    go_wp2_with (first | (go_at_call 73; (with_reducible_and_instances (refine (inIs h0 _).mono ?_)); rintro x w' ⟨rfl, hw'⟩; obtain rfl := hw'.symm))
    go_ret
    exact ⟨congrArg (fun x => Ending.returned (.bool x)) HV.out, HB.out⟩
  subst h2
  by_cases h3 : b = 0
  rotate_left
  · skip
    have e3 : (b == 0) = false := by simpa using h3
    have HV : Hid (false = askMay 4 g 0 b len) := hid (by exact may_f (fun hh => by have := hh.2.2.2.2.2.1; have h9 := hh.2.2.2.2.1; simp at this; omega))
    go_enter Tryz.func38, Tryz.ntmps38
    go_wp2_with (first | (go_at_call 73; (with_reducible_and_instances (refine (inIs h0 _).mono ?_)); rintro x w' ⟨rfl, hw'⟩; obtain rfl := hw'.symm))
    go_ret
    exact ⟨congrArg (fun x => Ending.returned (.bool x)) HV.out, HB.out⟩
  subst h3
  by_cases h4 : len = 0
  rotate_left
  · skip
    have e4 : ((len : Int) == 0) = false := by simp; omega
    have HV : Hid (false = askMay 4 g 0 0 len) := hid (by exact may_f (fun hh => by have := hh.2.2.2.2.2.2; rw [hmv] at this; omega))
    go_enter Tryz.func38, Tryz.ntmps38
    go_wp2_with (first | (go_at_call 73; (with_reducible_and_instances (refine (inIs h0 _).mono ?_)); rintro x w' ⟨rfl, hw'⟩; obtain rfl := hw'.symm))
    go_ret
    exact ⟨congrArg (fun x => Ending.returned (.bool x)) HV.out, HB.out⟩
  subst h4
  have HV : Hid (true = askMay 4 g 0 0 0) := hid (by exact may_t ⟨by omega, i0, by omega, by omega, by omega, by omega, by rw [hmv]; simp⟩)
  go_enter Tryz.func38, Tryz.ntmps38
  go_wp2_with (first | (go_at_call 73; (with_reducible_and_instances (refine (inIs h0 _).mono ?_)); rintro x w' ⟨rfl, hw'⟩; obtain rfl := hw'.symm))
  go_ret
  exact ⟨congrArg (fun x => Ending.returned (.bool x)) HV.out, HB.out⟩
theorem rasks_any (k g v b : Int) (ad : Option Addr) (len cap : Nat) (w : World) :
    Calls Tryz.prog 38 #[askV k g v b ad len cap] w fun x w' => x = .returned (.bool (askMay k g v b len)) ∧ Below w.heap.size w w' := by
  by_cases h : 1 ≤ k ∧ k < 5
  · have hk : k = 1 ∨ k = 2 ∨ k = 3 ∨ k = 4 := by omega
    rcases hk with rfl | rfl | rfl | rfl
    · exact rasks_1 g v b ad len cap w
    · exact rasks_2 g v b ad len cap w
    · exact rasks_3 g v b ad len cap w
    · exact rasks_4 g v b ad len cap w
  · exact rasks_out k g v b ad len cap w h
end Go.Proofs.YtoihddlbdimmlaaGreat.Ac
namespace Go.Proofs.YtoihddlbdimmlaaGreat.Ac
open Go.RowKit Crcm

def threeN (a b c : Nat) : List Nat := spellN a 6 ++ spellN b 6 ++ spellN c 6
theorem threeN_length (a b c : Nat) : (threeN a b c).length = 18 := by simp [threeN, spellN_length]
theorem threeN_lt (a b c : Nat) : ∀ x ∈ threeN a b c, x < 256 := lt_app (lt_app (spellN_lt _ _) (spellN_lt _ _)) (spellN_lt _ _)
theorem own6 {w : World} {N : Nat} {v : Value} {n : Nat} (h : Own w N v (spellN n 6)) : w.ownsRow N 5 1 v 6 ((spellN n 6).map bv) := by
  have := h.2
  rw [spellN_length] at this
  exact this
set_option maxRecDepth 100000 in
set_option maxHeartbeats 4000000 in
theorem three_any (a b c : Nat) (w : World) :
    Calls Tryz.prog 39 #[.int .i64 (a : Int), .int .i64 (b : Int), .int .i64 (c : Int)] w fun e w' => ∃ p : Part, e = .returned (.slice p.ad p.len p.cap) ∧ Hid (p.l = threeN a b c) ∧ Hid (p.ok w') ∧ Below w.heap.size w w' := by
  have Q1 := bytes_any a 6 w (by omega)
  go_enter Tryz.func39, Tryz.ntmps39
  go_wp2_with (first
    | (go_at_call 74; (with_reducible_and_instances (refine Q1.mono ?_)); rintro r w1 ⟨v1, rfl, o1, b1⟩; have O1 : Hid (w1.ownsRow w.heap.size 5 1 v1 6 ((spellN a 6).map bv)) := (show Hid _ from own6 o1); have B1 : Hid (Below w.heap.size w w1) := b1; clear o1 b1 Q1)
    | (go_at_call 74; (with_reducible_and_instances (refine (bytes_at b 6 w1 rfl rfl (by omega)).mono ?_)); rintro r w2 ⟨p2, rfl, e2, k2, b2⟩; have O2 : Hid (w2.ownsRow w.heap.size 5 1 v1 6 ((spellN a 6).map bv)) := (show Hid _ from own_kept O1.out b2); have B2 : Hid (Below w.heap.size w w2) := (show Hid _ from B1.out.trans (b2.mono B1.out.size)); clear b2)
    | (go_at_call 74; (with_reducible_and_instances (refine (bytes_at c 6 w3 rfl rfl (by omega)).mono ?_)); rintro r w4 ⟨p4, rfl, e4, k4, b4⟩; have O4 : Hid (w4.ownsRow w.heap.size 5 1 v3 (6 + p2.len) ((spellN a 6 ++ spellN b 6).map bv)) := (show Hid _ from own_kept O3.out b4); have B4 : Hid (Below w.heap.size w w4) := (show Hid _ from B3.out.trans (b4.mono B3.out.size)); clear b4)
    | (at_builtin; refine app_any rfl _ _ rfl w.heap.size v3 (6 + p2.len) (spellN a 6 ++ spellN b 6) rfl O4.out p4.ad p4.len p4.cap (spellN c 6) rfl (part_of k4.out e4.out).1 (part_of k4.out e4.out).2.1 (part_of k4.out e4.out).2.2 (by rw [part_len k4.out e4.out (spellN_length _ _), part_len k2.out e2.out (spellN_length _ _)]; omega) B4.out.size ?_; intro v5 w5 hown5 hg5; have O5 : Hid (w5.ownsRow w.heap.size 5 1 v5 (6 + p2.len + p4.len) ((spellN a 6 ++ spellN b 6 ++ spellN c 6).map bv)) := hown5; have B5 : Hid (Below w.heap.size w w5) := (show Hid _ from grown_below B4.out O4.out hg5 B4.out.size); clear hown5 hg5)
    | (at_builtin; refine app_any rfl _ _ rfl w.heap.size v1 6 (spellN a 6) rfl O2.out p2.ad p2.len p2.cap (spellN b 6) rfl (part_of k2.out e2.out).1 (part_of k2.out e2.out).2.1 (part_of k2.out e2.out).2.2 (by rw [part_len k2.out e2.out (spellN_length _ _)]; omega) B2.out.size ?_; intro v3 w3 hown3 hg3; have O3 : Hid (w3.ownsRow w.heap.size 5 1 v3 (6 + p2.len) ((spellN a 6 ++ spellN b 6).map bv)) := hown3; have B3 : Hid (Below w.heap.size w w3) := (show Hid _ from grown_below B2.out O2.out hg3 B2.out.size); clear hown3 hg3))
  go_ret
  obtain ⟨p5, h5, e5, k5⟩ := own_part O5.out (threeN_lt a b c) (by rw [part_len k4.out e4.out (spellN_length _ _), part_len k2.out e2.out (spellN_length _ _)]; exact threeN_length a b c)
  exact ⟨p5, by rw [h5]; rfl, e5, k5, B5.out⟩
theorem three_at {x y z : Int} (a b c : Nat) (w : World) (hx : x = a) (hy : y = b) (hz : z = c) :
    Calls Tryz.prog 39 #[.int .i64 x, .int .i64 y, .int .i64 z] w fun e w' => ∃ p : Part, e = .returned (.slice p.ad p.len p.cap) ∧ Hid (p.l = threeN a b c) ∧ Hid (p.ok w') ∧ Below w.heap.size w w' := by
  subst hx hy hz
  exact three_any a b c w
set_option maxRecDepth 100000 in
set_option maxHeartbeats 4000000 in
theorem refPutAsk_no (k g v b : Int) (ad : Option Addr) (len cap : Nat) (w : World) (hm : askMay k g v b len = false) :
    Calls Tryz.prog 11 #[askV k g v b ad len cap] w fun x w' => x = .returned (.tuple #[.slice none 0 0, .int .i64 1]) ∧ Below w.heap.size w w' := by
  have HM := rasks_any k g v b ad len cap (w.alloc (.cells #[.int .i64 k, .int .i64 g, .int .i64 v, .int .i64 b, .slice ad len cap] 24))
  rw [hm] at HM
  have HB : Hid (Below w.heap.size w (w.alloc (.cells #[.int .i64 k, .int .i64 g, .int .i64 v, .int .i64 b, .slice ad len cap] 24))) := (show Hid _ from (Below.refl _ w).alloc (Nat.le_refl _) _)
  clear hm
  unfold askV at HM ⊢
  go_enter Tryz.func11, Tryz.ntmps11
  go_wp2_with (go_at_call 38; refine HM.mono ?_; rintro x W1 ⟨rfl, hb1⟩)
  go_ret2
  exact ⟨rfl, HB.out.trans (hb1.mono HB.out.size)⟩
theorem ask_eq (k g v b : Nat) (l : List Nat) (hk : k ≤ 255) : [k] ++ threeN g v b ++ l = askN k g v b l := by
  unfold askN threeN
  rw [spell_one k hk]
  simp
theorem ask_lt {k g v b : Nat} {l : List Nat} (hk : k ≤ 255) (hl : ∀ x ∈ l, x < 256) : ∀ x ∈ [k] ++ threeN g v b ++ l, x < 256 :=
  lt_app (lt_app (lt_one (by omega)) (threeN_lt _ _ _)) hl
set_option maxRecDepth 100000 in
set_option maxHeartbeats 8000000 in
theorem refPutAsk_ok (k g v b : Nat) (ad : Option Addr) (len cap : Nat) (l : List Nat) (w : World) (hm : askMay k g v b len = true) (ha : Part.ok w ⟨ad, len, cap, l⟩) :
    Calls Tryz.prog 11 #[askV k g v b ad len cap] w fun x w' => ∃ q : Part, x = .returned (.tuple #[.slice q.ad q.len q.cap, .int .i64 0]) ∧ Hid (q.l = frameBs 3 (askN k g v b l)) ∧ Hid (q.ok w') ∧ Below w.heap.size w w' := by
  have HA : Hid (Part.ok w ⟨ad, len, cap, l⟩) := ha
  clear ha
  have HM := rasks_any (k : Int) (g : Int) (v : Int) (b : Int) ad len cap (w.alloc (.cells #[.int .i64 (k : Int), .int .i64 (g : Int), .int .i64 (v : Int), .int .i64 (b : Int), .slice ad len cap] 24))
  rw [hm] at HM
  obtain ⟨hk, hg, hv, hbb, hlen⟩ := askMay_lim hm
  clear hm
  unfold askV at HM ⊢
  have HS : Hid (∀ W : World, Below (w.heap.size + 1) (w.alloc (.cells #[.int .i64 (k : Int), .int .i64 (g : Int), .int .i64 (v : Int), .int .i64 (b : Int), .slice ad len cap] 24)) W → W.cell? ⟨w.heap.size, 0, none⟩ = some (.int .i64 (k : Int)) ∧ W.cell? ⟨w.heap.size, 1, none⟩ = some (.int .i64 (g : Int)) ∧ W.cell? ⟨w.heap.size, 2, none⟩ = some (.int .i64 (v : Int)) ∧ W.cell? ⟨w.heap.size, 3, none⟩ = some (.int .i64 (b : Int)) ∧ W.cell? ⟨w.heap.size, 4, none⟩ = some (.slice ad len cap)) := (show Hid _ from fun W hW => by
    have q := (hW.block w.heap.size (by omega)).trans (heap_alloc_last w _)
    refine ⟨?_, ?_, ?_, ?_, ?_⟩ <;> (rw [cell_of_row _ _ _ _ _ _ q]; rfl))
  have HS2 : Hid (∀ W : World, Below (w.heap.size + 1) (w.alloc (.cells #[.int .i64 (k : Int), .int .i64 (g : Int), .int .i64 (v : Int), .int .i64 (b : Int), .slice ad len cap] 24)) W → W.cell? ⟨w.heap.size, 0, none⟩ = some (.int .i64 (k : Int)) ∧ W.cell? ⟨w.heap.size, 1, none⟩ = some (.int .i64 (g : Int)) ∧ W.cell? ⟨w.heap.size, 2, none⟩ = some (.int .i64 (v : Int)) ∧ W.cell? ⟨w.heap.size, 3, none⟩ = some (.int .i64 (b : Int))) := (show Hid _ from fun W hW => ⟨(HS.out W hW).1, (HS.out W hW).2.1, (HS.out W hW).2.2.1, (HS.out W hW).2.2.2.1⟩)
  have HB : Hid (Below w.heap.size w (w.alloc (.cells #[.int .i64 (k : Int), .int .i64 (g : Int), .int .i64 (v : Int), .int .i64 (b : Int), .slice ad len cap] 24))) := (show Hid _ from (Below.refl _ w).alloc (Nat.le_refl _) _)
  have HBW : Hid (∀ W, Below (w.heap.size + 1) (w.alloc (.cells #[.int .i64 (k : Int), .int .i64 (g : Int), .int .i64 (v : Int), .int .i64 (b : Int), .slice ad len cap] 24)) W → Below w.heap.size w W) := (show Hid _ from fun W h => HB.out.trans (h.mono (Nat.le_succ _)))
  have hsz0 : (w.alloc (.cells #[.int .i64 (k : Int), .int .i64 (g : Int), .int .i64 (v : Int), .int .i64 (b : Int), .slice ad len cap] 24)).heap.size = w.heap.size + 1 := by simp
  have hw8 : IntKind.u8.wrap (k : Int) = (k : Int) := by simp [IntKind.wrap, IntKind.bits, IntKind.signed]; omega
  go_enter Tryz.func11, Tryz.ntmps11
  go_wp2_with (go_at_call 38; refine HM.mono ?_; rintro r W1 ⟨rfl, hb1⟩; have D1 : Hid (Below (w.heap.size + 1) (w.alloc _) W1) := (show Hid _ from hsz0 ▸ hb1); clear hb1 HM)
  have Z1 : Hid (w.heap.size + 1 ≤ W1.heap.size) := (show Hid _ from (show w.heap.size + 1 ≤ W1.heap.size by have := D1.out.size; simpa [hsz0] using this))
  have C0 : Hid (Below (w.heap.size + 1) (w.alloc _) W1.drew) := (show Hid _ from D1.out.drew)
  have CA : Hid (Below (w.heap.size + 1) (w.alloc _) (W1.alloc (.cells #[.int .u8 (k : Int)] 5)).drew) := (show Hid _ from alloc_drew D1.out Z1.out _)
  have Z0 : Hid (w.heap.size + 1 ≤ W1.drew.heap.size) := Z1
  have ZA : Hid (w.heap.size + 1 ≤ (W1.alloc (.cells #[.int .u8 (k : Int)] 5)).drew.heap.size) := (show Hid _ from Nat.le_trans Z1.out (((Below.refl 0 W1).alloc (Nat.zero_le _) (.cells #[.int .u8 (k : Int)] 5)).drew).size)
  have OA : Hid ((W1.alloc (.cells #[.int .u8 (k : Int)] 5)).drew.ownsRow (w.heap.size + 1) 5 1 (.slice (some ⟨W1.heap.size, 0, none⟩) 1 1) 1 ([k].map bv)) := (show Hid _ from own_kept (one_own W1 _ k _ rfl Z1.out) (Below.refl _ _).drew)
  clear D1
  generalize w.alloc _ = W0 at *
  clear HB hsz0
  go_region_held3 (fun W => W.cell? ⟨w.heap.size, 0, none⟩ = some (.int .i64 (k : Int)) ∧ W.cell? ⟨w.heap.size, 1, none⟩ = some (.int .i64 (g : Int)) ∧ W.cell? ⟨w.heap.size, 2, none⟩ = some (.int .i64 (v : Int)) ∧ W.cell? ⟨w.heap.size, 3, none⟩ = some (.int .i64 (b : Int)))
    (first | exact HS2.out _ C0.out | exact HS2.out _ CA.out | exact HS2.out _ C1.out | exact HS2.out _ (C1.out.alloc Y1.out _) | exact HS2.out _ C2.out)
    (first
      | (go_at_call 39; (with_reducible_and_instances (refine (three_at g v b W1.drew rfl rfl rfl).mono ?_)); rintro r w1 ⟨p1, rfl, e1, k1, b1⟩; have C1 : Hid (Below (w.heap.size + 1) W0 w1) := (show Hid _ from C0.out.trans (b1.mono Z0.out)); have Y1 : Hid (w.heap.size + 1 ≤ w1.heap.size) := (show Hid _ from Nat.le_trans Z0.out b1.size); clear b1)
      | (go_at_call 39; (with_reducible_and_instances (refine (three_at g v b (W1.alloc (.cells #[.int .u8 (k : Int)] 5)).drew rfl rfl rfl).mono ?_)); rintro r w1 ⟨p1, rfl, e1, k1, b1⟩; have C1 : Hid (Below (w.heap.size + 1) W0 w1) := (show Hid _ from CA.out.trans (b1.mono ZA.out)); have Y1 : Hid (w.heap.size + 1 ≤ w1.heap.size) := (show Hid _ from Nat.le_trans ZA.out b1.size); have OB : Hid (w1.ownsRow (w.heap.size + 1) 5 1 (.slice (some ⟨W1.heap.size, 0, none⟩) 1 1) 1 ([k].map bv)) := (show Hid _ from own_kept OA.out b1); clear b1)
      | (refine step_app_any (by rfl) _ _ (by rfl) (w.heap.size + 1) (.slice (some ⟨W1.heap.size, 0, none⟩) 1 1) 1 [k] (by rfl) OB.out p1.ad p1.len p1.cap (threeN g v b) (by rfl) (part_of k1.out e1.out).1 (part_of k1.out e1.out).2.1 (part_of k1.out e1.out).2.2 (by rw [part_len k1.out e1.out (threeN_length _ _ _)]; omega) Y1.out ?_; intro v2 w2 hown2 hg2; have O2 : Hid (w2.ownsRow (w.heap.size + 1) 5 1 v2 (1 + p1.len) (([k] ++ threeN g v b).map bv)) := hown2; have C2 : Hid (Below (w.heap.size + 1) W0 w2) := (show Hid _ from grown_below C1.out OB.out hg2 Y1.out); have Y2 : Hid (w.heap.size + 1 ≤ w2.heap.size) := (show Hid _ from Nat.le_trans Y1.out (grown_below (Below.refl _ _) OB.out hg2 Y1.out).size); have L2 : Hid (p1.len = 18) := (show Hid _ from part_len k1.out e1.out (threeN_length _ _ _)); clear hown2 hg2 OB)
      | (refine step_app_any (by rfl) _ _ (by rfl) (w.heap.size + 1) (.slice (some ⟨w1.heap.size, 0, none⟩) 1 1) 1 [k] (by rfl) (one_own w1 _ k _ rfl Y1.out) p1.ad p1.len p1.cap (threeN g v b) (by rfl) (part_of k1.out e1.out).1 (part_of k1.out e1.out).2.1 ((part_of k1.out e1.out).2.2.later ((Below.refl _ _).alloc (Nat.le_refl _) _)) (by rw [part_len k1.out e1.out (threeN_length _ _ _)]; omega) (Nat.le_trans Y1.out (by simp)) ?_; intro v2 w2 hown2 hg2; have O2 : Hid (w2.ownsRow (w.heap.size + 1) 5 1 v2 (1 + p1.len) (([k] ++ threeN g v b).map bv)) := hown2; have C2 : Hid (Below (w.heap.size + 1) W0 w2) := (show Hid _ from grown_below (C1.out.alloc Y1.out _) (one_own w1 _ k _ rfl Y1.out) hg2 (Nat.le_trans Y1.out (by simp))); have Y2 : Hid (w.heap.size + 1 ≤ w2.heap.size) := (show Hid _ from Nat.le_trans (Nat.le_trans Y1.out (by simp)) (grown_below (Below.refl _ _) (one_own w1 _ k _ rfl Y1.out) hg2 (Nat.le_trans Y1.out (by simp))).size); have L2 : Hid (p1.len = 18) := (show Hid _ from part_len k1.out e1.out (threeN_length _ _ _)); clear hown2 hg2))
  all_goals clear OA CA C0 Z0 ZA C1 Y1 k1 e1 HS2
  all_goals have l2 : 1 + p1.len = 1 + 18 := (by rw [L2.out])
  all_goals rw [l2] at O2
  all_goals clear l2 L2
  all_goals have c4 := (HS.out _ C2.out).2.2.2.2
  all_goals go_wp2_with (first
    | (go_at_call 40; (with_reducible_and_instances (refine (refFrame_at 3 p5 w5 rfl (by omega) L5.out K5.out).mono ?_)); rintro r w6 ⟨p6, rfl, e6, k6, b6⟩; have D6 : Hid (Below (w.heap.size + 1) W0 w6) := (show Hid _ from D5.out.trans (b6.mono Y5.out)); clear b6)
    | (at_builtin; refine app_any rfl _ _ rfl (w.heap.size + 1) v2 (1 + 18) ([k] ++ threeN g v b) rfl O2.out ad len cap l rfl HA.out.1 HA.out.2.1 (HA.out.later (HBW.out _ C2.out)).2.2 (by omega) Y2.out ?_; intro v5 w5 hown5 hg5; have D5 : Hid (Below (w.heap.size + 1) W0 w5) := (show Hid _ from grown_below C2.out O2.out hg5 Y2.out); have Y5 : Hid (w.heap.size + 1 ≤ w5.heap.size) := (show Hid _ from Nat.le_trans Y2.out (grown_below (Below.refl _ _) O2.out hg5 Y2.out).size); obtain ⟨p5, rfl, e5, k5⟩ := own_part hown5 (ask_lt (by omega) HA.out.2.2.1) (by have := HA.out.1; simp at this; simp [threeN_length, this]; omega); have K5 : Hid (p5.ok w5) := k5; have E5 : Hid (p5.l = askN k g v b l) := (show Hid _ from e5.trans (ask_eq k g v b l (by omega))); have L5 : Hid (p5.len ≤ 65536) := (show Hid _ from partLe E5.out k5 (askN_length _ _ _ _ _) HA.out.1 hlen (by omega) (by omega)); clear hown5 hg5 e5 k5))
  all_goals go_ret2
  all_goals exact ⟨p6, rfl, (show Hid _ from e6.out.trans (congrArg (frameBs 3) E5.out)), k6, HBW.out _ D6.out⟩
end Go.Proofs.YtoihddlbdimmlaaGreat.Ac
namespace Go.Proofs.YtoihddlbdimmlaaGreat.Ac
open Go.RowKit Crcm

theorem rret_ask {fn : Func} {p u : Tmp} (h : fn.results = #[.cell p 24, .tmp u]) (tmps : Array Value) (w : World) (B : Nat) (k g v b : Int) (ad : Option Addr) (len cap : Nat)
    (hp : tmps.getD p undef = .pointer (some ⟨B, 0, none⟩)) (hg : Blk w B #[.int .i64 k, .int .i64 g, .int .i64 v, .int .i64 b, .slice ad len cap] 24) :
    (results fn tmps).run Tryz.prog w = .ok (.tuple #[askV k g v b ad len cap, tmps.getD u undef]) w := by
  rw [results_cell_tmp h, hp]
  have hl := run_loadVar_row (P := Tryz.prog) w B 24 24 _ (0, 0) _ hg Tryz.underlying24 rfl (by kernel_rfl)
  simp only [asAddr, Sem.run_pure, Result.andThen_ok]
  rw [hl]
  rfl
theorem val_at (b : List Nat) (i : Nat) (h : i < b.length) : valN ((b.drop i).take 1) = b.getD i 0 := by
  rw [drop_take_snoc b i 0 (by simpa using h)]
  simp [valN]
theorem body_cell {w : World} {g n c : Nat} {b : List Nat} (h : Part.ok w ⟨some ⟨g, 0, none⟩, n, c, b⟩) (i : Nat) (hi : i < n) : w.cell? ⟨g, i, none⟩ = some (.int .u8 ((b.getD i 0 : Nat) : Int)) := by
  obtain ⟨b', off, e, hb, hc⟩ := h.cells (by omega)
  cases e
  have := hc i hi
  rwa [Nat.zero_add] at this
theorem body_lt {w : World} {g n c : Nat} {b : List Nat} (h : Part.ok w ⟨some ⟨g, 0, none⟩, n, c, b⟩) (hn : 0 < n) : g < w.heap.size := by
  obtain ⟨b', off, e, hb, hc⟩ := h.cells hn
  cases e
  exact hb
theorem blk_grown {w w' : World} {B : Nat} {row : Option Nat} {cs : Array Value} {T : TypeId} (h : Blk w B cs T) (hg : w.grownBy w' row) (hne : some B ≠ row) : Blk w' B cs T := (hg.block B h.lt hne).trans h
theorem part_set3 {w : World} {q : Part} {B : Nat} {k g v b : Int} {ad : Option Addr} {len cap : Nat} {T : TypeId} {a' b' c' : Value} (hB : Blk w B #[.int .i64 k, .int .i64 g, .int .i64 v, .int .i64 b, .slice ad len cap] T) (h : q.ok w) : q.ok (((w.setCell ⟨B, 1, none⟩ a').setCell ⟨B, 2, none⟩ b').setCell ⟨B, 3, none⟩ c') := by
  by_cases h0 : q.l = []
  · exact ⟨h.1, h.2.1, h.2.2.1, Or.inl h0⟩
  · have hne : ∀ b' off, q.ad = some ⟨b', off, none⟩ → b' ≠ B := fun b' off e hb => by
      subst hb
      rcases h.2.2.2 with h1 | ⟨b2, o2, e2, hlt, hc⟩
      · exact h0 h1
      · rw [e] at e2
        cases e2
        have h2 := hc 0 (List.length_pos_iff.2 h0)
        rw [hB.cell] at h2
        generalize off + 0 = k at h2
        rcases k with _ | _ | _ | _ | _ | k
        all_goals (simp at h2)
    exact part_sets (part_sets (part_sets h hne) hne) hne
theorem askK_le {b : List Nat} (h : ∀ x ∈ b, x < 256) : askK b ≤ 255 := by
  have h1 := valN_lt ((b.drop 0).take 1) (fun x hx => h x (List.mem_of_mem_drop (List.mem_of_mem_take hx)))
  have h2 : ((b.drop 0).take 1).length ≤ 1 := by simp; omega
  unfold askK
  have h3 : 2 ^ (8 * ((b.drop 0).take 1).length) ≤ 2 ^ 8 := Nat.pow_le_pow_right (by omega) (by omega)
  omega
set_option maxRecDepth 100000 in
set_option maxHeartbeats 4000000 in
theorem numbers_any (ad : Option Addr) (len cap : Nat) (l : List Nat) (w : World) (hp : Part.ok w ⟨ad, len, cap, l⟩) (hl : len ≤ 1000000000000000) (hn : 19 ≤ len) :
    Calls Tryz.prog 48 #[.slice ad len cap, .int .i64 1] w fun e w' => e = .returned (.tuple #[.int .i64 (askG l : Nat), .int .i64 (askW l : Nat), .int .i64 (askB l : Nat)]) ∧ w' = w := by
  have H1 := refGet_ok ad len cap l 1 6 w hp hl (by omega) (by omega) (by omega)
  have H2 := refGet_ok ad len cap l 7 6 w hp hl (by omega) (by omega) (by omega)
  have H3 := refGet_ok ad len cap l 13 6 w hp hl (by omega) (by omega) (by omega)
  obtain ⟨x1, hx1⟩ : ∃ x, x = askG l := ⟨_, rfl⟩
  obtain ⟨x2, hx2⟩ : ∃ x, x = askW l := ⟨_, rfl⟩
  obtain ⟨x3, hx3⟩ : ∃ x, x = askB l := ⟨_, rfl⟩
  rw [show valN ((l.drop 1).take 6) = x1 from hx1.symm] at H1
  rw [show valN ((l.drop 7).take 6) = x2 from hx2.symm] at H2
  rw [show valN ((l.drop 13).take 6) = x3 from hx3.symm] at H3
  rw [← hx1, ← hx2, ← hx3]
  clear hp hx1 hx2 hx3
  go_enter Tryz.func48, Tryz.ntmps48
  go_wp2_with (first
    | (go_at_call 79; (with_reducible_and_instances (refine H1.mono ?_)); rintro x w' ⟨rfl, hw'⟩; obtain rfl := hw'.symm)
    | (go_at_call 79; (with_reducible_and_instances (refine H2.mono ?_)); rintro x w' ⟨rfl, hw'⟩; obtain rfl := hw'.symm)
    | (go_at_call 79; (with_reducible_and_instances (refine H3.mono ?_)); rintro x w' ⟨rfl, hw'⟩; obtain rfl := hw'.symm))
  go_ret3
  exact ⟨rfl, rfl⟩
set_option maxRecDepth 100000 in
set_option maxHeartbeats 4000000 in
theorem refGetAsk_no1 (ad : Option Addr) (len cap : Nat) (l : List Nat) (w : World) (hp : Part.ok w ⟨ad, len, cap, l⟩) (hlc : len ≤ cap) (hm : len ≤ 1000000000000000) (h : unpackN l 3 19 = false) :
    Calls Tryz.prog 16 #[.slice ad len cap] w fun e w' => e = .returned (.tuple #[askV 0 0 0 0 none 0 0, .int .i64 22]) ∧ Below w.heap.size w w' := by
  have HB : Hid (Below w.heap.size w (w.alloc (.cells #[.int .i64 0, .int .i64 0, .int .i64 0, .int .i64 0, .slice none 0 0] 24))) := (show Hid _ from (Below.refl _ w).alloc (Nat.le_refl _) _)
  have Q := framed_no (z := 3) (c := 19) ad len cap l 3 19 (w.alloc (.cells #[.int .i64 0, .int .i64 0, .int .i64 0, .int .i64 0, .slice none 0 0] 24)) rfl rfl (hp.later HB.out) hlc hm h
  clear hp h hm hlc
  go_enter Tryz.func16, Tryz.ntmps16
  go_wp2_with (go_at_call 47; refine Q.mono ?_; rintro x W1 ⟨p, rfl, hb1⟩; have X : Hid (Blk W1 w.heap.size #[.int .i64 0, .int .i64 0, .int .i64 0, .int .i64 0, .slice none 0 0] 24) := (show Hid _ from blk_below (blk_new _ w _) hb1 (by simp)); obtain ⟨⟨c0, c1, c2, c3, c4⟩, f0, f1, f2, f3, f4⟩ := blk5 X.out; have hb2 : Hid (Below w.heap.size w W1) := (show Hid _ from HB.out.trans (hb1.mono HB.out.size)); clear hb1)
  refine bodyPost_ret (rret_ask Tryz.results16 _ _ w.heap.size 0 0 0 0 none 0 0 rfl (blk_set5 X.out _ _ _ _ _)) rfl ⟨rfl, ?_⟩
  exact set5_below hb2.out (Nat.le_refl _) _ _ _ _ _
/-- What lies in memory behind the making of the Ask. -/
structure RMade (w wx : World) (g n c G : Nat) (b : List Nat) (k : Nat) (q : Part) : Prop where
  ans : Blk wx w.heap.size #[.int .i64 0, .int .i64 0, .int .i64 0, .int .i64 0, .slice none 0 0] 24
  new : Blk wx G #[.int .i64 (k : Int), .int .i64 0, .int .i64 0, .int .i64 0, .slice q.ad q.len q.cap] 24
  ne : w.heap.size < G
  body : Part.ok wx ⟨some ⟨g, 0, none⟩, n, c, b⟩
  part : q.ok wx
  is : q.l = b.drop 19
  below : Below w.heap.size w wx
theorem rmade_of {w V wx : World} {G k n c g : Nat} {b : List Nat} {q : Part} (X : Blk V w.heap.size #[.int .i64 0, .int .i64 0, .int .i64 0, .int .i64 0, .slice none 0 0] 24) (hz : w.heap.size < V.heap.size) (B0 : Below w.heap.size w V) (K : Part.ok V ⟨some ⟨g, 0, none⟩, n, c, b⟩) (Bl : Below V.heap.size V wx) (hG : V.heap.size ≤ G)
    (N : Blk wx G #[.int .i64 (k : Int), .int .i64 0, .int .i64 0, .int .i64 0, .slice q.ad q.len q.cap] 24) (P : q.ok wx) (hq : q.l = b.drop 19) : RMade w wx g n c G b k q :=
  ⟨blk_below X Bl hz, N, by omega, K.later Bl, P, hq, B0.trans (Bl.mono B0.size)⟩
set_option maxRecDepth 100000 in
set_option maxHeartbeats 8000000 in
theorem refGetAsk_frame (ad : Option Addr) (len cap : Nat) (l : List Nat) (w : World) (hp : Part.ok w ⟨ad, len, cap, l⟩) (hlc : len ≤ cap) (hm : len ≤ 1000000000000000) (h : unpackN l 3 19 = true) :
    Calls Tryz.prog 16 #[.slice ad len cap] w fun e w' => ((askIn (bodyAt l 0) = false ∧ e = .returned (.tuple #[askV 0 0 0 0 none 0 0, .int .i64 22])) ∨ (askIn (bodyAt l 0) = true ∧ ∃ q : Part, e = .returned (.tuple #[askV (askK (bodyAt l 0) : Nat) (askG (bodyAt l 0) : Nat) (askW (bodyAt l 0) : Nat) (askB (bodyAt l 0) : Nat) q.ad q.len q.cap, .int .i64 0]) ∧ q.l = (bodyAt l 0).drop 19 ∧ q.ok w')) ∧ Below w.heap.size w w' := by
  have HB : Hid (Below w.heap.size w (w.alloc (.cells #[.int .i64 0, .int .i64 0, .int .i64 0, .int .i64 0, .slice none 0 0] 24))) := (show Hid _ from (Below.refl _ w).alloc (Nat.le_refl _) _)
  have Q := framed_at (z := 3) (c := 19) ad len cap l 3 19 (w.alloc (.cells #[.int .i64 0, .int .i64 0, .int .i64 0, .int .i64 0, .slice none 0 0] 24)) rfl rfl (hp.later HB.out) hlc hm h (by omega)
  clear hp h hm hlc
  obtain ⟨k0, hk0⟩ : ∃ s, s = askK (bodyAt l 0) := ⟨_, rfl⟩
  have EK : Hid (k0 = askK (bodyAt l 0)) := hk0
  clear hk0
  go_enter Tryz.func16, Tryz.ntmps16
  go_upto_region 4 with (go_at_call 47; refine Q.mono ?_; rintro x V ⟨g, n, c, rfl, hn, hn4, hn6, hnc, hcm, hg, k1, hb1⟩; have HC : Hid (c ≤ maxLen ∧ w.heap.size < g ∧ n = (bodyAt l 0).length ∧ g < V.heap.size) := (show Hid _ from ⟨hcm, Nat.lt_of_lt_of_le (by simp) hg, hn, body_lt k1 (by omega)⟩); have H8 : Hid (∀ x ∈ bodyAt l 0, x < 256) := (show Hid _ from k1.2.2.1); have X0 : Hid (Blk V w.heap.size #[.int .i64 0, .int .i64 0, .int .i64 0, .int .i64 0, .slice none 0 0] 24) := (show Hid _ from blk_below (blk_new _ w _) hb1 (by simp)); have K0 : Hid (Part.ok V ⟨some ⟨g, 0, none⟩, n, c, bodyAt l 0⟩) := k1; have B0 : Hid (Below w.heap.size w V) := (show Hid _ from HB.out.trans (hb1.mono HB.out.size)); have Z0 : Hid (w.heap.size < V.heap.size) := (show Hid _ from Nat.lt_of_lt_of_le (by simp) hb1.size); have x0 := body_cell k1 0 (by omega); rw [← val_at _ 0 (by omega)] at x0; rw [show valN (((bodyAt l 0).drop 0).take 1) = k0 from EK.out.symm] at x0; clear hb1 k1 Q hcm hg hn)
  have BD : Hid (Below V.heap.size V V.drew) := (show Hid _ from (Below.refl _ V).drew)
  have BE : Hid (Below V.heap.size V (V.alloc (.cells #[] 5)).drew) := (show Hid _ from ((Below.refl _ V).alloc (Nat.le_refl _) _).drew)
  have BB : Hid (Below V.heap.size V (V.alloc (.cells #[.int .i64 0, .int .i64 0, .int .i64 0, .int .i64 0, .slice none 0 0] 24)).drew) := (show Hid _ from ((Below.refl _ V).alloc (Nat.le_refl _) _).drew)
  have BW1 : Hid (Below V.heap.size V ((V.alloc (.cells #[.int .i64 0, .int .i64 0, .int .i64 0, .int .i64 0, .slice none 0 0] 24)).alloc (.cells #[] 5)).drew) := (show Hid _ from (((Below.refl _ V).alloc (Nat.le_refl _) _).alloc (by simp) _).drew)
  have BW2 : Hid (Below V.heap.size V ((V.alloc (.cells #[] 5)).alloc (.cells #[.int .i64 0, .int .i64 0, .int .i64 0, .int .i64 0, .slice none 0 0] 24)).drew) := (show Hid _ from (((Below.refl _ V).alloc (Nat.le_refl _) _).alloc (by simp) _).drew)
  have BW3 : Hid (Below V.heap.size V (V.alloc (.cells #[] 5)).drew) := BE
  have SZ1 : Hid (V.heap.size ≤ ((V.alloc (.cells #[.int .i64 0, .int .i64 0, .int .i64 0, .int .i64 0, .slice none 0 0] 24)).alloc (.cells #[] 5)).drew.heap.size) := (show Hid _ from BW1.out.size)
  have SZ2 : Hid (V.heap.size ≤ ((V.alloc (.cells #[] 5)).alloc (.cells #[.int .i64 0, .int .i64 0, .int .i64 0, .int .i64 0, .slice none 0 0] 24)).drew.heap.size) := (show Hid _ from BW2.out.size)
  have SZ3 : Hid (V.heap.size ≤ (V.alloc (.cells #[] 5)).drew.heap.size) := (show Hid _ from BE.out.size)
  have oe1 : ((V.alloc (.cells #[.int .i64 0, .int .i64 0, .int .i64 0, .int .i64 0, .slice none 0 0] 24)).alloc (.cells #[] 5)).drew.ownsRow V.heap.size 5 1 (.slice (some ⟨V.heap.size + 1, 0, none⟩) 0 0) 0 (([] : List Nat).map bv) := by have h := own_kept (empty_own (V.alloc (.cells #[.int .i64 0, .int .i64 0, .int .i64 0, .int .i64 0, .slice none 0 0] 24)) V.heap.size (by simp)) (Below.refl _ _).drew; simpa using h
  have OE1 : Hid (((V.alloc (.cells #[.int .i64 0, .int .i64 0, .int .i64 0, .int .i64 0, .slice none 0 0] 24)).alloc (.cells #[] 5)).drew.ownsRow V.heap.size 5 1 (.slice (some ⟨V.heap.size + 1, 0, none⟩) 0 0) 0 (([] : List Nat).map bv)) := oe1
  have OE3 : Hid ((V.alloc (.cells #[] 5)).drew.ownsRow V.heap.size 5 1 (.slice (some ⟨V.heap.size, 0, none⟩) 0 0) 0 (([] : List Nat).map bv)) := (show Hid _ from own_kept (empty_own V V.heap.size (Nat.le_refl _)) (Below.refl _ _).drew)
  have OE2 : Hid (((V.alloc (.cells #[] 5)).alloc (.cells #[.int .i64 0, .int .i64 0, .int .i64 0, .int .i64 0, .slice none 0 0] 24)).drew.ownsRow V.heap.size 5 1 (.slice (some ⟨V.heap.size, 0, none⟩) 0 0) 0 (([] : List Nat).map bv)) := (show Hid _ from own_kept (empty_own V V.heap.size (Nat.le_refl _)) ((Below.refl _ _).alloc (Nat.le_refl _) _).drew)
  have NB1 : Hid (Blk ((V.alloc (.cells #[.int .i64 0, .int .i64 0, .int .i64 0, .int .i64 0, .slice none 0 0] 24)).alloc (.cells #[] 5)).drew V.heap.size #[.int .i64 0, .int .i64 0, .int .i64 0, .int .i64 0, .slice none 0 0] 24) := (show Hid _ from blk_below (blk_new _ V _) (((Below.refl (V.heap.size + 1) _).alloc (by simp) _).drew) (by omega))
  have nb2 : Blk ((V.alloc (.cells #[] 5)).alloc (.cells #[.int .i64 0, .int .i64 0, .int .i64 0, .int .i64 0, .slice none 0 0] 24)).drew (V.heap.size + 1) #[.int .i64 0, .int .i64 0, .int .i64 0, .int .i64 0, .slice none 0 0] 24 := by have h := blk_below (blk_new 24 (V.alloc (.cells #[] 5)) #[.int .i64 0, .int .i64 0, .int .i64 0, .int .i64 0, .slice none 0 0]) ((Below.refl (V.heap.size + 2) _).drew) (by simp); simpa using h
  have NB2 : Hid (Blk ((V.alloc (.cells #[] 5)).alloc (.cells #[.int .i64 0, .int .i64 0, .int .i64 0, .int .i64 0, .slice none 0 0] 24)).drew (V.heap.size + 1) #[.int .i64 0, .int .i64 0, .int .i64 0, .int .i64 0, .slice none 0 0] 24) := nb2
  have HX : Hid (∀ W : World, Below V.heap.size V W → W.cell? ⟨g, 0, none⟩ = some (.int .u8 ((k0 : Nat) : Int))) := (show Hid _ from fun W hW => (hW.cell (p := ⟨g, 0, none⟩) HC.out.2.2.2).trans x0)
  have HX5 : Hid (∀ (W : World) (K : Nat) (a b c d e : Value), V.heap.size ≤ K → Below V.heap.size V W → (((((W.setCell ⟨K, 0, none⟩ a).setCell ⟨K, 1, none⟩ b).setCell ⟨K, 2, none⟩ c).setCell ⟨K, 3, none⟩ d).setCell ⟨K, 4, none⟩ e).cell? ⟨g, 0, none⟩ = some (.int .u8 ((k0 : Nat) : Int))) := (show Hid _ from fun W K a b c d e hK hW => HX.out _ (set5_below hW hK a b c d e))
  have LT : Hid (∀ x ∈ (bodyAt l 0).drop 19, x < 256) := (show Hid _ from fun x hx => H8.out x (List.mem_of_mem_drop hx))
  have hk8 : k0 ≤ 255 := by rw [EK.out]; exact askK_le H8.out
  have hv8 : IntKind.i64.wrap ((k0 : Nat) : Int) = ((k0 : Nat) : Int) := by simp [IntKind.wrap, IntKind.bits, IntKind.signed]; omega
  clear x0 oe1 nb2
  have i1 : (19 : Int) ≤ (n : Int) := by omega
  have i2 : (0 : Int) < (n : Int) := by omega
  have i5 : 0 < n := by omega
  have i4 : (n : Int) ≤ (c : Int) := by omega
  go_cut [6] (fun v wx => ∃ (G : Nat) (q : Part), v = .pointer (some ⟨G, 0, none⟩) ∧ Hid (RMade w wx g n c G (bodyAt l 0) k0 q))
  case first =>
    by_cases hc4 : c = 19
    · have en4 : n = 19 := by omega
      subst hc4 en4
      have LL : Hid (((bodyAt l 0).drop 19).length = 0) := (show Hid _ from (by show _ = _; rw [List.length_drop, ← HC.out.2.2.1]))
      have RR1 : Hid (Row ((V.alloc (.cells #[.int .i64 0, .int .i64 0, .int .i64 0, .int .i64 0, .slice none 0 0] 24)).alloc (.cells #[] 5)).drew (some ⟨g, 0, none⟩) ((bodyAt l 0).drop 19)) := (show Hid _ from ⟨LT.out, Or.inl (List.eq_nil_of_length_eq_zero LL.out)⟩)
      have RR2 : Hid (Row ((V.alloc (.cells #[] 5)).alloc (.cells #[.int .i64 0, .int .i64 0, .int .i64 0, .int .i64 0, .slice none 0 0] 24)).drew (some ⟨g, 0, none⟩) ((bodyAt l 0).drop 19)) := (show Hid _ from ⟨LT.out, Or.inl (List.eq_nil_of_length_eq_zero LL.out)⟩)
      have RR3 : Hid (Row (V.alloc (.cells #[] 5)).drew (some ⟨g, 0, none⟩) ((bodyAt l 0).drop 19)) := (show Hid _ from ⟨LT.out, Or.inl (List.eq_nil_of_length_eq_zero LL.out)⟩)
      go_region_held3 (fun W => W.cell? ⟨g, 0, none⟩ = some (.int .u8 ((k0 : Nat) : Int)))
        (first | with_reducible exact HX.out _ B4.out | with_reducible exact HX.out _ (B4.out.alloc B4.out.size _) | with_reducible exact HX5.out _ _ _ _ _ _ _ (by omega) B4.out | with_reducible exact HX.out _ BD.out | with_reducible exact HX.out _ BE.out | with_reducible exact HX.out _ BB.out | with_reducible exact HX.out _ BW1.out | with_reducible exact HX.out _ BW2.out)
        (first
            | (rewrite [show ((V.alloc (.cells #[.int .i64 0, .int .i64 0, .int .i64 0, .int .i64 0, .slice none 0 0] 24)).alloc (.cells #[] 5)).drew = ((V.alloc (.cells #[.int .i64 0, .int .i64 0, .int .i64 0, .int .i64 0, .slice none 0 0] 24)).alloc (.cells #[] 5)).drew from rfl]; refine step_app_any (by rfl) _ _ (by rfl) V.heap.size (.slice (some ⟨V.heap.size + 1, 0, none⟩) 0 0) 0 [] (by rfl) OE1.out (some ⟨g, 0, none⟩) 0 _ ((bodyAt l 0).drop 19) (by rfl) LL.out (fun e => by cases e) RR1.out (by omega) SZ1.out ?_; intro v4 w4 hown4 hg4; obtain ⟨q, rfl, hq, kq⟩ := own_part (L := (bodyAt l 0).drop 19) (by simpa using hown4) LT.out LL.out; have HQ : Hid (q.l = (bodyAt l 0).drop 19) := hq; have KQ : Hid (q.ok w4) := kq; have B4 : Hid (Below V.heap.size V w4) := (show Hid _ from grown_below BW1.out OE1.out hg4 SZ1.out); have N4 : Hid (Blk w4 V.heap.size #[.int .i64 0, .int .i64 0, .int .i64 0, .int .i64 0, .slice none 0 0] 24) := (show Hid _ from blk_grown NB1.out hg4 (by simp [Value.ownBlock])); obtain ⟨⟨n0, n1, n2, n3, n4⟩, g0, g1, g2, g3, g4⟩ := blk5 N4.out; have XX : Hid (w4.cell? ⟨g, 0, none⟩ = some (.int .u8 ((k0 : Nat) : Int))) := (show Hid _ from HX.out _ B4.out); clear hown4 hg4 hq kq)
            | (rewrite [show ((V.alloc (.cells #[] 5)).alloc (.cells #[.int .i64 0, .int .i64 0, .int .i64 0, .int .i64 0, .slice none 0 0] 24)).drew = ((V.alloc (.cells #[] 5)).alloc (.cells #[.int .i64 0, .int .i64 0, .int .i64 0, .int .i64 0, .slice none 0 0] 24)).drew from rfl]; refine step_app_any (by rfl) _ _ (by rfl) V.heap.size (.slice (some ⟨V.heap.size, 0, none⟩) 0 0) 0 [] (by rfl) OE2.out (some ⟨g, 0, none⟩) 0 _ ((bodyAt l 0).drop 19) (by rfl) LL.out (fun e => by cases e) RR2.out (by omega) SZ2.out ?_; intro v4 w4 hown4 hg4; obtain ⟨q, rfl, hq, kq⟩ := own_part (L := (bodyAt l 0).drop 19) (by simpa using hown4) LT.out LL.out; have HQ : Hid (q.l = (bodyAt l 0).drop 19) := hq; have KQ : Hid (q.ok w4) := kq; have B4 : Hid (Below V.heap.size V w4) := (show Hid _ from grown_below BW2.out OE2.out hg4 SZ2.out); have N4 : Hid (Blk w4 (V.heap.size + 1) #[.int .i64 0, .int .i64 0, .int .i64 0, .int .i64 0, .slice none 0 0] 24) := (show Hid _ from blk_grown NB2.out hg4 (by simp [Value.ownBlock])); obtain ⟨⟨n0, n1, n2, n3, n4⟩, g0, g1, g2, g3, g4⟩ := blk5 N4.out; have XX : Hid (w4.cell? ⟨g, 0, none⟩ = some (.int .u8 ((k0 : Nat) : Int))) := (show Hid _ from HX.out _ B4.out); clear hown4 hg4 hq kq)
            | (rewrite [show (V.alloc (.cells #[] 5)).drew = (V.alloc (.cells #[] 5)).drew from rfl]; refine step_app_any (by rfl) _ _ (by rfl) V.heap.size (.slice (some ⟨V.heap.size, 0, none⟩) 0 0) 0 [] (by rfl) OE3.out (some ⟨g, 0, none⟩) 0 _ ((bodyAt l 0).drop 19) (by rfl) LL.out (fun e => by cases e) RR3.out (by omega) SZ3.out ?_; intro v4 w4 hown4 hg4; obtain ⟨q, rfl, hq, kq⟩ := own_part (L := (bodyAt l 0).drop 19) (by simpa using hown4) LT.out LL.out; have HQ : Hid (q.l = (bodyAt l 0).drop 19) := hq; have KQ : Hid (q.ok w4) := kq; have B4 : Hid (Below V.heap.size V w4) := (show Hid _ from grown_below BW3.out OE3.out hg4 SZ3.out); have XX : Hid (w4.cell? ⟨g, 0, none⟩ = some (.int .u8 ((k0 : Nat) : Int))) := (show Hid _ from HX.out _ B4.out); clear hown4 hg4 hq kq))
      all_goals go_wp2_with fail
      all_goals go_meet
      all_goals have hq := HQ.out
      all_goals have kq := KQ.out
      · exact ⟨w4.heap.size, q, rfl, (show Hid _ from rmade_of X0.out Z0.out B0.out K0.out (B4.out.alloc B4.out.size _) B4.out.size (blk_new _ _ _) (kq.later ((Below.refl _ _).alloc (Nat.le_refl _) _)) hq)⟩
      · exact ⟨V.heap.size + 1, q, rfl, (show Hid _ from rmade_of X0.out Z0.out B0.out K0.out (set5_below B4.out (by omega) _ _ _ _ _) (by omega) (blk_set5 N4.out _ _ _ _ _) (part_setF N4.out kq) hq)⟩
      · exact ⟨V.heap.size, q, rfl, (show Hid _ from rmade_of X0.out Z0.out B0.out K0.out (set5_below B4.out (Nat.le_refl _) _ _ _ _ _) (Nat.le_refl _) (blk_set5 N4.out _ _ _ _ _) (part_setF N4.out kq) hq)⟩
    · have LL : Hid (((bodyAt l 0).drop 19).length = n - 19) := (show Hid _ from (by show _ = _; rw [List.length_drop, ← HC.out.2.2.1]))
      have RR1 : Hid (Row ((V.alloc (.cells #[.int .i64 0, .int .i64 0, .int .i64 0, .int .i64 0, .slice none 0 0] 24)).alloc (.cells #[] 5)).drew (some ⟨g, 19, none⟩) ((bodyAt l 0).drop 19)) := (show Hid _ from (part_rest 19 (K0.out.later BW1.out) hn4 19 (fun _ => rfl)).2.2)
      have RR2 : Hid (Row ((V.alloc (.cells #[] 5)).alloc (.cells #[.int .i64 0, .int .i64 0, .int .i64 0, .int .i64 0, .slice none 0 0] 24)).drew (some ⟨g, 19, none⟩) ((bodyAt l 0).drop 19)) := (show Hid _ from (part_rest 19 (K0.out.later BW2.out) hn4 19 (fun _ => rfl)).2.2)
      have RR3 : Hid (Row (V.alloc (.cells #[] 5)).drew (some ⟨g, 19, none⟩) ((bodyAt l 0).drop 19)) := (show Hid _ from (part_rest 19 (K0.out.later BW3.out) hn4 19 (fun _ => rfl)).2.2)
      go_region_held3 (fun W => W.cell? ⟨g, 0, none⟩ = some (.int .u8 ((k0 : Nat) : Int)))
        (first | with_reducible exact HX.out _ B4.out | with_reducible exact HX.out _ (B4.out.alloc B4.out.size _) | with_reducible exact HX5.out _ _ _ _ _ _ _ (by omega) B4.out | with_reducible exact HX.out _ BD.out | with_reducible exact HX.out _ BE.out | with_reducible exact HX.out _ BB.out | with_reducible exact HX.out _ BW1.out | with_reducible exact HX.out _ BW2.out)
        (first
            | (rewrite [show ((V.alloc (.cells #[.int .i64 0, .int .i64 0, .int .i64 0, .int .i64 0, .slice none 0 0] 24)).alloc (.cells #[] 5)).drew = ((V.alloc (.cells #[.int .i64 0, .int .i64 0, .int .i64 0, .int .i64 0, .slice none 0 0] 24)).alloc (.cells #[] 5)).drew from rfl]; refine step_app_any (by rfl) _ _ (by rfl) V.heap.size (.slice (some ⟨V.heap.size + 1, 0, none⟩) 0 0) 0 [] (by rfl) OE1.out (some ⟨g, 19, none⟩) (n - 19) _ ((bodyAt l 0).drop 19) (by rfl) LL.out (fun e => by cases e) RR1.out (by omega) SZ1.out ?_; intro v4 w4 hown4 hg4; obtain ⟨q, rfl, hq, kq⟩ := own_part (L := (bodyAt l 0).drop 19) (by simpa using hown4) LT.out LL.out; have HQ : Hid (q.l = (bodyAt l 0).drop 19) := hq; have KQ : Hid (q.ok w4) := kq; have B4 : Hid (Below V.heap.size V w4) := (show Hid _ from grown_below BW1.out OE1.out hg4 SZ1.out); have N4 : Hid (Blk w4 V.heap.size #[.int .i64 0, .int .i64 0, .int .i64 0, .int .i64 0, .slice none 0 0] 24) := (show Hid _ from blk_grown NB1.out hg4 (by simp [Value.ownBlock])); obtain ⟨⟨n0, n1, n2, n3, n4⟩, g0, g1, g2, g3, g4⟩ := blk5 N4.out; have XX : Hid (w4.cell? ⟨g, 0, none⟩ = some (.int .u8 ((k0 : Nat) : Int))) := (show Hid _ from HX.out _ B4.out); clear hown4 hg4 hq kq)
            | (rewrite [show ((V.alloc (.cells #[] 5)).alloc (.cells #[.int .i64 0, .int .i64 0, .int .i64 0, .int .i64 0, .slice none 0 0] 24)).drew = ((V.alloc (.cells #[] 5)).alloc (.cells #[.int .i64 0, .int .i64 0, .int .i64 0, .int .i64 0, .slice none 0 0] 24)).drew from rfl]; refine step_app_any (by rfl) _ _ (by rfl) V.heap.size (.slice (some ⟨V.heap.size, 0, none⟩) 0 0) 0 [] (by rfl) OE2.out (some ⟨g, 19, none⟩) (n - 19) _ ((bodyAt l 0).drop 19) (by rfl) LL.out (fun e => by cases e) RR2.out (by omega) SZ2.out ?_; intro v4 w4 hown4 hg4; obtain ⟨q, rfl, hq, kq⟩ := own_part (L := (bodyAt l 0).drop 19) (by simpa using hown4) LT.out LL.out; have HQ : Hid (q.l = (bodyAt l 0).drop 19) := hq; have KQ : Hid (q.ok w4) := kq; have B4 : Hid (Below V.heap.size V w4) := (show Hid _ from grown_below BW2.out OE2.out hg4 SZ2.out); have N4 : Hid (Blk w4 (V.heap.size + 1) #[.int .i64 0, .int .i64 0, .int .i64 0, .int .i64 0, .slice none 0 0] 24) := (show Hid _ from blk_grown NB2.out hg4 (by simp [Value.ownBlock])); obtain ⟨⟨n0, n1, n2, n3, n4⟩, g0, g1, g2, g3, g4⟩ := blk5 N4.out; have XX : Hid (w4.cell? ⟨g, 0, none⟩ = some (.int .u8 ((k0 : Nat) : Int))) := (show Hid _ from HX.out _ B4.out); clear hown4 hg4 hq kq)
            | (rewrite [show (V.alloc (.cells #[] 5)).drew = (V.alloc (.cells #[] 5)).drew from rfl]; refine step_app_any (by rfl) _ _ (by rfl) V.heap.size (.slice (some ⟨V.heap.size, 0, none⟩) 0 0) 0 [] (by rfl) OE3.out (some ⟨g, 19, none⟩) (n - 19) _ ((bodyAt l 0).drop 19) (by rfl) LL.out (fun e => by cases e) RR3.out (by omega) SZ3.out ?_; intro v4 w4 hown4 hg4; obtain ⟨q, rfl, hq, kq⟩ := own_part (L := (bodyAt l 0).drop 19) (by simpa using hown4) LT.out LL.out; have HQ : Hid (q.l = (bodyAt l 0).drop 19) := hq; have KQ : Hid (q.ok w4) := kq; have B4 : Hid (Below V.heap.size V w4) := (show Hid _ from grown_below BW3.out OE3.out hg4 SZ3.out); have XX : Hid (w4.cell? ⟨g, 0, none⟩ = some (.int .u8 ((k0 : Nat) : Int))) := (show Hid _ from HX.out _ B4.out); clear hown4 hg4 hq kq))
      all_goals go_wp2_with fail
      all_goals go_meet
      all_goals have hq := HQ.out
      all_goals have kq := KQ.out
      · exact ⟨w4.heap.size, q, rfl, (show Hid _ from rmade_of X0.out Z0.out B0.out K0.out (B4.out.alloc B4.out.size _) B4.out.size (blk_new _ _ _) (kq.later ((Below.refl _ _).alloc (Nat.le_refl _) _)) hq)⟩
      · exact ⟨V.heap.size + 1, q, rfl, (show Hid _ from rmade_of X0.out Z0.out B0.out K0.out (set5_below B4.out (by omega) _ _ _ _ _) (by omega) (blk_set5 N4.out _ _ _ _ _) (part_setF N4.out kq) hq)⟩
      · exact ⟨V.heap.size, q, rfl, (show Hid _ from rmade_of X0.out Z0.out B0.out K0.out (set5_below B4.out (Nat.le_refl _) _ _ _ _ _) (Nat.le_refl _) (blk_set5 N4.out _ _ _ _ _) (part_setF N4.out kq) hq)⟩
  case rest =>
    obtain ⟨G, q, rfl, M⟩ := hcut
    clear X0 K0 B0 Z0 BD BE BB BW1 BW2 BW3 SZ1 SZ2 SZ3 OE1 OE2 OE3 NB1 NB2 HX HX5 LT hv8
    obtain ⟨⟨q0, q1, q2, q3, q4⟩, y0, y1, y2, y3, y4⟩ := blk5 M.out.new
    have HN := numbers_any (some ⟨g, 0, none⟩) n c (bodyAt l 0) wc M.out.body (by omega) hn4
    obtain ⟨g0, hg0⟩ : ∃ s, s = askG (bodyAt l 0) := ⟨_, rfl⟩
    obtain ⟨v0, hv0⟩ : ∃ s, s = askW (bodyAt l 0) := ⟨_, rfl⟩
    obtain ⟨b0, hb0⟩ : ∃ s, s = askB (bodyAt l 0) := ⟨_, rfl⟩
    rw [← hg0, ← hv0, ← hb0] at HN
    have EG : Hid (g0 = askG (bodyAt l 0)) := hg0
    have EV : Hid (v0 = askW (bodyAt l 0)) := hv0
    have EB : Hid (b0 = askB (bodyAt l 0)) := hb0
    clear hg0 hv0 hb0
    obtain ⟨W2, hW2⟩ : ∃ W2, ((wc.setCell ⟨G, 1, none⟩ (.int .i64 ((g0 : Nat) : Int))).setCell ⟨G, 2, none⟩ (.int .i64 ((v0 : Nat) : Int))).setCell ⟨G, 3, none⟩ (.int .i64 ((b0 : Nat) : Int)) = W2 := ⟨_, rfl⟩
    have N2 : Hid (Blk W2 G #[.int .i64 (k0 : Int), .int .i64 (g0 : Int), .int .i64 (v0 : Int), .int .i64 (b0 : Int), .slice q.ad q.len q.cap] 24) := (show Hid _ from (by rw [← hW2]; exact ((M.out.new.set 1 _).set 2 _).set 3 _))
    have A2 : Hid (Blk W2 w.heap.size #[.int .i64 0, .int .i64 0, .int .i64 0, .int .i64 0, .slice none 0 0] 24) := (show Hid _ from (by rw [← hW2]; exact ((M.out.ans.other (Nat.ne_of_lt M.out.ne) _ _).other (Nat.ne_of_lt M.out.ne) _ _).other (Nat.ne_of_lt M.out.ne) _ _))
    have P2 : Hid (q.ok W2) := (show Hid _ from (by rw [← hW2]; exact part_set3 M.out.new M.out.part))
    have B2 : Hid (Below w.heap.size w W2) := (show Hid _ from (by rw [← hW2]; exact ((M.out.below.setCell (p := ⟨G, 1, none⟩) (Nat.le_of_lt M.out.ne) _).setCell (p := ⟨G, 2, none⟩) (Nat.le_of_lt M.out.ne) _).setCell (p := ⟨G, 3, none⟩) (Nat.le_of_lt M.out.ne) _))
    have QL : Hid (q.len = (bodyAt l 0).length - 19) := (show Hid _ from (by show _ = _; rw [← M.out.part.1, M.out.is, List.length_drop]))
    have QI : Hid (q.l = (bodyAt l 0).drop 19) := (show Hid _ from M.out.is)
    have HM := rasks_any (k0 : Int) (g0 : Int) (v0 : Int) (b0 : Int) q.ad q.len q.cap W2
    have HR : askMay (k0 : Int) (g0 : Int) (v0 : Int) (b0 : Int) q.len = askIn (bodyAt l 0) := by rw [EK.out, EG.out, EV.out, EB.out, QL.out]; rfl
    rw [HR] at HM
    unfold askV at HM
    clear HR M
    obtain ⟨⟨m0, m1, m2, m3, m4⟩, -⟩ := blk5 N2.out
    cases hin : askIn (bodyAt l 0) with
    | false =>
      rw [hin] at HM
      have HIN : Hid (askIn (bodyAt l 0) = false) := hin
      clear hin
      go_wp2_with (first | (go_at_call 48; refine HN.mono ?_; rintro x w' ⟨rfl, hw'⟩; obtain rfl := hw'.symm) | (go_at_call 38; refine HM.mono ?_; rintro x W5 ⟨rfl, b5⟩; have A5 : Hid (Blk W5 w.heap.size #[.int .i64 0, .int .i64 0, .int .i64 0, .int .i64 0, .slice none 0 0] 24) := (show Hid _ from A2.out.later b5); obtain ⟨⟨c0, c1, c2, c3, c4⟩, f0, f1, f2, f3, f4⟩ := blk5 A5.out; have D5 : Hid (Below w.heap.size w W5) := (show Hid _ from B2.out.trans (b5.mono B2.out.size)); clear b5 HM))
      refine bodyPost_ret (rret_ask Tryz.results16 _ _ w.heap.size 0 0 0 0 none 0 0 rfl (blk_set5 A5.out _ _ _ _ _)) rfl ⟨Or.inl ⟨HIN.out, rfl⟩, ?_⟩
      exact set5_below D5.out (Nat.le_refl _) _ _ _ _ _
    | true =>
      rw [hin] at HM
      have HIN : Hid (askIn (bodyAt l 0) = true) := hin
      clear hin
      go_wp2_with (first | (go_at_call 48; refine HN.mono ?_; rintro x w' ⟨rfl, hw'⟩; obtain rfl := hw'.symm) | (go_at_call 38; refine HM.mono ?_; rintro x W5 ⟨rfl, b5⟩; have A5 : Hid (Blk W5 w.heap.size #[.int .i64 0, .int .i64 0, .int .i64 0, .int .i64 0, .slice none 0 0] 24) := (show Hid _ from A2.out.later b5); obtain ⟨⟨c0, c1, c2, c3, c4⟩, f0, f1, f2, f3, f4⟩ := blk5 A5.out; have D5 : Hid (Below w.heap.size w W5) := (show Hid _ from B2.out.trans (b5.mono B2.out.size)); have E5 : Hid (Blk W5 G #[.int .i64 (k0 : Int), .int .i64 (g0 : Int), .int .i64 (v0 : Int), .int .i64 (b0 : Int), .slice q.ad q.len q.cap] 24) := (show Hid _ from N2.out.later b5); obtain ⟨⟨r0, r1, r2, r3, r4⟩, -⟩ := blk5 E5.out; have P5 : Hid (q.ok W5) := (show Hid _ from P2.out.later b5); clear b5 HM))
      refine bodyPost_ret (rret_ask Tryz.results16 _ _ w.heap.size _ _ _ _ _ _ _ rfl (blk_set5 A5.out _ _ _ _ _)) rfl ⟨Or.inr ⟨HIN.out, q, by rw [← EK.out, ← EG.out, ← EV.out, ← EB.out]; rfl, QI.out, part_setF A5.out P5.out⟩, ?_⟩
      exact set5_below D5.out (Nat.le_refl _) _ _ _ _ _
end Go.Proofs.YtoihddlbdimmlaaGreat.Ac
namespace Go.Proofs.YtoihddlbdimmlaaGreat.Ac
open Go.RowKit Crcm

theorem tell_f {e v p b : Int} {len : Nat} (h : ¬ (0 ≤ e ∧ e ≤ 255 ∧ isLogletN v = true ∧ isLogletN p = true ∧ isLogletN b = true ∧ len ≤ 4000)) : false = ansMay e v p b len := by
  cases hm : ansMay e v p b len with
  | false => rfl
  | true =>
    exfalso
    apply h
    simp only [ansMay, Bool.and_eq_true, decide_eq_true_eq] at hm
    obtain ⟨⟨⟨⟨⟨h1, h2⟩, h3⟩, h4⟩, h5⟩, h6⟩ := hm
    exact ⟨h1, h2, h3, h4, h5, h6⟩
theorem tell_t {e v p b : Int} {len : Nat} (h : 0 ≤ e ∧ e ≤ 255 ∧ isLogletN v = true ∧ isLogletN p = true ∧ isLogletN b = true ∧ len ≤ 4000) : true = ansMay e v p b len := by
  obtain ⟨h1, h2, h3, h4, h5, h6⟩ := h
  simp [ansMay, h1, h2, h3, h4, h5, h6]
set_option maxRecDepth 100000 in
set_option maxHeartbeats 4000000 in
theorem rtells_any (e v p b : Int) (s : Bool) (ad : Option Addr) (len cap : Nat) (w : World) :
    Calls Tryz.prog 43 #[ansV e v p b s ad len cap] w fun x w' => x = .returned (.bool (ansMay e v p b len)) ∧ Below w.heap.size w w' := by
  have HB : Hid (Below w.heap.size w (w.alloc (.cells #[.int .i64 e, .int .i64 v, .int .i64 p, .int .i64 b, .bool s, .slice ad len cap] 26))) := hid ((Below.refl _ w).alloc (Nat.le_refl _) _)
  unfold ansV
  by_cases h0 : 0 ≤ e
  rotate_left
  · have hd0 : decide (0 ≤ e) = false := by simpa using h0
    have HV : Hid (false = ansMay e v p b len) := hid (by exact tell_f (fun hh => h0 hh.1))
    go_enter Tryz.func43, Tryz.ntmps43
    go_wp2_with fail
    go_ret
    exact ⟨congrArg (fun x => Ending.returned (.bool x)) HV.out, HB.out⟩
  have hd0 : decide (0 ≤ e) = true := by simpa using h0
  by_cases h1 : e ≤ 255
  rotate_left
  · have hd1 : decide (e ≤ 255) = false := by simpa using h1
    have HV : Hid (false = ansMay e v p b len) := hid (by exact tell_f (fun hh => h1 hh.2.1))
    go_enter Tryz.func43, Tryz.ntmps43
    go_wp2_with fail
    go_ret
    exact ⟨congrArg (fun x => Ending.returned (.bool x)) HV.out, HB.out⟩
  have hd1 : decide (e ≤ 255) = true := by simpa using h1
  by_cases g0 : inN v 0 = true
  rotate_left
  · have hf : inN v 0 = false := by simpa using g0
    have HV : Hid (false = ansMay e v p b len) := hid (by exact tell_f (fun hh => g0 ((in0 v).trans hh.2.2.1)))
    go_enter Tryz.func43, Tryz.ntmps43
    go_wp2_with (first | (go_at_call 73; (with_reducible_and_instances (refine (inIs hf _).mono ?_)); rintro x w' ⟨rfl, hw'⟩; obtain rfl := hw'.symm))
    go_ret
    exact ⟨congrArg (fun x => Ending.returned (.bool x)) HV.out, HB.out⟩
  by_cases g1 : inN p 0 = true
  rotate_left
  · have hf : inN p 0 = false := by simpa using g1
    have HV : Hid (false = ansMay e v p b len) := hid (by exact tell_f (fun hh => g1 ((in0 p).trans hh.2.2.2.1)))
    go_enter Tryz.func43, Tryz.ntmps43
    go_wp2_with (first | (go_at_call 73; (with_reducible_and_instances (refine (inIs g0 _).mono ?_)); rintro x w' ⟨rfl, hw'⟩; obtain rfl := hw'.symm) | (go_at_call 73; (with_reducible_and_instances (refine (inIs hf _).mono ?_)); rintro x w' ⟨rfl, hw'⟩; obtain rfl := hw'.symm))
    go_ret
    exact ⟨congrArg (fun x => Ending.returned (.bool x)) HV.out, HB.out⟩
  by_cases g2 : inN b 0 = true
  rotate_left
  · have hf : inN b 0 = false := by simpa using g2
    have HV : Hid (false = ansMay e v p b len) := hid (by exact tell_f (fun hh => g2 ((in0 b).trans hh.2.2.2.2.1)))
    go_enter Tryz.func43, Tryz.ntmps43
    go_wp2_with (first | (go_at_call 73; (with_reducible_and_instances (refine (inIs g0 _).mono ?_)); rintro x w' ⟨rfl, hw'⟩; obtain rfl := hw'.symm) | (go_at_call 73; (with_reducible_and_instances (refine (inIs g1 _).mono ?_)); rintro x w' ⟨rfl, hw'⟩; obtain rfl := hw'.symm) | (go_at_call 73; (with_reducible_and_instances (refine (inIs hf _).mono ?_)); rintro x w' ⟨rfl, hw'⟩; obtain rfl := hw'.symm))
    go_ret
    exact ⟨congrArg (fun x => Ending.returned (.bool x)) HV.out, HB.out⟩
  by_cases h5 : len ≤ 4000
  rotate_left
  · have hd5 : decide ((len : Int) ≤ (4000 : Int)) = false := by simp; omega
    have HV : Hid (false = ansMay e v p b len) := hid (by exact tell_f (fun hh => h5 hh.2.2.2.2.2))
    go_enter Tryz.func43, Tryz.ntmps43
    go_wp2_with (first | (go_at_call 73; (with_reducible_and_instances (refine (inIs g0 _).mono ?_)); rintro x w' ⟨rfl, hw'⟩; obtain rfl := hw'.symm) | (go_at_call 73; (with_reducible_and_instances (refine (inIs g1 _).mono ?_)); rintro x w' ⟨rfl, hw'⟩; obtain rfl := hw'.symm) | (go_at_call 73; (with_reducible_and_instances (refine (inIs g2 _).mono ?_)); rintro x w' ⟨rfl, hw'⟩; obtain rfl := hw'.symm))
    go_ret
    exact ⟨congrArg (fun x => Ending.returned (.bool x)) HV.out, HB.out⟩
  have hd5 : decide ((len : Int) ≤ (4000 : Int)) = true := by simp; omega
  have HV : Hid (true = ansMay e v p b len) := hid (by exact tell_t ⟨h0, h1, (in0 v).symm.trans g0, (in0 p).symm.trans g1, (in0 b).symm.trans g2, h5⟩)
  go_enter Tryz.func43, Tryz.ntmps43
  go_wp2_with (first | (go_at_call 73; (with_reducible_and_instances (refine (inIs g0 _).mono ?_)); rintro x w' ⟨rfl, hw'⟩; obtain rfl := hw'.symm) | (go_at_call 73; (with_reducible_and_instances (refine (inIs g1 _).mono ?_)); rintro x w' ⟨rfl, hw'⟩; obtain rfl := hw'.symm) | (go_at_call 73; (with_reducible_and_instances (refine (inIs g2 _).mono ?_)); rintro x w' ⟨rfl, hw'⟩; obtain rfl := hw'.symm))
  go_ret
  exact ⟨congrArg (fun x => Ending.returned (.bool x)) HV.out, HB.out⟩
theorem truth_any (s : Bool) (w : World) : Calls Tryz.prog 44 #[.bool s] w fun x w' => x = .returned (.int .u8 ((s.toNat : Nat) : Int)) ∧ Below w.heap.size w w' := by
  cases s with
  | false =>
    go_enter Tryz.func44, Tryz.ntmps44
    go_wp2
    go_ret
    exact ⟨rfl, Below.refl _ _⟩
  | true =>
    go_enter Tryz.func44, Tryz.ntmps44
    go_wp2
    go_ret
    exact ⟨rfl, Below.refl _ _⟩
end Go.Proofs.YtoihddlbdimmlaaGreat.Ac
namespace Go.Proofs.YtoihddlbdimmlaaGreat.Ac
open Go.RowKit Crcm

set_option maxRecDepth 100000 in
set_option maxHeartbeats 4000000 in
theorem refPutAnswer_no (e v p b : Int) (s : Bool) (ad : Option Addr) (len cap : Nat) (w : World) (hm : ansMay e v p b len = false) :
    Calls Tryz.prog 13 #[ansV e v p b s ad len cap] w fun x w' => x = .returned (.tuple #[.slice none 0 0, .int .i64 1]) ∧ Below w.heap.size w w' := by
  have HM := rtells_any e v p b s ad len cap (w.alloc (.cells #[.int .i64 e, .int .i64 v, .int .i64 p, .int .i64 b, .bool s, .slice ad len cap] 26))
  rw [hm] at HM
  have HB : Hid (Below w.heap.size w (w.alloc (.cells #[.int .i64 e, .int .i64 v, .int .i64 p, .int .i64 b, .bool s, .slice ad len cap] 26))) := (show Hid _ from (Below.refl _ w).alloc (Nat.le_refl _) _)
  clear hm
  unfold ansV at HM ⊢
  go_enter Tryz.func13, Tryz.ntmps13
  go_wp2_with (go_at_call 43; refine HM.mono ?_; rintro x W1 ⟨rfl, hb1⟩)
  go_ret2
  exact ⟨rfl, HB.out.trans (hb1.mono HB.out.size)⟩
theorem ans_eq (e v p b s : Nat) (l : List Nat) (he : e ≤ 255) (hs : s ≤ 255) : [e] ++ threeN v p b ++ [s] ++ l = ansN e v p b s l := by
  unfold ansN textN threeN
  rw [spell_one e he, spell_one s hs]
  simp
theorem ans_lt {e v p b s : Nat} {l : List Nat} (he : e ≤ 255) (hs : s ≤ 255) (hl : ∀ x ∈ l, x < 256) : ∀ x ∈ [e] ++ threeN v p b ++ [s] ++ l, x < 256 :=
  lt_app (lt_app (lt_app (lt_one (by omega)) (threeN_lt _ _ _)) (lt_one (by omega))) hl
theorem toNat_le (s : Bool) : s.toNat ≤ 255 := by cases s <;> simp
set_option maxRecDepth 100000 in
set_option maxHeartbeats 8000000 in
theorem refPutAnswer_ok (e v p b : Nat) (s : Bool) (ad : Option Addr) (len cap : Nat) (l : List Nat) (w : World) (hm : ansMay e v p b len = true) (he : e ≤ 255) (hlen : len ≤ 4000) (ha : Part.ok w ⟨ad, len, cap, l⟩) :
    Calls Tryz.prog 13 #[ansV e v p b s ad len cap] w fun x w' => ∃ q : Part, x = .returned (.tuple #[.slice q.ad q.len q.cap, .int .i64 0]) ∧ Hid (q.l = frameBs 4 (ansN e v p b s.toNat l)) ∧ Hid (q.ok w') ∧ Below w.heap.size w w' := by
  have HA : Hid (Part.ok w ⟨ad, len, cap, l⟩) := ha
  clear ha
  have HM := rtells_any (e : Int) (v : Int) (p : Int) (b : Int) s ad len cap (w.alloc (.cells #[.int .i64 (e : Int), .int .i64 (v : Int), .int .i64 (p : Int), .int .i64 (b : Int), .bool s, .slice ad len cap] 26))
  rw [hm] at HM
  clear hm
  unfold ansV at HM ⊢
  have HS : Hid (∀ W : World, Below (w.heap.size + 1) (w.alloc (.cells #[.int .i64 (e : Int), .int .i64 (v : Int), .int .i64 (p : Int), .int .i64 (b : Int), .bool s, .slice ad len cap] 26)) W → W.cell? ⟨w.heap.size, 0, none⟩ = some (.int .i64 (e : Int)) ∧ W.cell? ⟨w.heap.size, 1, none⟩ = some (.int .i64 (v : Int)) ∧ W.cell? ⟨w.heap.size, 2, none⟩ = some (.int .i64 (p : Int)) ∧ W.cell? ⟨w.heap.size, 3, none⟩ = some (.int .i64 (b : Int)) ∧ W.cell? ⟨w.heap.size, 4, none⟩ = some (.bool s) ∧ W.cell? ⟨w.heap.size, 5, none⟩ = some (.slice ad len cap)) := (show Hid _ from fun W hW => by
    have q := (hW.block w.heap.size (by omega)).trans (heap_alloc_last w _)
    refine ⟨?_, ?_, ?_, ?_, ?_, ?_⟩ <;> (rw [cell_of_row _ _ _ _ _ _ q]; rfl))
  have HS2 : Hid (∀ W : World, Below (w.heap.size + 1) (w.alloc (.cells #[.int .i64 (e : Int), .int .i64 (v : Int), .int .i64 (p : Int), .int .i64 (b : Int), .bool s, .slice ad len cap] 26)) W → W.cell? ⟨w.heap.size, 0, none⟩ = some (.int .i64 (e : Int)) ∧ W.cell? ⟨w.heap.size, 1, none⟩ = some (.int .i64 (v : Int)) ∧ W.cell? ⟨w.heap.size, 2, none⟩ = some (.int .i64 (p : Int)) ∧ W.cell? ⟨w.heap.size, 3, none⟩ = some (.int .i64 (b : Int))) := (show Hid _ from fun W hW => ⟨(HS.out W hW).1, (HS.out W hW).2.1, (HS.out W hW).2.2.1, (HS.out W hW).2.2.2.1⟩)
  have HS3 : Hid (∀ W : World, Below (w.heap.size + 1) (w.alloc (.cells #[.int .i64 (e : Int), .int .i64 (v : Int), .int .i64 (p : Int), .int .i64 (b : Int), .bool s, .slice ad len cap] 26)) W → W.cell? ⟨w.heap.size, 4, none⟩ = some (.bool s) ∧ W.cell? ⟨w.heap.size, 5, none⟩ = some (.slice ad len cap)) := (show Hid _ from fun W hW => (HS.out W hW).2.2.2.2)
  have HB : Hid (Below w.heap.size w (w.alloc (.cells #[.int .i64 (e : Int), .int .i64 (v : Int), .int .i64 (p : Int), .int .i64 (b : Int), .bool s, .slice ad len cap] 26))) := (show Hid _ from (Below.refl _ w).alloc (Nat.le_refl _) _)
  have HBW : Hid (∀ W, Below (w.heap.size + 1) (w.alloc (.cells #[.int .i64 (e : Int), .int .i64 (v : Int), .int .i64 (p : Int), .int .i64 (b : Int), .bool s, .slice ad len cap] 26)) W → Below w.heap.size w W) := (show Hid _ from fun W h => HB.out.trans (h.mono (Nat.le_succ _)))
  have hsz0 : (w.alloc (.cells #[.int .i64 (e : Int), .int .i64 (v : Int), .int .i64 (p : Int), .int .i64 (b : Int), .bool s, .slice ad len cap] 26)).heap.size = w.heap.size + 1 := by simp
  have hw8 : IntKind.u8.wrap (e : Int) = (e : Int) := by simp [IntKind.wrap, IntKind.bits, IntKind.signed]; omega
  go_enter Tryz.func13, Tryz.ntmps13
  go_wp2_with (go_at_call 43; refine HM.mono ?_; rintro r W1 ⟨rfl, hb1⟩; have D1 : Hid (Below (w.heap.size + 1) (w.alloc _) W1) := (show Hid _ from hsz0 ▸ hb1); clear hb1 HM)
  have Z1 : Hid ((w.heap.size + 1) ≤ W1.heap.size) := (show Hid _ from (show (w.heap.size + 1) ≤ W1.heap.size by have := D1.out.size; simpa [hsz0] using this))
  have C0 : Hid (Below (w.heap.size + 1) (w.alloc _) W1.drew) := (show Hid _ from D1.out.drew)
  have CA : Hid (Below (w.heap.size + 1) (w.alloc _) (W1.alloc (.cells #[.int .u8 (e : Int)] 5)).drew) := (show Hid _ from alloc_drew D1.out Z1.out _)
  have Z0 : Hid ((w.heap.size + 1) ≤ W1.drew.heap.size) := Z1
  have ZA : Hid ((w.heap.size + 1) ≤ (W1.alloc (.cells #[.int .u8 (e : Int)] 5)).drew.heap.size) := (show Hid _ from Nat.le_trans Z1.out (((Below.refl 0 W1).alloc (Nat.zero_le _) (.cells #[.int .u8 (e : Int)] 5)).drew).size)
  have OA : Hid ((W1.alloc (.cells #[.int .u8 (e : Int)] 5)).drew.ownsRow (w.heap.size + 1) 5 1 (.slice (some ⟨W1.heap.size, 0, none⟩) 1 1) 1 ([e].map bv)) := (show Hid _ from own_kept (one_own W1 _ e _ rfl Z1.out) (Below.refl _ _).drew)
  clear D1
  generalize w.alloc _ = W0 at *
  clear HB hsz0
  go_region_held3 (fun W => W.cell? ⟨w.heap.size, 0, none⟩ = some (.int .i64 (e : Int)) ∧ W.cell? ⟨w.heap.size, 1, none⟩ = some (.int .i64 (v : Int)) ∧ W.cell? ⟨w.heap.size, 2, none⟩ = some (.int .i64 (p : Int)) ∧ W.cell? ⟨w.heap.size, 3, none⟩ = some (.int .i64 (b : Int)))
    (first | exact HS2.out _ C0.out | exact HS2.out _ CA.out | exact HS2.out _ C1.out | exact HS2.out _ (C1.out.alloc Y1.out _) | exact HS2.out _ C2.out)
    (first
      | (go_at_call 39; (with_reducible_and_instances (refine (three_at v p b W1.drew rfl rfl rfl).mono ?_)); rintro r w1 ⟨p1, rfl, e1, k1, b1⟩; have C1 : Hid (Below (w.heap.size + 1) W0 w1) := (show Hid _ from C0.out.trans (b1.mono Z0.out)); have Y1 : Hid ((w.heap.size + 1) ≤ w1.heap.size) := (show Hid _ from Nat.le_trans Z0.out b1.size); clear b1)
      | (go_at_call 39; (with_reducible_and_instances (refine (three_at v p b (W1.alloc (.cells #[.int .u8 (e : Int)] 5)).drew rfl rfl rfl).mono ?_)); rintro r w1 ⟨p1, rfl, e1, k1, b1⟩; have C1 : Hid (Below (w.heap.size + 1) W0 w1) := (show Hid _ from CA.out.trans (b1.mono ZA.out)); have Y1 : Hid ((w.heap.size + 1) ≤ w1.heap.size) := (show Hid _ from Nat.le_trans ZA.out b1.size); have OB : Hid (w1.ownsRow (w.heap.size + 1) 5 1 (.slice (some ⟨W1.heap.size, 0, none⟩) 1 1) 1 ([e].map bv)) := (show Hid _ from own_kept OA.out b1); clear b1)
      | (refine step_app_any (by rfl) _ _ (by rfl) (w.heap.size + 1) (.slice (some ⟨W1.heap.size, 0, none⟩) 1 1) 1 [e] (by rfl) OB.out p1.ad p1.len p1.cap (threeN v p b) (by rfl) (part_of k1.out e1.out).1 (part_of k1.out e1.out).2.1 (part_of k1.out e1.out).2.2 (by rw [part_len k1.out e1.out (threeN_length _ _ _)]; omega) Y1.out ?_; intro v2 w2 hown2 hg2; have O2 : Hid (w2.ownsRow (w.heap.size + 1) 5 1 v2 (1 + p1.len) (([e] ++ threeN v p b).map bv)) := hown2; have C2 : Hid (Below (w.heap.size + 1) W0 w2) := (show Hid _ from grown_below C1.out OB.out hg2 Y1.out); have Y2 : Hid ((w.heap.size + 1) ≤ w2.heap.size) := (show Hid _ from Nat.le_trans Y1.out (grown_below (Below.refl _ _) OB.out hg2 Y1.out).size); have L2 : Hid (p1.len = 18) := (show Hid _ from part_len k1.out e1.out (threeN_length _ _ _)); clear hown2 hg2 OB)
      | (refine step_app_any (by rfl) _ _ (by rfl) (w.heap.size + 1) (.slice (some ⟨w1.heap.size, 0, none⟩) 1 1) 1 [e] (by rfl) (one_own w1 _ e _ rfl Y1.out) p1.ad p1.len p1.cap (threeN v p b) (by rfl) (part_of k1.out e1.out).1 (part_of k1.out e1.out).2.1 ((part_of k1.out e1.out).2.2.later ((Below.refl _ _).alloc (Nat.le_refl _) _)) (by rw [part_len k1.out e1.out (threeN_length _ _ _)]; omega) (Nat.le_trans Y1.out (by simp)) ?_; intro v2 w2 hown2 hg2; have O2 : Hid (w2.ownsRow (w.heap.size + 1) 5 1 v2 (1 + p1.len) (([e] ++ threeN v p b).map bv)) := hown2; have C2 : Hid (Below (w.heap.size + 1) W0 w2) := (show Hid _ from grown_below (C1.out.alloc Y1.out _) (one_own w1 _ e _ rfl Y1.out) hg2 (Nat.le_trans Y1.out (by simp))); have Y2 : Hid ((w.heap.size + 1) ≤ w2.heap.size) := (show Hid _ from Nat.le_trans (Nat.le_trans Y1.out (by simp)) (grown_below (Below.refl _ _) (one_own w1 _ e _ rfl Y1.out) hg2 (Nat.le_trans Y1.out (by simp))).size); have L2 : Hid (p1.len = 18) := (show Hid _ from part_len k1.out e1.out (threeN_length _ _ _)); clear hown2 hg2))
  all_goals clear OA CA C0 Z0 ZA C1 Y1 k1 e1 HS2 HS
  all_goals have l2 : 1 + p1.len = 1 + 18 := (by rw [L2.out])
  all_goals rw [l2] at O2
  all_goals clear l2 L2
  all_goals go_wp2_with fail
  all_goals have D0 : Hid (Below (w.heap.size + 1) W0 w2.drew) := (show Hid _ from C2.out.drew)
  all_goals have DZ : Hid ((w.heap.size + 1) ≤ w2.drew.heap.size) := Y2
  all_goals have O3 : Hid (w2.drew.ownsRow (w.heap.size + 1) 5 1 v2 (1 + 18) (([e] ++ threeN v p b).map bv)) := (show Hid _ from own_kept O2.out (Below.refl _ _).drew)
  all_goals have TL := toNat_le s
  all_goals go_region_held3 (fun W => W.cell? ⟨w.heap.size, 4, none⟩ = some (.bool s) ∧ W.cell? ⟨w.heap.size, 5, none⟩ = some (.slice ad len cap))
    (first | exact HS3.out _ D0.out | exact HS3.out _ D3.out | exact HS3.out _ (D3.out.alloc Y3.out _) | exact HS3.out _ D4.out | exact HS3.out _ D5.out | exact HS3.out _ D6.out)
    (first
      | (go_at_call 44; (with_reducible_and_instances (refine (truth_any s w2.drew).mono ?_)); rintro r w3 ⟨rfl, b3⟩; have D3 : Hid (Below (w.heap.size + 1) W0 w3) := (show Hid _ from D0.out.trans (b3.mono DZ.out)); have Y3 : Hid ((w.heap.size + 1) ≤ w3.heap.size) := (show Hid _ from Nat.le_trans DZ.out b3.size); have O3b : Hid ((w3.alloc (.cells #[.int .u8 ((s.toNat : Nat) : Int)] 5)).ownsRow (w.heap.size + 1) 5 1 v2 (1 + 18) (([e] ++ threeN v p b).map bv)) := (show Hid _ from own_kept (own_kept O3.out b3) ((Below.refl _ _).alloc (Nat.le_refl _) _)); have R3 : Hid (Row (w3.alloc (.cells #[.int .u8 ((s.toNat : Nat) : Int)] 5)) (some ⟨w3.heap.size, 0, none⟩) [s.toNat]) := (show Hid _ from one_row w3 s.toNat _ rfl (by omega)); have Y3a : Hid ((w.heap.size + 1) ≤ (w3.alloc (.cells #[.int .u8 ((s.toNat : Nat) : Int)] 5)).heap.size) := (show Hid _ from Nat.le_trans Y3.out ((Below.refl 0 w3).alloc (Nat.zero_le _) _).size); clear b3)
      | (refine step_app_any (by rfl) _ _ (by rfl) (w.heap.size + 1) v2 (1 + 18) ([e] ++ threeN v p b) (by rfl) O3b.out (some ⟨w3.heap.size, 0, none⟩) 1 1 [s.toNat] (by rfl) rfl (fun e => by cases e) R3.out (by omega) Y3a.out ?_; intro v4 w4 hown4 hg4; have O4 : Hid (w4.ownsRow (w.heap.size + 1) 5 1 v4 (1 + 18 + 1) (([e] ++ threeN v p b ++ [s.toNat]).map bv)) := hown4; have D4 : Hid (Below (w.heap.size + 1) W0 w4) := (show Hid _ from grown_below (D3.out.alloc Y3.out _) O3b.out hg4 Y3a.out); have Y4 : Hid ((w.heap.size + 1) ≤ w4.heap.size) := (show Hid _ from Nat.le_trans Y3a.out (grown_below (Below.refl _ _) O3b.out hg4 Y3a.out).size); clear hown4 hg4 O3b R3)
      | (refine step_app_any (by rfl) _ _ (by rfl) (w.heap.size + 1) v4 (1 + 18 + 1) ([e] ++ threeN v p b ++ [s.toNat]) (by rfl) O4.out ad len cap l (by rfl) HA.out.1 HA.out.2.1 (HA.out.later (HBW.out _ D4.out)).2.2 (by omega) Y4.out ?_; intro v5 w5 hown5 hg5; have D5 : Hid (Below (w.heap.size + 1) W0 w5) := (show Hid _ from grown_below D4.out O4.out hg5 Y4.out); have Y5 : Hid ((w.heap.size + 1) ≤ w5.heap.size) := (show Hid _ from Nat.le_trans Y4.out (grown_below (Below.refl _ _) O4.out hg5 Y4.out).size); obtain ⟨p5, rfl, e5, k5⟩ := own_part hown5 (ans_lt he TL HA.out.2.2.1) (by have := HA.out.1; simp at this; simp [threeN_length, this]; omega); have K5 : Hid (p5.ok w5) := k5; have E5 : Hid (p5.l = ansN e v p b s.toNat l) := (show Hid _ from e5.trans (ans_eq e v p b s.toNat l he TL)); have L5 : Hid (p5.len ≤ 65536) := (show Hid _ from partLe E5.out k5 (ansN_length _ _ _ _ _ _) HA.out.1 hlen (by omega) (by omega)); clear hown5 hg5 e5 k5)
      | (go_at_call 40; (with_reducible_and_instances (refine (refFrame_at 4 p5 w5 rfl (by omega) L5.out K5.out).mono ?_)); rintro r w6 ⟨p6, rfl, e6, k6, b6⟩; have D6 : Hid (Below (w.heap.size + 1) W0 w6) := (show Hid _ from D5.out.trans (b6.mono Y5.out)); clear b6))
  all_goals go_wp2_with fail
  all_goals go_ret2
  all_goals exact ⟨p6, rfl, (show Hid _ from e6.out.trans (congrArg (frameBs 4) E5.out)), k6, HBW.out _ D6.out⟩
end Go.Proofs.YtoihddlbdimmlaaGreat.Ac
namespace Go.Proofs.YtoihddlbdimmlaaGreat.Ac
open Go.RowKit Crcm

theorem rret_ans {fn : Func} {p u : Tmp} (h : fn.results = #[.cell p 26, .tmp u]) (tmps : Array Value) (w : World) (B : Nat) (k g v b : Int) (s : Bool) (ad : Option Addr) (len cap : Nat)
    (hp : tmps.getD p undef = .pointer (some ⟨B, 0, none⟩)) (hg : Blk w B #[.int .i64 k, .int .i64 g, .int .i64 v, .int .i64 b, .bool s, .slice ad len cap] 26) :
    (results fn tmps).run Tryz.prog w = .ok (.tuple #[ansV k g v b s ad len cap, tmps.getD u undef]) w := by
  rw [results_cell_tmp h, hp]
  have hl := run_loadVar_row (P := Tryz.prog) w B 26 26 _ (0, 0) _ hg Tryz.underlying26 rfl (by kernel_rfl)
  simp only [asAddr, Sem.run_pure, Result.andThen_ok]
  rw [hl]
  rfl
theorem part_no6 {w : World} {q : Part} {B : Nat} {k g v b : Int} {s : Bool} {ad : Option Addr} {len cap : Nat} {T : TypeId} (hB : Blk w B #[.int .i64 k, .int .i64 g, .int .i64 v, .int .i64 b, .bool s, .slice ad len cap] T) (h : q.ok w) (h0 : q.l ≠ []) : ∀ b' off, q.ad = some ⟨b', off, none⟩ → b' ≠ B := fun b' off e hb => by
  subst hb
  rcases h.2.2.2 with h1 | ⟨b2, o2, e2, hlt, hc⟩
  · exact h0 h1
  · rw [e] at e2
    cases e2
    have h2 := hc 0 (List.length_pos_iff.2 h0)
    rw [hB.cell] at h2
    generalize off + 0 = k at h2
    rcases k with _ | _ | _ | _ | _ | _ | k
    all_goals (simp at h2)
theorem part_set3R {w : World} {q : Part} {B : Nat} {k g v b : Int} {s : Bool} {ad : Option Addr} {len cap : Nat} {T : TypeId} {a' b' c' : Value} (hB : Blk w B #[.int .i64 k, .int .i64 g, .int .i64 v, .int .i64 b, .bool s, .slice ad len cap] T) (h : q.ok w) : q.ok (((w.setCell ⟨B, 1, none⟩ a').setCell ⟨B, 2, none⟩ b').setCell ⟨B, 3, none⟩ c') := by
  by_cases h0 : q.l = []
  · exact ⟨h.1, h.2.1, h.2.2.1, Or.inl h0⟩
  · have hne := part_no6 hB h h0
    exact part_sets (part_sets (part_sets h hne) hne) hne
theorem part_setR {w : World} {q : Part} {B : Nat} {k g v b : Int} {s : Bool} {ad : Option Addr} {len cap : Nat} {T : TypeId} {a' b' c' d' e' f' : Value} (hB : Blk w B #[.int .i64 k, .int .i64 g, .int .i64 v, .int .i64 b, .bool s, .slice ad len cap] T) (h : q.ok w) : q.ok (set6 w B a' b' c' d' e' f') := by
  by_cases h0 : q.l = []
  · exact ⟨h.1, h.2.1, h.2.2.1, Or.inl h0⟩
  · exact part_set6 h (part_no6 hB h h0)
/-- What the body of an Answer tells. -/
def ansS (b : List Nat) : Nat := valN ((b.drop 19).take 1)
/-- P802: the body tells an Answer that may be. -/
def ansIn (b : List Nat) : Bool := decide (ansS b ≤ 1) && ansMay (askK b) (askG b) (askW b) (askB b) (b.length - 20)
theorem ansIn_no {b : List Nat} {s : Nat} (h : s = ansS b) (h1 : 1 < s) : ansIn b = false := by
  unfold ansIn
  rw [← h]
  simp
  omega
set_option maxRecDepth 100000 in
set_option maxHeartbeats 4000000 in
theorem refGetAnswer_no1 (ad : Option Addr) (len cap : Nat) (l : List Nat) (w : World) (hp : Part.ok w ⟨ad, len, cap, l⟩) (hlc : len ≤ cap) (hm : len ≤ 1000000000000000) (h : unpackN l 4 20 = false) :
    Calls Tryz.prog 18 #[.slice ad len cap] w fun e w' => e = .returned (.tuple #[ansV 0 0 0 0 false none 0 0, .int .i64 22]) ∧ Below w.heap.size w w' := by
  have HB : Hid (Below w.heap.size w (w.alloc (.cells #[.int .i64 0, .int .i64 0, .int .i64 0, .int .i64 0, .bool false, .slice none 0 0] 26))) := (show Hid _ from (Below.refl _ w).alloc (Nat.le_refl _) _)
  have Q := framed_no (z := 4) (c := 20) ad len cap l 4 20 (w.alloc (.cells #[.int .i64 0, .int .i64 0, .int .i64 0, .int .i64 0, .bool false, .slice none 0 0] 26)) rfl rfl (hp.later HB.out) hlc hm h
  clear hp h hm hlc
  go_enter Tryz.func18, Tryz.ntmps18
  go_wp2_with (go_at_call 47; refine Q.mono ?_; rintro x W1 ⟨p, rfl, hb1⟩; have X : Hid (Blk W1 w.heap.size #[.int .i64 0, .int .i64 0, .int .i64 0, .int .i64 0, .bool false, .slice none 0 0] 26) := (show Hid _ from blk_below (blk_new _ w _) hb1 (by simp)); obtain ⟨⟨c0, c1, c2, c3, c4, c5⟩, f0, f1, f2, f3, f4, f5⟩ := blk6 X.out; have hb2 : Hid (Below w.heap.size w W1) := (show Hid _ from HB.out.trans (hb1.mono HB.out.size)); clear hb1)
  refine bodyPost_ret (rret_ans Tryz.results18 _ _ w.heap.size 0 0 0 0 false none 0 0 rfl (blk_set6 X.out _ _ _ _ _ _)) rfl ⟨rfl, ?_⟩
  exact set6_below hb2.out (Nat.le_refl _) _ _ _ _ _ _
/-- What lies in memory behind the making of the Answer. -/
structure RMadeR (w wx : World) (g n c G : Nat) (b : List Nat) (k : Nat) (s : Bool) (q : Part) : Prop where
  ans : Blk wx w.heap.size #[.int .i64 0, .int .i64 0, .int .i64 0, .int .i64 0, .bool false, .slice none 0 0] 26
  new : Blk wx G #[.int .i64 (k : Int), .int .i64 0, .int .i64 0, .int .i64 0, .bool s, .slice q.ad q.len q.cap] 26
  ne : w.heap.size < G
  body : Part.ok wx ⟨some ⟨g, 0, none⟩, n, c, b⟩
  part : q.ok wx
  is : q.l = b.drop 20
  below : Below w.heap.size w wx
theorem rmadeR_of {w V wx : World} {G k n c g : Nat} {s : Bool} {b : List Nat} {q : Part} (X : Blk V w.heap.size #[.int .i64 0, .int .i64 0, .int .i64 0, .int .i64 0, .bool false, .slice none 0 0] 26) (hz : w.heap.size < V.heap.size) (B0 : Below w.heap.size w V) (K : Part.ok V ⟨some ⟨g, 0, none⟩, n, c, b⟩) (Bl : Below V.heap.size V wx) (hG : V.heap.size ≤ G)
    (N : Blk wx G #[.int .i64 (k : Int), .int .i64 0, .int .i64 0, .int .i64 0, .bool s, .slice q.ad q.len q.cap] 26) (P : q.ok wx) (hq : q.l = b.drop 20) : RMadeR w wx g n c G b k s q :=
  ⟨blk_below X Bl hz, N, by omega, K.later Bl, P, hq, B0.trans (Bl.mono B0.size)⟩
set_option maxRecDepth 100000 in
set_option maxHeartbeats 8000000 in
theorem refGetAnswer_frame (ad : Option Addr) (len cap : Nat) (l : List Nat) (w : World) (hp : Part.ok w ⟨ad, len, cap, l⟩) (hlc : len ≤ cap) (hm : len ≤ 1000000000000000) (h : unpackN l 4 20 = true) :
    Calls Tryz.prog 18 #[.slice ad len cap] w fun e w' => ((ansIn (bodyAt l 0) = false ∧ e = .returned (.tuple #[ansV 0 0 0 0 false none 0 0, .int .i64 22])) ∨ (ansIn (bodyAt l 0) = true ∧ ∃ q : Part, e = .returned (.tuple #[ansV (askK (bodyAt l 0) : Nat) (askG (bodyAt l 0) : Nat) (askW (bodyAt l 0) : Nat) (askB (bodyAt l 0) : Nat) ((ansS (bodyAt l 0) : Int) == 1) q.ad q.len q.cap, .int .i64 0]) ∧ q.l = (bodyAt l 0).drop 20 ∧ q.ok w')) ∧ Below w.heap.size w w' := by
  have HB : Hid (Below w.heap.size w (w.alloc (.cells #[.int .i64 0, .int .i64 0, .int .i64 0, .int .i64 0, .bool false, .slice none 0 0] 26))) := (show Hid _ from (Below.refl _ w).alloc (Nat.le_refl _) _)
  have Q := framed_at (z := 4) (c := 20) ad len cap l 4 20 (w.alloc (.cells #[.int .i64 0, .int .i64 0, .int .i64 0, .int .i64 0, .bool false, .slice none 0 0] 26)) rfl rfl (hp.later HB.out) hlc hm h (by omega)
  clear hp h hm hlc
  obtain ⟨k0, hk0⟩ : ∃ s, s = askK (bodyAt l 0) := ⟨_, rfl⟩
  have EK : Hid (k0 = askK (bodyAt l 0)) := hk0
  obtain ⟨s0, hs0⟩ : ∃ s, s = ansS (bodyAt l 0) := ⟨_, rfl⟩
  have ES : Hid (s0 = ansS (bodyAt l 0)) := hs0
  clear hk0 hs0
  by_cases hs2 : 1 < s0
  · have j1 : (1 : Int) < (s0 : Int) := by omega
    go_enter Tryz.func18, Tryz.ntmps18
    go_wp2_with (go_at_call 47; refine Q.mono ?_; rintro x V ⟨g, n, c, rfl, hn, hn4, hn6, hnc, hcm, hg, k1, hb1⟩; have i3 : (19 : Int) < (n : Int) := (by omega); have X0 : Hid (Blk V w.heap.size #[.int .i64 0, .int .i64 0, .int .i64 0, .int .i64 0, .bool false, .slice none 0 0] 26) := (show Hid _ from blk_below (blk_new _ w _) hb1 (by simp)); have B0 : Hid (Below w.heap.size w V) := (show Hid _ from HB.out.trans (hb1.mono HB.out.size)); obtain ⟨⟨c0, c1, c2, c3, c4, c5⟩, f0, f1, f2, f3, f4, f5⟩ := blk6 X0.out; have x3 := body_cell k1 19 (by omega); rw [← val_at _ 19 (by omega)] at x3; rw [show valN (((bodyAt l 0).drop 19).take 1) = s0 from ES.out.symm] at x3; clear hb1 k1 Q hcm hg hn)
    refine bodyPost_ret (rret_ans Tryz.results18 _ _ w.heap.size 0 0 0 0 false none 0 0 rfl (blk_set6 X0.out _ _ _ _ _ _)) rfl ⟨Or.inl ⟨ansIn_no ES.out hs2, rfl⟩, ?_⟩
    exact set6_below B0.out (Nat.le_refl _) _ _ _ _ _ _
  have j1 : ¬ (1 : Int) < (s0 : Int) := by omega
  have j2 : decide ((1 : Int) < (s0 : Int)) = false := by simp; omega
  go_enter Tryz.func18, Tryz.ntmps18
  go_upto_region 4 with (go_at_call 47; refine Q.mono ?_; rintro x V ⟨g, n, c, rfl, hn, hn4, hn6, hnc, hcm, hg, k1, hb1⟩; have i3 : (19 : Int) < (n : Int) := (by omega); have HC : Hid (c ≤ maxLen ∧ w.heap.size < g ∧ n = (bodyAt l 0).length ∧ g < V.heap.size) := (show Hid _ from ⟨hcm, Nat.lt_of_lt_of_le (by simp) hg, hn, body_lt k1 (by omega)⟩); have H8 : Hid (∀ x ∈ bodyAt l 0, x < 256) := (show Hid _ from k1.2.2.1); have X0 : Hid (Blk V w.heap.size #[.int .i64 0, .int .i64 0, .int .i64 0, .int .i64 0, .bool false, .slice none 0 0] 26) := (show Hid _ from blk_below (blk_new _ w _) hb1 (by simp)); have K0 : Hid (Part.ok V ⟨some ⟨g, 0, none⟩, n, c, bodyAt l 0⟩) := k1; have B0 : Hid (Below w.heap.size w V) := (show Hid _ from HB.out.trans (hb1.mono HB.out.size)); have Z0 : Hid (w.heap.size < V.heap.size) := (show Hid _ from Nat.lt_of_lt_of_le (by simp) hb1.size); have x0 := body_cell k1 0 (by omega); rw [← val_at _ 0 (by omega)] at x0; rw [show valN (((bodyAt l 0).drop 0).take 1) = k0 from EK.out.symm] at x0; have x3 := body_cell k1 19 (by omega); rw [← val_at _ 19 (by omega)] at x3; rw [show valN (((bodyAt l 0).drop 19).take 1) = s0 from ES.out.symm] at x3; clear hb1 k1 Q hcm hg hn)
  have BD : Hid (Below V.heap.size V V.drew) := (show Hid _ from (Below.refl _ V).drew)
  have BE : Hid (Below V.heap.size V (V.alloc (.cells #[] 5)).drew) := (show Hid _ from ((Below.refl _ V).alloc (Nat.le_refl _) _).drew)
  have BB : Hid (Below V.heap.size V (V.alloc (.cells #[.int .i64 0, .int .i64 0, .int .i64 0, .int .i64 0, .bool false, .slice none 0 0] 26)).drew) := (show Hid _ from ((Below.refl _ V).alloc (Nat.le_refl _) _).drew)
  have BW1 : Hid (Below V.heap.size V ((V.alloc (.cells #[.int .i64 0, .int .i64 0, .int .i64 0, .int .i64 0, .bool false, .slice none 0 0] 26)).alloc (.cells #[] 5)).drew) := (show Hid _ from (((Below.refl _ V).alloc (Nat.le_refl _) _).alloc (by simp) _).drew)
  have BW2 : Hid (Below V.heap.size V ((V.alloc (.cells #[] 5)).alloc (.cells #[.int .i64 0, .int .i64 0, .int .i64 0, .int .i64 0, .bool false, .slice none 0 0] 26)).drew) := (show Hid _ from (((Below.refl _ V).alloc (Nat.le_refl _) _).alloc (by simp) _).drew)
  have BW3 : Hid (Below V.heap.size V (V.alloc (.cells #[] 5)).drew) := BE
  have SZ1 : Hid (V.heap.size ≤ ((V.alloc (.cells #[.int .i64 0, .int .i64 0, .int .i64 0, .int .i64 0, .bool false, .slice none 0 0] 26)).alloc (.cells #[] 5)).drew.heap.size) := (show Hid _ from BW1.out.size)
  have SZ2 : Hid (V.heap.size ≤ ((V.alloc (.cells #[] 5)).alloc (.cells #[.int .i64 0, .int .i64 0, .int .i64 0, .int .i64 0, .bool false, .slice none 0 0] 26)).drew.heap.size) := (show Hid _ from BW2.out.size)
  have SZ3 : Hid (V.heap.size ≤ (V.alloc (.cells #[] 5)).drew.heap.size) := (show Hid _ from BE.out.size)
  have oe1 : ((V.alloc (.cells #[.int .i64 0, .int .i64 0, .int .i64 0, .int .i64 0, .bool false, .slice none 0 0] 26)).alloc (.cells #[] 5)).drew.ownsRow V.heap.size 5 1 (.slice (some ⟨V.heap.size + 1, 0, none⟩) 0 0) 0 (([] : List Nat).map bv) := by have h := own_kept (empty_own (V.alloc (.cells #[.int .i64 0, .int .i64 0, .int .i64 0, .int .i64 0, .bool false, .slice none 0 0] 26)) V.heap.size (by simp)) (Below.refl _ _).drew; simpa using h
  have OE1 : Hid (((V.alloc (.cells #[.int .i64 0, .int .i64 0, .int .i64 0, .int .i64 0, .bool false, .slice none 0 0] 26)).alloc (.cells #[] 5)).drew.ownsRow V.heap.size 5 1 (.slice (some ⟨V.heap.size + 1, 0, none⟩) 0 0) 0 (([] : List Nat).map bv)) := oe1
  have OE3 : Hid ((V.alloc (.cells #[] 5)).drew.ownsRow V.heap.size 5 1 (.slice (some ⟨V.heap.size, 0, none⟩) 0 0) 0 (([] : List Nat).map bv)) := (show Hid _ from own_kept (empty_own V V.heap.size (Nat.le_refl _)) (Below.refl _ _).drew)
  have OE2 : Hid (((V.alloc (.cells #[] 5)).alloc (.cells #[.int .i64 0, .int .i64 0, .int .i64 0, .int .i64 0, .bool false, .slice none 0 0] 26)).drew.ownsRow V.heap.size 5 1 (.slice (some ⟨V.heap.size, 0, none⟩) 0 0) 0 (([] : List Nat).map bv)) := (show Hid _ from own_kept (empty_own V V.heap.size (Nat.le_refl _)) ((Below.refl _ _).alloc (Nat.le_refl _) _).drew)
  have NB1 : Hid (Blk ((V.alloc (.cells #[.int .i64 0, .int .i64 0, .int .i64 0, .int .i64 0, .bool false, .slice none 0 0] 26)).alloc (.cells #[] 5)).drew V.heap.size #[.int .i64 0, .int .i64 0, .int .i64 0, .int .i64 0, .bool false, .slice none 0 0] 26) := (show Hid _ from blk_below (blk_new _ V _) (((Below.refl (V.heap.size + 1) _).alloc (by simp) _).drew) (by omega))
  have nb2 : Blk ((V.alloc (.cells #[] 5)).alloc (.cells #[.int .i64 0, .int .i64 0, .int .i64 0, .int .i64 0, .bool false, .slice none 0 0] 26)).drew (V.heap.size + 1) #[.int .i64 0, .int .i64 0, .int .i64 0, .int .i64 0, .bool false, .slice none 0 0] 26 := by have h := blk_below (blk_new 26 (V.alloc (.cells #[] 5)) #[.int .i64 0, .int .i64 0, .int .i64 0, .int .i64 0, .bool false, .slice none 0 0]) ((Below.refl (V.heap.size + 2) _).drew) (by simp); simpa using h
  have NB2 : Hid (Blk ((V.alloc (.cells #[] 5)).alloc (.cells #[.int .i64 0, .int .i64 0, .int .i64 0, .int .i64 0, .bool false, .slice none 0 0] 26)).drew (V.heap.size + 1) #[.int .i64 0, .int .i64 0, .int .i64 0, .int .i64 0, .bool false, .slice none 0 0] 26) := nb2
  have HX : Hid (∀ W : World, Below V.heap.size V W → W.cell? ⟨g, 0, none⟩ = some (.int .u8 ((k0 : Nat) : Int)) ∧ W.cell? ⟨g, 19, none⟩ = some (.int .u8 ((s0 : Nat) : Int))) := (show Hid _ from fun W hW => ⟨(hW.cell (p := ⟨g, 0, none⟩) HC.out.2.2.2).trans x0, (hW.cell (p := ⟨g, 19, none⟩) HC.out.2.2.2).trans x3⟩)
  have HX6 : Hid (∀ (W : World) (K : Nat) (a b c d e f : Value), V.heap.size ≤ K → Below V.heap.size V W → ((((((W.setCell ⟨K, 0, none⟩ a).setCell ⟨K, 1, none⟩ b).setCell ⟨K, 2, none⟩ c).setCell ⟨K, 3, none⟩ d).setCell ⟨K, 4, none⟩ e).setCell ⟨K, 5, none⟩ f).cell? ⟨g, 0, none⟩ = some (.int .u8 ((k0 : Nat) : Int)) ∧ ((((((W.setCell ⟨K, 0, none⟩ a).setCell ⟨K, 1, none⟩ b).setCell ⟨K, 2, none⟩ c).setCell ⟨K, 3, none⟩ d).setCell ⟨K, 4, none⟩ e).setCell ⟨K, 5, none⟩ f).cell? ⟨g, 19, none⟩ = some (.int .u8 ((s0 : Nat) : Int))) := (show Hid _ from fun W K a b c d e f hK hW => HX.out _ (set6_below hW hK a b c d e f))
  have LT : Hid (∀ x ∈ (bodyAt l 0).drop 20, x < 256) := (show Hid _ from fun x hx => H8.out x (List.mem_of_mem_drop hx))
  have hk8 : k0 ≤ 255 := by rw [EK.out]; exact askK_le H8.out
  have hv8 : IntKind.i64.wrap ((k0 : Nat) : Int) = ((k0 : Nat) : Int) := by simp [IntKind.wrap, IntKind.bits, IntKind.signed]; omega
  clear x0 x3 oe1 nb2
  have i1 : (20 : Int) ≤ (n : Int) := by omega
  have i2 : (0 : Int) < (n : Int) := by omega
  have i5 : 0 < n := by omega
  have i4 : (n : Int) ≤ (c : Int) := by omega
  go_cut [6] (fun v wx => ∃ (G : Nat) (q : Part), v = .pointer (some ⟨G, 0, none⟩) ∧ Hid (RMadeR w wx g n c G (bodyAt l 0) k0 ((s0 : Int) == 1) q))
  case first =>
    by_cases hc4 : c = 20
    · have en4 : n = 20 := by omega
      subst hc4 en4
      have LL : Hid (((bodyAt l 0).drop 20).length = 0) := (show Hid _ from (by show _ = _; rw [List.length_drop, ← HC.out.2.2.1]))
      have RR1 : Hid (Row ((V.alloc (.cells #[.int .i64 0, .int .i64 0, .int .i64 0, .int .i64 0, .bool false, .slice none 0 0] 26)).alloc (.cells #[] 5)).drew (some ⟨g, 0, none⟩) ((bodyAt l 0).drop 20)) := (show Hid _ from ⟨LT.out, Or.inl (List.eq_nil_of_length_eq_zero LL.out)⟩)
      have RR2 : Hid (Row ((V.alloc (.cells #[] 5)).alloc (.cells #[.int .i64 0, .int .i64 0, .int .i64 0, .int .i64 0, .bool false, .slice none 0 0] 26)).drew (some ⟨g, 0, none⟩) ((bodyAt l 0).drop 20)) := (show Hid _ from ⟨LT.out, Or.inl (List.eq_nil_of_length_eq_zero LL.out)⟩)
      have RR3 : Hid (Row (V.alloc (.cells #[] 5)).drew (some ⟨g, 0, none⟩) ((bodyAt l 0).drop 20)) := (show Hid _ from ⟨LT.out, Or.inl (List.eq_nil_of_length_eq_zero LL.out)⟩)
      go_region_held3 (fun W => W.cell? ⟨g, 0, none⟩ = some (.int .u8 ((k0 : Nat) : Int)) ∧ W.cell? ⟨g, 19, none⟩ = some (.int .u8 ((s0 : Nat) : Int)))
        (first | with_reducible exact HX.out _ B4.out | with_reducible exact HX.out _ (B4.out.alloc B4.out.size _) | with_reducible exact HX6.out _ _ _ _ _ _ _ _ (by omega) B4.out | with_reducible exact HX.out _ BD.out | with_reducible exact HX.out _ BE.out | with_reducible exact HX.out _ BB.out | with_reducible exact HX.out _ BW1.out | with_reducible exact HX.out _ BW2.out)
        (first
            | (rewrite [show ((V.alloc (.cells #[.int .i64 0, .int .i64 0, .int .i64 0, .int .i64 0, .bool false, .slice none 0 0] 26)).alloc (.cells #[] 5)).drew = ((V.alloc (.cells #[.int .i64 0, .int .i64 0, .int .i64 0, .int .i64 0, .bool false, .slice none 0 0] 26)).alloc (.cells #[] 5)).drew from rfl]; refine step_app_any (by rfl) _ _ (by rfl) V.heap.size (.slice (some ⟨V.heap.size + 1, 0, none⟩) 0 0) 0 [] (by rfl) OE1.out (some ⟨g, 0, none⟩) 0 _ ((bodyAt l 0).drop 20) (by rfl) LL.out (fun e => by cases e) RR1.out (by omega) SZ1.out ?_; intro v4 w4 hown4 hg4; obtain ⟨q, rfl, hq, kq⟩ := own_part (L := (bodyAt l 0).drop 20) (by simpa using hown4) LT.out LL.out; have HQ : Hid (q.l = (bodyAt l 0).drop 20) := hq; have KQ : Hid (q.ok w4) := kq; have B4 : Hid (Below V.heap.size V w4) := (show Hid _ from grown_below BW1.out OE1.out hg4 SZ1.out); have N4 : Hid (Blk w4 V.heap.size #[.int .i64 0, .int .i64 0, .int .i64 0, .int .i64 0, .bool false, .slice none 0 0] 26) := (show Hid _ from blk_grown NB1.out hg4 (by simp [Value.ownBlock])); obtain ⟨⟨n0, n1, n2, n3, n4, n5⟩, g0, g1, g2, g3, g4, g5⟩ := blk6 N4.out; have XX : Hid (w4.cell? ⟨g, 0, none⟩ = some (.int .u8 ((k0 : Nat) : Int)) ∧ w4.cell? ⟨g, 19, none⟩ = some (.int .u8 ((s0 : Nat) : Int))) := (show Hid _ from HX.out _ B4.out); clear hown4 hg4 hq kq)
            | (rewrite [show ((V.alloc (.cells #[] 5)).alloc (.cells #[.int .i64 0, .int .i64 0, .int .i64 0, .int .i64 0, .bool false, .slice none 0 0] 26)).drew = ((V.alloc (.cells #[] 5)).alloc (.cells #[.int .i64 0, .int .i64 0, .int .i64 0, .int .i64 0, .bool false, .slice none 0 0] 26)).drew from rfl]; refine step_app_any (by rfl) _ _ (by rfl) V.heap.size (.slice (some ⟨V.heap.size, 0, none⟩) 0 0) 0 [] (by rfl) OE2.out (some ⟨g, 0, none⟩) 0 _ ((bodyAt l 0).drop 20) (by rfl) LL.out (fun e => by cases e) RR2.out (by omega) SZ2.out ?_; intro v4 w4 hown4 hg4; obtain ⟨q, rfl, hq, kq⟩ := own_part (L := (bodyAt l 0).drop 20) (by simpa using hown4) LT.out LL.out; have HQ : Hid (q.l = (bodyAt l 0).drop 20) := hq; have KQ : Hid (q.ok w4) := kq; have B4 : Hid (Below V.heap.size V w4) := (show Hid _ from grown_below BW2.out OE2.out hg4 SZ2.out); have N4 : Hid (Blk w4 (V.heap.size + 1) #[.int .i64 0, .int .i64 0, .int .i64 0, .int .i64 0, .bool false, .slice none 0 0] 26) := (show Hid _ from blk_grown NB2.out hg4 (by simp [Value.ownBlock])); obtain ⟨⟨n0, n1, n2, n3, n4, n5⟩, g0, g1, g2, g3, g4, g5⟩ := blk6 N4.out; have XX : Hid (w4.cell? ⟨g, 0, none⟩ = some (.int .u8 ((k0 : Nat) : Int)) ∧ w4.cell? ⟨g, 19, none⟩ = some (.int .u8 ((s0 : Nat) : Int))) := (show Hid _ from HX.out _ B4.out); clear hown4 hg4 hq kq)
            | (rewrite [show (V.alloc (.cells #[] 5)).drew = (V.alloc (.cells #[] 5)).drew from rfl]; refine step_app_any (by rfl) _ _ (by rfl) V.heap.size (.slice (some ⟨V.heap.size, 0, none⟩) 0 0) 0 [] (by rfl) OE3.out (some ⟨g, 0, none⟩) 0 _ ((bodyAt l 0).drop 20) (by rfl) LL.out (fun e => by cases e) RR3.out (by omega) SZ3.out ?_; intro v4 w4 hown4 hg4; obtain ⟨q, rfl, hq, kq⟩ := own_part (L := (bodyAt l 0).drop 20) (by simpa using hown4) LT.out LL.out; have HQ : Hid (q.l = (bodyAt l 0).drop 20) := hq; have KQ : Hid (q.ok w4) := kq; have B4 : Hid (Below V.heap.size V w4) := (show Hid _ from grown_below BW3.out OE3.out hg4 SZ3.out); have XX : Hid (w4.cell? ⟨g, 0, none⟩ = some (.int .u8 ((k0 : Nat) : Int)) ∧ w4.cell? ⟨g, 19, none⟩ = some (.int .u8 ((s0 : Nat) : Int))) := (show Hid _ from HX.out _ B4.out); clear hown4 hg4 hq kq))
      all_goals go_wp2_with fail
      all_goals go_meet
      all_goals have hq := HQ.out
      all_goals have kq := KQ.out
      · exact ⟨w4.heap.size, q, rfl, (show Hid _ from rmadeR_of X0.out Z0.out B0.out K0.out (B4.out.alloc B4.out.size _) B4.out.size (blk_new _ _ _) (kq.later ((Below.refl _ _).alloc (Nat.le_refl _) _)) hq)⟩
      · exact ⟨V.heap.size + 1, q, rfl, (show Hid _ from rmadeR_of X0.out Z0.out B0.out K0.out (set6_below B4.out (by omega) _ _ _ _ _ _) (by omega) (blk_set6 N4.out _ _ _ _ _ _) (part_setR N4.out kq) hq)⟩
      · exact ⟨V.heap.size, q, rfl, (show Hid _ from rmadeR_of X0.out Z0.out B0.out K0.out (set6_below B4.out (Nat.le_refl _) _ _ _ _ _ _) (Nat.le_refl _) (blk_set6 N4.out _ _ _ _ _ _) (part_setR N4.out kq) hq)⟩
    · have LL : Hid (((bodyAt l 0).drop 20).length = n - 20) := (show Hid _ from (by show _ = _; rw [List.length_drop, ← HC.out.2.2.1]))
      have RR1 : Hid (Row ((V.alloc (.cells #[.int .i64 0, .int .i64 0, .int .i64 0, .int .i64 0, .bool false, .slice none 0 0] 26)).alloc (.cells #[] 5)).drew (some ⟨g, 20, none⟩) ((bodyAt l 0).drop 20)) := (show Hid _ from (part_rest 20 (K0.out.later BW1.out) hn4 20 (fun _ => rfl)).2.2)
      have RR2 : Hid (Row ((V.alloc (.cells #[] 5)).alloc (.cells #[.int .i64 0, .int .i64 0, .int .i64 0, .int .i64 0, .bool false, .slice none 0 0] 26)).drew (some ⟨g, 20, none⟩) ((bodyAt l 0).drop 20)) := (show Hid _ from (part_rest 20 (K0.out.later BW2.out) hn4 20 (fun _ => rfl)).2.2)
      have RR3 : Hid (Row (V.alloc (.cells #[] 5)).drew (some ⟨g, 20, none⟩) ((bodyAt l 0).drop 20)) := (show Hid _ from (part_rest 20 (K0.out.later BW3.out) hn4 20 (fun _ => rfl)).2.2)
      go_region_held3 (fun W => W.cell? ⟨g, 0, none⟩ = some (.int .u8 ((k0 : Nat) : Int)) ∧ W.cell? ⟨g, 19, none⟩ = some (.int .u8 ((s0 : Nat) : Int)))
        (first | with_reducible exact HX.out _ B4.out | with_reducible exact HX.out _ (B4.out.alloc B4.out.size _) | with_reducible exact HX6.out _ _ _ _ _ _ _ _ (by omega) B4.out | with_reducible exact HX.out _ BD.out | with_reducible exact HX.out _ BE.out | with_reducible exact HX.out _ BB.out | with_reducible exact HX.out _ BW1.out | with_reducible exact HX.out _ BW2.out)
        (first
            | (rewrite [show ((V.alloc (.cells #[.int .i64 0, .int .i64 0, .int .i64 0, .int .i64 0, .bool false, .slice none 0 0] 26)).alloc (.cells #[] 5)).drew = ((V.alloc (.cells #[.int .i64 0, .int .i64 0, .int .i64 0, .int .i64 0, .bool false, .slice none 0 0] 26)).alloc (.cells #[] 5)).drew from rfl]; refine step_app_any (by rfl) _ _ (by rfl) V.heap.size (.slice (some ⟨V.heap.size + 1, 0, none⟩) 0 0) 0 [] (by rfl) OE1.out (some ⟨g, 20, none⟩) (n - 20) _ ((bodyAt l 0).drop 20) (by rfl) LL.out (fun e => by cases e) RR1.out (by omega) SZ1.out ?_; intro v4 w4 hown4 hg4; obtain ⟨q, rfl, hq, kq⟩ := own_part (L := (bodyAt l 0).drop 20) (by simpa using hown4) LT.out LL.out; have HQ : Hid (q.l = (bodyAt l 0).drop 20) := hq; have KQ : Hid (q.ok w4) := kq; have B4 : Hid (Below V.heap.size V w4) := (show Hid _ from grown_below BW1.out OE1.out hg4 SZ1.out); have N4 : Hid (Blk w4 V.heap.size #[.int .i64 0, .int .i64 0, .int .i64 0, .int .i64 0, .bool false, .slice none 0 0] 26) := (show Hid _ from blk_grown NB1.out hg4 (by simp [Value.ownBlock])); obtain ⟨⟨n0, n1, n2, n3, n4, n5⟩, g0, g1, g2, g3, g4, g5⟩ := blk6 N4.out; have XX : Hid (w4.cell? ⟨g, 0, none⟩ = some (.int .u8 ((k0 : Nat) : Int)) ∧ w4.cell? ⟨g, 19, none⟩ = some (.int .u8 ((s0 : Nat) : Int))) := (show Hid _ from HX.out _ B4.out); clear hown4 hg4 hq kq)
            | (rewrite [show ((V.alloc (.cells #[] 5)).alloc (.cells #[.int .i64 0, .int .i64 0, .int .i64 0, .int .i64 0, .bool false, .slice none 0 0] 26)).drew = ((V.alloc (.cells #[] 5)).alloc (.cells #[.int .i64 0, .int .i64 0, .int .i64 0, .int .i64 0, .bool false, .slice none 0 0] 26)).drew from rfl]; refine step_app_any (by rfl) _ _ (by rfl) V.heap.size (.slice (some ⟨V.heap.size, 0, none⟩) 0 0) 0 [] (by rfl) OE2.out (some ⟨g, 20, none⟩) (n - 20) _ ((bodyAt l 0).drop 20) (by rfl) LL.out (fun e => by cases e) RR2.out (by omega) SZ2.out ?_; intro v4 w4 hown4 hg4; obtain ⟨q, rfl, hq, kq⟩ := own_part (L := (bodyAt l 0).drop 20) (by simpa using hown4) LT.out LL.out; have HQ : Hid (q.l = (bodyAt l 0).drop 20) := hq; have KQ : Hid (q.ok w4) := kq; have B4 : Hid (Below V.heap.size V w4) := (show Hid _ from grown_below BW2.out OE2.out hg4 SZ2.out); have N4 : Hid (Blk w4 (V.heap.size + 1) #[.int .i64 0, .int .i64 0, .int .i64 0, .int .i64 0, .bool false, .slice none 0 0] 26) := (show Hid _ from blk_grown NB2.out hg4 (by simp [Value.ownBlock])); obtain ⟨⟨n0, n1, n2, n3, n4, n5⟩, g0, g1, g2, g3, g4, g5⟩ := blk6 N4.out; have XX : Hid (w4.cell? ⟨g, 0, none⟩ = some (.int .u8 ((k0 : Nat) : Int)) ∧ w4.cell? ⟨g, 19, none⟩ = some (.int .u8 ((s0 : Nat) : Int))) := (show Hid _ from HX.out _ B4.out); clear hown4 hg4 hq kq)
            | (rewrite [show (V.alloc (.cells #[] 5)).drew = (V.alloc (.cells #[] 5)).drew from rfl]; refine step_app_any (by rfl) _ _ (by rfl) V.heap.size (.slice (some ⟨V.heap.size, 0, none⟩) 0 0) 0 [] (by rfl) OE3.out (some ⟨g, 20, none⟩) (n - 20) _ ((bodyAt l 0).drop 20) (by rfl) LL.out (fun e => by cases e) RR3.out (by omega) SZ3.out ?_; intro v4 w4 hown4 hg4; obtain ⟨q, rfl, hq, kq⟩ := own_part (L := (bodyAt l 0).drop 20) (by simpa using hown4) LT.out LL.out; have HQ : Hid (q.l = (bodyAt l 0).drop 20) := hq; have KQ : Hid (q.ok w4) := kq; have B4 : Hid (Below V.heap.size V w4) := (show Hid _ from grown_below BW3.out OE3.out hg4 SZ3.out); have XX : Hid (w4.cell? ⟨g, 0, none⟩ = some (.int .u8 ((k0 : Nat) : Int)) ∧ w4.cell? ⟨g, 19, none⟩ = some (.int .u8 ((s0 : Nat) : Int))) := (show Hid _ from HX.out _ B4.out); clear hown4 hg4 hq kq))
      all_goals go_wp2_with fail
      all_goals go_meet
      all_goals have hq := HQ.out
      all_goals have kq := KQ.out
      · exact ⟨w4.heap.size, q, rfl, (show Hid _ from rmadeR_of X0.out Z0.out B0.out K0.out (B4.out.alloc B4.out.size _) B4.out.size (blk_new _ _ _) (kq.later ((Below.refl _ _).alloc (Nat.le_refl _) _)) hq)⟩
      · exact ⟨V.heap.size + 1, q, rfl, (show Hid _ from rmadeR_of X0.out Z0.out B0.out K0.out (set6_below B4.out (by omega) _ _ _ _ _ _) (by omega) (blk_set6 N4.out _ _ _ _ _ _) (part_setR N4.out kq) hq)⟩
      · exact ⟨V.heap.size, q, rfl, (show Hid _ from rmadeR_of X0.out Z0.out B0.out K0.out (set6_below B4.out (Nat.le_refl _) _ _ _ _ _ _) (Nat.le_refl _) (blk_set6 N4.out _ _ _ _ _ _) (part_setR N4.out kq) hq)⟩
  case rest =>
    obtain ⟨G, q, rfl, M⟩ := hcut
    clear X0 K0 B0 Z0 BD BE BB BW1 BW2 BW3 SZ1 SZ2 SZ3 OE1 OE2 OE3 NB1 NB2 HX HX6 LT hv8
    obtain ⟨⟨q0, q1, q2, q3, q4, q5⟩, y0, y1, y2, y3, y4, y5⟩ := blk6 M.out.new
    have HN := numbers_any (some ⟨g, 0, none⟩) n c (bodyAt l 0) wc M.out.body (by omega) (by omega)
    obtain ⟨g0, hg0⟩ : ∃ s, s = askG (bodyAt l 0) := ⟨_, rfl⟩
    obtain ⟨v0, hv0⟩ : ∃ s, s = askW (bodyAt l 0) := ⟨_, rfl⟩
    obtain ⟨b0, hb0⟩ : ∃ s, s = askB (bodyAt l 0) := ⟨_, rfl⟩
    rw [← hg0, ← hv0, ← hb0] at HN
    have EG : Hid (g0 = askG (bodyAt l 0)) := hg0
    have EV : Hid (v0 = askW (bodyAt l 0)) := hv0
    have EB : Hid (b0 = askB (bodyAt l 0)) := hb0
    clear hg0 hv0 hb0
    obtain ⟨W2, hW2⟩ : ∃ W2, ((wc.setCell ⟨G, 1, none⟩ (.int .i64 ((g0 : Nat) : Int))).setCell ⟨G, 2, none⟩ (.int .i64 ((v0 : Nat) : Int))).setCell ⟨G, 3, none⟩ (.int .i64 ((b0 : Nat) : Int)) = W2 := ⟨_, rfl⟩
    have N2 : Hid (Blk W2 G #[.int .i64 (k0 : Int), .int .i64 (g0 : Int), .int .i64 (v0 : Int), .int .i64 (b0 : Int), .bool ((s0 : Int) == 1), .slice q.ad q.len q.cap] 26) := (show Hid _ from (by rw [← hW2]; exact ((M.out.new.set 1 _).set 2 _).set 3 _))
    have A2 : Hid (Blk W2 w.heap.size #[.int .i64 0, .int .i64 0, .int .i64 0, .int .i64 0, .bool false, .slice none 0 0] 26) := (show Hid _ from (by rw [← hW2]; exact ((M.out.ans.other (Nat.ne_of_lt M.out.ne) _ _).other (Nat.ne_of_lt M.out.ne) _ _).other (Nat.ne_of_lt M.out.ne) _ _))
    have P2 : Hid (q.ok W2) := (show Hid _ from (by rw [← hW2]; exact part_set3R M.out.new M.out.part))
    have B2 : Hid (Below w.heap.size w W2) := (show Hid _ from (by rw [← hW2]; exact ((M.out.below.setCell (p := ⟨G, 1, none⟩) (Nat.le_of_lt M.out.ne) _).setCell (p := ⟨G, 2, none⟩) (Nat.le_of_lt M.out.ne) _).setCell (p := ⟨G, 3, none⟩) (Nat.le_of_lt M.out.ne) _))
    have QL : Hid (q.len = (bodyAt l 0).length - 20) := (show Hid _ from (by show _ = _; rw [← M.out.part.1, M.out.is, List.length_drop]))
    have QI : Hid (q.l = (bodyAt l 0).drop 20) := (show Hid _ from M.out.is)
    have HM := rtells_any (k0 : Int) (g0 : Int) (v0 : Int) (b0 : Int) ((s0 : Int) == 1) q.ad q.len q.cap W2
    have HR : ansMay (k0 : Int) (g0 : Int) (v0 : Int) (b0 : Int) q.len = ansIn (bodyAt l 0) := by
      unfold ansIn
      rw [EK.out, EG.out, EV.out, EB.out, QL.out, ← ES.out, show decide (s0 ≤ 1) = true by simp; omega]
      simp
    rw [HR] at HM
    unfold ansV at HM
    clear HR M
    obtain ⟨⟨m0, m1, m2, m3, m4, m5⟩, -⟩ := blk6 N2.out
    cases hin : ansIn (bodyAt l 0) with
    | false =>
      rw [hin] at HM
      have HIN : Hid (ansIn (bodyAt l 0) = false) := hin
      clear hin
      go_wp2_with (first | (go_at_call 48; refine HN.mono ?_; rintro x w' ⟨rfl, hw'⟩; obtain rfl := hw'.symm) | (go_at_call 43; refine HM.mono ?_; rintro x W5 ⟨rfl, b5⟩; have A5 : Hid (Blk W5 w.heap.size #[.int .i64 0, .int .i64 0, .int .i64 0, .int .i64 0, .bool false, .slice none 0 0] 26) := (show Hid _ from A2.out.later b5); obtain ⟨⟨c0, c1, c2, c3, c4, c5⟩, f0, f1, f2, f3, f4, f5⟩ := blk6 A5.out; have D5 : Hid (Below w.heap.size w W5) := (show Hid _ from B2.out.trans (b5.mono B2.out.size)); clear b5 HM))
      refine bodyPost_ret (rret_ans Tryz.results18 _ _ w.heap.size 0 0 0 0 false none 0 0 rfl (blk_set6 A5.out _ _ _ _ _ _)) rfl ⟨Or.inl ⟨HIN.out, rfl⟩, ?_⟩
      exact set6_below D5.out (Nat.le_refl _) _ _ _ _ _ _
    | true =>
      rw [hin] at HM
      have HIN : Hid (ansIn (bodyAt l 0) = true) := hin
      clear hin
      go_wp2_with (first | (go_at_call 48; refine HN.mono ?_; rintro x w' ⟨rfl, hw'⟩; obtain rfl := hw'.symm) | (go_at_call 43; refine HM.mono ?_; rintro x W5 ⟨rfl, b5⟩; have A5 : Hid (Blk W5 w.heap.size #[.int .i64 0, .int .i64 0, .int .i64 0, .int .i64 0, .bool false, .slice none 0 0] 26) := (show Hid _ from A2.out.later b5); obtain ⟨⟨c0, c1, c2, c3, c4, c5⟩, f0, f1, f2, f3, f4, f5⟩ := blk6 A5.out; have D5 : Hid (Below w.heap.size w W5) := (show Hid _ from B2.out.trans (b5.mono B2.out.size)); have E5 : Hid (Blk W5 G #[.int .i64 (k0 : Int), .int .i64 (g0 : Int), .int .i64 (v0 : Int), .int .i64 (b0 : Int), .bool ((s0 : Int) == 1), .slice q.ad q.len q.cap] 26) := (show Hid _ from N2.out.later b5); obtain ⟨⟨r0, r1, r2, r3, r4, r5⟩, -⟩ := blk6 E5.out; have P5 : Hid (q.ok W5) := (show Hid _ from P2.out.later b5); clear b5 HM))
      refine bodyPost_ret (rret_ans Tryz.results18 _ _ w.heap.size _ _ _ _ _ _ _ _ rfl (blk_set6 A5.out _ _ _ _ _ _)) rfl ⟨Or.inr ⟨HIN.out, q, by rw [← EK.out, ← EG.out, ← EV.out, ← EB.out, ← ES.out]; rfl, QI.out, part_setR A5.out P5.out⟩, ?_⟩
      exact set6_below D5.out (Nat.le_refl _) _ _ _ _ _ _
end Go.Proofs.YtoihddlbdimmlaaGreat.Ac
