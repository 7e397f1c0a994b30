/- may of an Ask and of an Answer of package acceptor. -/
import Derived.Test.YtmiibakbcogolaaGreatAcSmall
import Derived.Deep.QuietTactic
import Derived.BigQuiet
namespace Go.Proofs.YtmiibakbcogolaaGreat.Ac
open Go.RowKit Crcm

theorem hid {p : Prop} (h : p) : Hid p := h
theorem below_drewM {N : Nat} {w0 w : World} (h : Below N w0 w) : ∀ n, Below N w0 (w.drewN n)
  | 0 => h
  | n + 1 => (below_drewM h n).drew
/-- An Ask as it is handed on. -/
def askV (k g v b : Int) (ad : Option Addr) (len cap : Nat) : Value := .agg #[.int .i64 k, .int .i64 g, .int .i64 v, .int .i64 b, .slice ad len cap]
/-- An Answer as it is handed on. -/
def ansV (e v p b : Int) (s : Bool) (ad : Option Addr) (len cap : Nat) : Value := .agg #[.int .i64 e, .int .i64 v, .int .i64 p, .int .i64 b, .bool s, .slice ad len cap]
def maxValN (k : Int) : Int := if k = 2 ∨ k = 3 then 4000 else 0
/-- P802: an Ask that may be. -/
def askMay (k g v b : Int) (len : Nat) : Bool := decide (1 ≤ k) && decide (k < 5) && isLogletN g && isLogletN v && (decide (0 < v) == !decide (k = 4)) && isLogletN b && (decide (0 < b) == decide (k = 1 ∨ k = 2)) && decide ((len : Int) ≤ maxValN k)
/-- P802: an Answer that may be. -/
def ansMay (e v p b : Int) (len : Nat) : Bool := decide (0 ≤ e) && decide (e ≤ 255) && isLogletN v && isLogletN p && isLogletN b && decide (len ≤ 4000)
theorem isLogletN_iff {n : Int} : isLogletN n = true ↔ 0 ≤ n ∧ n < 281474976710656 := by simp [isLogletN]
theorem maxValN_le (k : Int) : maxValN k ≤ 4000 := by unfold maxValN; split <;> omega
theorem askMay_lim {k g v b len : Nat} (h : askMay k g v b len = true) : k < 5 ∧ g < 281474976710656 ∧ v < 281474976710656 ∧ b < 281474976710656 ∧ len ≤ 4000 := by
  simp only [askMay, Bool.and_eq_true, decide_eq_true_eq, isLogletN_iff] at h
  obtain ⟨⟨⟨⟨⟨⟨⟨h1, h2⟩, h3⟩, h4⟩, h5⟩, h6⟩, h7⟩, h8⟩ := h
  have h9 := maxValN_le (k : Int)
  exact ⟨by omega, by omega, by omega, by omega, by omega⟩
theorem askMay_in {k g v b : Int} {len : Nat} (h : askMay k g v b len = true) : (1 ≤ k ∧ k < 5) ∧ (0 ≤ g ∧ g < 281474976710656) ∧ (0 ≤ v ∧ v < 281474976710656) ∧ 0 ≤ b ∧ b < 281474976710656 := by
  simp only [askMay, Bool.and_eq_true, decide_eq_true_eq, isLogletN_iff] at h
  obtain ⟨⟨⟨⟨⟨⟨⟨h1, h2⟩, h3⟩, h4⟩, h5⟩, h6⟩, h7⟩, h8⟩ := h
  exact ⟨⟨h1, h2⟩, h3, h4, h6⟩
theorem isNum {n : Int} {x : Bool} (h : isLogletN n = x) (w : World) : Calls Tryz.prog 66 #[.int .i64 n] w fun e w' => e = .returned (.bool x) ∧ w' = w := by
  rw [← h]
  exact isNumber_any n w
set_option maxRecDepth 100000 in
set_option maxHeartbeats 1000000 in
theorem maxValue_any (k g v b : Int) (ad : Option Addr) (len cap : Nat) (w : World) :
    Calls Tryz.prog 67 #[askV k g v b ad len cap] w fun x w' => x = .returned (.int .i64 (maxValN k)) ∧ Below w.heap.size w w' := by
  have hb : Below w.heap.size w (w.alloc (.cells #[.int .i64 k, .int .i64 g, .int .i64 v, .int .i64 b, .slice ad len cap] 30)) := (Below.refl _ w).alloc (Nat.le_refl _) _
  unfold askV maxValN
  by_cases h1 : k = 2
  · subst h1
    go_enter Tryz.func67, Tryz.ntmps67
    go_wp2
    go_ret
    exact ⟨by simp, hb⟩
  · have e1 : (k == 2) = false := by simpa using h1
    by_cases h2 : k = 3
    · subst h2
      go_enter Tryz.func67, Tryz.ntmps67
      go_wp2
      go_ret
      exact ⟨by simp, hb⟩
    · have e2 : (k == 3) = false := by simpa using h2
      go_enter Tryz.func67, Tryz.ntmps67
      go_wp2
      go_ret
      exact ⟨by simp, hb⟩
set_option maxRecDepth 100000 in
set_option maxHeartbeats 4000000 in
theorem nmay_any (e v p b : Int) (s : Bool) (ad : Option Addr) (len cap : Nat) (w : World) :
    Calls Tryz.prog 41 #[ansV e v p b s ad len cap] w fun x w' => x = .returned (.bool (ansMay e v p b len)) ∧ Below w.heap.size w w' := by
  have HB : Hid (Below w.heap.size w (w.alloc (.cells #[.int .i64 e, .int .i64 v, .int .i64 p, .int .i64 b, .bool s, .slice ad len cap] 36))) := (show Hid _ from (Below.refl _ w).alloc (Nat.le_refl _) _)
  unfold ansV
  by_cases h0 : 0 ≤ e
  rotate_left
  · skip
    have hd : decide (0 ≤ e) = false := by simpa using h0
    have HV : Hid (ansMay e v p b len = false) := hid (by simp [ansMay, h0])
    go_enter Tryz.func41, Tryz.ntmps41
    go_wp2_with fail
    all_goals go_ret
    all_goals exact ⟨congrArg (fun x => Ending.returned (.bool x)) HV.out.symm, HB.out⟩
  by_cases h1 : e ≤ 255
  rotate_left
  · skip
    have hd0 : decide (0 ≤ e) = true := by simpa using h0
    have hd : decide (e ≤ 255) = false := by simpa using h1
    have HV : Hid (ansMay e v p b len = false) := hid (by simp [ansMay, h1])
    go_enter Tryz.func41, Tryz.ntmps41
    go_wp2_with fail
    all_goals go_ret
    all_goals exact ⟨congrArg (fun x => Ending.returned (.bool x)) HV.out.symm, HB.out⟩
  by_cases h2 : isLogletN v = true
  rotate_left
  · skip
    have hd0 : decide (0 ≤ e) = true := by simpa using h0
    have hd1 : decide (e ≤ 255) = true := by simpa using h1
    have hf : isLogletN v = false := by simpa using h2
    have HV : Hid (ansMay e v p b len = false) := hid (by simp [ansMay, hf])
    go_enter Tryz.func41, Tryz.ntmps41
    go_wp2_with (first | (go_at_call 66; (with_reducible_and_instances (refine (isNum hf _).mono ?_)); rintro x w' ⟨rfl, hw'⟩; obtain rfl := hw'.symm))
    all_goals go_ret
    all_goals exact ⟨congrArg (fun x => Ending.returned (.bool x)) HV.out.symm, HB.out⟩
  by_cases h3 : isLogletN p = true
  rotate_left
  · skip
    have hd0 : decide (0 ≤ e) = true := by simpa using h0
    have hd1 : decide (e ≤ 255) = true := by simpa using h1
    have hf : isLogletN p = false := by simpa using h3
    have HV : Hid (ansMay e v p b len = false) := hid (by simp [ansMay, hf])
    go_enter Tryz.func41, Tryz.ntmps41
    go_wp2_with (first | (go_at_call 66; (with_reducible_and_instances (refine (isNum h2 _).mono ?_)); rintro x w' ⟨rfl, hw'⟩; obtain rfl := hw'.symm) | (go_at_call 66; (with_reducible_and_instances (refine (isNum hf _).mono ?_)); rintro x w' ⟨rfl, hw'⟩; obtain rfl := hw'.symm))
    all_goals go_ret
    all_goals exact ⟨congrArg (fun x => Ending.returned (.bool x)) HV.out.symm, HB.out⟩
  by_cases h4 : isLogletN b = true
  rotate_left
  · skip
    have hd0 : decide (0 ≤ e) = true := by simpa using h0
    have hd1 : decide (e ≤ 255) = true := by simpa using h1
    have hf : isLogletN b = false := by simpa using h4
    have HV : Hid (ansMay e v p b len = false) := hid (by simp [ansMay, hf])
    go_enter Tryz.func41, Tryz.ntmps41
    go_wp2_with (first | (go_at_call 66; (with_reducible_and_instances (refine (isNum h2 _).mono ?_)); rintro x w' ⟨rfl, hw'⟩; obtain rfl := hw'.symm) | (go_at_call 66; (with_reducible_and_instances (refine (isNum h3 _).mono ?_)); rintro x w' ⟨rfl, hw'⟩; obtain rfl := hw'.symm) | (go_at_call 66; (with_reducible_and_instances (refine (isNum hf _).mono ?_)); rintro x w' ⟨rfl, hw'⟩; obtain rfl := hw'.symm))
    all_goals go_ret
    all_goals exact ⟨congrArg (fun x => Ending.returned (.bool x)) HV.out.symm, HB.out⟩
  have hd0 : decide (0 ≤ e) = true := by simpa using h0
  have hd1 : decide (e ≤ 255) = true := by simpa using h1
  have HV : Hid (ansMay e v p b len = decide (len ≤ 4000)) := hid (by simp [ansMay, h0, h1, h2, h3, h4])
  go_enter Tryz.func41, Tryz.ntmps41
  go_wp2_with (first | (go_at_call 66; (with_reducible_and_instances (refine (isNum h2 _).mono ?_)); rintro x w' ⟨rfl, hw'⟩; obtain rfl := hw'.symm) | (go_at_call 66; (with_reducible_and_instances (refine (isNum h3 _).mono ?_)); rintro x w' ⟨rfl, hw'⟩; obtain rfl := hw'.symm) | (go_at_call 66; (with_reducible_and_instances (refine (isNum h4 _).mono ?_)); rintro x w' ⟨rfl, hw'⟩; obtain rfl := hw'.symm))
  all_goals go_ret
  all_goals exact ⟨by first | exact congrArg (fun x => Ending.returned (.bool x)) HV.out.symm | (rw [HV.out]; simp; done) | (rw [HV.out]; simp; omega), HB.out⟩
end Go.Proofs.YtmiibakbcogolaaGreat.Ac
