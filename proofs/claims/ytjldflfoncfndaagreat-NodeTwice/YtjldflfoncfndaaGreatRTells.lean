/- tells and asks of the document's package of layer 5: which replies and requests may be. -/
import Derived.Test.YtjldflfoncfndaaGreatPNode
namespace Go.Proofs.YtjldflfoncfndaaGreat
open Go.RowKit Crcm

set_option maxRecDepth 100000 in
set_option maxHeartbeats 1000000 in
theorem tells_any (e t : Int) (s : Bool) (ad : Option Addr) (len cap : Nat) (w : World) :
    Calls Tryz.prog 42 #[repV e t s ad len cap] w fun x w' => x = .returned (.bool (repMay e t len)) ∧ Below w.heap.size w w' := by
  have hb : Below w.heap.size w (w.alloc (.cells #[.int .i64 e, .int .i64 t, .bool s, .slice ad len cap] 26)) := (Below.refl _ w).alloc (Nat.le_refl _) _
  unfold repV
  by_cases h1 : 0 ≤ e
  · by_cases h2 : e ≤ 255
    · by_cases h3 : 0 ≤ t
      · by_cases h4 : t ≤ 4096
        · go_enter Tryz.func42, Tryz.ntmps42
          go_wp2
          go_ret
          exact ⟨by simp [repMay, h1, h2, h3, h4]; omega, hb⟩
        · go_enter Tryz.func42, Tryz.ntmps42
          go_wp2
          go_ret
          exact ⟨by simp [repMay]; omega, hb⟩
      · go_enter Tryz.func42, Tryz.ntmps42
        go_wp2
        go_ret
        exact ⟨by simp [repMay]; omega, hb⟩
    · go_enter Tryz.func42, Tryz.ntmps42
      go_wp2
      go_ret
      exact ⟨by simp [repMay]; omega, hb⟩
  · go_enter Tryz.func42, Tryz.ntmps42
    go_wp2
    go_ret
    exact ⟨by simp [repMay]; omega, hb⟩
theorem reqMay_no {k l p : Int} {len : Nat} (h : ¬ (1 ≤ k ∧ k ≤ 6 ∧ 0 ≤ l ∧ l < 281474976710656 ∧ 0 ≤ p ∧ p ≤ maxPosN k ∧ (len : Int) ≤ maxDataN k)) : false = reqMay k l p len := by
  cases hh : reqMay k l p len with
  | false => rfl
  | true =>
    exfalso
    simp only [reqMay, Bool.and_eq_true, decide_eq_true_eq] at hh
    omega
theorem reqMay_yes {k l p : Int} {len : Nat} (h : 1 ≤ k ∧ k ≤ 6 ∧ 0 ≤ l ∧ l < 281474976710656 ∧ 0 ≤ p ∧ p ≤ maxPosN k ∧ (len : Int) ≤ maxDataN k) : true = reqMay k l p len := by
  symm
  simp only [reqMay, Bool.and_eq_true, decide_eq_true_eq]
  omega
theorem maxPosN_le (k : Int) : maxPosN k ≤ 4096 := by unfold maxPosN; split <;> omega
theorem maxDataN_le (k : Int) : maxDataN k ≤ 65504 := by unfold maxDataN; split <;> omega
end Go.Proofs.YtjldflfoncfndaaGreat
