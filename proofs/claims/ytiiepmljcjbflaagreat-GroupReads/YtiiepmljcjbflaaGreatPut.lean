/- What the Go function wire.Put answers. -/
import Derived.Test.YtiiepmljcjbflaaGreatPutN
import Derived.Test.YtiiepmljcjbflaaGreatSpell
namespace Go.Proofs.YtiiepmljcjbflaaGreat
open Go.RowKit

theorem put_no (n size : Int) (w : World) (h : ¬ (1 ≤ size ∧ size ≤ 6)) :
    Calls Tryz.prog 87 #[.int .i64 n, .int .i64 size] w fun e w' => e = .returned (.tuple #[.slice none 0 0, .int .i64 1]) ∧ w' = w := by
  have hb : (decide (1 ≤ size) && decide (size ≤ 6)) = false := by
    rw [Bool.and_eq_false_iff]; simp; omega
  go_enter Tryz.func87, Tryz.ntmps87
  go_wp2_with (go_at_call 106; refine (isSize_any _ _).mono ?_; rintro e w' ⟨rfl, rfl⟩; rw [hb])
  go_ret2
  exact ⟨rfl, rfl⟩
set_option maxHeartbeats 400000 in
theorem put_size (n : Int) (size : Nat) (w : World) (h1 : 1 ≤ size) (h6 : size ≤ 6) :
    Calls Tryz.prog 87 #[.int .i64 n, .int .i64 size] w fun e w' => ∃ v, e = .returned (.tuple #[v, .int .i64 (putN n size).1]) ∧ Own w' w.heap.size v (putN n size).2 ∧ Below w.heap.size w w' := by
  have hb : (decide (1 ≤ (size : Int)) && decide ((size : Int) ≤ 6)) = true := by simp; omega
  obtain ⟨p, ep, hp, HP⟩ := pow_size size h6
  by_cases hn : 0 ≤ n
  · obtain ⟨n, rfl⟩ := Int.eq_ofNat_of_zero_le hn
    by_cases hlt : n < p
    · rw [putN_ok n size h1 h6 (by omega)]
      clear HP
      go_enter Tryz.func87, Tryz.ntmps87
      go_wp2_with (first | (go_at_call 106; refine (isSize_any _ _).mono ?_; rintro e w' ⟨rfl, rfl⟩; rw [hb]) | (go_at_call 89; refine (spell_any _ _ _ h6).mono ?_; rintro e w1 ⟨v, rfl, hown, hbel⟩))
      go_ret2
      exact ⟨_, rfl, hown, hbel⟩
    · rw [putN_range n size h1 h6 (by
        have e : ((2 ^ (8 * size) : Nat) : Int) = (2 : Int) ^ (8 * size) := by rw [Int.natCast_pow]; rfl
        rw [← e]; omega)]
      clear HP
      go_enter Tryz.func87, Tryz.ntmps87
      go_wp2_with (first | (go_at_call 106; refine (isSize_any _ _).mono ?_; rintro e w' ⟨rfl, rfl⟩; rw [hb]))
      go_ret2
      exact ⟨_, rfl, Own.nil _ _, Below.refl _ _⟩
  · rw [putN_range n size h1 h6 (by omega)]
    clear HP
    go_enter Tryz.func87, Tryz.ntmps87
    go_wp2_with (first | (go_at_call 106; refine (isSize_any _ _).mono ?_; rintro e w' ⟨rfl, rfl⟩; rw [hb]))
    go_ret2
    exact ⟨_, rfl, Own.nil _ _, Below.refl _ _⟩
theorem put_any (n size : Int) (w : World) :
    Calls Tryz.prog 87 #[.int .i64 n, .int .i64 size] w fun e w' => ∃ v, e = .returned (.tuple #[v, .int .i64 (putN n size).1]) ∧ Own w' w.heap.size v (putN n size).2 ∧ Below w.heap.size w w' := by
  by_cases h : 1 ≤ size ∧ size ≤ 6
  · obtain ⟨k, rfl⟩ := Int.eq_ofNat_of_zero_le (show 0 ≤ size by omega)
    exact put_size n k w (by omega) (by omega)
  · refine (put_no n size w h).mono ?_
    rintro e w' ⟨rfl, rfl⟩
    rw [putN_no n size h]
    exact ⟨_, rfl, Own.nil _ _, Below.refl _ _⟩
end Go.Proofs.YtiiepmljcjbflaaGreat
