/- What the document's own Put (package ref) answers: the same as wire.Put. -/
import Derived.Test.YthfildanpcmfaaaPut
import Derived.Test.YthfildanpcmfaaaRefBytes
namespace Go.Proofs.Ythfildanpcmfaaa
open Go.RowKit Crcm

set_option maxHeartbeats 400000 in
theorem refPut_size (n : Int) (size : Nat) (w : World) (h1 : 1 ≤ size) (h6 : size ≤ 6) :
    Calls Try.prog 11 #[.int .i64 n, .int .i64 size] w fun e w' => ∃ v, e = .returned (.tuple #[v, .int .i64 (putN n size).1]) ∧ Own w' w.heap.size v (putN n size).2 ∧ Below w.heap.size w w' := by
  obtain ⟨p, ep, hp, HP⟩ := pow_size size h6
  by_cases hn : 0 ≤ n
  · obtain ⟨n, rfl⟩ := Int.eq_ofNat_of_zero_le hn
    by_cases hlt : n < p
    · rw [putN_ok n size h1 h6 (by omega)]
      clear HP
      go_enter Try.func11, Try.ntmps11
      go_wp2_with (go_at_call 29; refine (bytes_any _ _ _ h6).mono ?_; rintro e w1 ⟨v, rfl, hown, hbel⟩)
      go_ret2
      exact ⟨_, rfl, hown, hbel⟩
    · rw [putN_range n size h1 h6 (by
        have e : ((2 ^ (8 * size) : Nat) : Int) = (2 : Int) ^ (8 * size) := by rw [Int.natCast_pow]; rfl
        rw [← e]; omega)]
      clear HP
      go_enter Try.func11, Try.ntmps11
      go_wp2
      go_ret2
      exact ⟨_, rfl, Own.nil _ _, Below.refl _ _⟩
  · rw [putN_range n size h1 h6 (by omega)]
    clear HP
    go_enter Try.func11, Try.ntmps11
    go_wp2
    go_ret2
    exact ⟨_, rfl, Own.nil _ _, Below.refl _ _⟩

theorem refPut_any (n size : Int) (w : World) :
    Calls Try.prog 11 #[.int .i64 n, .int .i64 size] w fun e w' => ∃ v, e = .returned (.tuple #[v, .int .i64 (putN n size).1]) ∧ Own w' w.heap.size v (putN n size).2 ∧ Below w.heap.size w w' := by
  by_cases h : 1 ≤ size ∧ size ≤ 6
  · obtain ⟨k, rfl⟩ := Int.eq_ofNat_of_zero_le (show 0 ≤ size by omega)
    exact refPut_size n k w (by omega) (by omega)
  · rw [putN_no n size h]
    by_cases h1 : size < 1
    · go_enter Try.func11, Try.ntmps11
      go_wp2
      go_ret2
      exact ⟨_, rfl, Own.nil _ _, Below.refl _ _⟩
    · have h2 : 6 < size := by omega
      go_enter Try.func11, Try.ntmps11
      go_wp2
      go_ret2
      exact ⟨_, rfl, Own.nil _ _, Below.refl _ _⟩
end Go.Proofs.Ythfildanpcmfaaa
