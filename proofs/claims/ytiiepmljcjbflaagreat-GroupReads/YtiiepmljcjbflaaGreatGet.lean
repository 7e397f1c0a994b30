/- What the Go function wire.Get answers. -/
import Derived.Test.YtiiepmljcjbflaaGreatNumber
import Derived.Test.YtiiepmljcjbflaaGreatPut
namespace Go.Proofs.YtiiepmljcjbflaaGreat
open Go.RowKit

set_option maxHeartbeats 1000000 in
theorem get_in (ad : Option Addr) (len cap : Nat) (l : List Nat) (p s : Nat) (w : World) (hp : Part.ok w ⟨ad, len, cap, l⟩) (hlc : len ≤ cap) (hm : len ≤ 1000000000000000) (hp2 : p ≤ 9223372036854775807) (h1 : 1 ≤ s) (h6 : s ≤ 6) :
    Calls Tryz.prog 94 #[.slice ad len cap, .int .i64 p, .int .i64 s] w fun e w' => e = .returned (.tuple #[.int .i64 (getN l p s).1, .int .i64 (getN l p s).2.1, .int .i64 (getN l p s).2.2]) ∧ Below w.heap.size w w' := by
  have hb : (decide (1 ≤ (s : Int)) && decide ((s : Int) ≤ 6)) = true := by simp; omega
  have hlen : l.length = len := hp.1
  have HP : Hid (Part.ok w ⟨ad, len, cap, l⟩) := hp
  clear hp
  have b0 : Below w.heap.size w (w.alloc (.cells #[.int .i64 (p : Int), .slice ad len cap] 116)) := (Below.refl _ _).alloc (Nat.le_refl _) _
  have r0 : Hid (Rd (w.alloc (.cells #[.int .i64 (p : Int), .slice ad len cap] 116)) w.heap.size p ⟨ad, len, cap, l⟩) := Rd.new w p ⟨ad, len, cap, l⟩
  by_cases h2 : p + s ≤ len
  · rw [getN_ok l p s ⟨h1, h6⟩ (by omega)]
    go_enter Tryz.func94, Tryz.ntmps94
    go_wp2_with (first | (go_at_call 106; refine (isSize_any _ _).mono ?_; rintro e w' ⟨rfl, rfl⟩; rw [hb]) | (go_at_call 93; refine (number_at w' w'.heap.size p s ⟨ad, len, cap, l⟩ _ rfl HP.out b0 (Nat.le_refl _) r0.out h1 h6 h2 hlc hm).mono ?_; rintro e w1 ⟨rfl, hr1, b1⟩; have c1 := hr1.c0; clear hr1))
    go_quiet (fail)
    go_wp2
    go_ret3
    exact ⟨rfl, below_drewN' b1 _⟩
  · rw [getN_end l p s (by omega) (by omega)]
    go_enter Tryz.func94, Tryz.ntmps94
    go_wp2_with (first | (go_at_call 106; refine (isSize_any _ _).mono ?_; rintro e w' ⟨rfl, rfl⟩; rw [hb]) | (go_at_call 93; refine (number_not w' w'.heap.size p s ⟨ad, len, cap, l⟩ _ rfl b0 r0.out h2 hp2 hm).mono ?_; rintro e w1 ⟨rfl, hr1, b1⟩; clear hr1))
    go_ret3
    exact ⟨rfl, b1⟩

theorem get_any (ad : Option Addr) (len cap : Nat) (l : List Nat) (p s : Int) (w : World) (hp : Part.ok w ⟨ad, len, cap, l⟩) (hlc : len ≤ cap) (hm : len ≤ 1000000000000000) (hp2 : p ≤ 9223372036854775807) :
    Calls Tryz.prog 94 #[.slice ad len cap, .int .i64 p, .int .i64 s] w fun e w' => e = .returned (.tuple #[.int .i64 (getN l p s).1, .int .i64 (getN l p s).2.1, .int .i64 (getN l p s).2.2]) ∧ Below w.heap.size w w' := by
  by_cases h : 1 ≤ s ∧ s ≤ 6
  · by_cases h0 : 0 ≤ p
    · obtain ⟨k, rfl⟩ := Int.eq_ofNat_of_zero_le (show 0 ≤ s by omega)
      obtain ⟨q, rfl⟩ := Int.eq_ofNat_of_zero_le h0
      exact get_in ad len cap l q k w hp hlc hm (by omega) (by omega) (by omega)
    · rw [getN_arg l p s (by omega)]
      have hb : (decide (1 ≤ s) && decide (s ≤ 6)) = true := by simp; omega
      clear hp h
      have h1 : p < 0 := by omega
      go_enter Tryz.func94, Tryz.ntmps94
      go_wp2_with (go_at_call 106; refine (isSize_any _ _).mono ?_; rintro e w' ⟨rfl, rfl⟩; rw [hb])
      go_ret3
      exact ⟨rfl, Below.refl _ _⟩
  · rw [getN_arg l p s (by omega)]
    have hb : (decide (1 ≤ s) && decide (s ≤ 6)) = false := by
      rw [Bool.and_eq_false_iff]; simp; omega
    clear hp h
    go_enter Tryz.func94, Tryz.ntmps94
    go_wp2_with (go_at_call 106; refine (isSize_any _ _).mono ?_; rintro e w' ⟨rfl, rfl⟩; rw [hb])
    go_ret3
    exact ⟨rfl, Below.refl _ _⟩
end Go.Proofs.YtiiepmljcjbflaaGreat
