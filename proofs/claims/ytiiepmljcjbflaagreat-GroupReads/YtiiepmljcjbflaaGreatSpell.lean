/- What the Go functions isSize and spell answer: a number's bytes, the lowest first, in new memory. -/
import Derived.Test.YtiiepmljcjbflaaGreatGetTextN
namespace Go.Proofs.YtiiepmljcjbflaaGreat
open Go.RowKit

theorem isSize_any (size : Int) (w : World) : Calls Tryz.prog 106 #[.int .i64 size] w fun e w' => e = .returned (.bool (decide (1 ≤ size) && decide (size ≤ 6))) ∧ w' = w := by
  by_cases h1 : 1 ≤ size
  · by_cases h2 : size ≤ 6
    · go_enter Tryz.func106, Tryz.ntmps106
      go_wp2
      go_ret
      exact ⟨by simp [h1, h2], rfl⟩
    · go_enter Tryz.func106, Tryz.ntmps106
      go_wp2
      go_ret
      exact ⟨by simp [h2], rfl⟩
  · go_enter Tryz.func106, Tryz.ntmps106
    go_wp2
    go_ret
    exact ⟨by rw [decide_eq_false (by omega : ¬ 1 ≤ size)]; rfl, rfl⟩
/-- What spell has laid behind k rounds. -/
def laidN (n size k : Nat) : List Value := (spellN n k).map bv ++ List.replicate (size - k) (.int .u8 0)
theorem laidN_zero (n size : Nat) : laidN n size 0 = List.replicate size (.int .u8 0) := by simp [laidN, spellN]
theorem laidN_full (n size : Nat) : laidN n size size = (spellN n size).map bv := by simp [laidN]
theorem laidN_at (n size k : Nat) (h : k < size) : (laidN n size k)[k]? = some (.int .u8 0) := by
  unfold laidN
  rw [List.getElem?_append_right (by simp [spellN_length])]
  rw [List.length_map, spellN_length, Nat.sub_self, List.getElem?_replicate, if_pos (by omega)]
theorem laidN_set (n size k : Nat) (h : k < size) : (laidN n size k).set k (bv (n / 2 ^ (8 * k) % 256)) = laidN n size (k + 1) := by
  unfold laidN
  rw [List.set_append_right _ _ (by simp [spellN_length])]
  rw [List.length_map, spellN_length, Nat.sub_self, show size - k = (size - (k + 1)) + 1 by omega, List.replicate_succ]
  simp [spellN]
set_option maxHeartbeats 400000 in
theorem spell_any (n size : Nat) (w : World) (h6 : size ≤ 6) :
    Calls Tryz.prog 89 #[.int .i64 n, .int .i64 size] w fun e w' => ∃ v, e = .returned v ∧ Own w' w.heap.size v (spellN n size) ∧ Below w.heap.size w w' := by
  obtain ⟨i0, hi, hz0, hz1, hz2⟩ := info_parts Tryz.info5
  go_enter Tryz.func89, Tryz.ntmps89
  go_wp2_with (at_make; refine wpList_make_full _ rfl _ _ 24 rfl w.heap.size 5 i0 (.int .u8 0) 1 Tryz.underlying24 hi hz0 hz1 _ _ _ _ size rfl rfl rfl rfl (by rw [hz2]; omega) (by unfold maxLen; omega) (Nat.le_refl _) ?_; intro w1 hown hgrow)
  have hb := (Below.refl w.heap.size w).grown hgrow (Nat.le_refl _) (by intro k hk; cases hk)
  have hown2 : w1.ownsRow w.heap.size 5 1 (.slice (some ⟨w.heap.size, 0, none⟩) size size) size (laidN n size 0) := by
    rw [laidN_zero]
    have e := toList_madeCells_one (.int .u8 0) (size * 1)
    simp only [Value.cells] at hown
    rw [e, Nat.mul_one] at hown
    exact hown
  clear hown hgrow
  go_loopw [11] (fun i wr => ∃ k : Nat, k ≤ size ∧ i = .int .i64 k ∧ wr.ownsRow w.heap.size 5 1 (.slice (some ⟨w.heap.size, 0, none⟩) size size) size (laidN n size k) ∧ Below w.heap.size w wr) (fun i _ => size - (intOf i).toNat)
  case atStart => exact ⟨0, Nat.zero_le _, rfl, hown2, hb⟩
  case round =>
    obtain ⟨k, hk, rfl, hownk, hbk⟩ := hrel
    clear hown2 hb
    by_cases hlt : k < size
    · have hck : wr.cell? ⟨w.heap.size, k, none⟩ = some (.int .u8 0) := by rw [hownk.cellAt k (by omega), laidN_at n size k hlt]
      have hfk := hownk.frozenAt k
      go_wp2
      have hst := hownk.stored k (bv (n / 2 ^ (8 * k) % 256))
      rw [laidN_set n size k hlt] at hst
      go_roundw
      case rel => exact ⟨k + 1, by omega, by go_num, by simpa [bv] using hst.1, hbk.setCell (Nat.le_refl _) _⟩
      case measure => simp [intOf]; omega
    · obtain rfl : k = size := by omega
      rw [laidN_full] at hownk
      go_wp2
      go_ret
      exact ⟨_, rfl, ⟨spellN_lt n k, by rw [spellN_length]; exact hownk⟩, hbk⟩
end Go.Proofs.YtiiepmljcjbflaaGreat
