/- What the Go functions fourBits and makeTable answer: four steps of the register; the table of the sixteen. -/
import Derived.Test.YtiiepmljcjbflaaGreatGetTextN
import Derived.Test.YtiiepmljcjbflaaGreatCrc
namespace Go.Proofs.YtiiepmljcjbflaaGreat
open Go.RowKit Crcm

set_option maxHeartbeats 400000 in
theorem fourBits_any (r : Nat) (w : World) (hr : r < 4294967296) :
    Calls Tryz.prog 125 #[.int .u32 r] w fun e w' => e = .returned (.int .u32 (stps 4 r : Nat)) ∧ w' = w := by
  go_enter Tryz.func125, Tryz.ntmps125
  go_wp2
  go_loop [0, 3] (fun s i => ∃ k : Nat, k ≤ 4 ∧ i = .int .i64 k ∧ s = .int .u32 (stps k r : Nat)) (fun _ i => 4 - (intOf i).toNat)
  case atStart => exact ⟨0, Nat.zero_le _, rfl, rfl⟩
  case round =>
    obtain ⟨k, hk, rfl, rfl⟩ := hrel
    have hs := stps_lt' k r hr
    by_cases hlt : k < 4
    · go_wp2
      all_goals
        go_round
        case rel => exact ⟨k + 1, by omega, by go_num, val_int (by rw [stps_succ']; first | exact stp_odd _ hs (by assumption) | exact stp_even _ hs (by assumption))⟩
        case measure => simp [intOf]; omega
    · go_wp2
      go_ret
      exact ⟨ret_int (by rw [show k = 4 by omega]), rfl⟩
/-- The table when its first k places are filled. -/
def tabArr (k : Nat) : Array Value := ((List.range 16).map fun j => if j < k then Value.int .u32 (stps 4 j : Nat) else .int .u32 0).toArray
theorem tabArr_zero : tabArr 0 = #[.int .u32 0, .int .u32 0, .int .u32 0, .int .u32 0, .int .u32 0, .int .u32 0, .int .u32 0, .int .u32 0, .int .u32 0, .int .u32 0, .int .u32 0, .int .u32 0, .int .u32 0, .int .u32 0, .int .u32 0, .int .u32 0] := rfl
theorem tabArr_size (k : Nat) : (tabArr k).size = 16 := by simp [tabArr]
theorem tabArr_at (k j : Nat) (h : j < 16) : (tabArr k)[j]? = some (if j < k then Value.int .u32 (stps 4 j : Nat) else .int .u32 0) := by
  simp [tabArr, h]
theorem tabArr_set (k : Nat) (h : k < 16) : (tabArr k).setIfInBounds k (.int .u32 (stps 4 k : Nat)) = tabArr (k + 1) := by
  apply Array.ext_getElem?
  intro i
  rw [Array.getElem?_setIfInBounds]
  by_cases hi : i < 16
  · rw [tabArr_at _ _ hi, tabArr_at _ _ hi]
    by_cases e : k = i
    · subst e; simp [tabArr_size, h]
    · by_cases h2 : i < k
      · simp [e, h2, show i < k + 1 by omega]
      · simp [e, h2, show ¬ i < k + 1 by omega]
  · have h1 : (tabArr k)[i]? = none := by simp [tabArr_size]; omega
    have h2 : (tabArr (k + 1))[i]? = none := by simp [tabArr_size]; omega
    rw [h1, h2]
    simp [show ¬ k = i by omega]
theorem tabArr_full : tabArr 16 = #[.int .u32 (stps 4 0 : Nat), .int .u32 (stps 4 1 : Nat), .int .u32 (stps 4 2 : Nat), .int .u32 (stps 4 3 : Nat), .int .u32 (stps 4 4 : Nat), .int .u32 (stps 4 5 : Nat), .int .u32 (stps 4 6 : Nat), .int .u32 (stps 4 7 : Nat), .int .u32 (stps 4 8 : Nat), .int .u32 (stps 4 9 : Nat), .int .u32 (stps 4 10 : Nat), .int .u32 (stps 4 11 : Nat), .int .u32 (stps 4 12 : Nat), .int .u32 (stps 4 13 : Nat), .int .u32 (stps 4 14 : Nat), .int .u32 (stps 4 15 : Nat)] := rfl
set_option maxHeartbeats 400000 in
theorem makeTable_any (w : World) :
    Calls Tryz.prog 107 #[] w fun e w' => e = .returned (.agg (tabArr 16)) ∧ Below w.heap.size w w' := by
  go_enter Tryz.func107, Tryz.ntmps107
  go_wp2
  go_loopw [3] (fun i wr => ∃ k : Nat, k ≤ 16 ∧ i = .int .i64 k ∧ wr = (w.alloc (.cells (tabArr 0) 149)).alloc (.cells (tabArr k) 149)) (fun i _ => 16 - (intOf i).toNat)
  case atStart => exact ⟨0, Nat.zero_le _, rfl, rfl⟩
  case round =>
    obtain ⟨k, hk, rfl, rfl⟩ := hrel
    by_cases hlt : k < 16
    · have hcell : ((w.alloc (Obj.cells (tabArr 0) 149)).alloc (Obj.cells (tabArr k) 149)).cell? ⟨w.heap.size + 1, k, none⟩ = some (.int .u32 0) := by
        have e := tabArr_at k k hlt
        simp at e
        simp [e]
      go_wp2_with (go_at_call 125; refine (fourBits_any k _ (by omega)).mono ?_; rintro e w' ⟨rfl, rfl⟩)
      go_roundw
      case rel => exact ⟨k + 1, by omega, by go_num, by rw [tabArr_set k hlt]⟩
      case measure => simp [intOf]; omega
    · obtain rfl : k = 16 := by omega
      rw [tabArr_full, tabArr_zero]
      go_wp2
      refine bodyPost_ret (v := .agg (tabArr 16)) (results_cell_row Tryz.results107 _ _ w.heap.size 149 (tabArr 16) (0, 0) _ rfl (heap_alloc2_old _ _ _) Tryz.underlying149 rfl (by kernel_rfl)) rfl ⟨rfl, ?_⟩
      exact ((Below.refl _ _).alloc (Nat.le_refl _) _).alloc (by simp) _
end Go.Proofs.YtiiepmljcjbflaaGreat
