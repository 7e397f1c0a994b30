/- The sum of bytes, its last step in the machine's own words. What the Go functions fourBits and makeTable answer: four steps of the register; the table of the sixteen. What the Go function wire.Crc answers: the sum of the bytes that it is handed; it writes nothing that was there. -/
import Derived.Test.YtfgamkcnnijloaaGreatBase
import Derived.Test.YtfgamkcnnijloaaGreatPZMath
namespace Go.Proofs.YtfgamkcnnijloaaGreat
open Go.RowKit Crcm

theorem not_nat (r : Nat) (h : r < 4294967296) : 4294967295 ^^^ r = 4294967295 - r := by
  have e : (~~~ (BitVec.ofNat 32 r)).toNat = (BitVec.allOnes 32 ^^^ BitVec.ofNat 32 r).toNat := by rw [BitVec.not_def]
  rw [BitVec.toNat_not, BitVec.toNat_xor, BitVec.toNat_allOnes, BitVec.toNat_ofNat, Nat.mod_eq_of_lt (by omega)] at e
  exact e.symm
theorem not_eq (r : Nat) (h : r < 4294967296) : bits .xor .u32 IntKind.u32.max (r : Int) = ((4294967295 - r : Nat) : Int) := by
  rw [← not_nat r h]
  exact u32_xor_nat 4294967295 r (by omega) h
end Go.Proofs.YtfgamkcnnijloaaGreat
namespace Go.Proofs.YtfgamkcnnijloaaGreat
open Go.RowKit Crcm

set_option maxHeartbeats 400000 in
theorem fourBits_any (r : Nat) (w : World) (hr : r < 4294967296) :
    Calls Tryz.prog 118 #[.int .u32 r] w fun e w' => e = .returned (.int .u32 (stps 4 r : Nat)) ∧ w' = w := by
  go_enter Tryz.func118, Tryz.ntmps118
  go_wp2
  go_loop [0, 3] (fun s i => ∃ k : Nat, k ≤ 4 ∧ i = .int .i64 k ∧ s = .int .u32 (stps k r : Nat)) (fun _ i => 4 - (intOf i).toNat)
  case atStart => exact ⟨0, Nat.zero_le _, rfl, rfl⟩
  case round =>
    obtain ⟨k, hk, rfl, rfl⟩ := hrel
    have hs := stps_lt' k r hr
    by_cases hlt : k < 4
    · go_wp2
      all_goals
        go_round
        case rel => exact ⟨k + 1, by omega, by go_num, val_int (by rw [stps_succ']; first | exact stp_odd _ hs (by assumption) | exact stp_even _ hs (by assumption))⟩
        case measure => simp [intOf]; omega
    · go_wp2
      go_ret
      exact ⟨ret_int (by rw [show k = 4 by omega]), rfl⟩
/-- The table when its first k places are filled. -/
def tabArr (k : Nat) : Array Value := ((List.range 16).map fun j => if j < k then Value.int .u32 (stps 4 j : Nat) else .int .u32 0).toArray
theorem tabArr_zero : tabArr 0 = #[.int .u32 0, .int .u32 0, .int .u32 0, .int .u32 0, .int .u32 0, .int .u32 0, .int .u32 0, .int .u32 0, .int .u32 0, .int .u32 0, .int .u32 0, .int .u32 0, .int .u32 0, .int .u32 0, .int .u32 0, .int .u32 0] := rfl
theorem tabArr_size (k : Nat) : (tabArr k).size = 16 := by simp [tabArr]
theorem tabArr_at (k j : Nat) (h : j < 16) : (tabArr k)[j]? = some (if j < k then Value.int .u32 (stps 4 j : Nat) else .int .u32 0) := by
  simp [tabArr, h]
theorem tabArr_set (k : Nat) (h : k < 16) : (tabArr k).setIfInBounds k (.int .u32 (stps 4 k : Nat)) = tabArr (k + 1) := by
  apply Array.ext_getElem?
  intro i
  rw [Array.getElem?_setIfInBounds]
  by_cases hi : i < 16
  · rw [tabArr_at _ _ hi, tabArr_at _ _ hi]
    by_cases e : k = i
    · subst e; simp [tabArr_size, h]
    · by_cases h2 : i < k
      · simp [e, h2, show i < k + 1 by omega]
      · simp [e, h2, show ¬ i < k + 1 by omega]
  · have h1 : (tabArr k)[i]? = none := by simp [tabArr_size]; omega
    have h2 : (tabArr (k + 1))[i]? = none := by simp [tabArr_size]; omega
    rw [h1, h2]
    simp [show ¬ k = i by omega]
theorem tabArr_full : tabArr 16 = #[.int .u32 (stps 4 0 : Nat), .int .u32 (stps 4 1 : Nat), .int .u32 (stps 4 2 : Nat), .int .u32 (stps 4 3 : Nat), .int .u32 (stps 4 4 : Nat), .int .u32 (stps 4 5 : Nat), .int .u32 (stps 4 6 : Nat), .int .u32 (stps 4 7 : Nat), .int .u32 (stps 4 8 : Nat), .int .u32 (stps 4 9 : Nat), .int .u32 (stps 4 10 : Nat), .int .u32 (stps 4 11 : Nat), .int .u32 (stps 4 12 : Nat), .int .u32 (stps 4 13 : Nat), .int .u32 (stps 4 14 : Nat), .int .u32 (stps 4 15 : Nat)] := rfl
set_option maxHeartbeats 400000 in
theorem makeTable_any (w : World) :
    Calls Tryz.prog 89 #[] w fun e w' => e = .returned (.agg (tabArr 16)) ∧ Below w.heap.size w w' := by
  go_enter Tryz.func89, Tryz.ntmps89
  go_wp2
  go_loopw [3] (fun i wr => ∃ k : Nat, k ≤ 16 ∧ i = .int .i64 k ∧ wr = (w.alloc (.cells (tabArr 0) 154)).alloc (.cells (tabArr k) 154)) (fun i _ => 16 - (intOf i).toNat)
  case atStart => exact ⟨0, Nat.zero_le _, rfl, rfl⟩
  case round =>
    obtain ⟨k, hk, rfl, rfl⟩ := hrel
    by_cases hlt : k < 16
    · have hcell : ((w.alloc (Obj.cells (tabArr 0) 154)).alloc (Obj.cells (tabArr k) 154)).cell? ⟨w.heap.size + 1, k, none⟩ = some (.int .u32 0) := by
        have e := tabArr_at k k hlt
        simp at e
        simp [e]
      go_wp2_with (go_at_call 118; refine (fourBits_any k _ (by omega)).mono ?_; rintro e w' ⟨rfl, rfl⟩)
      go_roundw
      case rel => exact ⟨k + 1, by omega, by go_num, by rw [tabArr_set k hlt]⟩
      case measure => simp [intOf]; omega
    · obtain rfl : k = 16 := by omega
      rw [tabArr_full, tabArr_zero]
      go_wp2
      refine bodyPost_ret (v := .agg (tabArr 16)) (results_cell_row Tryz.results89 _ _ w.heap.size 154 (tabArr 16) (0, 0) _ rfl (heap_alloc2_old _ _ _) Tryz.underlying154 rfl (by kernel_rfl)) rfl ⟨rfl, ?_⟩
      exact ((Below.refl _ _).alloc (Nat.le_refl _) _).alloc (by simp) _
end Go.Proofs.YtfgamkcnnijloaaGreat
namespace Go.Proofs.YtfgamkcnnijloaaGreat
open Go.RowKit Crcm

theorem xor_eq (a b : Nat) (ha : a < 4294967296) (hb : b < 4294967296) : ∃ s : Nat, s < 4294967296 ∧ bits .xor .u32 (a : Int) (b : Int) = (s : Int) ∧ s = a ^^^ b :=
  ⟨a ^^^ b, Nat.xor_lt_two_pow (n := 32) ha hb, u32_xor_nat a b ha hb, rfl⟩
theorem half_eq (s : Nat) (hs : s < 4294967296) : ∃ i s' : Nat, i < 16 ∧ s' < 4294967296 ∧ bits .and .u32 (s : Int) 15 = (i : Int) ∧ bits .xor .u32 ((s : Int) / 16) ((stps 4 i : Nat) : Int) = (s' : Int) ∧ s' = stps 4 s := by
  refine ⟨s % 16, stps 4 s, by omega, stps_lt 4 s hs, and15 s hs, ?_, rfl⟩
  have e := u32_xor_nat (s / 16) (stps 4 (s % 16)) (by omega) (stps_lt 4 _ (by omega))
  have d : ((s / 16 : Nat) : Int) = (s : Int) / 16 := by omega
  rw [d] at e
  rw [e, four s]
set_option maxHeartbeats 400000 in
theorem crc_any (ad : Option Addr) (len cap : Nat) (l : List Nat) (w : World) (hlen : l.length = len) (hl : len ≤ maxLen) (hrow : Row w ad l) :
    Calls Tryz.prog 64 #[.slice ad len cap] w fun e w' => e = .returned (.int .u32 (crc l : Nat)) ∧ Below w.heap.size w w' := by
  unfold maxLen at hl
  go_enter Tryz.func64, Tryz.ntmps64
  go_wp2_with (go_at_call 89; refine (makeTable_any _).mono ?_; rintro e w' ⟨rfl, hb1⟩; rw [tabArr_full])
  have hT : ∀ i : Nat, i < 16 → (w'.alloc (.cells (tabArr 16) 154)).cell? ⟨w'.heap.size, i, none⟩ = some (.int .u32 (stps 4 i : Nat)) := by
    intro i hi
    have e := tabArr_at 16 i hi
    rw [if_pos hi] at e
    simp [e]
  have hbw : Below w.heap.size w (w'.alloc (.cells (tabArr 16) 154)) := hb1.alloc hb1.size _
  have hrt := hrow.later hbw
  rw [← tabArr_full]
  generalize tabArr 16 = tab at *
  generalize w'.alloc (.cells tab 154) = wt at *
  generalize w'.heap.size = B at *
  clear hb1 hrow
  go_loop [4, 10] (fun s i => ∃ k : Nat, k ≤ len ∧ i = .int .i64 k ∧ s = .int .u32 (reg 4294967295 (l.take k) : Nat)) (fun _ i => len - (intOf i).toNat)
  case atStart => exact ⟨0, Nat.zero_le _, rfl, rfl⟩
  case round =>
    obtain ⟨k, hk, rfl, rfl⟩ := hrel
    have hr : reg 4294967295 (l.take k) < 4294967296 := reg_lt _ _ (by omega) (take_mem hrt.1 k)
    by_cases hlt : k < len
    · obtain ⟨b, off, rfl, _, hc⟩ := hrt.2.resolve_left (by intro h; subst h; simp at hlen; omega)
      have hx := getD_lt hrt.1 k
      have hck := hc k (by omega)
      have HS : Hid (reg 4294967295 (l.take (k + 1)) = stps 4 (stps 4 (reg 4294967295 (l.take k) ^^^ l.getD k 0))) := by
        show _ = _
        rw [take_snoc l k (by omega), reg_snoc, eight]
      clear hc hrt hbw
      generalize l.getD k 0 = x at *
      generalize reg 4294967295 (l.take k) = r at *
      obtain ⟨s1, hs1, e1, E1⟩ := xor_eq r x hr (by omega)
      obtain ⟨i1, s2, hi1, hs2, e2, e3, E2⟩ := half_eq s1 hs1
      obtain ⟨i2, s3, hi2, hs3, e4, e5, E3⟩ := half_eq s2 hs2
      have E : Hid ((reg 4294967295 (l.take (k + 1)) : Nat) = s3) := by show _ = _; rw [HS.out, E3, E2, E1]
      clear E1 E2 E3 HS
      have hT1 := hT i1 hi1
      have hT2 := hT i2 hi2
      clear hT
      go_wp2
      go_round
      case rel => exact ⟨k + 1, by omega, by go_num, by rw [E.out]⟩
      case measure => simp [intOf]; omega
    · have hcr : Hid (crc l = 4294967295 - reg 4294967295 (l.take k)) := by
        show _ = _
        rw [List.take_of_length_le (by omega)]; rfl
      generalize reg 4294967295 (l.take k) = r at *
      go_wp2
      go_ret
      exact ⟨ret_int (by rw [hcr.out]; exact not_eq r hr), hbw⟩
end Go.Proofs.YtfgamkcnnijloaaGreat
