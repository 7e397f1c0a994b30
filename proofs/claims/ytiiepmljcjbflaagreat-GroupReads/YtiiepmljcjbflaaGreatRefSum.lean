/- The sum of bytes, its last step in the machine's own words. -/
import Derived.Test.YtiiepmljcjbflaaGreatGetTextN
import Derived.Test.YtiiepmljcjbflaaGreatCrc
namespace Go.Proofs.YtiiepmljcjbflaaGreat
open Go.RowKit Crcm

theorem not_nat (r : Nat) (h : r < 4294967296) : 4294967295 ^^^ r = 4294967295 - r := by
  have e : (~~~ (BitVec.ofNat 32 r)).toNat = (BitVec.allOnes 32 ^^^ BitVec.ofNat 32 r).toNat := by rw [BitVec.not_def]
  rw [BitVec.toNat_not, BitVec.toNat_xor, BitVec.toNat_allOnes, BitVec.toNat_ofNat, Nat.mod_eq_of_lt (by omega)] at e
  exact e.symm
theorem not_eq (r : Nat) (h : r < 4294967296) : bits .xor .u32 IntKind.u32.max (r : Int) = ((4294967295 - r : Nat) : Int) := by
  rw [← not_nat r h]
  exact u32_xor_nat 4294967295 r (by omega) h
end Go.Proofs.YtiiepmljcjbflaaGreat

/- What the document's own Crc (package ref) answers: the sum of the bytes that it is handed, bit by bit; it changes nothing. -/
namespace Go.Proofs.YtiiepmljcjbflaaGreat
open Go.RowKit Crcm

/-- What one bit does to the two registers. -/
theorem bit_eq (r x : Nat) (hr : r < 4294967296) (hx : x < 256) :
    ∃ s p r2 x2 r3 : Nat, bits .xor .u32 (r : Int) (x : Int) = (s : Int) ∧ bits .and .u32 (s : Int) 1 = (p : Int) ∧ (r : Int) / 2 = (r2 : Int) ∧ (x : Int) / 2 = (x2 : Int) ∧ bits .xor .u32 (r2 : Int) 2197175160 = (r3 : Int) ∧
      (p = 1 ∨ p = 0) ∧ x2 < 256 ∧ r2 < 4294967296 ∧ r3 < 4294967296 ∧ (p = 1 → r3 ^^^ x2 = stp (r ^^^ x)) ∧ (p = 0 → r2 ^^^ x2 = stp (r ^^^ x)) := by
  have hs : r ^^^ x < 4294967296 := Nat.xor_lt_two_pow (n := 32) hr (by omega)
  have e3 : (r : Int) / 2 = ((r / 2 : Nat) : Int) := by omega
  refine ⟨r ^^^ x, (r ^^^ x) % 2, r / 2, x / 2, (r / 2) ^^^ poly, u32_xor_nat r x hr (by omega), and1 _ hs, e3, by omega, ?_, by omega, by omega, by omega, Nat.xor_lt_two_pow (n := 32) (by omega) poly_lt, ?_, ?_⟩
  · rw [← e3]; exact xorp r hr
  · intro h; rw [← bit_step, if_pos h]
  · intro h; rw [← bit_step, if_neg (by omega)]
set_option maxHeartbeats 400000 in
theorem refCrc_any (ad : Option Addr) (len cap : Nat) (l : List Nat) (w : World) (hlen : l.length = len) (hl : len ≤ maxLen) (hrow : Row w ad l) :
    Calls Tryz.prog 67 #[.slice ad len cap] w fun e w' => e = .returned (.int .u32 (crc l : Nat)) ∧ w' = w := by
  unfold maxLen at hl
  go_enter Tryz.func67, Tryz.ntmps67
  go_wp2
  go_loop [3, 4] (fun s i => ∃ k : Nat, k ≤ len ∧ i = .int .i64 k ∧ s = .int .u32 (reg 4294967295 (l.take k) : Nat)) (fun _ i => len - (intOf i).toNat)
  case atStart => exact ⟨0, Nat.zero_le _, rfl, rfl⟩
  case round =>
    obtain ⟨k, hk, rfl, rfl⟩ := hrel
    have hr : reg 4294967295 (l.take k) < 4294967296 := reg_lt _ _ (by omega) (take_mem hrow.1 k)
    by_cases hlt : k < len
    · obtain ⟨b, off, rfl, _, hc⟩ := hrow.2.resolve_left (by intro h; subst h; simp at hlen; omega)
      have hx := getD_lt hrow.1 k
      have hck := hc k (by omega)
      have HS : Hid (reg 4294967295 (l.take (k + 1)) = stps 8 (reg 4294967295 (l.take k) ^^^ l.getD k 0)) := by
        show _ = _
        rw [take_snoc l k (by omega), reg_snoc]
      clear hc hrow
      generalize l.getD k 0 = x at *
      generalize reg 4294967295 (l.take k) = r at *
      go_wp2
      go_loop [3, 5, 6] (fun s y i => ∃ j rr xx : Nat, j ≤ 8 ∧ i = .int .i64 j ∧ s = .int .u32 rr ∧ y = .int .u32 xx ∧ rr < 4294967296 ∧ xx < 256 ∧ Hid (rr ^^^ xx = stps j (r ^^^ x)) ∧ Hid (xx = x / 2 ^ j)) (fun _ _ i => 8 - (intOf i).toNat)
      case atStart => exact ⟨0, r, x, by omega, rfl, rfl, rfl, hr, hx, rfl, by show _ = _; simp⟩
      case round =>
        obtain ⟨j, rr, xx, hj, rfl, rfl, rfl, hrr, hxx, Hs, Hx⟩ := hrel
        by_cases hjl : j < 8
        · obtain ⟨s, p, r2, x2, r3, e1, e2, e3, e4, e5, hp, h2, h3, h4, h5, h6⟩ := bit_eq rr xx hrr hxx
          have H5 : Hid (p = 1 → r3 ^^^ x2 = stps (j + 1) (r ^^^ x)) := by intro h; rw [stps_succ', ← Hs.out]; exact h5 h
          have H6 : Hid (p = 0 → r2 ^^^ x2 = stps (j + 1) (r ^^^ x)) := by intro h; rw [stps_succ', ← Hs.out]; exact h6 h
          have HX : Hid (x2 = x / 2 ^ (j + 1)) := by
            show _ = _
            have : x2 = xx / 2 := by omega
            rw [this, Hx.out, Nat.div_div_eq_div_mul, Nat.pow_succ]
          clear h5 h6 Hs Hx
          rcases hp with rfl | rfl
          · go_wp2
            go_round
            case rel => exact ⟨j + 1, r3, x2, by omega, by go_num, rfl, rfl, h4, h2, H5.out rfl, HX⟩
            case measure => simp [intOf]; omega
          · go_wp2
            go_round
            case rel => exact ⟨j + 1, r2, x2, by omega, by go_num, rfl, rfl, h3, h2, H6.out rfl, HX⟩
            case measure => simp [intOf]; omega
        · have hx0 : xx = 0 := by
            rw [Hx.out, show j = 8 by omega]; omega
          have E : Hid (reg 4294967295 (l.take (k + 1)) = rr) := by
            show _ = _
            have e := Hs.out
            rw [hx0, Nat.xor_zero, show j = 8 by omega] at e
            rw [HS.out]
            exact e.symm
          clear hx0 HS Hs Hx
          go_wp2
          go_round
          case rel => exact ⟨k + 1, by omega, by go_num, by rw [E.out]⟩
          case measure => simp [intOf]; omega
    · have hcr : Hid (crc l = 4294967295 - reg 4294967295 (l.take k)) := by
        show _ = _
        rw [List.take_of_length_le (by omega)]; rfl
      generalize reg 4294967295 (l.take k) = r at *
      go_wp2
      go_ret
      exact ⟨ret_int (by rw [hcr.out]; exact not_eq r hr), rfl⟩
end Go.Proofs.YtiiepmljcjbflaaGreat
