/- What the Go function wire.Crc answers: the sum of the bytes that it is handed; it writes nothing that was there. -/
import Derived.Test.YtiiepmljcjbflaaGreatFourBits
import Derived.Test.YtiiepmljcjbflaaGreatRefSum
namespace Go.Proofs.YtiiepmljcjbflaaGreat
open Go.RowKit Crcm

theorem xor_eq (a b : Nat) (ha : a < 4294967296) (hb : b < 4294967296) : ∃ s : Nat, s < 4294967296 ∧ bits .xor .u32 (a : Int) (b : Int) = (s : Int) ∧ s = a ^^^ b :=
  ⟨a ^^^ b, Nat.xor_lt_two_pow (n := 32) ha hb, u32_xor_nat a b ha hb, rfl⟩
theorem half_eq (s : Nat) (hs : s < 4294967296) : ∃ i s' : Nat, i < 16 ∧ s' < 4294967296 ∧ bits .and .u32 (s : Int) 15 = (i : Int) ∧ bits .xor .u32 ((s : Int) / 16) ((stps 4 i : Nat) : Int) = (s' : Int) ∧ s' = stps 4 s := by
  refine ⟨s % 16, stps 4 s, by omega, stps_lt 4 s hs, and15 s hs, ?_, rfl⟩
  have e := u32_xor_nat (s / 16) (stps 4 (s % 16)) (by omega) (stps_lt 4 _ (by omega))
  have d : ((s / 16 : Nat) : Int) = (s : Int) / 16 := by omega
  rw [d] at e
  rw [e, four s]
set_option maxHeartbeats 400000 in
theorem crc_any (ad : Option Addr) (len cap : Nat) (l : List Nat) (w : World) (hlen : l.length = len) (hl : len ≤ maxLen) (hrow : Row w ad l) :
    Calls Tryz.prog 90 #[.slice ad len cap] w fun e w' => e = .returned (.int .u32 (crc l : Nat)) ∧ Below w.heap.size w w' := by
  unfold maxLen at hl
  go_enter Tryz.func90, Tryz.ntmps90
  go_wp2_with (go_at_call 107; refine (makeTable_any _).mono ?_; rintro e w' ⟨rfl, hb1⟩; rw [tabArr_full])
  have hT : ∀ i : Nat, i < 16 → (w'.alloc (.cells (tabArr 16) 149)).cell? ⟨w'.heap.size, i, none⟩ = some (.int .u32 (stps 4 i : Nat)) := by
    intro i hi
    have e := tabArr_at 16 i hi
    rw [if_pos hi] at e
    simp [e]
  have hbw : Below w.heap.size w (w'.alloc (.cells (tabArr 16) 149)) := hb1.alloc hb1.size _
  have hrt := hrow.later hbw
  rw [← tabArr_full]
  generalize tabArr 16 = tab at *
  generalize w'.alloc (.cells tab 149) = wt at *
  generalize w'.heap.size = B at *
  clear hb1 hrow
  go_loop [4, 10] (fun s i => ∃ k : Nat, k ≤ len ∧ i = .int .i64 k ∧ s = .int .u32 (reg 4294967295 (l.take k) : Nat)) (fun _ i => len - (intOf i).toNat)
  case atStart => exact ⟨0, Nat.zero_le _, rfl, rfl⟩
  case round =>
    obtain ⟨k, hk, rfl, rfl⟩ := hrel
    have hr : reg 4294967295 (l.take k) < 4294967296 := reg_lt _ _ (by omega) (take_mem hrt.1 k)
    by_cases hlt : k < len
    · obtain ⟨b, off, rfl, _, hc⟩ := hrt.2.resolve_left (by intro h; subst h; simp at hlen; omega)
      have hx := getD_lt hrt.1 k
      have hck := hc k (by omega)
      have HS : Hid (reg 4294967295 (l.take (k + 1)) = stps 4 (stps 4 (reg 4294967295 (l.take k) ^^^ l.getD k 0))) := by
        show _ = _
        rw [take_snoc l k (by omega), reg_snoc, eight]
      clear hc hrt hbw
      generalize l.getD k 0 = x at *
      generalize reg 4294967295 (l.take k) = r at *
      obtain ⟨s1, hs1, e1, E1⟩ := xor_eq r x hr (by omega)
      obtain ⟨i1, s2, hi1, hs2, e2, e3, E2⟩ := half_eq s1 hs1
      obtain ⟨i2, s3, hi2, hs3, e4, e5, E3⟩ := half_eq s2 hs2
      have E : Hid ((reg 4294967295 (l.take (k + 1)) : Nat) = s3) := by show _ = _; rw [HS.out, E3, E2, E1]
      clear E1 E2 E3 HS
      have hT1 := hT i1 hi1
      have hT2 := hT i2 hi2
      clear hT
      go_wp2
      go_round
      case rel => exact ⟨k + 1, by omega, by go_num, by rw [E.out]⟩
      case measure => simp [intOf]; omega
    · have hcr : Hid (crc l = 4294967295 - reg 4294967295 (l.take k)) := by
        show _ = _
        rw [List.take_of_length_le (by omega)]; rfl
      generalize reg 4294967295 (l.take k) = r at *
      go_wp2
      go_ret
      exact ⟨ret_int (by rw [hcr.out]; exact not_eq r hr), hbw⟩
end Go.Proofs.YtiiepmljcjbflaaGreat
