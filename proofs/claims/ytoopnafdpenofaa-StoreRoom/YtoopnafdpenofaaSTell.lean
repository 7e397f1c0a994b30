/- text of an entry of package store. -/
import Derived.Test.YtoopnafdpenofaaSSpell
import Derived.Test.YtoopnafdpenofaaHand
import Derived.Test.YtoopnafdpenofaaDiskN
import Derived.Test.YtoopnafdpenofaaPut
import Derived.Deep.OwnRows
namespace Go.Proofs.Ytoopnafdpenofaa
open Go.RowKit Crcm

/-- An entry as it is handed on. -/
def entV (kind loglet pos : Nat) (ad : Option Addr) (len cap : Nat) : Value := .agg #[.int .i64 (kind : Int), .int .i64 (loglet : Int), .int .i64 (pos : Int), .slice ad len cap]
theorem ok4 {w : World} {p1 p2 p3 p4 : Part} (h1 : p1.ok w) (h2 : p2.ok w) (h3 : p3.ok w) (h4 : p4.ok w) : ∀ p ∈ [p1, p2, p3, p4], p.ok w := by
  intro p hp
  simp at hp
  rcases hp with rfl | rfl | rfl | rfl <;> assumption
theorem len4 {x : List Nat} {kind loglet pos len : Nat} {l : List Nat} (h : x = entryN kind loglet pos l) (hl : l.length = len) (hlen : len ≤ 65536) : x.length ≤ 1000000 := by
  rw [h, entryN_length]
  omega
theorem own4 {w : World} {N M : Nat} {v : Value} {x y : List Nat} (h : Own w M v x) (e : x = y) (hN : N ≤ M) : Own w N v y := by
  subst e
  exact h.down hN
theorem all4 {p1 p2 p3 : Part} {kind loglet pos : Nat} {ad : Option Addr} {len cap : Nat} {l : List Nat} (e1 : p1.l = spellN kind 1) (e2 : p2.l = spellN loglet 6) (e3 : p3.l = spellN pos 6) : allN [p1, p2, p3, ⟨ad, len, cap, l⟩] 4 = entryN kind loglet pos l := by
  simp [allN, e1, e2, e3, entryN]
set_option maxRecDepth 100000 in
set_option maxHeartbeats 4000000 in
theorem text4_any (kind loglet pos : Nat) (ad : Option Addr) (len cap : Nat) (l : List Nat) (w : World) (hk : kind < 256) (hl : loglet < 281474976710656) (hp : pos < 281474976710656) (ha : Part.ok w ⟨ad, len, cap, l⟩) (hlen : len ≤ 65536) :
    Calls Try.prog 36 #[entV kind loglet pos ad len cap] w fun e w' => ∃ p : Part, e = .returned (.slice p.ad p.len p.cap) ∧ Hid (p.l = entryN kind loglet pos l) ∧ Hid (p.ok w') ∧ Hid (Own w' w.heap.size (.slice p.ad p.len p.cap) (entryN kind loglet pos l)) ∧ Below w.heap.size w w' := by
  have HA : Hid (Part.ok w ⟨ad, len, cap, l⟩) := ha
  clear ha
  unfold entV
  have HS : Hid (∀ W : World, Below (w.heap.size + 1) (w.alloc (.cells #[.int .i64 (kind : Int), .int .i64 (loglet : Int), .int .i64 (pos : Int), .slice ad len cap] 60)) W → W.cell? ⟨w.heap.size, 0, none⟩ = some (.int .i64 (kind : Int)) ∧ W.cell? ⟨w.heap.size, 1, none⟩ = some (.int .i64 (loglet : Int)) ∧ W.cell? ⟨w.heap.size, 2, none⟩ = some (.int .i64 (pos : Int)) ∧ W.cell? ⟨w.heap.size, 3, none⟩ = some (.slice ad len cap)) := (show Hid _ from fun W hW => by
    have q := (hW.block w.heap.size (by omega)).trans (heap_alloc_last w _)
    refine ⟨?_, ?_, ?_, ?_⟩ <;> (rw [cell_of_row _ _ _ _ _ _ q]; rfl))
  go_enter Try.func36, Try.ntmps36
  go_wp2_with fail
  generalize hW0 : w.alloc (.cells #[.int .i64 (kind : Int), .int .i64 (loglet : Int), .int .i64 (pos : Int), .slice ad len cap] 60) = W0 at *
  have hsz : W0.heap.size = w.heap.size + 1 := by rw [← hW0]; simp
  have B0 : Hid (Below w.heap.size w W0.drew) := (show Hid _ from (by rw [← hW0]; exact ((Below.refl _ w).alloc (Nat.le_refl _) _).drew))
  have C0 : Hid (Below (w.heap.size + 1) W0 W0.drew) := (show Hid _ from (Below.refl _ W0).drew)
  clear hW0
  go_region_held3 (fun W => W.cell? ⟨w.heap.size, 0, none⟩ = some (.int .i64 (kind : Int)) ∧ W.cell? ⟨w.heap.size, 1, none⟩ = some (.int .i64 (loglet : Int)) ∧ W.cell? ⟨w.heap.size, 2, none⟩ = some (.int .i64 (pos : Int)) ∧ W.cell? ⟨w.heap.size, 3, none⟩ = some (.slice ad len cap))
    (first | exact HS.out _ C0.out | exact HS.out _ C1.out | exact HS.out _ C2.out | exact HS.out _ C3.out | exact HS.out _ (C3.out.alloc C3s.out _) | exact HS.out _ C4.out)
    (first
      | (go_at_call 50; refine (concat_at [p1, p2, p3, ⟨ad, len, cap, l⟩] w3 _ rfl 4 4 rfl OK3.out LEN3.out (by omega)).mono ?_; rintro e w4 ⟨p4, rfl, e4, o4, k4, b4⟩; have C4 : Hid (Below (w.heap.size + 1) W0 w4) := (show Hid _ from C3.out.trans (b4.mono C3s.out)); have B4 : Hid (Below w.heap.size w w4) := (show Hid _ from B3.out.trans (b4.mono B3.out.size)); have E4 : Hid (p4.l = entryN kind loglet pos l) := (show Hid _ from e4.out.trans E3.out); have O4 : Hid (Own w4 w.heap.size (.slice p4.ad p4.len p4.cap) (entryN kind loglet pos l)) := (show Hid _ from own4 o4.out E3.out B3.out.size); clear b4 e4 o4)
      | (go_at_call 51; (with_reducible_and_instances (refine (sspell_at pos 6 w2 rfl rfl (by omega) (by omega) (by omega)).mono ?_)); rintro e w3 ⟨p3, rfl, e3, k3, b3⟩; have C3s : Hid (w.heap.size + 1 ≤ w3.heap.size) := (show Hid _ from Nat.le_trans C2s.out b3.size); have C3 : Hid (Below (w.heap.size + 1) W0 w3) := (show Hid _ from C2.out.trans (b3.mono C2s.out)); have B3 : Hid (Below w.heap.size w w3) := (show Hid _ from B2.out.trans (b3.mono B2.out.size)); have OK3 : Hid (∀ p ∈ [p1, p2, p3, ⟨ad, len, cap, l⟩], p.ok w3) := (show Hid _ from ok4 (K2.out.1.later b3) (K2.out.2.later b3) k3.out (HA.out.later B3.out)); have E3 : Hid (allN [p1, p2, p3, ⟨ad, len, cap, l⟩] 4 = entryN kind loglet pos l) := (show Hid _ from all4 E2.out.1 E2.out.2 e3.out); have LEN3 : Hid ((allN [p1, p2, p3, ⟨ad, len, cap, l⟩] 4).length ≤ 1000000) := (show Hid _ from len4 E3.out HA.out.1 hlen); clear e3 k3 b3)
      | (go_at_call 51; (with_reducible_and_instances (refine (sspell_at loglet 6 w1 rfl rfl (by omega) (by omega) (by omega)).mono ?_)); rintro e w2 ⟨p2, rfl, e2, k2, b2⟩; have C2s : Hid (w.heap.size + 1 ≤ w2.heap.size) := (show Hid _ from Nat.le_trans C1s.out b2.size); have C2 : Hid (Below (w.heap.size + 1) W0 w2) := (show Hid _ from C1.out.trans (b2.mono C1s.out)); have B2 : Hid (Below w.heap.size w w2) := (show Hid _ from B1.out.trans (b2.mono B1.out.size)); have K2 : Hid (p1.ok w2 ∧ p2.ok w2) := (show Hid _ from ⟨K1.out.later b2, k2.out⟩); have E2 : Hid (p1.l = spellN kind 1 ∧ p2.l = spellN loglet 6) := (show Hid _ from ⟨E1.out, e2.out⟩); clear e2 k2 b2)
      | (go_at_call 51; (with_reducible_and_instances (refine (sspell_at kind 1 W0.drew rfl rfl (by omega) (by omega) (by omega)).mono ?_)); rintro e w1 ⟨p1, rfl, e1, k1, b1⟩; have C1s : Hid (w.heap.size + 1 ≤ w1.heap.size) := (show Hid _ from Nat.le_trans (Nat.le_of_eq hsz.symm) b1.size); have C1 : Hid (Below (w.heap.size + 1) W0 w1) := (show Hid _ from C0.out.trans (b1.mono (Nat.le_of_eq hsz.symm))); have B1 : Hid (Below w.heap.size w w1) := (show Hid _ from B0.out.trans (b1.mono B0.out.size)); have K1 : Hid (p1.ok w1) := k1; have E1 : Hid (p1.l = spellN kind 1) := e1; clear b1 e1 k1))
  go_wp2
  go_ret
  exact ⟨p4, rfl, E4, k4, O4, B4.out⟩
end Go.Proofs.Ytoopnafdpenofaa

/- What the Go functions fourBits and makeTable answer: four steps of the register; the table of the sixteen. -/
namespace Go.Proofs.Ytoopnafdpenofaa
open Go.RowKit Crcm

set_option maxHeartbeats 400000 in
theorem fourBits_any (r : Nat) (w : World) (hr : r < 4294967296) :
    Calls Try.prog 78 #[.int .u32 r] w fun e w' => e = .returned (.int .u32 (stps 4 r : Nat)) ∧ w' = w := by
  go_enter Try.func78, Try.ntmps78
  go_wp2
  go_loop [0, 3] (fun s i => ∃ k : Nat, k ≤ 4 ∧ i = .int .i64 k ∧ s = .int .u32 (stps k r : Nat)) (fun _ i => 4 - (intOf i).toNat)
  case atStart => exact ⟨0, Nat.zero_le _, rfl, rfl⟩
  case round =>
    obtain ⟨k, hk, rfl, rfl⟩ := hrel
    have hs := stps_lt' k r hr
    by_cases hlt : k < 4
    · go_wp2
      all_goals
        go_round
        case rel => exact ⟨k + 1, by omega, by go_num, val_int (by rw [stps_succ']; first | exact stp_odd _ hs (by assumption) | exact stp_even _ hs (by assumption))⟩
        case measure => simp [intOf]; omega
    · go_wp2
      go_ret
      exact ⟨ret_int (by rw [show k = 4 by omega]), rfl⟩
/-- The table when its first k places are filled. -/
def tabArr (k : Nat) : Array Value := ((List.range 16).map fun j => if j < k then Value.int .u32 (stps 4 j : Nat) else .int .u32 0).toArray
theorem tabArr_zero : tabArr 0 = #[.int .u32 0, .int .u32 0, .int .u32 0, .int .u32 0, .int .u32 0, .int .u32 0, .int .u32 0, .int .u32 0, .int .u32 0, .int .u32 0, .int .u32 0, .int .u32 0, .int .u32 0, .int .u32 0, .int .u32 0, .int .u32 0] := rfl
theorem tabArr_size (k : Nat) : (tabArr k).size = 16 := by simp [tabArr]
theorem tabArr_at (k j : Nat) (h : j < 16) : (tabArr k)[j]? = some (if j < k then Value.int .u32 (stps 4 j : Nat) else .int .u32 0) := by
  simp [tabArr, h]
theorem tabArr_set (k : Nat) (h : k < 16) : (tabArr k).setIfInBounds k (.int .u32 (stps 4 k : Nat)) = tabArr (k + 1) := by
  apply Array.ext_getElem?
  intro i
  rw [Array.getElem?_setIfInBounds]
  by_cases hi : i < 16
  · rw [tabArr_at _ _ hi, tabArr_at _ _ hi]
    by_cases e : k = i
    · subst e; simp [tabArr_size, h]
    · by_cases h2 : i < k
      · simp [e, h2, show i < k + 1 by omega]
      · simp [e, h2, show ¬ i < k + 1 by omega]
  · have h1 : (tabArr k)[i]? = none := by simp [tabArr_size]; omega
    have h2 : (tabArr (k + 1))[i]? = none := by simp [tabArr_size]; omega
    rw [h1, h2]
    simp [show ¬ k = i by omega]
theorem tabArr_full : tabArr 16 = #[.int .u32 (stps 4 0 : Nat), .int .u32 (stps 4 1 : Nat), .int .u32 (stps 4 2 : Nat), .int .u32 (stps 4 3 : Nat), .int .u32 (stps 4 4 : Nat), .int .u32 (stps 4 5 : Nat), .int .u32 (stps 4 6 : Nat), .int .u32 (stps 4 7 : Nat), .int .u32 (stps 4 8 : Nat), .int .u32 (stps 4 9 : Nat), .int .u32 (stps 4 10 : Nat), .int .u32 (stps 4 11 : Nat), .int .u32 (stps 4 12 : Nat), .int .u32 (stps 4 13 : Nat), .int .u32 (stps 4 14 : Nat), .int .u32 (stps 4 15 : Nat)] := rfl
set_option maxHeartbeats 400000 in
theorem makeTable_any (w : World) :
    Calls Try.prog 71 #[] w fun e w' => e = .returned (.agg (tabArr 16)) ∧ Below w.heap.size w w' := by
  go_enter Try.func71, Try.ntmps71
  go_wp2
  go_loopw [3] (fun i wr => ∃ k : Nat, k ≤ 16 ∧ i = .int .i64 k ∧ wr = (w.alloc (.cells (tabArr 0) 107)).alloc (.cells (tabArr k) 107)) (fun i _ => 16 - (intOf i).toNat)
  case atStart => exact ⟨0, Nat.zero_le _, rfl, rfl⟩
  case round =>
    obtain ⟨k, hk, rfl, rfl⟩ := hrel
    by_cases hlt : k < 16
    · have hcell : ((w.alloc (Obj.cells (tabArr 0) 107)).alloc (Obj.cells (tabArr k) 107)).cell? ⟨w.heap.size + 1, k, none⟩ = some (.int .u32 0) := by
        have e := tabArr_at k k hlt
        simp at e
        simp [e]
      go_wp2_with (go_at_call 78; refine (fourBits_any k _ (by omega)).mono ?_; rintro e w' ⟨rfl, rfl⟩)
      go_roundw
      case rel => exact ⟨k + 1, by omega, by go_num, by rw [tabArr_set k hlt]⟩
      case measure => simp [intOf]; omega
    · obtain rfl : k = 16 := by omega
      rw [tabArr_full, tabArr_zero]
      go_wp2
      refine bodyPost_ret (v := .agg (tabArr 16)) (results_cell_row Try.results71 _ _ w.heap.size 107 (tabArr 16) (0, 0) _ rfl (heap_alloc2_old _ _ _) Try.underlying107 rfl (by kernel_rfl)) rfl ⟨rfl, ?_⟩
      exact ((Below.refl _ _).alloc (Nat.le_refl _) _).alloc (by simp) _
end Go.Proofs.Ytoopnafdpenofaa

/- The sum of bytes, its last step in the machine's own words. -/
namespace Go.Proofs.Ytoopnafdpenofaa
open Go.RowKit Crcm

theorem not_nat (r : Nat) (h : r < 4294967296) : 4294967295 ^^^ r = 4294967295 - r := by
  have e : (~~~ (BitVec.ofNat 32 r)).toNat = (BitVec.allOnes 32 ^^^ BitVec.ofNat 32 r).toNat := by rw [BitVec.not_def]
  rw [BitVec.toNat_not, BitVec.toNat_xor, BitVec.toNat_allOnes, BitVec.toNat_ofNat, Nat.mod_eq_of_lt (by omega)] at e
  exact e.symm
theorem not_eq (r : Nat) (h : r < 4294967296) : bits .xor .u32 IntKind.u32.max (r : Int) = ((4294967295 - r : Nat) : Int) := by
  rw [← not_nat r h]
  exact u32_xor_nat 4294967295 r (by omega) h
end Go.Proofs.Ytoopnafdpenofaa

/- What the Go function wire.Crc answers: the sum of the bytes that it is handed; it writes nothing that was there. -/
namespace Go.Proofs.Ytoopnafdpenofaa
open Go.RowKit Crcm

theorem xor_eq (a b : Nat) (ha : a < 4294967296) (hb : b < 4294967296) : ∃ s : Nat, s < 4294967296 ∧ bits .xor .u32 (a : Int) (b : Int) = (s : Int) ∧ s = a ^^^ b :=
  ⟨a ^^^ b, Nat.xor_lt_two_pow (n := 32) ha hb, u32_xor_nat a b ha hb, rfl⟩
theorem half_eq (s : Nat) (hs : s < 4294967296) : ∃ i s' : Nat, i < 16 ∧ s' < 4294967296 ∧ bits .and .u32 (s : Int) 15 = (i : Int) ∧ bits .xor .u32 ((s : Int) / 16) ((stps 4 i : Nat) : Int) = (s' : Int) ∧ s' = stps 4 s := by
  refine ⟨s % 16, stps 4 s, by omega, stps_lt 4 s hs, and15 s hs, ?_, rfl⟩
  have e := u32_xor_nat (s / 16) (stps 4 (s % 16)) (by omega) (stps_lt 4 _ (by omega))
  have d : ((s / 16 : Nat) : Int) = (s : Int) / 16 := by omega
  rw [d] at e
  rw [e, four s]
set_option maxHeartbeats 400000 in
theorem crc_any (ad : Option Addr) (len cap : Nat) (l : List Nat) (w : World) (hlen : l.length = len) (hl : len ≤ maxLen) (hrow : Row w ad l) :
    Calls Try.prog 63 #[.slice ad len cap] w fun e w' => e = .returned (.int .u32 (crc l : Nat)) ∧ Below w.heap.size w w' := by
  unfold maxLen at hl
  go_enter Try.func63, Try.ntmps63
  go_wp2_with (go_at_call 71; refine (makeTable_any _).mono ?_; rintro e w' ⟨rfl, hb1⟩; rw [tabArr_full])
  have hT : ∀ i : Nat, i < 16 → (w'.alloc (.cells (tabArr 16) 107)).cell? ⟨w'.heap.size, i, none⟩ = some (.int .u32 (stps 4 i : Nat)) := by
    intro i hi
    have e := tabArr_at 16 i hi
    rw [if_pos hi] at e
    simp [e]
  have hbw : Below w.heap.size w (w'.alloc (.cells (tabArr 16) 107)) := hb1.alloc hb1.size _
  have hrt := hrow.later hbw
  rw [← tabArr_full]
  generalize tabArr 16 = tab at *
  generalize w'.alloc (.cells tab 107) = wt at *
  generalize w'.heap.size = B at *
  clear hb1 hrow
  go_loop [4, 10] (fun s i => ∃ k : Nat, k ≤ len ∧ i = .int .i64 k ∧ s = .int .u32 (reg 4294967295 (l.take k) : Nat)) (fun _ i => len - (intOf i).toNat)
  case atStart => exact ⟨0, Nat.zero_le _, rfl, rfl⟩
  case round =>
    obtain ⟨k, hk, rfl, rfl⟩ := hrel
    have hr : reg 4294967295 (l.take k) < 4294967296 := reg_lt _ _ (by omega) (take_mem hrt.1 k)
    by_cases hlt : k < len
    · obtain ⟨b, off, rfl, _, hc⟩ := hrt.2.resolve_left (by intro h; subst h; simp at hlen; omega)
      have hx := getD_lt hrt.1 k
      have hck := hc k (by omega)
      have HS : Hid (reg 4294967295 (l.take (k + 1)) = stps 4 (stps 4 (reg 4294967295 (l.take k) ^^^ l.getD k 0))) := by
        show _ = _
        rw [take_snoc l k (by omega), reg_snoc, eight]
      clear hc hrt hbw
      generalize l.getD k 0 = x at *
      generalize reg 4294967295 (l.take k) = r at *
      obtain ⟨s1, hs1, e1, E1⟩ := xor_eq r x hr (by omega)
      obtain ⟨i1, s2, hi1, hs2, e2, e3, E2⟩ := half_eq s1 hs1
      obtain ⟨i2, s3, hi2, hs3, e4, e5, E3⟩ := half_eq s2 hs2
      have E : Hid ((reg 4294967295 (l.take (k + 1)) : Nat) = s3) := by show _ = _; rw [HS.out, E3, E2, E1]
      clear E1 E2 E3 HS
      have hT1 := hT i1 hi1
      have hT2 := hT i2 hi2
      clear hT
      go_wp2
      go_round
      case rel => exact ⟨k + 1, by omega, by go_num, by rw [E.out]⟩
      case measure => simp [intOf]; omega
    · have hcr : Hid (crc l = 4294967295 - reg 4294967295 (l.take k)) := by
        show _ = _
        rw [List.take_of_length_le (by omega)]; rfl
      generalize reg 4294967295 (l.take k) = r at *
      go_wp2
      go_ret
      exact ⟨ret_int (by rw [hcr.out]; exact not_eq r hr), hbw⟩
end Go.Proofs.Ytoopnafdpenofaa

/- A new row of zeros is a part. No function of the program is named here. -/
namespace Go.Proofs.Ytoopnafdpenofaa
open Go.RowKit

theorem made_ok (W : World) (z : Nat) (hz : z ≤ 1000000) : Part.ok (W.alloc (.cells (madeCells #[Value.int .u8 0] z) 5)) ⟨some ⟨W.heap.size, 0, none⟩, z, z, List.replicate z 0⟩ := by
  obtain ⟨c, hc, hs, he⟩ := World.rowIs_made W (.int .u8 0) z 5
  refine ⟨by simp, fun e => (by cases e), fun x hx => by rw [List.mem_replicate] at hx; omega, ?_⟩
  by_cases h0 : z = 0
  · subst h0; exact Or.inl rfl
  · refine Or.inr ⟨W.heap.size, 0, rfl, by simp, fun i hi => ?_⟩
    simp only [List.length_replicate] at hi
    rw [cell_of_row _ _ _ _ _ _ hc, Nat.zero_add, he i hi, List.getD_eq_getElem?_getD, List.getElem?_replicate, if_pos hi]
    rfl
end Go.Proofs.Ytoopnafdpenofaa

/- tellPart of package store. -/
namespace Go.Proofs.Ytoopnafdpenofaa
open Go.RowKit Crcm

/-- What a walk that makes one part behind the other holds. -/
def Cur (w W : World) (ps : List Part) : Prop := Below w.heap.size w W ∧ ∀ p ∈ ps, p.ok W
theorem Cur.step {w W W' : World} {ps : List Part} {p : Part} (h : Cur w W ps) (b : Below W.heap.size W W') (k : p.ok W') : Cur w W' (p :: ps) :=
  ⟨h.1.trans (b.mono h.1.size), fun q hq => by
    rcases List.mem_cons.1 hq with rfl | hq
    · exact k
    · exact (h.2 q hq).later b⟩
theorem Cur.make {w W : World} {ps : List Part} {ZB : Obj} {z : Nat} (h : Cur w W ps) (hz : ∀ W : World, Part.ok (W.alloc ZB) ⟨some ⟨W.heap.size, 0, none⟩, z, z, List.replicate z 0⟩) : Cur w (W.alloc ZB) (⟨some ⟨W.heap.size, 0, none⟩, z, z, List.replicate z 0⟩ :: ps) :=
  h.step ((Below.refl _ W).alloc (Nat.le_refl _) _) (hz W)
theorem all7 {p1 p2 p3 p4 p5 : Part} {number k count : Nat} {a z : Option Addr} {len cap zl zc : Nat} {l : List Nat} (e1 : p1.l = spellN 165 1) (e2 : p2.l = spellN number 6) (e3 : p3.l = spellN k 2) (e4 : p4.l = spellN count 2) (e5 : p5.l = spellN len 1) (hl : l.length = len) : allN [p1, p2, p3, p4, p5, ⟨a, len, cap, l⟩, ⟨z, zl, zc, List.replicate (240 - len) 0⟩] 7 = partBs number k count l := by
  simp [allN, e1, e2, e3, e4, e5, partBs, hl]
theorem ok2 {w : World} {p1 p2 : Part} (h1 : p1.ok w) (h2 : p2.ok w) : ∀ p ∈ [p1, p2], p.ok w := by
  intro p hp
  simp at hp
  rcases hp with rfl | rfl <;> assumption
theorem all2 {p1 p2 : Part} {number k count : Nat} {l : List Nat} (e1 : p1.l = partBs number k count l) (e2 : p2.l = spellN (crc p1.l) 4) : allN [p1, p2] 2 = partN number k count l := by
  rw [e1] at e2
  simp [allN, e1, e2, partN]
theorem hide {p : Prop} (h : p) : Hid p := h
theorem all7z {p1 p2 p3 p4 p5 : Part} {number k count : Nat} {a z : Option Addr} {len cap zl : Nat} {l : List Nat} (e1 : p1.l = spellN 165 1) (e2 : p2.l = spellN number 6) (e3 : p3.l = spellN k 2) (e4 : p4.l = spellN count 2) (e5 : p5.l = spellN len 1) (hl : l.length = len) (hz : 240 - len = zl) : allN [p1, p2, p3, p4, p5, ⟨a, len, cap, l⟩, ⟨z, zl, zl, List.replicate zl 0⟩] 7 = partBs number k count l := by
  subst hz
  exact all7 e1 e2 e3 e4 e5 hl
theorem concat_at2 (ps : List Part) (w0 : World) (cs : Array Value) (g m c : Nat) (hg : g = w0.heap.size) (hcs : cs = (ps.map fun p => Value.slice p.ad p.len p.cap).toArray) (hm : ps.length = m) (hok : ∀ p ∈ ps, p.ok w0) (htot : (allN ps m).length ≤ 1000000) (hmm : m ≤ 1000) :
    Calls Try.prog 50 #[.slice (some ⟨g, 0, none⟩) m c] (w0.alloc (.cells cs 34)) fun e w' => ∃ p : Part, e = .returned (.slice p.ad p.len p.cap) ∧ Hid (p.l = allN ps m) ∧ Hid (Own w' w0.heap.size (.slice p.ad p.len p.cap) (allN ps m)) ∧ Hid (p.ok w') ∧ Below w0.heap.size w0 w' := by
  subst hg
  exact concat_at ps w0 cs hcs m c hm hok htot hmm
theorem len7 {p1 p2 p3 p4 p5 : Part} {number k count : Nat} {a z : Option Addr} {len cap zl : Nat} {l : List Nat} (e1 : p1.l = spellN 165 1) (e2 : p2.l = spellN number 6) (e3 : p3.l = spellN k 2) (e4 : p4.l = spellN count 2) (e5 : p5.l = spellN len 1) (hl : l.length = len) (hz : 240 - len = zl) (hlen : len ≤ 240) : (allN [p1, p2, p3, p4, p5, ⟨a, len, cap, l⟩, ⟨z, zl, zl, List.replicate zl 0⟩] 7).length ≤ 1000000 := by
  subst hz
  rw [all7 e1 e2 e3 e4 e5 hl, partBs_length _ _ _ _ (by omega)]
  omega
theorem mem7 {w W : World} {p1 p2 p3 p4 p5 p6 p7 : Part} {ps : List Part} (h : Cur w W ps) (h1 : p1 ∈ ps := by simp) (h2 : p2 ∈ ps := by simp) (h3 : p3 ∈ ps := by simp) (h4 : p4 ∈ ps := by simp) (h5 : p5 ∈ ps := by simp) (h6 : p6 ∈ ps := by simp) (h7 : p7 ∈ ps := by simp) : ∀ p ∈ [p1, p2, p3, p4, p5, p6, p7], p.ok W := by
  intro p hp
  simp at hp
  rcases hp with rfl | rfl | rfl | rfl | rfl | rfl | rfl <;> (apply h.2; assumption)
set_option maxRecDepth 100000 in
set_option maxHeartbeats 8000000 in
theorem tell_any (number k count : Nat) (ad : Option Addr) (len cap : Nat) (l : List Nat) (w : World) (hn : number < 281474976710656) (hk : k < 65536) (hc : count < 65536) (ha : Part.ok w ⟨ad, len, cap, l⟩) (hlen : len ≤ 240) :
    Calls Try.prog 49 #[.int .i64 (number : Int), .int .i64 (k : Int), .int .i64 (count : Int), .slice ad len cap] w fun e w' => ∃ p : Part, e = .returned (.slice p.ad p.len p.cap) ∧ Hid (p.l = partN number k count l) ∧ Hid (p.ok w') ∧ Hid (Own w' w.heap.size (.slice p.ad p.len p.cap) (partN number k count l)) ∧ Below w.heap.size w w' := by
  have HL : Hid (l.length = len) := ha.1
  obtain ⟨z, hz⟩ : ∃ z, 240 - len = z := ⟨_, rfl⟩
  have hz2 : (240 : Int) - (len : Int) = (z : Int) := by omega
  have hz3 : IntKind.i64.wrap (z : Int) = (z : Int) := by rw [IntKind.wrap_i64]; omega
  have hz4 : IntKind.i64.wrap (240 - (len : Int)) = (z : Int) := by rw [IntKind.wrap_i64]; omega
  obtain ⟨ZB, hZB⟩ : ∃ ZB : Obj, ZB = .cells (madeCells #[Value.int .u8 0] z) 5 := ⟨_, rfl⟩
  have hmk : ∀ W : World, (Instr.makeSlice 34 (.int .i64 (z : Int)) (.int .i64 (z : Int))).run Try.prog W = .ok (.slice (some ⟨W.heap.size, 0, none⟩) z z) (W.alloc ZB) := fun W => by
    rw [hZB]
    exact run_make_row' 34 5 (.int .u8 0) 1 Try.underlying34 Try.info5 rfl .i64 .i64 z (by omega) (by omega) W
  have HZ : Hid (∀ W : World, Part.ok (W.alloc ZB) ⟨some ⟨W.heap.size, 0, none⟩, z, z, List.replicate z 0⟩) := (show Hid _ from fun W => by rw [hZB]; exact made_ok W z (by omega))
  have HC : Hid (Cur w w.drew [⟨ad, len, cap, l⟩]) := (show Hid _ from ⟨(Below.refl _ w).drew, fun p hp => by simp at hp; rw [hp]; exact ha.later ((Below.refl _ w).drew)⟩)
  clear ha hZB
  go_enter Try.func49, Try.ntmps49
  go_wp2_with fail
  go_region_held3 (fun _ => True) (exact trivial)
    (first
      | (go_at_call 51; (with_reducible_and_instances (refine (sspell_at 165 1 _ rfl rfl (by omega) (by omega) (by omega)).mono ?_)); rintro e w1 ⟨p1, rfl, e1, k1, b1⟩; have E1 : Hid (p1.l = spellN 165 1) := e1; (first | (have HC1 := hide (HC.out.step b1 k1.out)) | (have HC1 := hide ((HC.out.make HZ.out).step b1 k1.out))); clear b1 k1 e1)
      | (go_at_call 51; (with_reducible_and_instances (refine (sspell_at number 6 _ rfl rfl (by omega) (by omega) (by omega)).mono ?_)); rintro e w2 ⟨p2, rfl, e2, k2, b2⟩; have E2 : Hid (p2.l = spellN number 6) := e2; (first | (have HC2 := hide (HC1.out.step b2 k2.out)) | (have HC2 := hide ((HC1.out.make HZ.out).step b2 k2.out))); clear b2 k2 e2)
      | (go_at_call 51; (with_reducible_and_instances (refine (sspell_at k 2 _ rfl rfl (by omega) (by omega) (by omega)).mono ?_)); rintro e w3 ⟨p3, rfl, e3, k3, b3⟩; have E3 : Hid (p3.l = spellN k 2) := e3; (first | (have HC3 := hide (HC2.out.step b3 k3.out)) | (have HC3 := hide ((HC2.out.make HZ.out).step b3 k3.out))); clear b3 k3 e3)
      | (go_at_call 51; (with_reducible_and_instances (refine (sspell_at count 2 _ rfl rfl (by omega) (by omega) (by omega)).mono ?_)); rintro e w4 ⟨p4, rfl, e4, k4, b4⟩; have E4 : Hid (p4.l = spellN count 2) := e4; (first | (have HC4 := hide (HC3.out.step b4 k4.out)) | (have HC4 := hide ((HC3.out.make HZ.out).step b4 k4.out))); clear b4 k4 e4)
      | (go_at_call 51; (with_reducible_and_instances (refine (sspell_at len 1 _ rfl rfl (by omega) (by omega) (by omega)).mono ?_)); rintro e w5 ⟨p5, rfl, e5, k5, b5⟩; have E5 : Hid (p5.l = spellN len 1) := e5; (first | (have HC5 := hide (HC4.out.step b5 k5.out)) | (have HC5 := hide ((HC4.out.make HZ.out).step b5 k5.out))); clear b5 k5 e5)
      | (go_at_call 50; (with_reducible_and_instances (refine (concat_at2 [p1, p2, p3, p4, p5, ⟨ad, len, cap, l⟩, ⟨some ⟨w.drew.heap.size, 0, none⟩, z, z, List.replicate z 0⟩] w5 _ w5.heap.size 7 7 ?hg ?hcs ?hm ?hok ?hlen ?hmm).mono ?_)); (case hg => rfl); (case hcs => rfl); (case hm => rfl); (case hok => exact mem7 HC5.out); (case hlen => exact len7 E1.out E2.out E3.out E4.out E5.out HL.out hz hlen); (case hmm => omega); rintro e w6 ⟨p6, rfl, e6, o6, k6, b6⟩; have E6 : Hid (p6.l = partBs number k count l) := hide (e6.out.trans (all7z E1.out E2.out E3.out E4.out E5.out HL.out hz)); have K6 : Hid (p6.ok w6) := k6; have B6 : Hid (Below w.heap.size w w6) := hide (HC5.out.1.trans (b6.mono HC5.out.1.size)); clear e6 o6 k6 b6)
      | (go_at_call 50; (with_reducible_and_instances (refine (concat_at2 [p1, p2, p3, p4, p5, ⟨ad, len, cap, l⟩, ⟨some ⟨w1.heap.size, 0, none⟩, z, z, List.replicate z 0⟩] w5 _ w5.heap.size 7 7 ?hg ?hcs ?hm ?hok ?hlen ?hmm).mono ?_)); (case hg => rfl); (case hcs => rfl); (case hm => rfl); (case hok => exact mem7 HC5.out); (case hlen => exact len7 E1.out E2.out E3.out E4.out E5.out HL.out hz hlen); (case hmm => omega); rintro e w6 ⟨p6, rfl, e6, o6, k6, b6⟩; have E6 : Hid (p6.l = partBs number k count l) := hide (e6.out.trans (all7z E1.out E2.out E3.out E4.out E5.out HL.out hz)); have K6 : Hid (p6.ok w6) := k6; have B6 : Hid (Below w.heap.size w w6) := hide (HC5.out.1.trans (b6.mono HC5.out.1.size)); clear e6 o6 k6 b6)
      | (go_at_call 50; (with_reducible_and_instances (refine (concat_at2 [p1, p2, p3, p4, p5, ⟨ad, len, cap, l⟩, ⟨some ⟨w2.heap.size, 0, none⟩, z, z, List.replicate z 0⟩] w5 _ w5.heap.size 7 7 ?hg ?hcs ?hm ?hok ?hlen ?hmm).mono ?_)); (case hg => rfl); (case hcs => rfl); (case hm => rfl); (case hok => exact mem7 HC5.out); (case hlen => exact len7 E1.out E2.out E3.out E4.out E5.out HL.out hz hlen); (case hmm => omega); rintro e w6 ⟨p6, rfl, e6, o6, k6, b6⟩; have E6 : Hid (p6.l = partBs number k count l) := hide (e6.out.trans (all7z E1.out E2.out E3.out E4.out E5.out HL.out hz)); have K6 : Hid (p6.ok w6) := k6; have B6 : Hid (Below w.heap.size w w6) := hide (HC5.out.1.trans (b6.mono HC5.out.1.size)); clear e6 o6 k6 b6)
      | (go_at_call 50; (with_reducible_and_instances (refine (concat_at2 [p1, p2, p3, p4, p5, ⟨ad, len, cap, l⟩, ⟨some ⟨w3.heap.size, 0, none⟩, z, z, List.replicate z 0⟩] w5 _ w5.heap.size 7 7 ?hg ?hcs ?hm ?hok ?hlen ?hmm).mono ?_)); (case hg => rfl); (case hcs => rfl); (case hm => rfl); (case hok => exact mem7 HC5.out); (case hlen => exact len7 E1.out E2.out E3.out E4.out E5.out HL.out hz hlen); (case hmm => omega); rintro e w6 ⟨p6, rfl, e6, o6, k6, b6⟩; have E6 : Hid (p6.l = partBs number k count l) := hide (e6.out.trans (all7z E1.out E2.out E3.out E4.out E5.out HL.out hz)); have K6 : Hid (p6.ok w6) := k6; have B6 : Hid (Below w.heap.size w w6) := hide (HC5.out.1.trans (b6.mono HC5.out.1.size)); clear e6 o6 k6 b6)
      | (go_at_call 50; (with_reducible_and_instances (refine (concat_at2 [p1, p2, p3, p4, p5, ⟨ad, len, cap, l⟩, ⟨some ⟨w4.heap.size, 0, none⟩, z, z, List.replicate z 0⟩] w5 _ w5.heap.size 7 7 ?hg ?hcs ?hm ?hok ?hlen ?hmm).mono ?_)); (case hg => rfl); (case hcs => rfl); (case hm => rfl); (case hok => exact mem7 HC5.out); (case hlen => exact len7 E1.out E2.out E3.out E4.out E5.out HL.out hz hlen); (case hmm => omega); rintro e w6 ⟨p6, rfl, e6, o6, k6, b6⟩; have E6 : Hid (p6.l = partBs number k count l) := hide (e6.out.trans (all7z E1.out E2.out E3.out E4.out E5.out HL.out hz)); have K6 : Hid (p6.ok w6) := k6; have B6 : Hid (Below w.heap.size w w6) := hide (HC5.out.1.trans (b6.mono HC5.out.1.size)); clear e6 o6 k6 b6)
      | (go_at_call 50; (with_reducible_and_instances (refine (concat_at2 [p1, p2, p3, p4, p5, ⟨ad, len, cap, l⟩, ⟨some ⟨w5.heap.size, 0, none⟩, z, z, List.replicate z 0⟩] (w5.alloc ZB) _ (w5.heap.size + 1) 7 7 ?hg ?hcs ?hm ?hok ?hlen ?hmm).mono ?_)); (case hg => simp); (case hcs => rfl); (case hm => rfl); (case hok => exact mem7 (HC5.out.make HZ.out)); (case hlen => exact len7 E1.out E2.out E3.out E4.out E5.out HL.out hz hlen); (case hmm => omega); rintro e w6 ⟨p6, rfl, e6, o6, k6, b6⟩; have E6 : Hid (p6.l = partBs number k count l) := hide (e6.out.trans (all7z E1.out E2.out E3.out E4.out E5.out HL.out hz)); have K6 : Hid (p6.ok w6) := k6; have B6 : Hid (Below w.heap.size w w6) := hide ((HC5.out.make HZ.out).1.trans (b6.mono (HC5.out.make HZ.out).1.size)); clear e6 o6 k6 b6))
  all_goals
    have hc6 := crc_lt p6.l
    have h6l : p6.len ≤ 252 := by rw [← K6.out.1, E6.out, partBs_length _ _ _ _ (by have := HL.out; omega)]; omega
    clear HC HZ E1 E2 E3 E4 E5 hmk
    go_wp2_with fail
    refine (crc_any p6.ad p6.len p6.cap p6.l _ K6.out.1 (by unfold maxLen; omega) K6.out.2.2).mono ?_
    rintro e w7 ⟨rfl, b7⟩
    go_wp2_with fail
    refine (sspell_at (crc p6.l) 4 _ rfl rfl (by omega) (by omega) (by omega)).mono ?_
    rintro e w8 ⟨p8, rfl, e8, k8, b8⟩
    have b78 : Below w6.heap.size w6 w8 := b7.trans (b8.mono b7.size)
    have B8 : Hid (Below w.heap.size w w8) := hide (B6.out.trans (b78.mono B6.out.size))
    have OK8 : Hid (∀ p ∈ [p6, p8], p.ok w8) := hide (ok2 (K6.out.later b78) k8.out)
    have E8 : Hid (allN [p6, p8] 2 = partN number k count l) := hide (all2 E6.out e8.out)
    clear b7 b8 b78 e8 k8 K6 B6 hc6 h6l
    go_wp2_with fail
    refine (concat_at [p6, p8] w8 _ rfl 2 2 rfl OK8.out (by rw [E8.out, partN_length _ _ _ _ (by have := HL.out; omega)]; omega) (by omega)).mono ?_
    rintro e w9 ⟨p9, rfl, e9, o9, k9, b9⟩
    go_wp2_with fail
    go_ret
    exact ⟨p9, rfl, hide (e9.out.trans E8.out), k9, hide (own4 o9.out E8.out B8.out.size), B8.out.trans (b9.mono B8.out.size)⟩
end Go.Proofs.Ytoopnafdpenofaa
