/- What DiskFuses of package law03 answers: true. -/
import Derived.Test.YtofpojfkooigiaaFusesM
import Derived.Test.YtofpojfkooigiaaOpenOps
import Derived.Deep.RegionHeld3
namespace Go.Proofs.Ytofpojfkooigiaa
open Go.RowKit

theorem tmod_bounds (x : Int) (m : Int) (hm : 0 < m) : -m < x.tmod m ∧ x.tmod m < m := by
  have h1 := Int.tmod_lt_of_pos x hm
  have h2 := Int.lt_tmod_of_pos x hm
  exact ⟨h2, h1⟩
/-- '(x%m + m) % m'. -/
theorem mod_two (x m : Int) (hm : 0 < m) : 0 ≤ (x.tmod m + m).tmod m ∧ (x.tmod m + m).tmod m < m := by
  have h := tmod_bounds x m hm
  exact ⟨Int.tmod_nonneg m (by omega), Int.tmod_lt_of_pos _ hm⟩
set_option maxRecDepth 100000 in
set_option maxHeartbeats 4000000 in
theorem diskFuses_any (n : Int) (ad : Option Addr) (len cap : Nat) (os : List OpD) (w : World) (ho : OArg w os ad len) :
    Calls Try.prog 8 #[.int .i64 n, .slice ad len cap] w fun e w' => e = .returned (.bool true) ∧ Below w.heap.size w w' := by
  have HO : Hid (OArg w os ad len) := ho
  have hl := ho.max
  clear ho
  go_enter Try.func8, Try.ntmps8
  go_wp2_with fail
  refine (At.new 4 w (by omega) (by omega)).mono ?_
  rintro x w1 ⟨D, rfl, hA1, hb1⟩
  have A1 : Hid (At w.heap.size w1 D (newD 4)) := hA1
  have B1 : Hid (Below w.heap.size w w1) := hb1
  clear hA1 hb1
  go_wp2_with (first
    | (go_at_call 11; refine (num3_any _ _).mono ?_; rintro e w' ⟨rfl, hw'⟩; obtain rfl := hw'.symm))
  refine (knows3_any _).mono ?_
  rintro e w2 ⟨rfl, b2⟩
  have A2 : Hid (At w.heap.size w2 D (newD 4)) := A1.out.later b2
  have B2 : Hid (Below w.heap.size w w2) := B1.out.trans (b2.mono B1.out.size)
  clear b2 A1 B1
  have hn0 := tmod_bounds n 20 (by omega)
  obtain ⟨N, hN, hN2⟩ : ∃ N : Nat, n.tmod 20 % 20 = (N : Int) ∧ N < 20 := ⟨(n.tmod 20 % 20).toNat, by omega, by omega⟩
  have hN' : (n.tmod 20 + 20) % 20 = (N : Int) := by omega
  go_wp2_with fail
  (try rw [hN'])
  clear hN hN' hn0
  refine (A2.out.cut B2.out.size N (by omega)).mono ?_
  rintro e w3 ⟨rfl, a3, b3⟩
  have A3 : Hid (∃ s, Fz s 0 N ∧ At w.heap.size w3 D s) := (show Hid _ from ⟨_, fz_start N, a3⟩)
  have B3 : Hid (Below w.heap.size w w3) := B2.out.trans b3
  clear a3 b3 A2 B2
  go_wp2_with fail
  go_loopw [7, 8] (fun dn i wr => ∃ m : Nat, m ≤ len ∧ i = .int .i64 m ∧ dn = .int .i64 (min m N : Nat) ∧ Hid (∃ s, Fz s m N ∧ At w.heap.size wr D s) ∧ Hid (Below w.heap.size w wr)) (fun _ i _ => len - (intOf i).toNat)
  case atStart => exact ⟨0, by omega, rfl, by simp, A3, B3⟩
  case round =>
    obtain ⟨m, hm, rfl, rfl, HAm, HBm⟩ := hrel
    clear A3 B3
    by_cases hlt : m < len
    · obtain ⟨s, hz, ha⟩ := HAm.out
      have HZ : Hid (Fz s m N) := hz
      have HA : Hid (At w.heap.size wr D s) := ha
      obtain ⟨b, off, rfl, hok, hcell⟩ := HO.out.cells HBm.out hlt
      have q0 := hcell 0 (by omega)
      have q1 := hcell 1 (by omega)
      have q4 := hcell 4 (by omega)
      have hfill := hok.fill
      have hi1 := hok.i1
      have hi2 := hok.i2
      simp only [opV, List.getElem?_cons_zero, List.getElem?_cons_succ, Nat.add_zero] at q0 q1 q4
      generalize hkd : (os.getD m op0).kind = kd at *
      generalize hix : (os.getD m op0).i = ix at *
      generalize hfl : (os.getD m op0).fill = fl at *
      have HI : Hid ((os.getD m op0).i = ix) := hix
      have HFL : Hid ((os.getD m op0).fill = fl) := hfl
      clear hkd hix hfl
      clear hcell hok hz ha HAm
      obtain ⟨mn, hmn⟩ : ∃ mn : Nat, min m N = mn := ⟨_, rfl⟩
      have hmn1 : mn ≤ m := by omega
      have hmn2 : mn ≤ N := by omega
      have hmn3 : m < N → mn = m := by omega
      have hmn4 : N ≤ m → mn = N := by omega
      have hmn5 : m < N → min (m + 1) N = mn + 1 := by omega
      have hmn6 : N ≤ m → min (m + 1) N = mn := by omega
      rw [hmn]
      clear hmn
      by_cases hk : kd = 1
      · subst hk
        go_wp2_with fail
        refine (HA.out.sync HBm.out.size).mono ?_
        rintro e w4 ⟨rfl, a4, b4⟩
        obtain ⟨r1, r2⟩ := fz_sync HZ.out
        rw [r1]
        have A4 : Hid (∃ s, Fz s (m + 1) N ∧ At w.heap.size w4 D s) := (show Hid _ from ⟨_, r2, a4⟩)
        have B4 : Hid (Below w.heap.size w w4) := HBm.out.trans b4
        clear a4 b4 r1 r2 HZ HA HBm
        by_cases hmN : m < N
        · rw [if_pos hmN]
          obtain rfl := hmn3 hmN
          have e1 := hmn5 hmN
          go_wp2_with (go_at_call 11; refine (num3_any _ _).mono ?_; rintro e w' ⟨rfl, hw'⟩; obtain rfl := hw'.symm)
          refine ⟨⟨mn + 1, by omega, by go_num, by rw [e1]; go_num, A4, B4⟩, by simp [intOf]; omega⟩
        · rw [if_neg hmN]
          have e1 := hmn6 (by omega)
          obtain rfl := hmn4 (by omega)
          go_wp2_with (go_at_call 11; refine (num3_any _ _).mono ?_; rintro e w' ⟨rfl, hw'⟩; obtain rfl := hw'.symm)
          refine ⟨⟨m + 1, by omega, by go_num, by rw [e1], A4, B4⟩, by simp [intOf]; omega⟩
      · have hkn : (kd == 1) = false := by simpa using hk
        have hq0 := tmod_bounds ix 4 (by omega)
        obtain ⟨K, hK, hK2⟩ : ∃ K : Nat, ix.tmod 4 % 4 = (K : Int) ∧ K < 4 := ⟨(ix.tmod 4 % 4).toNat, by omega, by omega⟩
        have hK' : (ix.tmod 4 + 4) % 4 = (K : Int) := by omega
        have hK3 : (ix.tmod 4 + 4).tmod 4 = (K : Int) := by rw [Int.tmod_eq_emod_of_nonneg (by omega)]; exact hK'
        have hK4 : IntKind.i64.wrap (ix.tmod 4 + 4) = ix.tmod 4 + 4 := by rw [IntKind.wrap_i64]; omega
        have hK5 : IntKind.i64.wrap (ix.tmod 4) = ix.tmod 4 := by rw [IntKind.wrap_i64]; omega
        have hK6 : IntKind.i64.wrap (K : Int) = (K : Int) := by rw [IntKind.wrap_i64]; omega
        have HS : Hid (∀ W, Below w.heap.size w W → W.cell? ⟨b, off + m * 6 + 1, none⟩ = some (.int .i64 ix) ∧ W.cell? ⟨b, off + m * 6 + 4, none⟩ = some (.int .u8 (fl : Nat))) := (show Hid _ from fun W hW => by
          obtain ⟨b', off', e, -, hc⟩ := HO.out.cells hW hlt
          cases e
          have z1 : W.cell? ⟨b, off + m * 6 + 1, none⟩ = some (.int .i64 (os.getD m op0).i) := hc 1 (by omega)
          have z4 : W.cell? ⟨b, off + m * 6 + 4, none⟩ = some (.int .u8 ((os.getD m op0).fill : Nat)) := hc 4 (by omega)
          rw [HI.out] at z1
          rw [HFL.out] at z4
          exact ⟨z1, z4⟩)
        have BD : Hid (Below w.heap.size w wr.drew) := (show Hid _ from HBm.out.drew)
        have AD : Hid (At w.heap.size wr.drew D s) := HA.out.later ((Below.refl _ wr).drew)
        have HU : Hid (s.few) := HZ.out.up.few (by omega)
        go_wp2_with fail
        go_region_held3 (fun W => W.cell? ⟨b, off + m * 6 + 1, none⟩ = some (.int .i64 ix) ∧ W.cell? ⟨b, off + m * 6 + 4, none⟩ = some (.int .u8 (fl : Nat)))
          (first | exact HS.out _ BD.out | exact HS.out _ B5.out | exact HS.out _ B6.out)
          (first
            | (go_at_call 22; refine (full_any fl hfill _).mono ?_; rintro e w5 ⟨g5, rfl, o5, b5⟩; have O5 : Hid (Part.ok w5 ⟨some ⟨g5, 0, none⟩, 256, 256, fullN fl⟩) := own256 o5; have A5 : Hid (At w.heap.size w5 D s) := AD.out.later b5; have B5 : Hid (Below w.heap.size w w5) := BD.out.trans (b5.mono BD.out.size); clear o5 b5)
            | (go_at_call 17; (with_reducible_and_instances (refine (A5.out.write B5.out.size HU.out (K : Int) _ 256 256 (fullN fl) O5.out).mono ?_)); rintro e w6 ⟨rfl, a6, b6⟩; have A6 : Hid (At w.heap.size w6 D (writeD s K (fullN fl)).2) := a6; have B6 : Hid (Below w.heap.size w w6) := B5.out.trans b6; clear a6 b6))
        obtain ⟨r1, r2⟩ := fz_write HZ.out K hK2 (fullN fl) (fullN_len fl)
        rw [r1]
        have A7 : Hid (∃ s, Fz s (m + 1) N ∧ At w.heap.size w6 D s) := (show Hid _ from ⟨_, r2, A6.out⟩)
        clear r1 r2 HZ HA HBm A6 A5 B5 AD BD HS q0 q1 q4
        by_cases hmN : m < N
        · rw [if_pos hmN]
          obtain rfl := hmn3 hmN
          have e1 := hmn5 hmN
          go_wp2_with (go_at_call 11; refine (num3_any _ _).mono ?_; rintro e w' ⟨rfl, hw'⟩; obtain rfl := hw'.symm)
          refine ⟨⟨mn + 1, by omega, by go_num, by rw [e1]; go_num, A7, B6⟩, by simp [intOf]; omega⟩
        · rw [if_neg hmN]
          have e1 := hmn6 (by omega)
          obtain rfl := hmn4 (by omega)
          go_wp2_with (go_at_call 11; refine (num3_any _ _).mono ?_; rintro e w' ⟨rfl, hw'⟩; obtain rfl := hw'.symm)
          refine ⟨⟨m + 1, by omega, by go_num, by rw [e1], A7, B6⟩, by simp [intOf]; omega⟩
    · obtain rfl : m = len := by omega
      obtain ⟨s, hz, ha⟩ := HAm.out
      have HA : Hid (At w.heap.size wr D s) := ha
      have hoff : s.off = decide (N < m) := hz.off
      clear hz ha HAm HO
      have hdown := HA.out.isDown
      rw [hoff] at hdown
      go_wp2_with (go_at_call 19; refine hdown.mono ?_; rintro e w' ⟨rfl, hw'⟩; obtain rfl := hw'.symm)
      refine (HA.out.crash (Below.refl _ _) HBm.out.size none 0 0 [] ⟨rfl, Or.inl rfl, by simp⟩ (fun b off e => by cases e)).mono ?_
      rintro e w4 ⟨rfl, a4, b4⟩
      have A4 : Hid (At w.heap.size w4 D (crashD s [])) := a4
      have B4 : Hid (Below w.heap.size w w4) := HBm.out.trans b4
      clear a4 b4 HA HBm hdown
      have hd4 : Calls Try.prog 19 #[.pointer (some ⟨D, 0, none⟩)] w4 fun x w' => x = .returned (.bool false) ∧ w' = w4 := A4.out.isDown
      go_wp2_with (go_at_call 19; refine hd4.mono ?_; rintro e w' ⟨rfl, hw'⟩; obtain rfl := hw'.symm)
      refine (A4.out.sync B4.out.size).mono ?_
      rintro e w5 ⟨rfl, a5, b5⟩
      rw [crash_sync]
      have B5 : Hid (Below w.heap.size w w5) := B4.out.trans b5
      clear a5 b5
      go_wp2_with (go_at_call 11; refine (num3_any _ _).mono ?_; rintro e w' ⟨rfl, hw'⟩; obtain rfl := hw'.symm)
      go_ret
      exact ⟨rfl, B5.out⟩
end Go.Proofs.Ytofpojfkooigiaa
