/- What DiskChoices of package law03 answers: true. -/
import Derived.Test.YtofpojfkooigiaaChoicesM
import Derived.Deep.RegionWith
namespace Go.Proofs.Ytofpojfkooigiaa
open Go.RowKit

/-- Bytes full of one, of a byte that is a number. -/
theorem full_int (c : Int) (h0 : 0 ≤ c) (h1 : c < 256) (w : World) :
    Calls Try.prog 22 #[.int .u8 c] w fun e w' => ∃ g, e = .returned (.slice (some ⟨g, 0, none⟩) 256 256) ∧ Part.ok w' ⟨some ⟨g, 0, none⟩, 256, 256, fullN c.toNat⟩ ∧ Below w.heap.size w w' := by
  obtain ⟨n, rfl⟩ := Int.eq_ofNat_of_zero_le h0
  refine (full_any n (by omega) w).mono ?_
  rintro e w' ⟨g, rfl, o, b⟩
  exact ⟨g, rfl, own256 o, b⟩
set_option maxRecDepth 100000 in
set_option maxHeartbeats 4000000 in
theorem diskChoices_any (ad : Option Addr) (len cap : Nat) (l : List Nat) (c : Int) (w : World) (hp : Part.ok w ⟨ad, len, cap, l⟩) (hl : len ≤ 1073741824) (hc1 : -9223372036854775808 ≤ c) (hc2 : c ≤ 9223372036854775807) :
    Calls Try.prog 7 #[.slice ad len cap, .int .i64 c] w fun e w' => e = .returned (.bool true) ∧ Below w.heap.size w w' := by
  have HA : Hid (Part.ok w ⟨ad, len, cap, l⟩) := hp
  have HLL : Hid (l.length = len) := hp.1
  clear hp
  go_enter Try.func7, Try.ntmps7
  go_wp2_with fail
  refine (At.new 3 w (by omega) (by omega)).mono ?_
  rintro x w1 ⟨D, rfl, hA1, hb1⟩
  have A1 : Hid (At w.heap.size w1 D (newD 3)) := hA1
  have B1 : Hid (Below w.heap.size w w1) := hb1
  clear hA1 hb1
  go_wp2_with (first
    | (go_at_call 11; refine (num3_any _ _).mono ?_; rintro e w' ⟨rfl, hw'⟩; obtain rfl := hw'.symm))
  refine (knows3_any _).mono ?_
  rintro e w2 ⟨rfl, b2⟩
  have A2 : Hid (At w.heap.size w2 D (newD 3)) := A1.out.later b2
  have B2 : Hid (Below w.heap.size w w2) := B1.out.trans (b2.mono B1.out.size)
  clear b2 A1 B1
  go_wp2_with fail
  refine (full_any 99 (by omega) _).mono ?_
  rintro e w3 ⟨g3, rfl, o3, b3⟩
  have O3 : Hid (Part.ok w3 ⟨some ⟨g3, 0, none⟩, 256, 256, fullN 99⟩) := own256 o3
  have A3 : Hid (At w.heap.size w3 D (newD 3)) := A2.out.later b3
  have B3 : Hid (Below w.heap.size w w3) := B2.out.trans (b3.mono B2.out.size)
  clear o3 b3 A2 B2
  go_wp2_with fail
  refine (A3.out.write B3.out.size (newD_few 3) 1 _ 256 256 (fullN 99) O3.out).mono ?_
  rintro e w4 ⟨rfl, a4, b4⟩
  have A4 : Hid (At w.heap.size w4 D (writeD (newD 3) 1 (fullN 99)).2) := a4
  have B4 : Hid (Below w.heap.size w w4) := B3.out.trans b4
  rw [stC_zero1]
  clear a4 b4 A3 B3 O3
  go_wp2_with (go_at_call 11; refine (num3_any _ _).mono ?_; rintro e w' ⟨rfl, hw'⟩; obtain rfl := hw'.symm)
  refine (A4.out.sync B4.out.size).mono ?_
  rintro e w5 ⟨rfl, a5, b5⟩
  rw [stC_zero2] at a5 ⊢
  have A5 : Hid (At w.heap.size w5 D (stC [])) := a5
  have B5 : Hid (Below w.heap.size w w5) := B4.out.trans b5
  clear a5 b5 A4 B4
  by_cases h0 : len = 0
  · subst h0
    go_wp2_with (go_at_call 11; refine (num3_any _ _).mono ?_; rintro e w' ⟨rfl, hw'⟩; obtain rfl := hw'.symm)
    go_ret
    exact ⟨rfl, B5.out⟩
  · have hne : ((len : Int) == 0) = false := by simp; omega
    have hpos : 0 < len := by omega
    go_wp2_with (go_at_call 11; refine (num3_any _ _).mono ?_; rintro e w' ⟨rfl, hw'⟩; obtain rfl := hw'.symm)
    go_loopw [7] (fun i wr => ∃ m : Nat, m ≤ len ∧ i = .int .i64 m ∧ Hid (At w.heap.size wr D (stC (fillsV l m))) ∧ Hid (Below w.heap.size w wr)) (fun i _ => len - (intOf i).toNat)
    case atStart => exact ⟨0, by omega, rfl, (show Hid _ from (by rw [fillsV_zero]; exact A5.out)), B5⟩
    case round =>
      obtain ⟨m, hm, rfl, HAm, HBm⟩ := hrel
      clear A5 B5
      by_cases hlt : m < len
      · obtain ⟨b, off, rfl, -, hcell⟩ := (HA.out.later HBm.out).cells (by omega)
        have hcm := hcell m (by omega)
        have hx : l.getD m 0 < 256 := getD_lt HA.out.2.2.1 m
        have HS : Hid (fillsV l (m + 1) = fillsV l m ++ [fullN (l.getD m 0)]) := fillsV_succ l m (by rw [HLL.out]; exact hlt)
        have HF : Hid ((fillsV l m).length = m) := fillsV_len l m (by rw [HLL.out]; omega)
        generalize l.getD m 0 = x at *
        clear hcell
        go_wp2_with fail
        refine (full_any x hx _).mono ?_
        rintro e w6 ⟨g6, rfl, o6, b6⟩
        have O6 : Hid (Part.ok w6 ⟨some ⟨g6, 0, none⟩, 256, 256, fullN x⟩) := own256 o6
        have A6 : Hid (At w.heap.size w6 D (stC (fillsV l m))) := HAm.out.later b6
        have B6 : Hid (Below w.heap.size w w6) := HBm.out.trans (b6.mono HBm.out.size)
        clear o6 b6 HAm HBm
        go_wp2_with fail
        refine (A6.out.write B6.out.size (stC_few _ (by rw [HF.out]; omega)) 1 _ 256 256 (fullN x) O6.out).mono ?_
        rintro e w7 ⟨rfl, a7, b7⟩
        rw [stC_write _ _ (fullN_len x)] at a7 ⊢
        have A7 : Hid (At w.heap.size w7 D (stC (fillsV l (m + 1)))) := (show Hid _ from (by rw [HS.out]; exact a7))
        have B7 : Hid (Below w.heap.size w w7) := B6.out.trans b7
        clear a7 b7 A6 B6 O6
        go_wp2_with (go_at_call 11; refine (num3_any _ _).mono ?_; rintro e w' ⟨rfl, hw'⟩; obtain rfl := hw'.symm)
        refine ⟨⟨m + 1, by omega, by go_num, A7, B7⟩, by simp [intOf]; omega⟩
      · obtain rfl : m = len := by omega
        have HV : Hid (fillsV l m ≠ []) := (show Hid _ from fun e => by have := fillsV_len l m (by rw [HLL.out]; exact Nat.le_refl _); rw [e] at this; simp at this; omega)
        have HF : Hid ((fillsV l m).length = m) := fillsV_len l m (by rw [HLL.out]; exact Nat.le_refl _)
        go_wp2_with fail
        refine (HAm.out.crash ((Below.refl _ wr).alloc (Nat.le_refl _) _) HBm.out.size (some ⟨wr.heap.size, 0, none⟩) 1 1 [c] (ints_new wr [c] (by simp; omega) 1 rfl) (fun b off e _ => by cases e; exact Or.inr (Nat.le_refl _))).mono ?_
        rintro e w6 ⟨rfl, a6, b6⟩
        have A6 : Hid (At w.heap.size w6 D (crashD (stC (fillsV l m)) [c])) := a6
        have B6 : Hid (Below w.heap.size w w6) := (HBm.out.alloc HBm.out.size _).trans b6
        clear a6 b6 HAm HBm
        go_wp2_with fail
        refine (A6.out.read 1).mono ?_
        rintro e w7 ⟨vb, rfl, o7, a7, b7⟩
        rw [choose_read _ HV.out] at o7 ⊢
        have B7 : Hid (Below w.heap.size w w7) := B6.out.trans (b7.mono B6.out.size)
        clear a7 b7 A6 B6
        rw [HF.out] at o7 ⊢
        by_cases hc0 : c = 0
        · subst hc0
          simp only [if_true] at o7 ⊢
          obtain ⟨p7, c7, rfl, q7, -⟩ := o7.slice 256 (fullN_len 99)
          have O7 : Hid (Part.ok w7 ⟨p7, 256, c7, fullN 99⟩) := q7
          clear o7 q7
          have CV : Hid (∀ W, Below w7.heap.size w7 W → (convert 32 9 (.slice p7 256 c7)).run Try.prog W = .ok (.string (bstr (fullN 99))) W) :=
            (show Hid _ from fun W hW => conv_any (O7.out.later hW).2.2 256 c7 (fullN_len 99))
          obtain ⟨t, ht⟩ : ∃ t, bstr (fullN 99) = t := ⟨_, rfl⟩
          rw [ht] at CV
          have T : Hid (bstr (fullN 99) = t) := ht
          clear ht O7
          have D7 : Hid (Below w7.heap.size w7 w7.drew) := (show Hid _ from (Below.refl _ w7).drew)
          have cv := CV.out _ D7.out
          go_wp2_with fail
          go_region_with (first
            | (go_at_call 11; refine (num3_any _ _).mono ?_; rintro e w' ⟨rfl, hw'⟩; obtain rfl := hw'.symm)
            | (go_at_call 22; refine (full_any 99 (by omega) _).mono ?_; rintro e w9 ⟨g9, rfl, o9, b9⟩; have B9 : Hid (Below w7.heap.size w7 w9) := D7.out.trans (b9.mono D7.out.size); have cv9 := CV.out _ B9.out; have cn9 := conv_any (own256 o9).2.2 256 256 (fullN_len 99); rw [T.out] at cn9; clear o9 b9))
          all_goals go_wp2
          all_goals go_ret
          all_goals exact ⟨rfl, B7.out.trans (B9.out.mono B7.out.size)⟩
        · rw [if_neg hc0] at o7 ⊢
          have hcn : (c == 0) = false := by simpa using hc0
          by_cases h1 : 0 < c ∧ c ≤ m
          · rw [if_pos h1] at o7 ⊢
            have ex : (fillsV l m).getD (c.toNat - 1) [] = fullN (l.getD (c.toNat - 1) 0) := by
              have e := HLL.out
              subst e
              exact fillsV_all l _ (by omega)
            rw [ex] at o7
            obtain ⟨b, off, rfl, -, hcell⟩ := (HA.out.later B7.out).cells (by omega)
            have hcx := hcell (c.toNat - 1) (by omega)
            have hx : l.getD (c.toNat - 1) 0 < 256 := getD_lt HA.out.2.2.1 _
            generalize l.getD (c.toNat - 1) 0 = x at *
            obtain ⟨p7, c7, rfl, q7, -⟩ := o7.slice 256 (fullN_len x)
            have O7 : Hid (Part.ok w7 ⟨p7, 256, c7, fullN x⟩) := q7
            have g1 : 0 < c := h1.1
            have g2 : c ≤ (m : Int) := h1.2
            have ew : IntKind.i64.wrap (c - 1) = c - 1 := (by rw [IntKind.wrap_i64]; omega)
            have et : (c - 1).toNat = c.toNat - 1 := by omega
            have g3 : 0 ≤ c - 1 := by omega
            have g4 : c - 1 < (m : Int) := by omega
            have g5 : c.toNat - 1 < m := by omega
            clear o7 q7 hcell ex h1 hc0 HF HV HLL HA
            have CV : Hid (∀ W, Below w7.heap.size w7 W → (convert 32 9 (.slice p7 256 c7)).run Try.prog W = .ok (.string (bstr (fullN x))) W) :=
              (show Hid _ from fun W hW => conv_any (O7.out.later hW).2.2 256 c7 (fullN_len x))
            obtain ⟨t, ht⟩ : ∃ t, bstr (fullN x) = t := ⟨_, rfl⟩
            rw [ht] at CV
            have T : Hid (bstr (fullN x) = t) := ht
            clear ht O7
            have D7 : Hid (Below w7.heap.size w7 w7.drew) := (show Hid _ from (Below.refl _ w7).drew)
            have cv := CV.out _ D7.out
            go_wp2_with fail
            go_region_with (first
              | (go_at_call 11; refine (num3_any _ _).mono ?_; rintro e w' ⟨rfl, hw'⟩; obtain rfl := hw'.symm)
              | (go_at_call 22; refine (full_any x hx _).mono ?_; rintro e w9 ⟨g9, rfl, o9, b9⟩; have B9 : Hid (Below w7.heap.size w7 w9) := D7.out.trans (b9.mono D7.out.size); have cv9 := CV.out _ B9.out; have cn9 := conv_any (own256 o9).2.2 256 256 (fullN_len x); rw [T.out] at cn9; clear o9 b9))
            all_goals go_wp2
            all_goals go_ret
            all_goals exact ⟨rfl, B7.out.trans (B9.out.mono B7.out.size)⟩
          · rw [if_neg h1] at o7 ⊢
            obtain ⟨p7, c7, rfl, q7, -⟩ := o7.slice 0 rfl
            clear o7 q7 HF HV HLL HA hc0
            by_cases h2 : 0 < c
            · have h3 : (m : Int) < c := by omega
              clear h1
              go_wp2_with (go_at_call 11; refine (num3_any _ _).mono ?_; rintro e w' ⟨rfl, hw'⟩; obtain rfl := hw'.symm)
              go_ret
              exact ⟨rfl, B7.out⟩
            · have h3 : c < 0 := by simp at hcn; omega
              clear h1
              go_wp2_with (go_at_call 11; refine (num3_any _ _).mono ?_; rintro e w' ⟨rfl, hw'⟩; obtain rfl := hw'.symm)
              go_ret
              exact ⟨rfl, B7.out⟩
end Go.Proofs.Ytofpojfkooigiaa
