/- What DiskSynced of package law03 answers: true. -/
import Derived.Test.YtofpojfkooigiaaSyncedI
namespace Go.Proofs.Ytofpojfkooigiaa
open Go.RowKit

set_option maxRecDepth 100000 in
set_option maxHeartbeats 2000000 in
theorem diskSynced_any (ad : Option Addr) (len cap : Nat) (os : List OpD) (bd : Option Addr) (blen bcap : Nat) (cs : List Int) (w : World) (ho : OArg w os ad len) (hlen : len ≤ 1073741824) (hc : IArg w cs bd blen) (hcn : bd = none → blen = 0 ∧ bcap = 0) (hbl : blen ≤ 1073741824) :
    Calls Try.prog 5 #[.slice ad len cap, .slice bd blen bcap] w fun e w' => e = .returned (.bool true) ∧ Below w.heap.size w w' := by
  have HO : Hid (OArg w os ad len) := ho
  have HC : Hid (IArg w cs bd blen) := hc
  have HCN : Hid (bd = none → blen = 0 ∧ bcap = 0) := hcn
  clear ho hc hcn
  go_enter Try.func5, Try.ntmps5
  go_wp2_with fail
  refine (new_ok 6 w (by omega) (by omega)).mono ?_
  rintro x w1 ⟨F, D, rfl, hA1, hF, hb1⟩
  have A1 : Hid (Dk w1 F D (newD 6)) := hA1
  have HF : Hid (∀ g ∈ F, w.heap.size ≤ g) := hF
  have B1 : Hid (Below w.heap.size w w1) := hb1
  clear hA1 hb1 hF
  go_wp2_with (first
    | (go_at_call 11; refine (num3_any _ _).mono ?_; rintro e w' ⟨rfl, hw'⟩; obtain rfl := hw'.symm))
  refine (knows3_any _).mono ?_
  rintro e w2 ⟨rfl, b2⟩
  have A2 : Hid (Dk w2 F D (newD 6)) := A1.out.below b2
  have B2 : Hid (Below w.heap.size w w2) := B1.out.trans (b2.mono B1.out.size)
  clear b2 A1 B1
  obtain ⟨iS, s1, s2, s3, s4⟩ := info_parts Try.infoS
  obtain ⟨iT, t1, t2, t3, t4⟩ := info_parts Try.infoT
  have START := tabs_start w2 A2.out
  simp only at START
  have HST : Hid (Tab (((w2.alloc (.cells (madeCells #[Value.slice none 0 0] 6) 32)).alloc (.cells (madeCells #[Value.slice none 0 0] 6) 32)).alloc (.cells (madeCells #[Value.bool false] 6) 4)) F w2.heap.size 0 (fun _ => 0) (fun _ => 0) ∧ Tab (((w2.alloc (.cells (madeCells #[Value.slice none 0 0] 6) 32)).alloc (.cells (madeCells #[Value.slice none 0 0] 6) 32)).alloc (.cells (madeCells #[Value.bool false] 6) 4)) F (w2.heap.size + 1) 0 (fun _ => 0) (fun _ => 0) ∧ Bools (((w2.alloc (.cells (madeCells #[Value.slice none 0 0] 6) 32)).alloc (.cells (madeCells #[Value.slice none 0 0] 6) 32)).alloc (.cells (madeCells #[Value.bool false] 6) 4)) F (w2.heap.size + 2) (fun _ => false) ∧ Dk (((w2.alloc (.cells (madeCells #[Value.slice none 0 0] 6) 32)).alloc (.cells (madeCells #[Value.slice none 0 0] 6) 32)).alloc (.cells (madeCells #[Value.bool false] 6) 4)) F D (newD 6) ∧ Below w2.heap.size w2 (((w2.alloc (.cells (madeCells #[Value.slice none 0 0] 6) 32)).alloc (.cells (madeCells #[Value.slice none 0 0] 6) 32)).alloc (.cells (madeCells #[Value.bool false] 6) 4))) := START
  clear START A2
  go_wp2_with (first
    | (at_make; refine wpList_make_row _ rfl _ _ 49 rfl 32 iS (.slice none 0 0) Try.underlying49 s1 s2 s3 rfl .i64 .i64 6 rfl rfl (by rw [s4]; omega) (by omega) ?_)
    | (at_make; refine wpList_make_row _ rfl _ _ 50 rfl 4 iT (.bool false) Try.underlying50 t1 t2 t3 rfl .i64 .i64 6 rfl rfl (by rw [t4]; omega) (by omega) ?_))
  clear iS s1 s2 s3 s4 iT t1 t2 t3 t4
  obtain ⟨gS, hgS⟩ : ∃ gS, w2.heap.size = gS := ⟨_, rfl⟩
  have hgN : w.heap.size ≤ gS := by rw [← hgS]; exact B2.out.size
  have HGS : Hid (w2.heap.size = gS) := hgS
  rw [hgS]
  clear hgS
  go_loopw [10] (fun i wr => ∃ m : Nat, m ≤ 6 ∧ i = .int .i64 m ∧ Hid (∃ ts su tl la, Tabs wr F D gS (gS + 1) (gS + 2) m (newD 6) ts su tl la (fun _ => false) ∧ ∀ j, j < m → su j = 0 ∧ la j = 0) ∧ Hid (Below w.heap.size w wr)) (fun i _ => 6 - (intOf i).toNat)
  case atStart =>
    have HST' := HST.out
    rw [HGS.out] at HST'
    exact ⟨0, by omega, rfl, (show Hid _ from ⟨_, _, _, _, ⟨HST'.1, HST'.2.1, HST'.2.2.1, HST'.2.2.2.1, by omega⟩, fun j hj => absurd hj (by omega)⟩), (show Hid _ from B2.out.trans (HST'.2.2.2.2.mono hgN))⟩
  case round =>
    obtain ⟨m, hm, rfl, HTm, HBm⟩ := hrel
    clear HST B2 HGS
    by_cases hlt : m < 6
    · obtain ⟨ts, su, tl, la, hT, hz⟩ := HTm.out
      have HT : Hid (Tabs wr F D gS (gS + 1) (gS + 2) m (newD 6) ts su tl la (fun _ => false)) := hT
      have HZ : Hid (∀ j, j < m → su j = 0 ∧ la j = 0) := hz
      clear hT hz HTm
      go_wp2_with fail
      refine (full_any 0 (by omega) _).mono ?_
      rintro e w3 ⟨x3, rfl, o3, b3⟩
      have T3 : Hid (Tabs w3 F D gS (gS + 1) (gS + 2) m (newD 6) ts su tl la (fun _ => false)) := HT.out.later b3
      have B3 : Hid (Below w.heap.size w w3) := HBm.out.trans (b3.mono HBm.out.size)
      have X3 : Hid (w3.heap[x3]? = some (txtO 0) ∧ x3 ∉ F) := (show Hid _ from ⟨(own_block o3).1, HT.out.disk.fresh (own_block o3).2⟩)
      obtain ⟨u3, hu3⟩ := T3.out.sure.any hlt
      have hf3 := T3.out.sure.free m
      clear o3 b3 HT HBm
      go_wp2_with fail
      have S3 := T3.out.setS hlt X3.out.2 (show 0 < 256 by omega) X3.out.1 (n' := m + 1) (Or.inr ⟨rfl, rfl⟩)
      refine (full_any 0 (by omega) _).mono ?_
      rintro e w4 ⟨x4, rfl, o4, b4⟩
      have b34 : Below (w3.setCell ⟨gS, m, none⟩ (tv x3)).heap.size (w3.setCell ⟨gS, m, none⟩ (tv x3)) w4 := b4
      have T4 : Hid (Tab w4 F gS (m + 1) (updF ts m x3) (updF su m 0) ∧ Tab w4 F (gS + 1) m tl la ∧ Bools w4 F (gS + 2) (fun _ => false) ∧ Dk w4 F D (newD 6)) := (show Hid _ from ⟨S3.1.later b34, S3.2.1.later b34, S3.2.2.1.later b34, S3.2.2.2.below b34⟩)
      have B4 : Hid (Below w.heap.size w w4) := (show Hid _ from (below_set B3.out hgN m (tv x3)).trans (b34.mono (by have := (below_set B3.out hgN m (tv x3)).size; exact this)))
      have X4 : Hid (w4.heap[x4]? = some (txtO 0) ∧ x4 ∉ F) := (show Hid _ from ⟨(own_block o4).1, S3.2.2.2.fresh (own_block o4).2⟩)
      obtain ⟨u4', hu4⟩ := T4.out.2.1.any hlt
      have hf4 := T4.out.2.1.free m
      clear o4 b4 b34 S3 T3 X3 B3
      go_wp2_with fail
      have S4 := Tabs.setL T4.out.1 T4.out.2.1 T4.out.2.2.1 T4.out.2.2.2 (by omega) hlt X4.out.2 (show 0 < 256 by omega) X4.out.1 (n' := m + 1) (Or.inr ⟨rfl, rfl⟩)
      refine ⟨⟨m + 1, by omega, by go_num, (show Hid _ from ⟨_, _, _, _, ⟨S4.1, S4.2.1, S4.2.2.1, S4.2.2.2, by omega⟩, fun j hj => ?_⟩), (show Hid _ from below_set B4.out (by omega) m (tv x4))⟩, by simp [intOf]; omega⟩
      unfold updF
      by_cases e : j = m
      · rw [if_pos e, if_pos e]; exact ⟨rfl, rfl⟩
      · rw [if_neg e, if_neg e]; exact HZ.out j (by omega)
    · obtain rfl : m = 6 := by omega
      obtain ⟨ts, su, tl, la, hT, hz⟩ := HTm.out
      have HI0 : Hid (∃ F s ts su tl la d, Sy s 0 su la d ∧ Tabs wr F D gS (gS + 1) (gS + 2) 6 s ts su tl la d ∧ ∀ g ∈ F, w.heap.size ≤ g) := (show Hid _ from ⟨F, newD 6, ts, su, tl, la, fun _ => false, sy_start.congr (fun j hj => (hz j hj).1) (fun j hj => (hz j hj).2) (fun _ _ => rfl), hT, HF.out⟩)
      clear hT hz HTm HF
      go_wp2_with fail
      go_loopw [11] (fun i wr => ∃ m : Nat, m ≤ len ∧ i = .int .i64 m ∧ Hid (∃ F s ts su tl la d, Sy s m su la d ∧ Tabs wr F D gS (gS + 1) (gS + 2) 6 s ts su tl la d ∧ ∀ g ∈ F, w.heap.size ≤ g) ∧ Hid (Below w.heap.size w wr)) (fun i _ => len - (intOf i).toNat)
      case atStart => exact ⟨0, by omega, rfl, HI0, HBm⟩
      case round =>
        obtain ⟨m, hm2, rfl, HIm, HBm2⟩ := hrel
        clear HI0 HBm
        by_cases hlt2 : m < len
        · obtain ⟨F2, s, ts2, su2, tl2, la2, d2, hy, hT, hF2⟩ := HIm.out
          have HY : Hid (Sy s m su2 la2 d2) := hy
          have HT : Hid (Tabs wr F2 D gS (gS + 1) (gS + 2) 6 s ts2 su2 tl2 la2 d2) := hT
          have HF2 : Hid (∀ g ∈ F2, w.heap.size ≤ g) := hF2
          have HDK : Hid (wr.heap.size ∉ F2) := (show Hid _ from hT.disk.fresh (Nat.le_refl _))
          obtain ⟨b, off, rfl, hok, hcell⟩ := HO.out.cells HBm2.out hlt2
          have q0 := hcell 0 (by omega)
          have q1 := hcell 1 (by omega)
          have q2 := hcell 2 (by omega)
          have q3 := hcell 3 (by omega)
          have q4 := hcell 4 (by omega)
          have q5 := hcell 5 (by omega)
          have hfill := hok.fill
          have hi1 := hok.i1
          have hi2 := hok.i2
          simp only [opV, List.getElem?_cons_zero, List.getElem?_cons_succ, Nat.add_zero] at q0 q1 q2 q3 q4 q5
          generalize (os.getD m op0).kind = kd at *
          generalize (os.getD m op0).i = ix at *
          generalize (os.getD m op0).fill = fl at *
          generalize (os.getD m op0).n = nn at *
          generalize (os.getD m op0).b = ob at *
          generalize (os.getD m op0).blen = obl at *
          generalize (os.getD m op0).bcap = obc at *
          generalize (os.getD m op0).l = ol at *
          generalize (os.getD m op0).llen = oll at *
          generalize (os.getD m op0).lcap = olc at *
          clear hcell hok hy hT hF2 HIm HC HCN
          have hq0 := tmod_bounds ix 6 (by omega)
          obtain ⟨K, hK, hK2⟩ : ∃ K : Nat, ix.tmod 6 % 6 = (K : Int) ∧ K < 6 := ⟨(ix.tmod 6 % 6).toNat, by omega, by omega⟩
          have hK' : (ix.tmod 6 + 6) % 6 = (K : Int) := by omega
          by_cases hk : kd = 1
          · subst hk
            go_wp2_with fail
            have b3 : Below wr.heap.size wr (wr.alloc (.cells #[.int .i64 1, .int .i64 ix, .int .i64 nn, .slice ob obl obc, .int .u8 (fl : Nat), .slice ol oll olc] 35)) := (Below.refl _ wr).alloc (Nat.le_refl _) _
            have T3 := HT.out.later b3
            refine T3.disk.sync.mono ?_
            rintro e w4 ⟨rfl, hm4⟩
            obtain ⟨F4, hT4, hF4⟩ := T3.moved hm4
            have T4 : Hid (Tabs w4 F4 D gS (gS + 1) (gS + 2) 6 (syncD s).2 ts2 su2 tl2 la2 d2) := hT4
            have B4 : Hid (Below w.heap.size w w4) := (show Hid _ from (HBm2.out.trans (b3.mono HBm2.out.size)).trans (hm4.below HF2.out (Nat.le_trans HBm2.out.size b3.size)))
            have HF4 : Hid (∀ g ∈ F4, w.heap.size ≤ g) := (show Hid _ from fun g hg => (hF4 g hg).elim (HF2.out g) (fun h => Nat.le_trans (Nat.le_trans HBm2.out.size b3.size) h))
            obtain ⟨r1, r2⟩ := sy_sync HY.out
            rw [r1]
            have Y4 : Hid (Sy (syncD s).2 (m + 1) la2 la2 (fun _ => false)) := r2
            generalize (syncD s).2 = s4 at *
            clear r1 r2 hT4 hF4 hm4 b3 T3 HT HY HF2 HBm2 HO q0 q1 q2 q3 q4 q5
            go_wp2_with (go_at_call 11; refine (num3_any _ _).mono ?_; rintro e w' ⟨rfl, hw'⟩; obtain rfl := hw'.symm)
            go_loopw [14] (fun i wr => ∃ n : Nat, n ≤ 6 ∧ i = .int .i64 n ∧ Hid (∃ ts su d, Tabs wr F4 D gS (gS + 1) (gS + 2) 6 s4 ts su tl2 la2 d ∧ ∀ j, j < n → su j = la2 j ∧ d j = false) ∧ Hid (Below w.heap.size w wr)) (fun i _ => 6 - (intOf i).toNat)
            case atStart => exact ⟨0, by omega, rfl, (show Hid _ from ⟨_, _, _, T4.out, fun j hj => absurd hj (by omega)⟩), B4⟩
            case round =>
              obtain ⟨n, hn, rfl, HTn, HBn⟩ := hrel
              clear T4 B4
              by_cases hnt : n < 6
              · obtain ⟨ts5, su5, d5, hT5, hz5⟩ := HTn.out
                have HT5 : Hid (Tabs wr F4 D gS (gS + 1) (gS + 2) 6 s4 ts5 su5 tl2 la2 d5) := hT5
                have HZ5 : Hid (∀ j, j < n → su5 j = la2 j ∧ d5 j = false) := hz5
                have S5 := hT5.setS hnt (hT5.last.txt n hnt).1 (hT5.last.txt n hnt).2.1 (hT5.last.txt n hnt).2.2 (n' := 6) (Or.inl (Nat.le_refl _))
                have k1 := hT5.last.slice hnt
                obtain ⟨k2, hk2⟩ := hT5.sure.any hnt
                have k3 := hT5.sure.free n
                have k4 : (wr.setCell ⟨gS, n, none⟩ (.slice (some ⟨tl2 n, 0, none⟩) 256 256)).cell? ⟨gS + 2, n, none⟩ = some (.bool (d5 n)) := S5.2.2.1.cell hnt
                have k5 : (wr.setCell ⟨gS, n, none⟩ (.slice (some ⟨tl2 n, 0, none⟩) 256 256)).frozen? ⟨gS + 2, n, none⟩ = false := S5.2.2.1.free n
                have S6 := Tabs.setB S5.1 S5.2.1 S5.2.2.1 S5.2.2.2 hnt false
                have HS6 : Hid (Tabs ((wr.setCell ⟨gS, n, none⟩ (tv (tl2 n))).setCell ⟨gS + 2, n, none⟩ (.bool false)) F4 D gS (gS + 1) (gS + 2) 6 s4 (updF ts5 n (tl2 n)) (updF su5 n (la2 n)) tl2 la2 (updF d5 n false)) := (show Hid _ from ⟨S6.1, S6.2.1, S6.2.2.1, S6.2.2.2, by omega⟩)
                clear hT5 hz5 HTn S5 S6
                go_wp2_with fail
                refine ⟨⟨n + 1, by omega, by go_num, (show Hid _ from ⟨_, _, _, HS6.out, fun j hj => ?_⟩), (show Hid _ from below_set (below_set HBn.out hgN n _) (by omega) n _)⟩, by simp [intOf]; omega⟩
                unfold updF
                by_cases e : j = n
                · rw [if_pos e, if_pos e, e]; exact ⟨rfl, rfl⟩
                · rw [if_neg e, if_neg e]; exact HZ5.out j (by omega)
              · obtain rfl : n = 6 := by omega
                obtain ⟨ts5, su5, d5, hT5, hz5⟩ := HTn.out
                have HI5 : Hid (∃ F s ts su tl la d, Sy s (m + 1) su la d ∧ Tabs wr F D gS (gS + 1) (gS + 2) 6 s ts su tl la d ∧ ∀ g ∈ F, w.heap.size ≤ g) := (show Hid _ from ⟨F4, s4, ts5, su5, tl2, la2, d5, Y4.out.congr (fun j hj => (hz5 j hj).1) (fun _ _ => rfl) (fun j hj => (hz5 j hj).2), hT5, HF4.out⟩)
                clear hT5 hz5 HTn
                go_wp2_with fail
                go_roundw
                case measure => simp [intOf]; omega
                case rel =>
                  (repeat apply Exists.intro)
                  exact ⟨⟨m + 1, by omega, by go_num, HI5, HBn⟩, rfl⟩
          · have hkn : (kd == 1) = false := by simpa using hk
            go_wp2_with fail
            have b3 : Below wr.heap.size wr (wr.alloc (.cells #[.int .i64 kd, .int .i64 ix, .int .i64 nn, .slice ob obl obc, .int .u8 (fl : Nat), .slice ol oll olc] 35)) := (Below.refl _ wr).alloc (Nat.le_refl _) _
            have T3 := HT.out.later b3
            have B3 := HBm2.out.trans (b3.mono HBm2.out.size)
            refine (full_any fl hfill _).mono ?_
            rintro e w4 ⟨x4, rfl, o4, b4⟩
            have T4 : Hid (Tabs w4 F2 D gS (gS + 1) (gS + 2) 6 s ts2 su2 tl2 la2 d2) := T3.later b4
            have B4 : Hid (Below w.heap.size w w4) := (show Hid _ from B3.trans (b4.mono B3.size))
            have O4 : Hid (Part.ok w4 ⟨some ⟨x4, 0, none⟩, 256, 256, fullN fl⟩) := own256 o4
            have BL : Hid (wr.heap.size < w4.heap.size) := (show Hid _ from Nat.lt_of_lt_of_le (by simp) b4.size)
            have co : Hid (∀ j, w4.cell? ⟨wr.heap.size, j, none⟩ = #[Value.int .i64 kd, .int .i64 ix, .int .i64 nn, .slice ob obl obc, .int .u8 (fl : Nat), .slice ol oll olc][j]?) := (show Hid _ from fun j => by rw [b4.cell (p := ⟨wr.heap.size, j, none⟩) (by simp), cell_of_row _ _ _ _ _ _ (heap_alloc_last wr _)])
            clear o4 b4 T3 B3 b3 HT HBm2
            go_wp2_with fail
            (with_reducible_and_instances (refine (T4.out.disk.write ((sy_len HY.out).few (by omega)) (K : Int) _ 256 256 (fullN fl) O4.out).mono ?_))
            rintro e w5 ⟨rfl, hm5⟩
            obtain ⟨F5, hT5, hF5⟩ := T4.out.moved hm5
            obtain ⟨r1, r2⟩ := sy_write HY.out K hK2 fl
            rw [r1]
            have Y5 : Hid (Sy (writeD s K (fullN fl)).2 (m + 1) su2 (updF la2 K fl) (updF d2 K true)) := r2
            have T5 : Hid (Tabs w5 F5 D gS (gS + 1) (gS + 2) 6 (writeD s K (fullN fl)).2 ts2 su2 tl2 la2 d2) := hT5
            have B5 : Hid (Below w.heap.size w w5) := (show Hid _ from B4.out.trans (hm5.below HF2.out B4.out.size))
            have HF5 : Hid (∀ g ∈ F5, w.heap.size ≤ g) := (show Hid _ from fun g hg => (hF5 g hg).elim (HF2.out g) (fun h => Nat.le_trans B4.out.size h))
            have ofree : wr.heap.size ∉ F2 := HDK.out
            have c4 : w5.cell? ⟨wr.heap.size, 4, none⟩ = some (.int .u8 (fl : Nat)) := by rw [hm5.chg.cell (by have := BL.out; omega) ofree]; exact co.out 4
            clear r1 r2 hm5 hT5 hF5 T4 B4 O4 co
            go_wp2_with (go_at_call 11; refine (num3_any _ _).mono ?_; rintro e w' ⟨rfl, hw'⟩; obtain rfl := hw'.symm)
            refine (full_any fl hfill _).mono ?_
            rintro e w6 ⟨x6, rfl, o6, b6⟩
            have T6 : Hid (Tabs w6 F5 D gS (gS + 1) (gS + 2) 6 (writeD s K (fullN fl)).2 ts2 su2 tl2 la2 d2) := T5.out.later b6
            have B6 : Hid (Below w.heap.size w w6) := (show Hid _ from B5.out.trans (b6.mono B5.out.size))
            have S6 := Tabs.setL T6.out.sure T6.out.last T6.out.dirty T6.out.disk (by omega) hK2 (T5.out.disk.fresh (own_block o6).2) hfill (own_block o6).1 (n' := 6) (Or.inl (Nat.le_refl _))
            obtain ⟨k2, hk2⟩ := T6.out.last.any hK2
            have k3 := T6.out.last.free K
            have k4 : (w6.setCell ⟨gS + 1, K, none⟩ (.slice (some ⟨x6, 0, none⟩) 256 256)).cell? ⟨gS + 2, K, none⟩ = some (.bool (d2 K)) := S6.2.2.1.cell hK2
            have k5 : (w6.setCell ⟨gS + 1, K, none⟩ (.slice (some ⟨x6, 0, none⟩) 256 256)).frozen? ⟨gS + 2, K, none⟩ = false := S6.2.2.1.free K
            have S7 := Tabs.setB S6.1 S6.2.1 S6.2.2.1 S6.2.2.2 hK2 true
            have HS7 : Hid (Tabs ((w6.setCell ⟨gS + 1, K, none⟩ (tv x6)).setCell ⟨gS + 2, K, none⟩ (.bool true)) F5 D gS (gS + 1) (gS + 2) 6 (writeD s K (fullN fl)).2 ts2 su2 (updF tl2 K x6) (updF la2 K fl) (updF d2 K true)) := (show Hid _ from ⟨S7.1, S7.2.1, S7.2.2.1, S7.2.2.2, by omega⟩)
            clear S6 S7 o6 b6 T6 T5 B5
            go_wp2_with fail
            go_roundw
            case measure => simp [intOf]; omega
            case rel =>
              (repeat apply Exists.intro)
              exact ⟨⟨m + 1, by omega, by go_num, (show Hid _ from ⟨_, _, _, _, _, _, _, Y5.out, HS7.out, HF5.out⟩), (show Hid _ from below_set (below_set B6.out (by omega) K _) (by omega) K _)⟩, rfl⟩
        · obtain rfl : m = len := by omega
          obtain ⟨F2, s, ts2, su2, tl2, la2, d2, hy, hT, hF2⟩ := HIm.out
          have HY : Hid (Sy s m su2 la2 d2) := hy
          have HT : Hid (Tabs wr F2 D gS (gS + 1) (gS + 2) 6 s ts2 su2 tl2 la2 d2) := hT
          have HF2 : Hid (∀ g ∈ F2, w.heap.size ≤ g) := hF2
          have HA : Hid (IArg wr cs bd blen) := (show Hid _ from HC.out.chg (F := []) ⟨HBm2.out.os, HBm2.out.tape, HBm2.out.output, HBm2.out.size, fun k hk _ => HBm2.out.block k hk⟩ (by simp))
          clear hy hT hF2 HIm HC HO
          go_wp2_with (at_builtin; refine app_nums (w0 := wr) rfl _ _ rfl rfl rfl bd blen bcap cs rfl HA.out HCN.out hbl ?_; intro p3 c3 w3 ha3 hp3 hb3; have A3 : Hid (IArg w3 cs p3 blen) := ha3; have P3 : Hid (∀ b off, p3 = some ⟨b, off, none⟩ → wr.heap.size ≤ b) := hp3; have B3 : Hid (Below wr.heap.size wr w3) := hb3; clear ha3 hp3 hb3)
          have T3 := HT.out.later B3.out
          refine (T3.disk.crash2 p3 blen c3 cs A3.out (fun b off e _ => HT.out.disk.fresh (P3.out b off e))).mono ?_
          rintro e w4 ⟨rfl, hm4⟩
          obtain ⟨F4, hT4, hF4⟩ := T3.moved hm4
          have T4 : Hid (Tabs w4 F4 D gS (gS + 1) (gS + 2) 6 (crashD s cs) ts2 su2 tl2 la2 d2) := hT4
          have B4 : Hid (Below w.heap.size w w4) := (show Hid _ from (HBm2.out.trans (B3.out.mono HBm2.out.size)).trans (hm4.below HF2.out (Nat.le_trans HBm2.out.size B3.out.size)))
          have HRD : Hid (∀ j, j < 6 → d2 j = false → readD (crashD s cs) (j : Nat) = (fullN (su2 j), 0)) := (show Hid _ from fun j hj hd => sy_crash HY.out cs j hj hd)
          have HDD : Hid (dirtyD (crashD s cs) = 0) := crash_dirty s cs
          have HOF : Hid ((crashD s cs).off = false) := (show Hid _ from rfl)
          generalize crashD s cs = s4 at *
          clear hT4 hF4 hm4 T3 HT HY HF2 HBm2 A3 P3 B3 HA HCN
          go_wp2_with fail
          go_loopw [15] (fun i wr => ∃ j : Nat, j ≤ 6 ∧ i = .int .i64 j ∧ Hid (Below w4.heap.size w4 wr)) (fun i _ => 6 - (intOf i).toNat)
          case atStart => exact ⟨0, by omega, rfl, (show Hid _ from Below.refl _ _)⟩
          case round =>
            obtain ⟨j, hj, rfl, HBj⟩ := hrel
            by_cases hjt : j < 6
            · have Tj := T4.out.later HBj.out
              go_wp2_with fail
              refine (Tj.disk.read (j : Int)).mono ?_
              rintro e w5 ⟨u, rfl, o5, -, b5⟩
              have B5 : Hid (Below w4.heap.size w4 w5) := (show Hid _ from HBj.out.trans (b5.mono HBj.out.size))
              have T5 : Hid (Tabs w5 F4 D gS (gS + 1) (gS + 2) 6 s4 ts2 su2 tl2 la2 d2) := Tj.later b5
              clear b5 Tj HBj
              have BD : Hid (Below w5.heap.size w5 w5.drew) := (show Hid _ from (Below.refl _ w5).drew)
              have kb := T5.out.dirty.cell hjt
              cases hd : d2 j with
              | true =>
                  rw [hd] at kb
                  clear o5
                  go_wp2_with fail
                  refine wp_region_any (by kernel_rfl) ?_
                  change wpAny _ _ _ _ _ _ _ (World.drew _)
                  refine wpAny_take (i := 0) (v := .slice (some ⟨gS + 2, 0, none⟩) 6 6) rfl (by kernel_rfl) (by kernel_rfl) (by kernel_rfl) (fun _ _ _ h => h) (Or.inl ⟨rfl, fun w => rfl⟩) ?_
                  refine wpAny_take (i := 1) (v := .int .i64 (j : Int)) rfl (by kernel_rfl) (by kernel_rfl) (by kernel_rfl) (fun _ _ _ h => h) (Or.inl ⟨rfl, fun w => rfl⟩) ?_
                  refine wpAny_ready (rs := [2]) (by kernel_rfl) (by simp) ?_
                  refine AllReady.cons rfl (fun K hK => ?_) AllReady.nil
                  go_simp
                  refine hK _ _ ?_
                  clear hK K
                  refine wpAny_ready (rs := [3]) (by kernel_rfl) (by simp) ?_
                  refine AllReady.cons rfl (fun K hK => ?_) AllReady.nil
                  go_simp
                  refine hK _ _ ?_
                  clear hK K
                  refine wpAny_ready (rs := [4]) (by kernel_rfl) (by simp) ?_
                  refine AllReady.cons rfl (fun K hK => ?_) AllReady.nil
                  go_simp
                  refine hK _ _ ?_
                  clear hK K
                  refine wpAny_ready (rs := [5]) (by kernel_rfl) (by simp) ?_
                  refine AllReady.cons rfl (fun K hK => ?_) AllReady.nil
                  go_simp
                  refine hK _ _ ?_
                  clear hK K
                  refine wpAny_ready (rs := [6]) (by kernel_rfl) (by simp) ?_
                  refine AllReady.cons rfl (fun K hK => ?_) AllReady.nil
                  go_simp
                  refine hK _ _ ?_
                  clear hK K
                  refine wpAny_ready (rs := [7]) (by kernel_rfl) (by simp) ?_
                  refine AllReady.cons rfl (fun K hK => ?_) AllReady.nil
                  go_simp
                  refine hK _ _ ?_
                  clear hK K
                  refine wpAny_ready (rs := [8]) (by kernel_rfl) (by simp) ?_
                  refine AllReady.cons rfl (fun K hK => ?_) AllReady.nil
                  go_simp
                  refine hK _ _ ?_
                  clear hK K
                  refine wpAny_ready (rs := [9]) (by kernel_rfl) (by simp) ?_
                  refine AllReady.cons rfl (fun K hK => ?_) AllReady.nil
                  go_simp
                  refine hK _ _ ?_
                  clear hK K
                  refine wpAny_take (i := 10) (v := undef) rfl (by kernel_rfl) (by kernel_rfl) (by kernel_rfl) (fun _ _ _ h => h) (Or.inr ⟨by kernel_rfl, rfl⟩) ?_
                  refine wpAny_take (i := 12) (v := undef) rfl (by kernel_rfl) (by kernel_rfl) (by kernel_rfl) (fun _ _ _ h => h) (Or.inr ⟨by kernel_rfl, rfl⟩) ?_
                  refine wpAny_take (i := 13) (v := undef) rfl (by kernel_rfl) (by kernel_rfl) (by kernel_rfl) (fun _ _ _ h => h) (Or.inr ⟨by kernel_rfl, rfl⟩) ?_
                  refine wpAny_take (i := 11) (v := undef) rfl (by kernel_rfl) (by kernel_rfl) (by kernel_rfl) (fun _ _ _ h => h) (Or.inr ⟨by kernel_rfl, rfl⟩) ?_
                  refine wpAny_ready (rs := [14]) (by kernel_rfl) (by simp) ?_
                  refine AllReady.cons rfl (fun K hK => ?_) AllReady.nil
                  go_simp
                  refine hK _ _ ?_
                  clear hK K
                  refine wpAny_ready (rs := [15]) (by kernel_rfl) (by simp) ?_
                  refine AllReady.cons rfl (fun K hK => ?_) AllReady.nil
                  go_simp
                  refine hK _ _ ?_
                  clear hK K
                  refine wpAny_ready (rs := [16]) (by kernel_rfl) (by simp) ?_
                  refine AllReady.cons rfl (fun K hK => ?_) AllReady.nil
                  go_simp
                  refine hK _ _ ?_
                  clear hK K
                  refine wpAny_ready (rs := [17]) (by kernel_rfl) (by simp) ?_
                  refine AllReady.cons rfl (fun K hK => ?_) AllReady.nil
                  go_simp
                  refine hK _ _ ?_
                  clear hK K
                  refine wpAny_ready (rs := [18]) (by kernel_rfl) (by simp) ?_
                  refine AllReady.cons rfl (fun K hK => ?_) AllReady.nil
                  go_simp
                  refine hK _ _ ?_
                  clear hK K
                  refine wpAny_ready (rs := [19]) (by kernel_rfl) (by simp) ?_
                  refine AllReady.cons rfl (fun K hK => ?_) AllReady.nil
                  go_simp
                  refine hK _ _ ?_
                  clear hK K
                  refine wpAny_done (by kernel_rfl) ?_ _
                  go_wp2_with fail
                  refine ⟨⟨j + 1, by omega, by go_num, (show Hid _ from B5.out.trans (BD.out.mono B5.out.size))⟩, by simp [intOf]; omega⟩
              | false =>
                  rw [hd] at kb
                  have hrd := HRD.out j hjt hd
                  rw [hrd] at o5 ⊢
                  obtain ⟨pu, cu, hu, hpu, -⟩ := o5.slice 256 (fullN_len _)
                  subst hu
                  have HSx : Hid (∀ W, Below w5.heap.size w5 W → W.cell? ⟨gS + 2, j, none⟩ = some (.bool false) ∧ W.cell? ⟨gS, j, none⟩ = some (.slice (some ⟨ts2 j, 0, none⟩) 256 256) ∧ (convert 32 9 (.slice pu 256 cu)).run Try.prog W = .ok (.string (bstr (fullN (su2 j)))) W ∧ (convert 32 9 (.slice (some ⟨ts2 j, 0, none⟩) 256 256)).run Try.prog W = .ok (.string (bstr (fullN (su2 j)))) W) := (show Hid _ from fun W hW => by
                    have TW := T5.out.later hW
                    refine ⟨by have := TW.dirty.cell hjt; rw [hd] at this; exact this, TW.sure.slice hjt, conv_any (hpu.later hW).2.2 256 cu (fullN_len _), conv_any (TW.sure.text hjt).2.2 256 256 (fullN_len _)⟩)
                  obtain ⟨tt, htt⟩ : ∃ tt, bstr (fullN (su2 j)) = tt := ⟨_, rfl⟩
                  obtain ⟨tj, htj⟩ : ∃ tj, ts2 j = tj := ⟨_, rfl⟩
                  rw [htt, htj] at HSx
                  clear o5 hpu hrd htt htj
                  go_wp2_with fail
                  go_region_held3 (fun W => W.cell? ⟨gS + 2, j, none⟩ = some (.bool false) ∧ W.cell? ⟨gS, j, none⟩ = some (.slice (some ⟨tj, 0, none⟩) 256 256) ∧ (convert 32 9 (.slice pu 256 cu)).run Try.prog W = .ok (.string tt) W ∧ (convert 32 9 (.slice (some ⟨tj, 0, none⟩) 256 256)).run Try.prog W = .ok (.string tt) W)
                    (first | exact HSx.out _ BD.out)
                    (first | (go_at_call 11; refine (num3_any _ _).mono ?_; rintro e w' ⟨rfl, hw'⟩; obtain rfl := hw'.symm))
                  go_wp2_with fail
                  refine ⟨⟨j + 1, by omega, by go_num, (show Hid _ from B5.out.trans (BD.out.mono B5.out.size))⟩, by simp [intOf]; omega⟩
            · obtain rfl : j = 6 := by omega
              have T6 := T4.out.later HBj.out
              have hdy := T6.disk.dirty
              have hdn := T6.disk.isDown
              rw [HDD.out] at hdy
              rw [HOF.out] at hdn
              go_wp2_with (first
                | (go_at_call 20; refine hdy.mono ?_; rintro e w' ⟨rfl, hw'⟩; obtain rfl := hw'.symm)
                | (go_at_call 19; refine hdn.mono ?_; rintro e w' ⟨rfl, hw'⟩; obtain rfl := hw'.symm))
              go_ret
              exact ⟨rfl, B4.out.trans (HBj.out.mono B4.out.size)⟩
end Go.Proofs.Ytofpojfkooigiaa
