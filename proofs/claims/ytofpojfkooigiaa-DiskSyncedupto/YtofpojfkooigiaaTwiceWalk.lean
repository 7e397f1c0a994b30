/- What DiskTwice of package law03 answers: true. -/
import Derived.Test.YtofpojfkooigiaaTwiceM
import Derived.Test.YtofpojfkooigiaaFusesWalk
namespace Go.Proofs.Ytofpojfkooigiaa
open Go.RowKit

theorem alien_of {w : World} {t : TypeId} (ht : t ≠ TK ∧ t ≠ TD ∧ t ≠ TB) {g : Nat} (h : ∃ c, w.heap[g]? = some (.cells c t (0, 0))) : Alien w g := by
  obtain ⟨c, h⟩ := h
  exact ⟨c, t, (0, 0), h, ht⟩
theorem below_grown {w w1 w2 : World} {N : Nat} {row : Option Nat} (h : Below N w w1) (hg : w1.grownBy w2 row) (hN : N ≤ w1.heap.size) (hr : ∀ g, row = some g → N ≤ g) : Below N w w2 :=
  ⟨hg.os.trans h.os, hg.tape.trans h.tape, hg.output.trans h.output, Nat.le_trans h.size hg.size, fun k hk => (hg.block k (by omega) (fun e => by have := hr k e.symm; omega)).trans (h.block k hk)⟩
theorem read_len {s : DSt} (h : s.ok) (j : Int) : ∀ y ∈ (readD s j).1, y < 256 := by
  unfold readD
  split
  · rename_i hh
    split
    · intro y hy; cases hy
    · split
      · rename_i t ht
        exact (now_ok h (at_mem (has_lt hh).2) ht).2
      · intro y hy; cases hy
  · intro y hy; cases hy
set_option maxRecDepth 100000 in
set_option maxHeartbeats 4000000 in
theorem diskTwice_any (ad : Option Addr) (len cap : Nat) (os : List OpD) (bd : Option Addr) (blen bcap : Nat) (cs : List Int) (dd : Option Addr) (dlen dcap : Nat) (ds : List Int) (w : World) (ho : OArg w os ad len) (hlen : len ≤ 1073741824) (hc : IArg w cs bd blen) (hd : IArg w ds dd dlen) :
    Calls Try.prog 6 #[.slice ad len cap, .slice bd blen bcap, .slice dd dlen dcap] w fun e w' => e = .returned (.bool true) ∧ Below w.heap.size w w' := by
  have HO : Hid (OArg w os ad len) := ho
  have HC : Hid (IArg w cs bd blen) := hc
  have HD : Hid (IArg w ds dd dlen) := hd
  clear ho hc hd
  go_enter Try.func6, Try.ntmps6
  go_wp2_with fail
  refine (At.new 6 w (by omega) (by omega)).mono ?_
  rintro x w1 ⟨D, rfl, hA1, hb1⟩
  have A1 : Hid (At w.heap.size w1 D (newD 6)) := hA1
  have B1 : Hid (Below w.heap.size w w1) := hb1
  clear hA1 hb1
  go_wp2_with (first
    | (go_at_call 11; refine (num3_any _ _).mono ?_; rintro e w' ⟨rfl, hw'⟩; obtain rfl := hw'.symm))
  refine (knows3_any _).mono ?_
  rintro e w2 ⟨rfl, b2⟩
  have A2 : Hid (∃ s, Fr s 0 ∧ At w.heap.size w2 D s) := (show Hid _ from ⟨_, fr_start, A1.out.later b2⟩)
  have B2 : Hid (Below w.heap.size w w2) := B1.out.trans (b2.mono B1.out.size)
  clear b2 A1 B1
  go_wp2_with fail
  go_loopw [9] (fun i wr => ∃ m : Nat, m ≤ len ∧ i = .int .i64 m ∧ Hid (∃ s, Fr s m ∧ At w.heap.size wr D s) ∧ Hid (Below w.heap.size w wr)) (fun i _ => len - (intOf i).toNat)
  case atStart => exact ⟨0, by omega, rfl, A2, B2⟩
  case round =>
    obtain ⟨m, hm, rfl, HAm, HBm⟩ := hrel
    clear A2 B2
    by_cases hlt : m < len
    · obtain ⟨s, hz, ha⟩ := HAm.out
      have HZ : Hid (Fr s m) := hz
      have HA : Hid (At w.heap.size wr D s) := ha
      obtain ⟨b, off, rfl, hok, hcell⟩ := HO.out.cells HBm.out hlt
      have q0 := hcell 0 (by omega)
      have q1 := hcell 1 (by omega)
      have q4 := hcell 4 (by omega)
      have hfill := hok.fill
      have hi1 := hok.i1
      have hi2 := hok.i2
      simp only [opV, List.getElem?_cons_zero, List.getElem?_cons_succ, Nat.add_zero] at q0 q1 q4
      generalize hkd : (os.getD m op0).kind = kd at *
      generalize hix : (os.getD m op0).i = ix at *
      generalize hfl : (os.getD m op0).fill = fl at *
      have HI : Hid ((os.getD m op0).i = ix) := hix
      have HFL : Hid ((os.getD m op0).fill = fl) := hfl
      clear hkd hix hfl hcell hok hz ha HAm HC HD
      by_cases hk : kd = 1
      · subst hk
        go_wp2_with fail
        refine (HA.out.sync HBm.out.size).mono ?_
        rintro e w4 ⟨rfl, a4, b4⟩
        have A4 : Hid (∃ s, Fr s (m + 1) ∧ At w.heap.size w4 D s) := (show Hid _ from ⟨_, (fr_sync HZ.out).2, a4⟩)
        have B4 : Hid (Below w.heap.size w w4) := HBm.out.trans b4
        clear a4 b4 HZ HA HBm
        go_wp2_with fail
        refine ⟨⟨m + 1, by omega, by go_num, A4, B4⟩, by simp [intOf]; omega⟩
      · have hkn : (kd == 1) = false := by simpa using hk
        have hq0 := tmod_bounds ix 6 (by omega)
        obtain ⟨K, hK, hK2⟩ : ∃ K : Nat, ix.tmod 6 % 6 = (K : Int) ∧ K < 6 := ⟨(ix.tmod 6 % 6).toNat, by omega, by omega⟩
        have hK' : (ix.tmod 6 + 6) % 6 = (K : Int) := by omega
        have hK3 : (ix.tmod 6 + 6).tmod 6 = (K : Int) := by rw [Int.tmod_eq_emod_of_nonneg (by omega)]; exact hK'
        have hK4 : IntKind.i64.wrap (ix.tmod 6 + 6) = ix.tmod 6 + 6 := by rw [IntKind.wrap_i64]; omega
        have hK5 : IntKind.i64.wrap (ix.tmod 6) = ix.tmod 6 := by rw [IntKind.wrap_i64]; omega
        have hK6 : IntKind.i64.wrap (K : Int) = (K : Int) := by rw [IntKind.wrap_i64]; omega
        have HS : Hid (∀ W, Below w.heap.size w W → W.cell? ⟨b, off + m * 6 + 1, none⟩ = some (.int .i64 ix) ∧ W.cell? ⟨b, off + m * 6 + 4, none⟩ = some (.int .u8 (fl : Nat))) := (show Hid _ from fun W hW => by
          obtain ⟨b', off', e, -, hc⟩ := HO.out.cells hW hlt
          cases e
          have z1 : W.cell? ⟨b, off + m * 6 + 1, none⟩ = some (.int .i64 (os.getD m op0).i) := hc 1 (by omega)
          have z4 : W.cell? ⟨b, off + m * 6 + 4, none⟩ = some (.int .u8 ((os.getD m op0).fill : Nat)) := hc 4 (by omega)
          rw [HI.out] at z1
          rw [HFL.out] at z4
          exact ⟨z1, z4⟩)
        have BD : Hid (Below w.heap.size w wr.drew) := (show Hid _ from HBm.out.drew)
        have AD : Hid (At w.heap.size wr.drew D s) := HA.out.later ((Below.refl _ wr).drew)
        have HU : Hid (s.few) := HZ.out.up.few (by omega)
        go_wp2_with fail
        go_region_held3 (fun W => W.cell? ⟨b, off + m * 6 + 1, none⟩ = some (.int .i64 ix) ∧ W.cell? ⟨b, off + m * 6 + 4, none⟩ = some (.int .u8 (fl : Nat)))
          (first | exact HS.out _ BD.out | exact HS.out _ B5.out | exact HS.out _ B6.out)
          (first
            | (go_at_call 22; refine (full_any fl hfill _).mono ?_; rintro e w5 ⟨g5, rfl, o5, b5⟩; have O5 : Hid (Part.ok w5 ⟨some ⟨g5, 0, none⟩, 256, 256, fullN fl⟩) := own256 o5; have A5 : Hid (At w.heap.size w5 D s) := AD.out.later b5; have B5 : Hid (Below w.heap.size w w5) := BD.out.trans (b5.mono BD.out.size); clear o5 b5)
            | (go_at_call 17; (with_reducible_and_instances (refine (A5.out.write B5.out.size HU.out (K : Int) _ 256 256 (fullN fl) O5.out).mono ?_)); rintro e w6 ⟨rfl, a6, b6⟩; have A6 : Hid (At w.heap.size w6 D (writeD s K (fullN fl)).2) := a6; have B6 : Hid (Below w.heap.size w w6) := B5.out.trans b6; clear a6 b6))
        have A7 : Hid (∃ s, Fr s (m + 1) ∧ At w.heap.size w6 D s) := (show Hid _ from ⟨_, (fr_write HZ.out K hK2 (fullN fl) (fullN_len fl)).2, A6.out⟩)
        clear HZ HA HBm A6 A5 B5 AD BD HS q0 q1 q4
        go_wp2_with fail
        refine ⟨⟨m + 1, by omega, by go_num, A7, B6⟩, by simp [intOf]; omega⟩
    · obtain rfl : m = len := by omega
      obtain ⟨s, hz, ha⟩ := HAm.out
      have HA : Hid (At w.heap.size wr D s) := ha
      clear hz ha HAm HO
      go_wp2_with fail
      refine (HA.out.crash (Below.refl _ _) HBm.out.size bd blen bcap cs (HC.out.chg (F := []) ((Chg.refl [] w).trans (G := []) ⟨HBm.out.os, HBm.out.tape, HBm.out.output, HBm.out.size, fun k hk _ => HBm.out.block k hk⟩ (by simp)) (by simp)) (fun b off e h0 => ?_)).mono ?_
      · obtain ⟨b', off', e', hs, -⟩ := HC.out.row.resolve_left h0
        rw [e] at e'
        cases e'
        exact Or.inl hs
      rintro e w4 ⟨rfl, a4, b4⟩
      obtain ⟨s1, hs1⟩ : ∃ s1, crashD s cs = s1 := ⟨_, rfl⟩
      have HT : Hid (crashD s1 ds = s1) := (show Hid _ from (by rw [← hs1]; exact crash_twice s cs ds))
      rw [hs1] at a4
      obtain ⟨F, hdk, hF⟩ := a4
      have A4 : Hid (Dk w4 F D s1) := hdk
      have HF : Hid (∀ g ∈ F, w.heap.size ≤ g) := hF
      have HG : Hid (∀ g ∈ F, g < w4.heap.size) := hdk.lt
      have B4 : Hid (Below w.heap.size w w4) := HBm.out.trans b4
      clear hdk hF b4 HA HBm hs1 HC
      go_wp2_with fail
      go_loopw [10, 11, 12] (fun was errs k wr => ∃ j : Nat, j ≤ 6 ∧ k = .int .i64 j ∧ Hid (Dk wr F D s1) ∧ Hid (Was w4.heap.size s1 wr was j) ∧ Hid (Errs w4.heap.size s1 wr errs j) ∧ Hid (Below w4.heap.size w4 wr)) (fun _ _ k _ => 6 - (intOf k).toNat)
      case atStart => exact ⟨0, by omega, rfl, A4, (show Hid _ from Was.nil _ _ _), (show Hid _ from Errs.nil _ _ _), (show Hid _ from Below.refl _ _)⟩
      case round =>
        obtain ⟨j, hj, rfl, HAj, HWj, HEj, HBj⟩ := hrel
        by_cases hjt : j < 6
        · clear HD HT
          go_wp2_with fail
          refine (HAj.out.read (j : Int)).mono ?_
          rintro e w5 ⟨u, rfl, o5, a5, b5⟩
          obtain ⟨pu, cu, hu, -⟩ := o5.form
          subst hu
          have U5 : Hid (Own w5 w4.heap.size (.slice pu (readD s1 (j : Nat)).1.length cu) (readD s1 (j : Nat)).1) := o5.down HBj.out.size
          have A5 : Hid (Dk w5 F D s1) := a5
          have B5 : Hid (Below w4.heap.size w4 w5) := HBj.out.trans (b5.mono HBj.out.size)
          have W5 : Hid (Was w4.heap.size s1 w5 u10 j) := HWj.out.later b5
          have E5 : Hid (Errs w4.heap.size s1 w5 u11 j) := HEj.out.later b5
          clear o5 a5 b5 HAj HWj HEj HBj
          go_wp2_with (at_builtin; refine app_was (p := pu) (n := (readD s1 (j : Nat)).1.length) (c := cu) rfl _ _ rfl w5 rfl B5.out.size rfl rfl W5.out U5.out (by omega) ?_; intro v6 w6 hw6 hg6 hr6; have W6 : Hid (Was w4.heap.size s1 w6 v6 (j + 1)) := hw6; have HGR : Hid ((w5.alloc (.cells #[.slice pu (readD s1 (j : Nat)).1.length cu] 32)).grownBy w6 u10.ownBlock) := hg6; have HRR : Hid (∀ g, u10.ownBlock = some g → w4.heap.size ≤ g ∧ ∃ c, (w5.alloc (.cells #[.slice pu (readD s1 (j : Nat)).1.length cu] 32)).heap[g]? = some (.cells c 32 (0, 0))) := hr6; clear hw6 hg6 hr6)
          have bX : Below w5.heap.size w5 (w5.alloc (.cells #[.slice pu (readD s1 (j : Nat)).1.length cu] 32)) := (Below.refl _ w5).alloc (Nat.le_refl _) _
          have E6 : Hid (Errs w4.heap.size s1 w6 u11 j) := (show Hid _ from ownsRow_alien (E5.out.later bX) HGR.out (fun g hg => by obtain ⟨_, c, q⟩ := HRR.out g hg; exact ⟨c, _, _, q, by decide⟩))
          have A6 : Hid (Dk w6 F D s1) := (show Hid _ from (A5.out.below bX).alien HGR.out (fun g hg => alien_of (by decide) (HRR.out g hg).2))
          have B6 : Hid (Below w4.heap.size w4 w6) := (show Hid _ from below_grown (B5.out.trans (bX.mono B5.out.size)) HGR.out (Nat.le_trans B5.out.size bX.size) (fun g hg => (HRR.out g hg).1))
          clear bX HGR HRR W5 U5 A5 B5 E5
          go_wp2_with (first
            | (go_at_call 11; refine (num3_any _ _).mono ?_; rintro e w' ⟨rfl, hw'⟩; obtain rfl := hw'.symm)
            | (at_builtin; refine app_errs (s := s1) (m := j) rfl _ _ rfl w6 rfl B6.out.size rfl rfl E6.out (by omega) ?_; intro v7 w7 hw7 hg7 hr7; have E7 : Hid (Errs w4.heap.size s1 w7 v7 (j + 1)) := hw7; have HGR : Hid ((w6.alloc (.cells #[.int .i64 (readD s1 (j : Nat)).2] 3)).grownBy w7 u11.ownBlock) := hg7; have HRR : Hid (∀ g, u11.ownBlock = some g → w4.heap.size ≤ g ∧ ∃ c, (w6.alloc (.cells #[.int .i64 (readD s1 (j : Nat)).2] 3)).heap[g]? = some (.cells c 3 (0, 0))) := hr7; clear hw7 hg7 hr7))
          have bY : Below w6.heap.size w6 (w6.alloc (.cells #[.int .i64 (readD s1 (j : Nat)).2] 3)) := (Below.refl _ w6).alloc (Nat.le_refl _) _
          have W7 : Hid (Was w4.heap.size s1 w7 v6 (j + 1)) := (show Hid _ from (W6.out.later bY).alien HGR.out (fun g hg => by obtain ⟨_, c, q⟩ := HRR.out g hg; exact ⟨c, _, _, q, by decide, by decide⟩))
          have A7 : Hid (Dk w7 F D s1) := (show Hid _ from (A6.out.below bY).alien HGR.out (fun g hg => alien_of (by decide) (HRR.out g hg).2))
          have B7 : Hid (Below w4.heap.size w4 w7) := (show Hid _ from below_grown (B6.out.trans (bY.mono B6.out.size)) HGR.out (Nat.le_trans B6.out.size bY.size) (fun g hg => (HRR.out g hg).1))
          refine ⟨⟨j + 1, by omega, by go_num, A7, W7, E7, B7⟩, by simp [intOf]; omega⟩
        · obtain rfl : j = 6 := by omega
          have D4 : Below w.heap.size w wr := B4.out.trans (HBj.out.mono B4.out.size)
          go_wp2_with fail
          refine (HAj.out.crash HF.out dd dlen dcap ds (HD.out.chg (F := []) ⟨D4.os, D4.tape, D4.output, D4.size, fun k hk _ => D4.block k hk⟩ (by simp)) (fun b off e h0 => ?_)).mono ?_
          · obtain ⟨b', off', e', hs, -⟩ := HD.out.row.resolve_left h0
            rw [e] at e'
            cases e'
            exact hs
          rintro e w5 ⟨rfl, hmv⟩
          rw [HT.out] at hmv
          have W5 : Hid (Was w4.heap.size s1 w5 u10 6) := HWj.out.chg hmv.chg HG.out
          have E5 : Hid (Errs w4.heap.size s1 w5 u11 6) := HEj.out.chg hmv.chg HG.out
          obtain ⟨a5, b5⟩ := hmv.at HF.out (Nat.le_trans B4.out.size HBj.out.size)
          have A5 : Hid (At w.heap.size w5 D s1) := a5
          have B5 : Hid (Below w.heap.size w w5) := (show Hid _ from D4.trans b5)
          clear a5 b5 hmv D4 HAj HWj HEj HBj B4 HF HG HD HT A4
          obtain ⟨gw, cw, hw10, hW⟩ := W5.out.form
          obtain ⟨ge, ce, hw11, hE⟩ := E5.out.form
          subst hw10
          subst hw11
          have FW : Hid (∀ W, Below w5.heap.size w5 W → ∀ j, j < 6 → ∃ p c, W.cell? ⟨gw, j, none⟩ = some (.slice p (readD s1 (j : Nat)).1.length c) ∧ (convert 32 9 (.slice p (readD s1 (j : Nat)).1.length c)).run Try.prog W = .ok (.string (bstr (readD s1 (j : Nat)).1)) W) := hW
          have FE : Hid (∀ W, Below w5.heap.size w5 W → ∀ j, j < 6 → W.cell? ⟨ge, j, none⟩ = some (.int .i64 (readD s1 (j : Nat)).2)) := hE
          clear hW hE W5 E5
          go_wp2_with fail
          go_loopw [15] (fun i wr => ∃ j : Nat, j ≤ 6 ∧ i = .int .i64 j ∧ Hid (At w.heap.size wr D s1) ∧ Hid (Below w5.heap.size w5 wr)) (fun i _ => 6 - (intOf i).toNat)
          case atStart => exact ⟨0, by omega, rfl, A5, (show Hid _ from Below.refl _ _)⟩
          case round =>
            obtain ⟨j, hj2, rfl, HAj, HBj⟩ := hrel
            by_cases hjt2 : j < 6
            · go_wp2_with fail
              refine (HAj.out.read (j : Int)).mono ?_
              rintro e w6 ⟨u, rfl, o6, a6, b6⟩
              obtain ⟨pu, cu, hu, hpu, -⟩ := o6.slice _ rfl
              subst hu
              have A6 : Hid (At w.heap.size w6 D s1) := a6
              have B6 : Hid (Below w5.heap.size w5 w6) := HBj.out.trans (b6.mono HBj.out.size)
              have PU : Hid (Part.ok w6 ⟨pu, (readD s1 (j : Nat)).1.length, cu, (readD s1 (j : Nat)).1⟩) := hpu
              clear o6 a6 b6 hpu HAj HBj
              obtain ⟨px, cx, hx1, hx2⟩ := FW.out w6 B6.out j hjt2
              obtain ⟨er, her⟩ : ∃ er, (readD s1 (j : Nat)).2 = er := ⟨_, rfl⟩
              obtain ⟨tt, htt⟩ : ∃ tt, bstr (readD s1 (j : Nat)).1 = tt := ⟨_, rfl⟩
              obtain ⟨nn, hnn⟩ : ∃ nn, (readD s1 (j : Nat)).1.length = nn := ⟨_, rfl⟩
              have HS : Hid (∀ W, Below w6.heap.size w6 W → W.cell? ⟨gw, j, none⟩ = some (.slice px nn cx) ∧ W.cell? ⟨ge, j, none⟩ = some (.int .i64 er) ∧ (convert 32 9 (.slice pu nn cu)).run Try.prog W = .ok (.string tt) W ∧ (convert 32 9 (.slice px nn cx)).run Try.prog W = .ok (.string tt) W) := (show Hid _ from fun W hW => by
                have hB := B6.out.trans (hW.mono B6.out.size)
                have z0 := conv_any (PU.out.later hW).2.2 _ cu rfl
                obtain ⟨px', cx', y1, y2⟩ := FW.out W hB j hjt2
                have y3 := FE.out W hB j hjt2
                have y4 : W.cell? ⟨gw, j, none⟩ = w6.cell? ⟨gw, j, none⟩ := hW.cell (p := ⟨gw, j, none⟩) (block_lt_of_cell hx1)
                rw [y4, hx1] at y1
                injection y1 with y1
                injection y1 with y5 y6 y7
                subst y5
                subst y7
                rw [her] at y3
                rw [hnn, htt] at y2 z0
                rw [hnn] at hx1
                exact ⟨y4.trans hx1, y3, z0, y2⟩)
              rw [her, hnn]
              clear her htt hnn hx1 hx2 PU
              have BD : Hid (Below w6.heap.size w6 w6.drew) := (show Hid _ from (Below.refl _ w6).drew)
              go_wp2_with fail
              go_region_held3 (fun W => W.cell? ⟨gw, j, none⟩ = some (.slice px nn cx) ∧ W.cell? ⟨ge, j, none⟩ = some (.int .i64 er) ∧ (convert 32 9 (.slice pu nn cu)).run Try.prog W = .ok (.string tt) W ∧ (convert 32 9 (.slice px nn cx)).run Try.prog W = .ok (.string tt) W)
                (first | exact HS.out _ BD.out)
                (first | (go_at_call 11; refine (num3_any _ _).mono ?_; rintro e w' ⟨rfl, hw'⟩; obtain rfl := hw'.symm))
              go_wp2_with fail
              refine ⟨⟨j + 1, by omega, by go_num, (show Hid _ from A6.out.later ((Below.refl _ w6).drew)), (show Hid _ from B6.out.trans (BD.out.mono B6.out.size))⟩, by simp [intOf]; omega⟩
            · obtain rfl : j = 6 := by omega
              go_wp2_with fail
              go_ret
              exact ⟨rfl, B5.out.trans (HBj.out.mono B5.out.size)⟩
end Go.Proofs.Ytofpojfkooigiaa
