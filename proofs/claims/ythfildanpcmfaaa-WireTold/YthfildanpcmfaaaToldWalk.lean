/- The walk of the statement WireTold: it returns true at every input, and writes nothing that was there. -/
import Derived.Test.YthfildanpcmfaaaLent
import Derived.Test.YthfildanpcmfaaaSumsWalk
import Derived.Test.YthfildanpcmfaaaToldMath
namespace Go.Proofs.Ythfildanpcmfaaa
open Go.RowKit Crcm

set_option maxRecDepth 100000 in
set_option maxHeartbeats 4000000 in
theorem told_no (kind : Int) (ad : Option Addr) (len cap : Nat) (l : List Nat) (p : Int) (mask : Nat) (w : World) (hp : Part.ok w ⟨ad, len, cap, l⟩) (hlc : len ≤ cap) (hr : cap ≤ 140737488351232) (he : (frameN kind l).1 ≠ 0) (hn : (frameN kind l).2 = []) :
    Calls Try.prog 7 #[.int .i64 kind, .slice ad len cap, .int .i64 p, .int .u32 mask] w fun e w' => e = .returned (.bool true) ∧ Below w.heap.size w w' := by
  have HP : Hid (Part.ok w ⟨ad, len, cap, l⟩) := hp
  have HL : Hid (l.length = len) := hp.1
  have hb : ((frameN kind l).1 != 0) = true := by rw [bne_iff_ne]; exact he
  have HN : Hid ((frameN kind l).2 = []) := hn
  clear hp hn he
  go_enter Try.func7, Try.ntmps7
  have b3 : Below w.heap.size w (w.alloc (.cells #[] 5)) := (Below.refl _ _).alloc (Nat.le_refl _) _
  have HP2 : Hid (Part.ok (w.alloc (.cells #[] 5)) ⟨ad, len, cap, l⟩) := HP.out.later b3
  go_wp2_with (at_builtin; refine app_any rfl (.tmp 25) (.tmp 26) rfl w.heap.size (.slice (some ⟨w.heap.size, 0, none⟩) 0 0) 0 [] rfl (empty_own w w.heap.size (Nat.le_refl _)) ad len cap l rfl HL.out HP2.out.2.1 HP2.out.2.2 (by omega) (by simp) ?_; intro v3 w3 hown3 hg3; have b4 := b3.grown hg3 (by simp) (by intro k hk; simp [Value.ownBlock] at hk; omega); simp only [Nat.zero_add, List.nil_append] at hown3; clear hg3; obtain ⟨a3, c3, rfl, ok3, hlc3, -⟩ := Own.slice ⟨HP.out.2.2.1, (by rw [HL.out]; exact hown3)⟩ len HL.out)
  have O3 : Hid (Part.ok w3 ⟨a3, len, c3, l⟩) := ok3
  clear hown3 ok3
  refine (frame_any kind a3 len c3 l _ O3.out (by unfold maxLen; omega)).mono ?_
  rintro e w4 ⟨v4, rfl, own4, b5⟩
  rw [HN.out] at own4
  obtain ⟨a4, c4, rfl, ok4, -⟩ := own4.slice 0 rfl
  have b04 : Below w.heap.size w w4 := b4.trans (b5.mono b4.size)
  clear own4 ok4 b3 b4 b5 HP2 O3
  generalize (frameN kind l).1 = e1 at *
  go_wp2_with (go_at_call 14; refine (num_any _ _).mono ?_; rintro e w' ⟨rfl, hw'⟩; obtain rfl := hw'.symm)
  refine (knows_any _).mono ?_
  rintro e w9 ⟨rfl, b9⟩
  go_wp2
  go_ret
  exact ⟨rfl, b04.trans (b9.mono b04.size)⟩

set_option maxRecDepth 100000 in
set_option maxHeartbeats 8000000 in
theorem told_yes (kind : Nat) (ad : Option Addr) (len cap : Nat) (l : List Nat) (p : Int) (mask : Nat) (w : World) (hp : Part.ok w ⟨ad, len, cap, l⟩) (hk : kind ≤ 255) (hl : len ≤ 65536) :
    Calls Try.prog 7 #[.int .i64 kind, .slice ad len cap, .int .i64 p, .int .u32 mask] w fun e w' => e = .returned (.bool true) ∧ Below w.heap.size w w' := by
  have HP : Hid (Part.ok w ⟨ad, len, cap, l⟩) := hp
  have HL : Hid (l.length = len) := hp.1
  have HF : Hid (frameN kind l = (0, frameBs kind l)) := frameN_ok kind l hk (by have := hp.1; simp only at this; omega)
  clear hp
  go_enter Try.func7, Try.ntmps7
  have b3 : Below w.heap.size w (w.alloc (.cells #[] 5)) := (Below.refl _ _).alloc (Nat.le_refl _) _
  have HP2 : Hid (Part.ok (w.alloc (.cells #[] 5)) ⟨ad, len, cap, l⟩) := HP.out.later b3
  go_wp2_with (at_builtin; refine app_any rfl (.tmp 25) (.tmp 26) rfl w.heap.size (.slice (some ⟨w.heap.size, 0, none⟩) 0 0) 0 [] rfl (empty_own w w.heap.size (Nat.le_refl _)) ad len cap l rfl HL.out HP2.out.2.1 HP2.out.2.2 (by omega) (by simp) ?_; intro v3 w3 hown3 hg3; have b4 := b3.grown hg3 (by simp) (by intro k hk; simp [Value.ownBlock] at hk; omega); simp only [Nat.zero_add, List.nil_append] at hown3; clear hg3; obtain ⟨a3, c3, rfl, ok3, hlc3, -⟩ := Own.slice ⟨HP.out.2.2.1, (by rw [HL.out]; exact hown3)⟩ len HL.out)
  have O3 : Hid (Part.ok w3 ⟨a3, len, c3, l⟩) := ok3
  clear hown3 ok3
  refine (frame_any kind a3 len c3 l _ O3.out (by unfold maxLen; omega)).mono ?_
  rintro e w4 ⟨v4, rfl, own4, b5⟩
  rw [HF.out] at own4 ⊢
  obtain ⟨N, hN⟩ : ∃ N : Nat, N = 9 + len := ⟨_, rfl⟩
  have HFl : Hid ((frameBs kind l).length = N) := by show _ = _; rw [frameBs_length, HL.out, hN]
  have HN : Hid (N = 9 + len) := hN
  have hN1 : N ≤ 9 + len := by omega
  have hN2 : 9 + len ≤ N := by omega
  have h4 : w4.ownsRow w3.heap.size 5 1 v4 N ((frameBs kind l).map bv) := by have h := own4.2; rw [HFl.out] at h; exact h
  obtain ⟨g, c, rfl, hgb, -⟩ := h4.form (by omega)
  obtain ⟨hc1, hc2⟩ := own_room h4
  have O4 : Hid (Own w4 w3.heap.size (.slice (some ⟨g, 0, none⟩) N c) (frameBs kind l)) := own4
  have b04 : Below w.heap.size w w4 := b4.trans (b5.mono b4.size)
  have hgw : w.heap.size ≤ g := Nat.le_trans b4.size hgb
  clear own4 h4 hgb b3 b4 b5 HP2 O3 HF hN
  simp only
  go_wp2_with (go_at_call 14; refine (num_any _ _).mono ?_; rintro e w' ⟨rfl, hw'⟩; obtain rfl := hw'.symm)
  refine (knows_any _).mono ?_
  rintro e w5 ⟨rfl, b5⟩
  have O5 : Hid (Own w5 w3.heap.size (.slice (some ⟨g, 0, none⟩) N c) (frameBs kind l)) := O4.out.later b5
  have b05 : Below w.heap.size w w5 := b04.trans (b5.mono b04.size)
  clear O4 b04 b5
  go_wp2_with fail
  have c5 : Hid (Part.ok w5 ⟨some ⟨g, 0, none⟩, N - 1, c, (frameBs kind l).take (N - 1)⟩) := by
    have h := O5.out
    have e := List.take_append_drop (N - 1) (frameBs kind l)
    rw [← e] at h
    exact h.cut (by rw [List.length_take, HFl.out]; omega) (by rw [e, HFl.out])
  have HE : Hid (unframeN ((frameBs kind l).take (N - 1)) 0 = (0, [], 0, 20)) := told_end kind l (N - 1) hk (by rw [HL.out]; exact hl) (by rw [HL.out]; omega)
  refine (unframe_any _ (N - 1) c _ 0 _ c5.out (by omega) (by omega) (by omega)).mono ?_
  rintro e w6 ⟨v6, rfl, own6, b6⟩
  rw [HE.out] at own6 ⊢
  obtain ⟨a6, c6, rfl, -, -, -⟩ := own6.slice 0 rfl
  have O6 : Hid (Own w6 w3.heap.size (.slice (some ⟨g, 0, none⟩) N c) (frameBs kind l)) := O5.out.later b6
  have b06 : Below w.heap.size w w6 := b05.trans (b6.mono b05.size)
  clear O5 c5 own6 b05 b6 HE
  simp only
  obtain ⟨M, hM⟩ : ∃ M : Nat, M = 8 * (4 + len) := ⟨_, rfl⟩
  obtain ⟨q, hq, eq⟩ := place_eq p M (by omega) (by omega)
  have eM : 8 * ((N : Int) - 5) = (M : Int) := by omega
  have HM : Hid (M = 8 * (4 + len)) := hM
  have hM1 : M ≤ 8 * (4 + len) := by omega
  have hM2 : 8 * (4 + len) ≤ M := by omega
  clear hM
  go_wp2
  go_loopw [16, 17] (fun sm i wr => ∃ (k m : Nat) (B : List Nat), k ≤ 32 ∧ i = .int .i64 k ∧ sm = .bool (!decide (m = 0)) ∧ m < 2 ^ k ∧ Hid (B.length = N) ∧ Hid (valN B = valN (frameBs kind l) ^^^ m * 2 ^ (40 + q)) ∧ Hid (B.take 5 = (frameBs kind l).take 5) ∧ Hid (m = 0 → B = frameBs kind l) ∧ Hid (Own wr w3.heap.size (.slice (some ⟨g, 0, none⟩) N c) B) ∧ Below w.heap.size w wr) (fun _ i _ => 32 - (intOf i).toNat)
  case atStart => exact ⟨0, 0, frameBs kind l, by omega, rfl, rfl, by omega, HFl, (by show _ = _; simp), rfl, fun _ => rfl, O6, b06⟩
  case round =>
    obtain ⟨k, m, B, hk32, rfl, rfl, hm, HBl, HBv, HB5, HB0, HBo, hbk⟩ := hrel
    clear O6 b06
    by_cases h32 : k < 32
    · by_cases hin : q + k < M
      · have hB : Hid (∀ x ∈ B, x < 256) := HBo.out.1
        have hjl : 5 + (q + k) / 8 < N := by omega
        have ho : wr.ownsRow w3.heap.size 5 1 (.slice (some ⟨g, 0, none⟩) N c) N (B.map bv) := by have h := HBo.out.2; rw [HBl.out] at h; exact h
        obtain ⟨y0, hy0⟩ : ∃ y0, y0 = B.getD (5 + (q + k) / 8) 0 := ⟨_, rfl⟩
        have HY : Hid (y0 = B.getD (5 + (q + k) / 8) 0) := hy0
        have hy : y0 < 256 := by rw [hy0]; exact getD_lt hB.out _
        have hcj : wr.cell? ⟨g, 5 + (q + k) / 8, none⟩ = some (.int .u8 (y0 : Int)) := by
          rw [ho.cellAt _ (by omega), List.getElem?_map, hy0, List.getD_eq_getElem?_getD, List.getElem?_eq_getElem (by rw [HBl.out]; exact hjl)]; rfl
        have hfj := ho.frozenAt (5 + (q + k) / 8)
        clear hy0
        by_cases hbit : (bits .and .u32 ((mask : Int) / 2 ^ k) 1 == 1) = true
        · obtain ⟨s, hs, es, hsy⟩ := byte_turn y0 ((q + k) % 8) hy (by omega)
          have hst := ho.stored (5 + (q + k) / 8) (bv s)
          have OS : Hid (Own (wr.setCell ⟨g, 5 + (q + k) / 8, none⟩ (.int .u8 (s : Int))) w3.heap.size (.slice (some ⟨g, 0, none⟩) N c) (B.set (5 + (q + k) / 8) s)) := by
            refine ⟨?_, ?_⟩
            · intro y hy
              rcases List.mem_or_eq_of_mem_set hy with h | h
              · exact hB.out y h
              · omega
            · rw [List.length_set, HBl.out, List.map_set]; exact hst.1
          have VS : Hid (valN (B.set (5 + (q + k) / 8) s) = valN (frameBs kind l) ^^^ (m + 2 ^ k) * 2 ^ (40 + q)) := turn_step _ B q k m y0 s hB.out (by rw [HBl.out]; exact hjl) hm HBv.out HY.out hsy
          have TS : Hid ((B.set (5 + (q + k) / 8) s).take 5 = (frameBs kind l).take 5) := by
            show _ = _
            rw [List.take_set_of_le (by omega)]
            exact HB5.out
          have h2k : 0 < 2 ^ k := Nat.pow_pos (by omega)
          have MS : Hid (m + 2 ^ k < 2 ^ (k + 1) ∧ ¬ m + 2 ^ k = 0) := ⟨by rw [Nat.pow_succ]; omega, by omega⟩
          have bS : Below w.heap.size w (wr.setCell ⟨g, 5 + (q + k) / 8, none⟩ (.int .u8 (s : Int))) := hbk.setCell hgw _
          clear ho hst hsy h2k
          go_wp2
          go_roundw
          case rel =>
            exact ⟨k + 1, m + 2 ^ k, B.set (5 + (q + k) / 8) s, by omega, by go_num, by rw [decide_eq_false MS.out.2]; rfl, MS.out.1, by show _ = _; rw [List.length_set]; exact HBl.out, VS, TS, fun h => absurd h MS.out.2, OS, bS⟩
          case measure => simp [intOf]; omega
        · have hbit2 : (bits .and .u32 ((mask : Int) / 2 ^ k) 1 == 1) = false := by simpa using hbit
          clear hbit ho
          go_wp2
          go_roundw
          case rel => exact ⟨k + 1, m, B, by omega, by go_num, rfl, by rw [Nat.pow_succ]; omega, HBl, HBv, HB5, HB0, HBo, hbk⟩
          case measure => simp [intOf]; omega
      · have HT : Hid (Part.ok wr ⟨some ⟨g, 0, none⟩, N, c, B⟩) := by
          obtain ⟨x1, x2, x3, x4, -⟩ := HBo.out.slice N HBl.out
          cases x3
          exact x4
        have hm32 : Hid (m < 2 ^ 32) := Nat.lt_of_lt_of_le hm (Nat.pow_le_pow_right (by omega) hk32)
        by_cases hm0 : m = 0
        · have HU : Hid (unframeN B 0 = ((kind : Int), l, ((9 + l.length : Nat) : Int), 0)) := by
            show _ = _
            rw [HB0.out hm0]
            exact told_ok kind l hk (by rw [HL.out]; exact hl)
          subst hm0
          go_wp2_with fail
          refine (unframe_any _ N c B 0 _ HT.out (by omega) (by omega) (by omega)).mono ?_
          rintro e w7 ⟨v7, rfl, own7, b7⟩
          rw [HU.out]
          have b07 : Below w.heap.size w w7 := hbk.trans (b7.mono hbk.size)
          clear own7 b7 hbk HT
          simp only
          go_wp2_with (go_at_call 14; refine (num_any _ _).mono ?_; rintro e w' ⟨rfl, hw'⟩; obtain rfl := hw'.symm)
          go_ret
          exact ⟨rfl, b07⟩
        · have HU : Hid (unframeN B 0 = (0, [], 0, 21)) := told_sum kind l B m (40 + q) hk (by rw [HL.out]; exact hl) HP.out.2.2.1 HBo.out.1 (by rw [HBl.out, HL.out]; omega) HB5.out hm32.out hm0 (by rw [HL.out]; omega) HBv.out
          have hmb : decide (m = 0) = false := by simp [hm0]
          clear hm0
          go_wp2_with fail
          refine (unframe_any _ N c B 0 _ HT.out (by omega) (by omega) (by omega)).mono ?_
          rintro e w7 ⟨v7, rfl, own7, b7⟩
          rw [HU.out] at own7 ⊢
          obtain ⟨a7, c7, rfl, -, -, -⟩ := own7.slice 0 rfl
          have b07 : Below w.heap.size w w7 := hbk.trans (b7.mono hbk.size)
          clear own7 b7 hbk HT
          simp only
          go_wp2_with (go_at_call 14; refine (num_any _ _).mono ?_; rintro e w' ⟨rfl, hw'⟩; obtain rfl := hw'.symm)
          go_ret
          exact ⟨rfl, b07⟩
    · have HT : Hid (Part.ok wr ⟨some ⟨g, 0, none⟩, N, c, B⟩) := by
        obtain ⟨x1, x2, x3, x4, -⟩ := HBo.out.slice N HBl.out
        cases x3
        exact x4
      have hm32 : Hid (m < 2 ^ 32) := Nat.lt_of_lt_of_le hm (Nat.pow_le_pow_right (by omega) hk32)
      by_cases hm0 : m = 0
      · have HU : Hid (unframeN B 0 = ((kind : Int), l, ((9 + l.length : Nat) : Int), 0)) := by
          show _ = _
          rw [HB0.out hm0]
          exact told_ok kind l hk (by rw [HL.out]; exact hl)
        subst hm0
        go_wp2_with fail
        refine (unframe_any _ N c B 0 _ HT.out (by omega) (by omega) (by omega)).mono ?_
        rintro e w7 ⟨v7, rfl, own7, b7⟩
        rw [HU.out]
        have b07 : Below w.heap.size w w7 := hbk.trans (b7.mono hbk.size)
        clear own7 b7 hbk HT
        simp only
        go_wp2_with (go_at_call 14; refine (num_any _ _).mono ?_; rintro e w' ⟨rfl, hw'⟩; obtain rfl := hw'.symm)
        go_ret
        exact ⟨rfl, b07⟩
      · have HU : Hid (unframeN B 0 = (0, [], 0, 21)) := told_sum kind l B m (40 + q) hk (by rw [HL.out]; exact hl) HP.out.2.2.1 HBo.out.1 (by rw [HBl.out, HL.out]; omega) HB5.out hm32.out hm0 (by rw [HL.out]; omega) HBv.out
        have hmb : decide (m = 0) = false := by simp [hm0]
        clear hm0
        go_wp2_with fail
        refine (unframe_any _ N c B 0 _ HT.out (by omega) (by omega) (by omega)).mono ?_
        rintro e w7 ⟨v7, rfl, own7, b7⟩
        rw [HU.out] at own7 ⊢
        obtain ⟨a7, c7, rfl, -, -, -⟩ := own7.slice 0 rfl
        have b07 : Below w.heap.size w w7 := hbk.trans (b7.mono hbk.size)
        clear own7 b7 hbk HT
        simp only
        go_wp2_with (go_at_call 14; refine (num_any _ _).mono ?_; rintro e w' ⟨rfl, hw'⟩; obtain rfl := hw'.symm)
        go_ret
        exact ⟨rfl, b07⟩

theorem told_walk (kind : Int) (ad : Option Addr) (len cap : Nat) (l : List Nat) (p : Int) (mask : Nat) (w : World) (hp : Part.ok w ⟨ad, len, cap, l⟩) (hlc : len ≤ cap) (hr : cap ≤ 140737488351232) :
    Calls Try.prog 7 #[.int .i64 kind, .slice ad len cap, .int .i64 p, .int .u32 mask] w fun e w' => e = .returned (.bool true) ∧ Below w.heap.size w w' := by
  have hlen : l.length = len := hp.1
  by_cases hk : 0 ≤ kind ∧ kind ≤ 255
  · by_cases hl : len ≤ 65536
    · obtain ⟨k, rfl⟩ := Int.eq_ofNat_of_zero_le hk.1
      exact told_yes k ad len cap l p mask w hp (by omega) hl
    · have e := frameN_size kind l hk (by omega)
      exact told_no kind ad len cap l p mask w hp hlc hr (by rw [e]; omega) (by rw [e])
  · have e := frameN_kind kind l hk
    exact told_no kind ad len cap l p mask w hp hlc hr (by rw [e]; omega) (by rw [e])
end Go.Proofs.Ythfildanpcmfaaa
