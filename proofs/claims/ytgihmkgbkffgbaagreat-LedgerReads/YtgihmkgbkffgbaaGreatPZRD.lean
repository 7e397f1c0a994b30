/- What the document's own Decode (package ref) answers: P204. What the document's own Decode (package ref) answers: P204. What the document's own Decode (package ref) answers, whatever the bytes: P204. -/
import Derived.Test.YtgihmkgbkffgbaaGreatPZRE
namespace Go.Proofs.YtgihmkgbkffgbaaGreat
open Go.RowKit

set_option maxRecDepth 100000 in
set_option maxHeartbeats 4000000 in
theorem refDecode_no (ad : Option Addr) (len cap : Nat) (l : List Nat) (w : World) (hp : Part.ok w ⟨ad, len, cap, l⟩) (hlc : len ≤ cap) (hm : len ≤ 1000000000000000) (h18 : 18 ≤ len) (hbit : (l.getD 1 0 % 2 == 1) = false) :
    Calls Tryz.prog 19 #[.slice ad len cap] w fun x w' => DecPost l w x w' := by
  have HLn : Hid (l.length = len) := hp.1
  have HL18 : Hid (¬ l.length < 18) := by rw [hp.1]; show ¬ len < 18; omega
  have H256 : Hid (∀ x ∈ l, x < 256) := hp.2.2.1
  have HP : Hid (Part.ok w ⟨ad, len, cap, l⟩) := hp
  obtain ⟨b, off, rfl, hbl, hcell⟩ := hp.cells (by omega)
  have HC : Hid (∀ W, Below w.heap.size w W → ∀ i, i < len → W.cell? ⟨b, off + i, none⟩ = some (.int .u8 (l.getD i 0 : Nat))) := fun W hW i hi => (hW.cell (p := ⟨b, off + i, none⟩) hbl).trans (hcell i hi)
  have HS : Hid (∀ W, Below w.heap.size w W → W.cell? ⟨b, off, none⟩ = some (.int .u8 (l.getD 0 0 : Nat)) ∧ W.cell? ⟨b, off + 1, none⟩ = some (.int .u8 (l.getD 1 0 : Nat))) := fun W hW => ⟨(hW.cell (p := ⟨b, off, none⟩) hbl).trans (hcell 0 (by omega)), (hW.cell (p := ⟨b, off + 1, none⟩) hbl).trans (hcell 1 (by omega))⟩
  have b0 : Hid (Below w.heap.size w (w.alloc (.cells #[.int .i64 0, .int .i64 0, .int .i64 0, .int .i64 0, .bool false, .slice none 0 0] 25))) := (Below.refl _ _).alloc (Nat.le_refl _) _
  have hl18 : decide ((len : Int) < 18) = false := by simp; omega
  have i0 : (0 : Int) < len := by omega
  have i1 : (1 : Int) < len := by omega
  have j0 : 0 < len := by omega
  have j1 : 1 < len := by omega
  have n0 : l.getD 0 0 < 256 := getD_lt hp.2.2.1 0
  have n1 : l.getD 1 0 < 256 := getD_lt hp.2.2.1 1
  have f1 := flag8_two _ n1
  have f2 := flag8_one _ n1
  rw [hbit] at f2
  have HBat : Hid (∀ rs : List Rec, batOf l rs = ⟨(l.getD 0 0 : Nat), -1, (valN ((l.drop 8).take 4) : Nat), (valN ((l.drop 12).take 4) : Nat), l.getD 1 0 / 2 % 2 == 1, rs⟩) := fun rs => by
    unfold batOf
    rw [if_neg (by simpa using hbit)]
  obtain ⟨k0, hk0⟩ : ∃ k, l.getD 0 0 = k := ⟨_, rfl⟩
  obtain ⟨k1, hk1⟩ : ∃ k, l.getD 1 0 = k := ⟨_, rfl⟩
  rw [hk0] at HS n0 HBat
  rw [hk1] at HS n1 f1 f2 HBat
  have iw0 : IntKind.i64.wrap ((k0 : Nat) : Int) = (k0 : Int) := by
    simp [IntKind.wrap, IntKind.bits, IntKind.signed]; omega
  obtain ⟨vp, hvp⟩ : ∃ v, valN ((l.drop 2).take 6) = v := ⟨_, rfl⟩
  obtain ⟨ve, hve⟩ : ∃ v, valN ((l.drop 8).take 4) = v := ⟨_, rfl⟩
  obtain ⟨vs, hvs⟩ : ∃ v, valN ((l.drop 12).take 4) = v := ⟨_, rfl⟩
  obtain ⟨M, hM⟩ : ∃ v, toldRecs l = v := ⟨_, rfl⟩
  have hMlt : M < 65536 := by rw [← hM]; exact told_lt l hp.2.2.1
  have g2 : getN l 2 6 = ((vp : Int), 8, 0) := by rw [← hvp]; exact getN_ok l 2 6 (by omega) (by rw [HLn.out]; omega)
  have g8 : getN l 8 4 = ((ve : Int), 12, 0) := by rw [← hve]; exact getN_ok l 8 4 (by omega) (by rw [HLn.out]; omega)
  have g12 : getN l 12 4 = ((vs : Int), 16, 0) := by rw [← hvs]; exact getN_ok l 12 4 (by omega) (by rw [HLn.out]; omega)
  have g16 : getN l 16 2 = ((M : Int), 18, 0) := by rw [← hM]; exact getN_ok l 16 2 (by omega) (by rw [HLn.out]; omega)
  rw [hve, hvs] at HBat
  have HMM : Hid (toldRecs l = M) := hM
  have c0w : w.cell? ⟨b, off, none⟩ = some (.int .u8 (k0 : Nat)) := by rw [← hk0]; exact hcell 0 (by omega)
  have c1w : w.cell? ⟨b, off + 1, none⟩ = some (.int .u8 (k1 : Nat)) := by rw [← hk1]; exact hcell 1 (by omega)
  have QQ : Hid (BBox (((w.alloc (.cells #[.int .i64 0, .int .i64 0, .int .i64 0, .int .i64 0, .bool false, .slice none 0 0] 25)).alloc (.cells #[.int .i64 k0, .int .i64 (-1), .int .i64 ve, .int .i64 vs, .bool (k1 / 2 % 2 == 1), .slice none 0 0] 25)).drew) w.heap.size 0 0 0 0 false (.slice none 0 0)) := (two_bats w _ _ _ _ _ _ _ _ _ _ _ _).1
  have BQ : Hid (BBox (((w.alloc (.cells #[.int .i64 0, .int .i64 0, .int .i64 0, .int .i64 0, .bool false, .slice none 0 0] 25)).alloc (.cells #[.int .i64 k0, .int .i64 (-1), .int .i64 ve, .int .i64 vs, .bool (k1 / 2 % 2 == 1), .slice none 0 0] 25)).drew) (w.heap.size + 1) k0 (-1) ve vs (k1 / 2 % 2 == 1) (.slice none 0 0)) := (two_bats w _ _ _ _ _ _ _ _ _ _ _ _).2.1
  have B0 : Hid (Below w.heap.size w (((w.alloc (.cells #[.int .i64 0, .int .i64 0, .int .i64 0, .int .i64 0, .bool false, .slice none 0 0] 25)).alloc (.cells #[.int .i64 k0, .int .i64 (-1), .int .i64 ve, .int .i64 vs, .bool (k1 / 2 % 2 == 1), .slice none 0 0] 25)).drew)) := (two_bats w _ _ _ _ _ _ _ _ _ _ _ _).2.2
  clear hp hcell hvp hve hvs hM hk0 hk1 hbit
  go_enter Tryz.func19, Tryz.ntmps19
  go_wp2_with fail
  go_region_held3 (fun w' => w'.cell? ⟨b, off, none⟩ = some (.int .u8 (k0 : Nat)) ∧ w'.cell? ⟨b, off + 1, none⟩ = some (.int .u8 (k1 : Nat)))
    ((refine HS.out _ ?_; repeat (first | exact b0.out | refine Below.setCell ?_ (by simp) _ | refine Below.alloc ?_ (by simp) _ | refine Below.drew ?_)))
    (fail)
  go_wp2_with (first | (go_at_call 20; refine (refGet_any (some ⟨b, off, none⟩) len cap l _ _ _ (HP.out.later (by repeat (first | exact b0.out | refine Below.drew ?_ | refine Below.alloc ?_ (by simp) _))) hm (by omega)).mono ?_; rintro x w' ⟨rfl, hw'⟩; obtain rfl := hw'.symm; first | rw [g2] | rw [g8] | rw [g12] | rw [g16]))
  go_loopw [9, 11] (fun at_ i wr => ∃ (j : Nat) (rs : List Rec) (q : Nat) (v : Value), j ≤ M ∧ at_ = .int .i64 q ∧ i = .int .i64 j ∧ Hid (readN l 18 j = some (rs, q)) ∧ Hid (BBox wr w.heap.size 0 0 0 0 false (.slice none 0 0)) ∧ Hid (BBox wr (w.heap.size + 1) k0 (-1) ve vs (k1 / 2 % 2 == 1) v) ∧ Hid (OwnR wr w.heap.size v rs) ∧ Hid (Below w.heap.size w wr)) (fun _ i _ => M - (intOf i).toNat)
  case atStart => exact ⟨0, [], 18, .slice none 0 0, Nat.zero_le _, rfl, rfl, (show Hid _ from rfl), QQ, BQ, (show Hid _ from World.ownsRow_nil _ _ _ _), B0⟩
  case round =>
    clear QQ BQ B0 b0 g2 g8 g12 g16 f1 f2 c0w c1w
    obtain ⟨j, rs, q, v, hj, rfl, rfl, HD, HQ, HB, HO, HW⟩ := hrel
    have hbd := readN_bound (by rw [HLn.out]; exact h18) HD.out
    rw [HLn.out] at hbd
    have PP : Hid (Part.ok wr ⟨some ⟨b, off, none⟩, len, cap, l⟩) := HP.out.later HW.out
    by_cases hlt : j < M
    · by_cases hq : q = len
      · have HX : Hid (readN l 18 M = none) := readN_none_le l 18 (j + 1) M hlt (by rw [readN, HD.out]; simp only [recAt_none_a (p := q) (l := l) (by rw [HLn.out]; omega)])
        have e1 : ((q : Int) == (len : Int)) = true := by rw [hq]; simp
        have c0 := HQ.out.c0
        have c1 := HQ.out.c1
        have c2 := HQ.out.c2
        have c3 := HQ.out.c3
        have c4 := HQ.out.c4
        have c5 := HQ.out.c5
        have cf0 := HQ.out.free 0
        have cf1 := HQ.out.free 1
        have cf2 := HQ.out.free 2
        have cf3 := HQ.out.free 3
        have cf4 := HQ.out.free 4
        have cf5 := HQ.out.free 5
        go_wp2
        refine bodyPost_ret (ret_batch Tryz.results19 _ _ w.heap.size 0 0 0 0 false (.slice none 0 0) rfl (HQ.out.set6 0 0 0 0 false (.slice none 0 0))) rfl (decPost_zero (decodeN_end l HL18.out (by rw [HMM.out]; exact HX.out)) rfl ?_)
        exact set6_below HW.out (Nat.le_refl _) 0 0 0 0 false (.slice none 0 0)
      · have e1 : ((q : Int) == (len : Int)) = false := by simp; omega
        have hql : q < len := by omega
        have hql2 : (q : Int) < (len : Int) := by omega
        have cq := HC.out wr HW.out q hql
        by_cases h1 : q + 3 + lenAt l (q + 1) ≤ len
        · have t1 : getTextN l ((q : Int) + 1) = _ := getTextN_ok l (q + 1) (by rw [HLn.out]; omega)
          obtain ⟨q1, hq1⟩ : ∃ q1, q + 1 + 2 + lenAt l (q + 1) = q1 := ⟨_, rfl⟩
          rw [hq1] at t1
          by_cases h2 : q1 + 2 + lenAt l q1 ≤ len
          · have t2 := getTextN_ok l q1 (by rw [HLn.out]; omega)
            obtain ⟨q2, hq2⟩ : ∃ q2, q1 + 2 + lenAt l q1 = q2 := ⟨_, rfl⟩
            rw [hq2] at t2
            have HX : Hid (readN l 18 (j + 1) = some (rs ++ [⟨bstr ((l.drop (q + 1 + 2)).take (lenAt l (q + 1))), bstr ((l.drop (q1 + 2)).take (lenAt l q1)), ((l.getD q 0 : Nat) : Int) != 0⟩], q2)) := by
              show _ = _
              rw [readN, HD.out]
              simp only [recAt_ok (l := l) (p := q) (by rw [HLn.out]; omega) (q1 := q1) (by omega) (by rw [HLn.out]; omega) (q2 := q2) (by omega)]
            generalize bstr ((l.drop (q + 1 + 2)).take (lenAt l (q + 1))) = tk at *
            generalize bstr ((l.drop (q1 + 2)).take (lenAt l q1)) = tv at *
            have hq1b : q1 ≤ len := by omega
            have hq2b : q2 ≤ len := by omega
            generalize l.getD q 0 = by_ at *
            clear hq1 hq2 h1 h2
            have d5 := HB.out.c5
            have hsz := HW.out.size
            have hb2 := HB.out.lt
            have ba : Below wr.heap.size wr (wr.alloc (.cells #[.string tk, .string tv, .bool ((by_ : Int) != 0)] 88)) := (Below.refl _ _).alloc (Nat.le_refl _) _
            have OA : Hid (OwnR (wr.alloc (.cells #[.string tk, .string tv, .bool ((by_ : Int) != 0)] 88)) w.heap.size v rs) := HO.out.later ba
            have RA : Hid (RRow (wr.alloc (.cells #[.string tk, .string tv, .bool ((by_ : Int) != 0)] 88)) (some ⟨wr.heap.size, 0, none⟩) [⟨tk, tv, (by_ : Int) != 0⟩]) := one_rec wr ⟨tk, tv, (by_ : Int) != 0⟩
            have HL : rs.length = j := hbd.2
            clear ba
            go_wp2_with (first | (go_at_call 41; refine (refGetText_any (some ⟨b, off, none⟩) len cap l _ _ PP.out hlc hm (by omega)).mono ?_; rintro x w' ⟨rfl, hw'⟩; obtain rfl := hw'.symm; rw [t1]) | (go_at_call 41; refine (refGetText_any (some ⟨b, off, none⟩) len cap l _ _ PP.out hlc hm (by omega)).mono ?_; rintro x w' ⟨rfl, hw'⟩; obtain rfl := hw'.symm; rw [t2]) | (at_builtin; refine app_recs rfl _ _ rfl w.heap.size v rs.length rs rfl OA.out (some ⟨wr.heap.size, 0, none⟩) 1 1 [⟨tk, tv, (by_ : Int) != 0⟩] rfl rfl (fun e => (by cases e)) RA.out (by omega) (by simp; omega) ?_; intro v6 w6 O6 hg6; obtain ⟨OO, XQ, XB, XW, hv6⟩ := refapp_step HQ.out HB.out HO.out HW.out O6 hg6; obtain ⟨a6, n6, c6, rfl⟩ := hv6; have e5 := XB.c5; have f5 := XB.free 5; clear O6 hg6))
            refine ⟨⟨j + 1, rs ++ [(⟨tk, tv, (by_ : Int) != 0⟩ : Rec)], q2, .slice a6 n6 c6, by omega, rfl, by go_num, HX, (show Hid _ from XQ.setOther (by omega) 5 _), (show Hid (BBox _ _ _ _ _ _ _ _) from block_set (i := 5) XB (.slice a6 n6 c6)), (show Hid (OwnR _ _ _ _) from ownR_set OO (ownR_typed OO XB (by decide)) 5 (.slice a6 n6 c6)), (show Hid _ from XW.setCell (p := ⟨w.heap.size + 1, 5, none⟩) (by simp) _)⟩, ?_⟩
            simp [intOf]; omega
          · have t2 := getTextN_end l q1 (by rw [HLn.out]; omega)
            have HX : Hid (readN l 18 M = none) := readN_none_le l 18 (j + 1) M hlt (by rw [readN, HD.out]; simp only [recAt_none_b (p := q) (l := l) (by rw [HLn.out, show q + 3 + lenAt l (q + 1) = q1 by omega]; omega)])
            generalize bstr ((l.drop (q + 1 + 2)).take (lenAt l (q + 1))) = tk at *
            have hq1b : q1 ≤ len := by omega
            generalize l.getD q 0 = by_ at *
            clear hq1 h1 h2
            have c0 := HQ.out.c0
            have c1 := HQ.out.c1
            have c2 := HQ.out.c2
            have c3 := HQ.out.c3
            have c4 := HQ.out.c4
            have c5 := HQ.out.c5
            have cf0 := HQ.out.free 0
            have cf1 := HQ.out.free 1
            have cf2 := HQ.out.free 2
            have cf3 := HQ.out.free 3
            have cf4 := HQ.out.free 4
            have cf5 := HQ.out.free 5
            go_wp2_with (first | (go_at_call 41; refine (refGetText_any (some ⟨b, off, none⟩) len cap l _ _ PP.out hlc hm (by omega)).mono ?_; rintro x w' ⟨rfl, hw'⟩; obtain rfl := hw'.symm; rw [t1]) | (go_at_call 41; refine (refGetText_any (some ⟨b, off, none⟩) len cap l _ _ PP.out hlc hm (by omega)).mono ?_; rintro x w' ⟨rfl, hw'⟩; obtain rfl := hw'.symm; rw [t2]))
            refine bodyPost_ret (ret_batch Tryz.results19 _ _ w.heap.size 0 0 0 0 false (.slice none 0 0) rfl (HQ.out.set6 0 0 0 0 false (.slice none 0 0))) rfl (decPost_zero (decodeN_end l HL18.out (by rw [HMM.out]; exact HX.out)) rfl ?_)
            exact set6_below HW.out (Nat.le_refl _) 0 0 0 0 false (.slice none 0 0)
        · have t1 : getTextN l ((q : Int) + 1) = _ := getTextN_end l (q + 1) (by rw [HLn.out]; omega)
          have HX : Hid (readN l 18 M = none) := readN_none_le l 18 (j + 1) M hlt (by rw [readN, HD.out]; simp only [recAt_none_a (p := q) (l := l) (by rw [HLn.out]; omega)])
          generalize l.getD q 0 = by_ at *
          clear h1
          have c0 := HQ.out.c0
          have c1 := HQ.out.c1
          have c2 := HQ.out.c2
          have c3 := HQ.out.c3
          have c4 := HQ.out.c4
          have c5 := HQ.out.c5
          have cf0 := HQ.out.free 0
          have cf1 := HQ.out.free 1
          have cf2 := HQ.out.free 2
          have cf3 := HQ.out.free 3
          have cf4 := HQ.out.free 4
          have cf5 := HQ.out.free 5
          go_wp2_with (first | (go_at_call 41; refine (refGetText_any (some ⟨b, off, none⟩) len cap l _ _ PP.out hlc hm (by omega)).mono ?_; rintro x w' ⟨rfl, hw'⟩; obtain rfl := hw'.symm; rw [t1]))
          refine bodyPost_ret (ret_batch Tryz.results19 _ _ w.heap.size 0 0 0 0 false (.slice none 0 0) rfl (HQ.out.set6 0 0 0 0 false (.slice none 0 0))) rfl (decPost_zero (decodeN_end l HL18.out (by rw [HMM.out]; exact HX.out)) rfl ?_)
          exact set6_below HW.out (Nat.le_refl _) 0 0 0 0 false (.slice none 0 0)
    · obtain rfl : j = M := by omega
      have hv := HO.out.form
      rw [hbd.2] at hv
      obtain ⟨a, c, rfl, hnil, hle, hroom, hrow⟩ := hv
      have HA : Hid (BArg wr (⟨(k0 : Nat), (-1), (ve : Nat), (vs : Nat), k1 / 2 % 2 == 1, rs⟩ : Bat) a j c) := ⟨hbd.2, hnil, hle, hroom, hrow, fun r hr => (by have := readN_sizes H256.out HD.out r hr; rw [HLn.out] at this; show _ ≤ 9223372036854775807 ∧ _ ≤ 9223372036854775807; omega)⟩
      have HD' : Hid (readN l 18 (toldRecs l) = some (rs, q)) := by rw [HMM.out]; exact HD.out
      have BD : Hid (Below wr.heap.size wr wr.drew) := (Below.refl _ _).drew
      have S1 : Hid (∀ W, Below wr.heap.size wr W → _) := fun W hW => dec_S (HB.out.later hW) (PP.out.later hW)
      have S0 := dec_S HB.out PP.out
      obtain ⟨tx, htx⟩ : ∃ t, bstr l = t := ⟨_, rfl⟩
      rw [htx] at S0 S1
      unfold DecS at S0 S1
      have HTX : Hid (bstr l = tx) := htx
      clear hnil hle hroom hrow HD htx
      by_cases hc : checkN (⟨(k0 : Nat), (-1), (ve : Nat), (vs : Nat), k1 / 2 % 2 == 1, rs⟩ : Bat) = 0
      · have HLt := writeN_lt _ hc
        by_cases hw : writeN (⟨(k0 : Nat), (-1), (ve : Nat), (vs : Nat), k1 / 2 % 2 == 1, rs⟩ : Bat) = l
        ·
          have HZ : Hid (decodeN l = ((⟨(k0 : Nat), (-1), (ve : Nat), (vs : Nat), k1 / 2 % 2 == 1, rs⟩ : Bat), 0)) := by rw [← HBat.out rs]; exact decodeN_ok l rs q HL18.out HD'.out (by rw [HBat.out]; exact ⟨hc, hw⟩)
          have hE := bstr_beq2 HLt H256.out true (by simp [hw])
          obtain ⟨ty, hty⟩ : ∃ t, bstr (writeN (⟨(k0 : Nat), (-1), (ve : Nat), (vs : Nat), k1 / 2 % 2 == 1, rs⟩ : Bat)) = t := ⟨_, rfl⟩
          rw [HTX.out, hty] at hE
          have HTY : Hid (bstr (writeN (⟨(k0 : Nat), (-1), (ve : Nat), (vs : Nat), k1 / 2 % 2 == 1, rs⟩ : Bat)) = ty) := hty
          clear hty HLt hw
          go_wp2_with fail
          have sd := S1.out _ BD.out
          go_region_with (first
              | (go_at_call 42; refine (refCheck_any k0 (-1) ve vs (k1 / 2 % 2 == 1) rs a j c _ (HA.out.later BD.out)).mono ?_; rintro r w5 ⟨rfl, b5⟩; have B5 : Hid (Below wr.heap.size wr w5) := BD.out.trans (b5.mono BD.out.size); clear b5; rw [hc]; have s5 := S1.out _ B5.out)
              | (go_at_call 43; refine (refWrite_any k0 ve vs (-1) (k1 / 2 % 2 == 1) rs a j c _ (HA.out.later B5.out) hc).mono ?_; rintro r w6 ⟨v6, rfl, own6, b6⟩; have B6 : Hid (Below wr.heap.size wr w6) := B5.out.trans (b6.mono B5.out.size); obtain ⟨n6, hn6⟩ : ∃ n, (writeN (⟨(k0 : Nat), (-1), (ve : Nat), (vs : Nat), k1 / 2 % 2 == 1, rs⟩ : Bat)).length = n := ⟨_, rfl⟩; obtain ⟨a6, c6, rfl, ok6, -⟩ := own6.slice n6 hn6; have cv6 := conv_any ok6.2.2 n6 c6 ok6.1; rw [HTY.out] at cv6; clear b6 own6 ok6 hn6; have s6 := S1.out _ B6.out))
          all_goals have BE := B6
          all_goals have XQ : Hid (BBox w6 w.heap.size 0 0 0 0 false (.slice none 0 0)) := HQ.out.later BE.out
          all_goals have XW : Hid (Below w.heap.size w w6) := HW.out.trans (BE.out.mono HW.out.size)
          all_goals have A6 : Hid (BArg w6 (⟨(k0 : Nat), (-1), (ve : Nat), (vs : Nat), k1 / 2 % 2 == 1, rs⟩ : Bat) a j c) := HA.out.later BE.out
          all_goals have c0 := XQ.out.c0
          all_goals have c1 := XQ.out.c1
          all_goals have c2 := XQ.out.c2
          all_goals have c3 := XQ.out.c3
          all_goals have c4 := XQ.out.c4
          all_goals have c5 := XQ.out.c5
          all_goals have cf0 := XQ.out.free 0
          all_goals have cf1 := XQ.out.free 1
          all_goals have cf2 := XQ.out.free 2
          all_goals have cf3 := XQ.out.free 3
          all_goals have cf4 := XQ.out.free 4
          all_goals have cf5 := XQ.out.free 5
          all_goals go_wp2
          all_goals ((refine bodyPost_ret (ret_batch Tryz.results19 _ _ w.heap.size k0 (-1) ve vs (k1 / 2 % 2 == 1) (.slice a j c) rfl (XQ.out.set6 k0 (-1) ve vs (k1 / 2 % 2 == 1) (.slice a j c))) rfl (decPost_ok HZ.out rfl ?_ ?_)); (exact ⟨A6.out.len_eq, A6.out.nil, A6.out.le, A6.out.room, A6.out.row.set6 XQ.out k0 (-1) ve vs (k1 / 2 % 2 == 1) (.slice a j c), A6.out.size⟩); (exact set6_below XW.out (Nat.le_refl _) k0 (-1) ve vs (k1 / 2 % 2 == 1) (.slice a j c)))
        ·
          have HZ : Hid (decodeN l = (bat0, 22)) := decodeN_form l rs q HL18.out HD'.out (by rw [HBat.out]; exact fun h => hw h.2)
          have hE := bstr_beq2 HLt H256.out false (by simp [hw])
          obtain ⟨ty, hty⟩ : ∃ t, bstr (writeN (⟨(k0 : Nat), (-1), (ve : Nat), (vs : Nat), k1 / 2 % 2 == 1, rs⟩ : Bat)) = t := ⟨_, rfl⟩
          rw [HTX.out, hty] at hE
          have HTY : Hid (bstr (writeN (⟨(k0 : Nat), (-1), (ve : Nat), (vs : Nat), k1 / 2 % 2 == 1, rs⟩ : Bat)) = ty) := hty
          clear hty HLt hw
          go_wp2_with fail
          have sd := S1.out _ BD.out
          go_region_with (first
              | (go_at_call 42; refine (refCheck_any k0 (-1) ve vs (k1 / 2 % 2 == 1) rs a j c _ (HA.out.later BD.out)).mono ?_; rintro r w5 ⟨rfl, b5⟩; have B5 : Hid (Below wr.heap.size wr w5) := BD.out.trans (b5.mono BD.out.size); clear b5; rw [hc]; have s5 := S1.out _ B5.out)
              | (go_at_call 43; refine (refWrite_any k0 ve vs (-1) (k1 / 2 % 2 == 1) rs a j c _ (HA.out.later B5.out) hc).mono ?_; rintro r w6 ⟨v6, rfl, own6, b6⟩; have B6 : Hid (Below wr.heap.size wr w6) := B5.out.trans (b6.mono B5.out.size); obtain ⟨n6, hn6⟩ : ∃ n, (writeN (⟨(k0 : Nat), (-1), (ve : Nat), (vs : Nat), k1 / 2 % 2 == 1, rs⟩ : Bat)).length = n := ⟨_, rfl⟩; obtain ⟨a6, c6, rfl, ok6, -⟩ := own6.slice n6 hn6; have cv6 := conv_any ok6.2.2 n6 c6 ok6.1; rw [HTY.out] at cv6; clear b6 own6 ok6 hn6; have s6 := S1.out _ B6.out))
          all_goals have BE := B6
          all_goals have XQ : Hid (BBox w6 w.heap.size 0 0 0 0 false (.slice none 0 0)) := HQ.out.later BE.out
          all_goals have XW : Hid (Below w.heap.size w w6) := HW.out.trans (BE.out.mono HW.out.size)
          all_goals have A6 : Hid (BArg w6 (⟨(k0 : Nat), (-1), (ve : Nat), (vs : Nat), k1 / 2 % 2 == 1, rs⟩ : Bat) a j c) := HA.out.later BE.out
          all_goals have c0 := XQ.out.c0
          all_goals have c1 := XQ.out.c1
          all_goals have c2 := XQ.out.c2
          all_goals have c3 := XQ.out.c3
          all_goals have c4 := XQ.out.c4
          all_goals have c5 := XQ.out.c5
          all_goals have cf0 := XQ.out.free 0
          all_goals have cf1 := XQ.out.free 1
          all_goals have cf2 := XQ.out.free 2
          all_goals have cf3 := XQ.out.free 3
          all_goals have cf4 := XQ.out.free 4
          all_goals have cf5 := XQ.out.free 5
          all_goals go_wp2
          all_goals (refine bodyPost_ret (ret_batch Tryz.results19 _ _ w.heap.size 0 0 0 0 false (.slice none 0 0) rfl (XQ.out.set6 0 0 0 0 false (.slice none 0 0))) rfl (decPost_zero HZ.out rfl ?_))
          all_goals exact set6_below XW.out (Nat.le_refl _) 0 0 0 0 false (.slice none 0 0)
      · have HZ : Hid (decodeN l = (bat0, 22)) := decodeN_form l rs q HL18.out HD'.out (by rw [HBat.out]; exact fun h => hc h.1)
        have hc2 : (checkN (⟨(k0 : Nat), (-1), (ve : Nat), (vs : Nat), k1 / 2 % 2 == 1, rs⟩ : Bat) != 0) = true := by simpa using hc
        generalize hcc : checkN (⟨(k0 : Nat), (-1), (ve : Nat), (vs : Nat), k1 / 2 % 2 == 1, rs⟩ : Bat) = cc at *
        go_wp2_with fail
        have sd := S1.out _ BD.out
        refine wp_region_any (by kernel_rfl) ?_
        change wpAny _ _ _ _ _ _ _ (World.drew _)
        refine wpAny_ready (rs := [0]) (by kernel_rfl) (by simp) ?_
        refine AllReady.cons rfl (fun K hK => ?_) AllReady.nil
        go_simp
        refine hK _ _ ?_
        clear hK K
        refine wpAny_ready (rs := [1]) (by kernel_rfl) (by simp) ?_
        refine AllReady.cons rfl (fun K hK => ?_) AllReady.nil
        go_simp
        go_wp2_with (first | (go_at_call 42; refine (refCheck_any k0 (-1) ve vs (k1 / 2 % 2 == 1) rs a j c _ (HA.out.later BD.out)).mono ?_; rintro r w5 ⟨rfl, b5⟩; have B5 : Hid (Below wr.heap.size wr w5) := BD.out.trans (b5.mono BD.out.size); clear b5; rw [hcc]))
        refine wpAny_ready (rs := [2]) (by kernel_rfl) (by simp) ?_
        refine AllReady.cons rfl (fun K hK => ?_) AllReady.nil
        go_simp
        refine hK _ _ ?_
        clear hK K
        refine wpAny_ready (rs := [3]) (by kernel_rfl) (by simp) ?_
        refine AllReady.cons rfl (fun K hK => ?_) AllReady.nil
        go_simp
        refine hK _ _ ?_
        clear hK K
        refine wpAny_take (i := 4) (v := undef) rfl (by kernel_rfl) (by kernel_rfl) (by kernel_rfl) (fun _ _ _ h => h) (Or.inr ⟨rfl, rfl⟩) ?_
        refine wpAny_take (i := 5) (v := undef) rfl (by kernel_rfl) (by kernel_rfl) (by kernel_rfl) (fun _ _ _ h => h) (Or.inr ⟨rfl, rfl⟩) ?_
        refine wpAny_take (i := 6) (v := undef) rfl (by kernel_rfl) (by kernel_rfl) (by kernel_rfl) (fun _ _ _ h => h) (Or.inr ⟨rfl, rfl⟩) ?_
        refine wpAny_take (i := 7) (v := undef) rfl (by kernel_rfl) (by kernel_rfl) (by kernel_rfl) (fun _ _ _ h => h) (Or.inr ⟨rfl, rfl⟩) ?_
        refine wpAny_take (i := 8) (v := undef) rfl (by kernel_rfl) (by kernel_rfl) (by kernel_rfl) (fun _ _ _ h => h) (Or.inr ⟨rfl, rfl⟩) ?_
        refine wpAny_take (i := 9) (v := undef) rfl (by kernel_rfl) (by kernel_rfl) (by kernel_rfl) (fun _ _ _ h => h) (Or.inr ⟨rfl, rfl⟩) ?_
        refine wpAny_ready (rs := [10]) (by kernel_rfl) (by simp) ?_
        refine AllReady.cons rfl (fun K hK => ?_) AllReady.nil
        go_simp
        refine hK _ _ ?_
        clear hK K
        refine wpAny_done (by kernel_rfl) ?_ _
        all_goals have BE := B5
        all_goals have XQ : Hid (BBox w5 w.heap.size 0 0 0 0 false (.slice none 0 0)) := HQ.out.later BE.out
        all_goals have XW : Hid (Below w.heap.size w w5) := HW.out.trans (BE.out.mono HW.out.size)
        all_goals have c0 := XQ.out.c0
        all_goals have c1 := XQ.out.c1
        all_goals have c2 := XQ.out.c2
        all_goals have c3 := XQ.out.c3
        all_goals have c4 := XQ.out.c4
        all_goals have c5 := XQ.out.c5
        all_goals have cf0 := XQ.out.free 0
        all_goals have cf1 := XQ.out.free 1
        all_goals have cf2 := XQ.out.free 2
        all_goals have cf3 := XQ.out.free 3
        all_goals have cf4 := XQ.out.free 4
        all_goals have cf5 := XQ.out.free 5
        all_goals go_wp2
        all_goals refine bodyPost_ret (ret_batch Tryz.results19 _ _ w.heap.size 0 0 0 0 false (.slice none 0 0) rfl (XQ.out.set6 0 0 0 0 false (.slice none 0 0))) rfl (decPost_zero HZ.out rfl ?_)
        all_goals exact set6_below XW.out (Nat.le_refl _) 0 0 0 0 false (.slice none 0 0)
end Go.Proofs.YtgihmkgbkffgbaaGreat
namespace Go.Proofs.YtgihmkgbkffgbaaGreat
open Go.RowKit

set_option maxRecDepth 100000 in
set_option maxHeartbeats 4000000 in
theorem refDecode_yes (ad : Option Addr) (len cap : Nat) (l : List Nat) (w : World) (hp : Part.ok w ⟨ad, len, cap, l⟩) (hlc : len ≤ cap) (hm : len ≤ 1000000000000000) (h18 : 18 ≤ len) (hbit : (l.getD 1 0 % 2 == 1) = true) :
    Calls Tryz.prog 19 #[.slice ad len cap] w fun x w' => DecPost l w x w' := by
  have HLn : Hid (l.length = len) := hp.1
  have HL18 : Hid (¬ l.length < 18) := by rw [hp.1]; show ¬ len < 18; omega
  have H256 : Hid (∀ x ∈ l, x < 256) := hp.2.2.1
  have HP : Hid (Part.ok w ⟨ad, len, cap, l⟩) := hp
  obtain ⟨b, off, rfl, hbl, hcell⟩ := hp.cells (by omega)
  have HC : Hid (∀ W, Below w.heap.size w W → ∀ i, i < len → W.cell? ⟨b, off + i, none⟩ = some (.int .u8 (l.getD i 0 : Nat))) := fun W hW i hi => (hW.cell (p := ⟨b, off + i, none⟩) hbl).trans (hcell i hi)
  have HS : Hid (∀ W, Below w.heap.size w W → W.cell? ⟨b, off, none⟩ = some (.int .u8 (l.getD 0 0 : Nat)) ∧ W.cell? ⟨b, off + 1, none⟩ = some (.int .u8 (l.getD 1 0 : Nat))) := fun W hW => ⟨(hW.cell (p := ⟨b, off, none⟩) hbl).trans (hcell 0 (by omega)), (hW.cell (p := ⟨b, off + 1, none⟩) hbl).trans (hcell 1 (by omega))⟩
  have b0 : Hid (Below w.heap.size w (w.alloc (.cells #[.int .i64 0, .int .i64 0, .int .i64 0, .int .i64 0, .bool false, .slice none 0 0] 25))) := (Below.refl _ _).alloc (Nat.le_refl _) _
  have hl18 : decide ((len : Int) < 18) = false := by simp; omega
  have i0 : (0 : Int) < len := by omega
  have i1 : (1 : Int) < len := by omega
  have j0 : 0 < len := by omega
  have j1 : 1 < len := by omega
  have n0 : l.getD 0 0 < 256 := getD_lt hp.2.2.1 0
  have n1 : l.getD 1 0 < 256 := getD_lt hp.2.2.1 1
  have f1 := flag8_two _ n1
  have f2 := flag8_one _ n1
  rw [hbit] at f2
  have HBat : Hid (∀ rs : List Rec, batOf l rs = ⟨(l.getD 0 0 : Nat), ((valN ((l.drop 2).take 6) : Nat) : Int), (valN ((l.drop 8).take 4) : Nat), (valN ((l.drop 12).take 4) : Nat), l.getD 1 0 / 2 % 2 == 1, rs⟩) := fun rs => by
    unfold batOf
    rw [if_pos (by simpa using hbit)]
  obtain ⟨k0, hk0⟩ : ∃ k, l.getD 0 0 = k := ⟨_, rfl⟩
  obtain ⟨k1, hk1⟩ : ∃ k, l.getD 1 0 = k := ⟨_, rfl⟩
  rw [hk0] at HS n0 HBat
  rw [hk1] at HS n1 f1 f2 HBat
  have iw0 : IntKind.i64.wrap ((k0 : Nat) : Int) = (k0 : Int) := by
    simp [IntKind.wrap, IntKind.bits, IntKind.signed]; omega
  obtain ⟨vp, hvp⟩ : ∃ v, valN ((l.drop 2).take 6) = v := ⟨_, rfl⟩
  obtain ⟨ve, hve⟩ : ∃ v, valN ((l.drop 8).take 4) = v := ⟨_, rfl⟩
  obtain ⟨vs, hvs⟩ : ∃ v, valN ((l.drop 12).take 4) = v := ⟨_, rfl⟩
  obtain ⟨M, hM⟩ : ∃ v, toldRecs l = v := ⟨_, rfl⟩
  have hMlt : M < 65536 := by rw [← hM]; exact told_lt l hp.2.2.1
  have g2 : getN l 2 6 = ((vp : Int), 8, 0) := by rw [← hvp]; exact getN_ok l 2 6 (by omega) (by rw [HLn.out]; omega)
  have g8 : getN l 8 4 = ((ve : Int), 12, 0) := by rw [← hve]; exact getN_ok l 8 4 (by omega) (by rw [HLn.out]; omega)
  have g12 : getN l 12 4 = ((vs : Int), 16, 0) := by rw [← hvs]; exact getN_ok l 12 4 (by omega) (by rw [HLn.out]; omega)
  have g16 : getN l 16 2 = ((M : Int), 18, 0) := by rw [← hM]; exact getN_ok l 16 2 (by omega) (by rw [HLn.out]; omega)
  rw [hvp, hve, hvs] at HBat
  have HMM : Hid (toldRecs l = M) := hM
  have c0w : w.cell? ⟨b, off, none⟩ = some (.int .u8 (k0 : Nat)) := by rw [← hk0]; exact hcell 0 (by omega)
  have c1w : w.cell? ⟨b, off + 1, none⟩ = some (.int .u8 (k1 : Nat)) := by rw [← hk1]; exact hcell 1 (by omega)
  have QQ : Hid (BBox (((w.alloc (.cells #[.int .i64 0, .int .i64 0, .int .i64 0, .int .i64 0, .bool false, .slice none 0 0] 25)).alloc (.cells #[.int .i64 k0, .int .i64 (vp : Int), .int .i64 ve, .int .i64 vs, .bool (k1 / 2 % 2 == 1), .slice none 0 0] 25)).drew) w.heap.size 0 0 0 0 false (.slice none 0 0)) := (two_bats w _ _ _ _ _ _ _ _ _ _ _ _).1
  have BQ : Hid (BBox (((w.alloc (.cells #[.int .i64 0, .int .i64 0, .int .i64 0, .int .i64 0, .bool false, .slice none 0 0] 25)).alloc (.cells #[.int .i64 k0, .int .i64 (vp : Int), .int .i64 ve, .int .i64 vs, .bool (k1 / 2 % 2 == 1), .slice none 0 0] 25)).drew) (w.heap.size + 1) k0 (vp : Int) ve vs (k1 / 2 % 2 == 1) (.slice none 0 0)) := (two_bats w _ _ _ _ _ _ _ _ _ _ _ _).2.1
  have B0 : Hid (Below w.heap.size w (((w.alloc (.cells #[.int .i64 0, .int .i64 0, .int .i64 0, .int .i64 0, .bool false, .slice none 0 0] 25)).alloc (.cells #[.int .i64 k0, .int .i64 (vp : Int), .int .i64 ve, .int .i64 vs, .bool (k1 / 2 % 2 == 1), .slice none 0 0] 25)).drew)) := (two_bats w _ _ _ _ _ _ _ _ _ _ _ _).2.2
  clear hp hcell hvp hve hvs hM hk0 hk1 hbit
  go_enter Tryz.func19, Tryz.ntmps19
  go_wp2_with fail
  go_region_held3 (fun w' => w'.cell? ⟨b, off, none⟩ = some (.int .u8 (k0 : Nat)) ∧ w'.cell? ⟨b, off + 1, none⟩ = some (.int .u8 (k1 : Nat)))
    ((refine HS.out _ ?_; repeat (first | exact b0.out | refine Below.setCell ?_ (by simp) _ | refine Below.alloc ?_ (by simp) _ | refine Below.drew ?_)))
    (fail)
  go_wp2_with (first | (go_at_call 20; refine (refGet_any (some ⟨b, off, none⟩) len cap l _ _ _ (HP.out.later (by repeat (first | exact b0.out | refine Below.drew ?_ | refine Below.alloc ?_ (by simp) _))) hm (by omega)).mono ?_; rintro x w' ⟨rfl, hw'⟩; obtain rfl := hw'.symm; first | rw [g2] | rw [g8] | rw [g12] | rw [g16]))
  go_loopw [9, 11] (fun at_ i wr => ∃ (j : Nat) (rs : List Rec) (q : Nat) (v : Value), j ≤ M ∧ at_ = .int .i64 q ∧ i = .int .i64 j ∧ Hid (readN l 18 j = some (rs, q)) ∧ Hid (BBox wr w.heap.size 0 0 0 0 false (.slice none 0 0)) ∧ Hid (BBox wr (w.heap.size + 1) k0 (vp : Int) ve vs (k1 / 2 % 2 == 1) v) ∧ Hid (OwnR wr w.heap.size v rs) ∧ Hid (Below w.heap.size w wr)) (fun _ i _ => M - (intOf i).toNat)
  case atStart => exact ⟨0, [], 18, .slice none 0 0, Nat.zero_le _, rfl, rfl, (show Hid _ from rfl), QQ, BQ, (show Hid _ from World.ownsRow_nil _ _ _ _), B0⟩
  case round =>
    clear QQ BQ B0 b0 g2 g8 g12 g16 f1 f2 c0w c1w
    obtain ⟨j, rs, q, v, hj, rfl, rfl, HD, HQ, HB, HO, HW⟩ := hrel
    have hbd := readN_bound (by rw [HLn.out]; exact h18) HD.out
    rw [HLn.out] at hbd
    have PP : Hid (Part.ok wr ⟨some ⟨b, off, none⟩, len, cap, l⟩) := HP.out.later HW.out
    by_cases hlt : j < M
    · by_cases hq : q = len
      · have HX : Hid (readN l 18 M = none) := readN_none_le l 18 (j + 1) M hlt (by rw [readN, HD.out]; simp only [recAt_none_a (p := q) (l := l) (by rw [HLn.out]; omega)])
        have e1 : ((q : Int) == (len : Int)) = true := by rw [hq]; simp
        have c0 := HQ.out.c0
        have c1 := HQ.out.c1
        have c2 := HQ.out.c2
        have c3 := HQ.out.c3
        have c4 := HQ.out.c4
        have c5 := HQ.out.c5
        have cf0 := HQ.out.free 0
        have cf1 := HQ.out.free 1
        have cf2 := HQ.out.free 2
        have cf3 := HQ.out.free 3
        have cf4 := HQ.out.free 4
        have cf5 := HQ.out.free 5
        go_wp2
        refine bodyPost_ret (ret_batch Tryz.results19 _ _ w.heap.size 0 0 0 0 false (.slice none 0 0) rfl (HQ.out.set6 0 0 0 0 false (.slice none 0 0))) rfl (decPost_zero (decodeN_end l HL18.out (by rw [HMM.out]; exact HX.out)) rfl ?_)
        exact set6_below HW.out (Nat.le_refl _) 0 0 0 0 false (.slice none 0 0)
      · have e1 : ((q : Int) == (len : Int)) = false := by simp; omega
        have hql : q < len := by omega
        have hql2 : (q : Int) < (len : Int) := by omega
        have cq := HC.out wr HW.out q hql
        by_cases h1 : q + 3 + lenAt l (q + 1) ≤ len
        · have t1 : getTextN l ((q : Int) + 1) = _ := getTextN_ok l (q + 1) (by rw [HLn.out]; omega)
          obtain ⟨q1, hq1⟩ : ∃ q1, q + 1 + 2 + lenAt l (q + 1) = q1 := ⟨_, rfl⟩
          rw [hq1] at t1
          by_cases h2 : q1 + 2 + lenAt l q1 ≤ len
          · have t2 := getTextN_ok l q1 (by rw [HLn.out]; omega)
            obtain ⟨q2, hq2⟩ : ∃ q2, q1 + 2 + lenAt l q1 = q2 := ⟨_, rfl⟩
            rw [hq2] at t2
            have HX : Hid (readN l 18 (j + 1) = some (rs ++ [⟨bstr ((l.drop (q + 1 + 2)).take (lenAt l (q + 1))), bstr ((l.drop (q1 + 2)).take (lenAt l q1)), ((l.getD q 0 : Nat) : Int) != 0⟩], q2)) := by
              show _ = _
              rw [readN, HD.out]
              simp only [recAt_ok (l := l) (p := q) (by rw [HLn.out]; omega) (q1 := q1) (by omega) (by rw [HLn.out]; omega) (q2 := q2) (by omega)]
            generalize bstr ((l.drop (q + 1 + 2)).take (lenAt l (q + 1))) = tk at *
            generalize bstr ((l.drop (q1 + 2)).take (lenAt l q1)) = tv at *
            have hq1b : q1 ≤ len := by omega
            have hq2b : q2 ≤ len := by omega
            generalize l.getD q 0 = by_ at *
            clear hq1 hq2 h1 h2
            have d5 := HB.out.c5
            have hsz := HW.out.size
            have hb2 := HB.out.lt
            have ba : Below wr.heap.size wr (wr.alloc (.cells #[.string tk, .string tv, .bool ((by_ : Int) != 0)] 88)) := (Below.refl _ _).alloc (Nat.le_refl _) _
            have OA : Hid (OwnR (wr.alloc (.cells #[.string tk, .string tv, .bool ((by_ : Int) != 0)] 88)) w.heap.size v rs) := HO.out.later ba
            have RA : Hid (RRow (wr.alloc (.cells #[.string tk, .string tv, .bool ((by_ : Int) != 0)] 88)) (some ⟨wr.heap.size, 0, none⟩) [⟨tk, tv, (by_ : Int) != 0⟩]) := one_rec wr ⟨tk, tv, (by_ : Int) != 0⟩
            have HL : rs.length = j := hbd.2
            clear ba
            go_wp2_with (first | (go_at_call 41; refine (refGetText_any (some ⟨b, off, none⟩) len cap l _ _ PP.out hlc hm (by omega)).mono ?_; rintro x w' ⟨rfl, hw'⟩; obtain rfl := hw'.symm; rw [t1]) | (go_at_call 41; refine (refGetText_any (some ⟨b, off, none⟩) len cap l _ _ PP.out hlc hm (by omega)).mono ?_; rintro x w' ⟨rfl, hw'⟩; obtain rfl := hw'.symm; rw [t2]) | (at_builtin; refine app_recs rfl _ _ rfl w.heap.size v rs.length rs rfl OA.out (some ⟨wr.heap.size, 0, none⟩) 1 1 [⟨tk, tv, (by_ : Int) != 0⟩] rfl rfl (fun e => (by cases e)) RA.out (by omega) (by simp; omega) ?_; intro v6 w6 O6 hg6; obtain ⟨OO, XQ, XB, XW, hv6⟩ := refapp_step HQ.out HB.out HO.out HW.out O6 hg6; obtain ⟨a6, n6, c6, rfl⟩ := hv6; have e5 := XB.c5; have f5 := XB.free 5; clear O6 hg6))
            refine ⟨⟨j + 1, rs ++ [(⟨tk, tv, (by_ : Int) != 0⟩ : Rec)], q2, .slice a6 n6 c6, by omega, rfl, by go_num, HX, (show Hid _ from XQ.setOther (by omega) 5 _), (show Hid (BBox _ _ _ _ _ _ _ _) from block_set (i := 5) XB (.slice a6 n6 c6)), (show Hid (OwnR _ _ _ _) from ownR_set OO (ownR_typed OO XB (by decide)) 5 (.slice a6 n6 c6)), (show Hid _ from XW.setCell (p := ⟨w.heap.size + 1, 5, none⟩) (by simp) _)⟩, ?_⟩
            simp [intOf]; omega
          · have t2 := getTextN_end l q1 (by rw [HLn.out]; omega)
            have HX : Hid (readN l 18 M = none) := readN_none_le l 18 (j + 1) M hlt (by rw [readN, HD.out]; simp only [recAt_none_b (p := q) (l := l) (by rw [HLn.out, show q + 3 + lenAt l (q + 1) = q1 by omega]; omega)])
            generalize bstr ((l.drop (q + 1 + 2)).take (lenAt l (q + 1))) = tk at *
            have hq1b : q1 ≤ len := by omega
            generalize l.getD q 0 = by_ at *
            clear hq1 h1 h2
            have c0 := HQ.out.c0
            have c1 := HQ.out.c1
            have c2 := HQ.out.c2
            have c3 := HQ.out.c3
            have c4 := HQ.out.c4
            have c5 := HQ.out.c5
            have cf0 := HQ.out.free 0
            have cf1 := HQ.out.free 1
            have cf2 := HQ.out.free 2
            have cf3 := HQ.out.free 3
            have cf4 := HQ.out.free 4
            have cf5 := HQ.out.free 5
            go_wp2_with (first | (go_at_call 41; refine (refGetText_any (some ⟨b, off, none⟩) len cap l _ _ PP.out hlc hm (by omega)).mono ?_; rintro x w' ⟨rfl, hw'⟩; obtain rfl := hw'.symm; rw [t1]) | (go_at_call 41; refine (refGetText_any (some ⟨b, off, none⟩) len cap l _ _ PP.out hlc hm (by omega)).mono ?_; rintro x w' ⟨rfl, hw'⟩; obtain rfl := hw'.symm; rw [t2]))
            refine bodyPost_ret (ret_batch Tryz.results19 _ _ w.heap.size 0 0 0 0 false (.slice none 0 0) rfl (HQ.out.set6 0 0 0 0 false (.slice none 0 0))) rfl (decPost_zero (decodeN_end l HL18.out (by rw [HMM.out]; exact HX.out)) rfl ?_)
            exact set6_below HW.out (Nat.le_refl _) 0 0 0 0 false (.slice none 0 0)
        · have t1 : getTextN l ((q : Int) + 1) = _ := getTextN_end l (q + 1) (by rw [HLn.out]; omega)
          have HX : Hid (readN l 18 M = none) := readN_none_le l 18 (j + 1) M hlt (by rw [readN, HD.out]; simp only [recAt_none_a (p := q) (l := l) (by rw [HLn.out]; omega)])
          generalize l.getD q 0 = by_ at *
          clear h1
          have c0 := HQ.out.c0
          have c1 := HQ.out.c1
          have c2 := HQ.out.c2
          have c3 := HQ.out.c3
          have c4 := HQ.out.c4
          have c5 := HQ.out.c5
          have cf0 := HQ.out.free 0
          have cf1 := HQ.out.free 1
          have cf2 := HQ.out.free 2
          have cf3 := HQ.out.free 3
          have cf4 := HQ.out.free 4
          have cf5 := HQ.out.free 5
          go_wp2_with (first | (go_at_call 41; refine (refGetText_any (some ⟨b, off, none⟩) len cap l _ _ PP.out hlc hm (by omega)).mono ?_; rintro x w' ⟨rfl, hw'⟩; obtain rfl := hw'.symm; rw [t1]))
          refine bodyPost_ret (ret_batch Tryz.results19 _ _ w.heap.size 0 0 0 0 false (.slice none 0 0) rfl (HQ.out.set6 0 0 0 0 false (.slice none 0 0))) rfl (decPost_zero (decodeN_end l HL18.out (by rw [HMM.out]; exact HX.out)) rfl ?_)
          exact set6_below HW.out (Nat.le_refl _) 0 0 0 0 false (.slice none 0 0)
    · obtain rfl : j = M := by omega
      have hv := HO.out.form
      rw [hbd.2] at hv
      obtain ⟨a, c, rfl, hnil, hle, hroom, hrow⟩ := hv
      have HA : Hid (BArg wr (⟨(k0 : Nat), (vp : Int), (ve : Nat), (vs : Nat), k1 / 2 % 2 == 1, rs⟩ : Bat) a j c) := ⟨hbd.2, hnil, hle, hroom, hrow, fun r hr => (by have := readN_sizes H256.out HD.out r hr; rw [HLn.out] at this; show _ ≤ 9223372036854775807 ∧ _ ≤ 9223372036854775807; omega)⟩
      have HD' : Hid (readN l 18 (toldRecs l) = some (rs, q)) := by rw [HMM.out]; exact HD.out
      have BD : Hid (Below wr.heap.size wr wr.drew) := (Below.refl _ _).drew
      have S1 : Hid (∀ W, Below wr.heap.size wr W → _) := fun W hW => dec_S (HB.out.later hW) (PP.out.later hW)
      have S0 := dec_S HB.out PP.out
      obtain ⟨tx, htx⟩ : ∃ t, bstr l = t := ⟨_, rfl⟩
      rw [htx] at S0 S1
      unfold DecS at S0 S1
      have HTX : Hid (bstr l = tx) := htx
      clear hnil hle hroom hrow HD htx
      by_cases hc : checkN (⟨(k0 : Nat), (vp : Int), (ve : Nat), (vs : Nat), k1 / 2 % 2 == 1, rs⟩ : Bat) = 0
      · have HLt := writeN_lt _ hc
        by_cases hw : writeN (⟨(k0 : Nat), (vp : Int), (ve : Nat), (vs : Nat), k1 / 2 % 2 == 1, rs⟩ : Bat) = l
        ·
          have HZ : Hid (decodeN l = ((⟨(k0 : Nat), (vp : Int), (ve : Nat), (vs : Nat), k1 / 2 % 2 == 1, rs⟩ : Bat), 0)) := by rw [← HBat.out rs]; exact decodeN_ok l rs q HL18.out HD'.out (by rw [HBat.out]; exact ⟨hc, hw⟩)
          have hE := bstr_beq2 HLt H256.out true (by simp [hw])
          obtain ⟨ty, hty⟩ : ∃ t, bstr (writeN (⟨(k0 : Nat), (vp : Int), (ve : Nat), (vs : Nat), k1 / 2 % 2 == 1, rs⟩ : Bat)) = t := ⟨_, rfl⟩
          rw [HTX.out, hty] at hE
          have HTY : Hid (bstr (writeN (⟨(k0 : Nat), (vp : Int), (ve : Nat), (vs : Nat), k1 / 2 % 2 == 1, rs⟩ : Bat)) = ty) := hty
          clear hty HLt hw
          go_wp2_with fail
          have sd := S1.out _ BD.out
          go_region_with (first
              | (go_at_call 42; refine (refCheck_any k0 (vp : Int) ve vs (k1 / 2 % 2 == 1) rs a j c _ (HA.out.later BD.out)).mono ?_; rintro r w5 ⟨rfl, b5⟩; have B5 : Hid (Below wr.heap.size wr w5) := BD.out.trans (b5.mono BD.out.size); clear b5; rw [hc]; have s5 := S1.out _ B5.out)
              | (go_at_call 43; refine (refWrite_any k0 ve vs (vp : Int) (k1 / 2 % 2 == 1) rs a j c _ (HA.out.later B5.out) hc).mono ?_; rintro r w6 ⟨v6, rfl, own6, b6⟩; have B6 : Hid (Below wr.heap.size wr w6) := B5.out.trans (b6.mono B5.out.size); obtain ⟨n6, hn6⟩ : ∃ n, (writeN (⟨(k0 : Nat), (vp : Int), (ve : Nat), (vs : Nat), k1 / 2 % 2 == 1, rs⟩ : Bat)).length = n := ⟨_, rfl⟩; obtain ⟨a6, c6, rfl, ok6, -⟩ := own6.slice n6 hn6; have cv6 := conv_any ok6.2.2 n6 c6 ok6.1; rw [HTY.out] at cv6; clear b6 own6 ok6 hn6; have s6 := S1.out _ B6.out))
          all_goals have BE := B6
          all_goals have XQ : Hid (BBox w6 w.heap.size 0 0 0 0 false (.slice none 0 0)) := HQ.out.later BE.out
          all_goals have XW : Hid (Below w.heap.size w w6) := HW.out.trans (BE.out.mono HW.out.size)
          all_goals have A6 : Hid (BArg w6 (⟨(k0 : Nat), (vp : Int), (ve : Nat), (vs : Nat), k1 / 2 % 2 == 1, rs⟩ : Bat) a j c) := HA.out.later BE.out
          all_goals have c0 := XQ.out.c0
          all_goals have c1 := XQ.out.c1
          all_goals have c2 := XQ.out.c2
          all_goals have c3 := XQ.out.c3
          all_goals have c4 := XQ.out.c4
          all_goals have c5 := XQ.out.c5
          all_goals have cf0 := XQ.out.free 0
          all_goals have cf1 := XQ.out.free 1
          all_goals have cf2 := XQ.out.free 2
          all_goals have cf3 := XQ.out.free 3
          all_goals have cf4 := XQ.out.free 4
          all_goals have cf5 := XQ.out.free 5
          all_goals go_wp2
          all_goals ((refine bodyPost_ret (ret_batch Tryz.results19 _ _ w.heap.size k0 (vp : Int) ve vs (k1 / 2 % 2 == 1) (.slice a j c) rfl (XQ.out.set6 k0 (vp : Int) ve vs (k1 / 2 % 2 == 1) (.slice a j c))) rfl (decPost_ok HZ.out rfl ?_ ?_)); (exact ⟨A6.out.len_eq, A6.out.nil, A6.out.le, A6.out.room, A6.out.row.set6 XQ.out k0 (vp : Int) ve vs (k1 / 2 % 2 == 1) (.slice a j c), A6.out.size⟩); (exact set6_below XW.out (Nat.le_refl _) k0 (vp : Int) ve vs (k1 / 2 % 2 == 1) (.slice a j c)))
        ·
          have HZ : Hid (decodeN l = (bat0, 22)) := decodeN_form l rs q HL18.out HD'.out (by rw [HBat.out]; exact fun h => hw h.2)
          have hE := bstr_beq2 HLt H256.out false (by simp [hw])
          obtain ⟨ty, hty⟩ : ∃ t, bstr (writeN (⟨(k0 : Nat), (vp : Int), (ve : Nat), (vs : Nat), k1 / 2 % 2 == 1, rs⟩ : Bat)) = t := ⟨_, rfl⟩
          rw [HTX.out, hty] at hE
          have HTY : Hid (bstr (writeN (⟨(k0 : Nat), (vp : Int), (ve : Nat), (vs : Nat), k1 / 2 % 2 == 1, rs⟩ : Bat)) = ty) := hty
          clear hty HLt hw
          go_wp2_with fail
          have sd := S1.out _ BD.out
          go_region_with (first
              | (go_at_call 42; refine (refCheck_any k0 (vp : Int) ve vs (k1 / 2 % 2 == 1) rs a j c _ (HA.out.later BD.out)).mono ?_; rintro r w5 ⟨rfl, b5⟩; have B5 : Hid (Below wr.heap.size wr w5) := BD.out.trans (b5.mono BD.out.size); clear b5; rw [hc]; have s5 := S1.out _ B5.out)
              | (go_at_call 43; refine (refWrite_any k0 ve vs (vp : Int) (k1 / 2 % 2 == 1) rs a j c _ (HA.out.later B5.out) hc).mono ?_; rintro r w6 ⟨v6, rfl, own6, b6⟩; have B6 : Hid (Below wr.heap.size wr w6) := B5.out.trans (b6.mono B5.out.size); obtain ⟨n6, hn6⟩ : ∃ n, (writeN (⟨(k0 : Nat), (vp : Int), (ve : Nat), (vs : Nat), k1 / 2 % 2 == 1, rs⟩ : Bat)).length = n := ⟨_, rfl⟩; obtain ⟨a6, c6, rfl, ok6, -⟩ := own6.slice n6 hn6; have cv6 := conv_any ok6.2.2 n6 c6 ok6.1; rw [HTY.out] at cv6; clear b6 own6 ok6 hn6; have s6 := S1.out _ B6.out))
          all_goals have BE := B6
          all_goals have XQ : Hid (BBox w6 w.heap.size 0 0 0 0 false (.slice none 0 0)) := HQ.out.later BE.out
          all_goals have XW : Hid (Below w.heap.size w w6) := HW.out.trans (BE.out.mono HW.out.size)
          all_goals have A6 : Hid (BArg w6 (⟨(k0 : Nat), (vp : Int), (ve : Nat), (vs : Nat), k1 / 2 % 2 == 1, rs⟩ : Bat) a j c) := HA.out.later BE.out
          all_goals have c0 := XQ.out.c0
          all_goals have c1 := XQ.out.c1
          all_goals have c2 := XQ.out.c2
          all_goals have c3 := XQ.out.c3
          all_goals have c4 := XQ.out.c4
          all_goals have c5 := XQ.out.c5
          all_goals have cf0 := XQ.out.free 0
          all_goals have cf1 := XQ.out.free 1
          all_goals have cf2 := XQ.out.free 2
          all_goals have cf3 := XQ.out.free 3
          all_goals have cf4 := XQ.out.free 4
          all_goals have cf5 := XQ.out.free 5
          all_goals go_wp2
          all_goals (refine bodyPost_ret (ret_batch Tryz.results19 _ _ w.heap.size 0 0 0 0 false (.slice none 0 0) rfl (XQ.out.set6 0 0 0 0 false (.slice none 0 0))) rfl (decPost_zero HZ.out rfl ?_))
          all_goals exact set6_below XW.out (Nat.le_refl _) 0 0 0 0 false (.slice none 0 0)
      · have HZ : Hid (decodeN l = (bat0, 22)) := decodeN_form l rs q HL18.out HD'.out (by rw [HBat.out]; exact fun h => hc h.1)
        have hc2 : (checkN (⟨(k0 : Nat), (vp : Int), (ve : Nat), (vs : Nat), k1 / 2 % 2 == 1, rs⟩ : Bat) != 0) = true := by simpa using hc
        generalize hcc : checkN (⟨(k0 : Nat), (vp : Int), (ve : Nat), (vs : Nat), k1 / 2 % 2 == 1, rs⟩ : Bat) = cc at *
        go_wp2_with fail
        have sd := S1.out _ BD.out
        refine wp_region_any (by kernel_rfl) ?_
        change wpAny _ _ _ _ _ _ _ (World.drew _)
        refine wpAny_ready (rs := [0]) (by kernel_rfl) (by simp) ?_
        refine AllReady.cons rfl (fun K hK => ?_) AllReady.nil
        go_simp
        refine hK _ _ ?_
        clear hK K
        refine wpAny_ready (rs := [1]) (by kernel_rfl) (by simp) ?_
        refine AllReady.cons rfl (fun K hK => ?_) AllReady.nil
        go_simp
        go_wp2_with (first | (go_at_call 42; refine (refCheck_any k0 (vp : Int) ve vs (k1 / 2 % 2 == 1) rs a j c _ (HA.out.later BD.out)).mono ?_; rintro r w5 ⟨rfl, b5⟩; have B5 : Hid (Below wr.heap.size wr w5) := BD.out.trans (b5.mono BD.out.size); clear b5; rw [hcc]))
        refine wpAny_ready (rs := [2]) (by kernel_rfl) (by simp) ?_
        refine AllReady.cons rfl (fun K hK => ?_) AllReady.nil
        go_simp
        refine hK _ _ ?_
        clear hK K
        refine wpAny_ready (rs := [3]) (by kernel_rfl) (by simp) ?_
        refine AllReady.cons rfl (fun K hK => ?_) AllReady.nil
        go_simp
        refine hK _ _ ?_
        clear hK K
        refine wpAny_take (i := 4) (v := undef) rfl (by kernel_rfl) (by kernel_rfl) (by kernel_rfl) (fun _ _ _ h => h) (Or.inr ⟨rfl, rfl⟩) ?_
        refine wpAny_take (i := 5) (v := undef) rfl (by kernel_rfl) (by kernel_rfl) (by kernel_rfl) (fun _ _ _ h => h) (Or.inr ⟨rfl, rfl⟩) ?_
        refine wpAny_take (i := 6) (v := undef) rfl (by kernel_rfl) (by kernel_rfl) (by kernel_rfl) (fun _ _ _ h => h) (Or.inr ⟨rfl, rfl⟩) ?_
        refine wpAny_take (i := 7) (v := undef) rfl (by kernel_rfl) (by kernel_rfl) (by kernel_rfl) (fun _ _ _ h => h) (Or.inr ⟨rfl, rfl⟩) ?_
        refine wpAny_take (i := 8) (v := undef) rfl (by kernel_rfl) (by kernel_rfl) (by kernel_rfl) (fun _ _ _ h => h) (Or.inr ⟨rfl, rfl⟩) ?_
        refine wpAny_take (i := 9) (v := undef) rfl (by kernel_rfl) (by kernel_rfl) (by kernel_rfl) (fun _ _ _ h => h) (Or.inr ⟨rfl, rfl⟩) ?_
        refine wpAny_ready (rs := [10]) (by kernel_rfl) (by simp) ?_
        refine AllReady.cons rfl (fun K hK => ?_) AllReady.nil
        go_simp
        refine hK _ _ ?_
        clear hK K
        refine wpAny_done (by kernel_rfl) ?_ _
        all_goals have BE := B5
        all_goals have XQ : Hid (BBox w5 w.heap.size 0 0 0 0 false (.slice none 0 0)) := HQ.out.later BE.out
        all_goals have XW : Hid (Below w.heap.size w w5) := HW.out.trans (BE.out.mono HW.out.size)
        all_goals have c0 := XQ.out.c0
        all_goals have c1 := XQ.out.c1
        all_goals have c2 := XQ.out.c2
        all_goals have c3 := XQ.out.c3
        all_goals have c4 := XQ.out.c4
        all_goals have c5 := XQ.out.c5
        all_goals have cf0 := XQ.out.free 0
        all_goals have cf1 := XQ.out.free 1
        all_goals have cf2 := XQ.out.free 2
        all_goals have cf3 := XQ.out.free 3
        all_goals have cf4 := XQ.out.free 4
        all_goals have cf5 := XQ.out.free 5
        all_goals go_wp2
        all_goals refine bodyPost_ret (ret_batch Tryz.results19 _ _ w.heap.size 0 0 0 0 false (.slice none 0 0) rfl (XQ.out.set6 0 0 0 0 false (.slice none 0 0))) rfl (decPost_zero HZ.out rfl ?_)
        all_goals exact set6_below XW.out (Nat.le_refl _) 0 0 0 0 false (.slice none 0 0)
end Go.Proofs.YtgihmkgbkffgbaaGreat
namespace Go.Proofs.YtgihmkgbkffgbaaGreat
open Go.RowKit

set_option maxRecDepth 100000 in
theorem refDecode_short (ad : Option Addr) (len cap : Nat) (l : List Nat) (w : World) (hp : Part.ok w ⟨ad, len, cap, l⟩) (h18 : len < 18) :
    Calls Tryz.prog 19 #[.slice ad len cap] w fun x w' => DecPost l w x w' := by
  have HZ : Hid (decodeN l = (bat0, 20)) := decodeN_err l (by rw [hp.1]; exact h18)
  have hl18 : decide ((len : Int) < 18) = true := by simp; omega
  have XQ : Hid (BBox (w.alloc (.cells #[.int .i64 0, .int .i64 0, .int .i64 0, .int .i64 0, .bool false, .slice none 0 0] 25)) w.heap.size 0 0 0 0 false (.slice none 0 0)) := BBox.new w 0 0 0 0 false _
  have XW : Hid (Below w.heap.size w (w.alloc (.cells #[.int .i64 0, .int .i64 0, .int .i64 0, .int .i64 0, .bool false, .slice none 0 0] 25))) := (Below.refl _ _).alloc (Nat.le_refl _) _
  have c0 := XQ.out.c0
  have c1 := XQ.out.c1
  have c2 := XQ.out.c2
  have c3 := XQ.out.c3
  have c4 := XQ.out.c4
  have c5 := XQ.out.c5
  have cf0 := XQ.out.free 0
  have cf1 := XQ.out.free 1
  have cf2 := XQ.out.free 2
  have cf3 := XQ.out.free 3
  have cf4 := XQ.out.free 4
  have cf5 := XQ.out.free 5
  clear hp
  go_enter Tryz.func19, Tryz.ntmps19
  go_wp2
  refine bodyPost_ret (ret_batch Tryz.results19 _ _ w.heap.size 0 0 0 0 false (.slice none 0 0) rfl ?_) rfl (decPost_zero HZ.out rfl ?_)
  · exact XQ.out
  · exact XW.out
theorem refDecode_any (ad : Option Addr) (len cap : Nat) (l : List Nat) (w : World) (hp : Part.ok w ⟨ad, len, cap, l⟩) (hlc : len ≤ cap) (hm : len ≤ 1000000000000000) :
    Calls Tryz.prog 19 #[.slice ad len cap] w fun x w' => DecPost l w x w' := by
  by_cases h : len < 18
  · exact refDecode_short ad len cap l w hp h
  · cases hb : (l.getD 1 0 % 2 == 1) with
    | false => exact refDecode_no ad len cap l w hp hlc hm (by omega) hb
    | true => exact refDecode_yes ad len cap l w hp hlc hm (by omega) hb
end Go.Proofs.YtgihmkgbkffgbaaGreat
