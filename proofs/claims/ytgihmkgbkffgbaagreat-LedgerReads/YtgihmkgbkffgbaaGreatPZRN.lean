/- number of the document's package: N as bytes. right of the document's package: an entry that may be (made out of LMay by a script). PutEntry of the document's package; sameEntry of the statements of layer 13. -/
import Derived.Test.YtgihmkgbkffgbaaGreatPZGt
import Derived.Test.YtgihmkgbkffgbaaGreatPZRef
import Derived.Test.YtgihmkgbkffgbaaGreatPZSm
import Derived.Test.YtgihmkgbkffgbaaGreatPZRC
import Derived.Test.YtgihmkgbkffgbaaGreatLPut
import Derived.Test.YtgihmkgbkffgbaaGreatPZRE
namespace Go.Proofs.YtgihmkgbkffgbaaGreat
open Go.RowKit
variable {w w' : World}

theorem number_max (w : World) : Calls Tryz.prog 21 #[.int .i64 281474976710656] w fun e w' => ∃ v, e = .returned v ∧ Own w' w.heap.size v (tell13 281474976710656) ∧ Below w.heap.size w w' := by
  have HP := hid (bytes_any 281474976710656 6 w (by omega))
  rw [show spellN 281474976710656 6 = [0, 0, 0, 0, 0, 0] from by decide +kernel, show ((281474976710656 : Nat) : Int) = 281474976710656 from rfl, show ((6 : Nat) : Int) = 6 from rfl] at HP
  have HT := hid (show tell13 281474976710656 = [0, 0, 0, 0, 0, 0] ++ [1] from if_pos rfl)
  go_enter Tryz.func21, Tryz.ntmps21
  go_wp2_with (first
    | (go_at_call 44; (with_reducible_and_instances (refine HP.out.mono ?_)); rintro x w1 ⟨v1, rfl, ho1, hb1⟩; obtain ⟨a1, c1, hv1, -⟩ := ho1.form; have hv1' : v1 = .slice a1 6 c1 := hv1; clear hv1; subst hv1'; have HO1 := hid ho1; have HB1 := hid hb1; have HR1 := hid (one_row13 w1); have HO2 := hid (ho1.later ((Below.refl _ w1).alloc (Nat.le_refl _) (.cells #[.int .u8 1] 5))); have hs1 := hb1.size; clear ho1 hb1)
    | (at_builtin; refine app_any rfl (.tmp 8) (.tmp 9) rfl w.heap.size (.slice a1 6 c1) 6 [0, 0, 0, 0, 0, 0] rfl HO2.out.2 (some ⟨w1.heap.size, 0, none⟩) 1 1 [1] rfl rfl (fun e => by cases e) HR1.out (by omega) (by simp; omega) ?_; intro v2 w2 ho2 hg2; have HB2 := hid ((HB1.out.alloc HB1.out.size _).grown hg2 (by simp; omega) (fun k hk => (own_from HO1.out k hk))); have HO3 : Hid (Own w2 w.heap.size v2 ([0, 0, 0, 0, 0, 0] ++ [1])) := ⟨by decide, ho2⟩; clear ho2 hg2))
  go_ret
  exact ⟨_, rfl, by rw [HT.out]; exact HO3.out, HB2.out⟩
theorem number_less (n : Nat) (h1 : n < 281474976710656) (w : World) : Calls Tryz.prog 21 #[.int .i64 (n : Int)] w fun e w' => ∃ v, e = .returned v ∧ Own w' w.heap.size v (tell13 (n : Int)) ∧ Below w.heap.size w w' := by
  have HP := hid (bytes_any n 6 w (by omega))
  rw [show ((6 : Nat) : Int) = 6 from rfl] at HP
  have HT := hid (show tell13 (n : Int) = spellN n 6 from if_neg (by omega))
  have hq : ((n : Int) == 281474976710656) = false := by simp; omega
  go_enter Tryz.func21, Tryz.ntmps21
  go_wp2_with (go_at_call 44; (with_reducible_and_instances (refine HP.out.mono ?_)); rintro x w1 ⟨v1, rfl, ho1, hb1⟩; have HO1 := hid ho1; have HB1 := hid hb1; clear ho1 hb1)
  go_ret
  exact ⟨_, rfl, by rw [HT.out]; exact HO1.out, HB1.out⟩
theorem number_any (n : Int) (h0 : 0 ≤ n) (h1 : n ≤ 281474976710656) (w : World) : Calls Tryz.prog 21 #[.int .i64 n] w fun e w' => ∃ v, e = .returned v ∧ Own w' w.heap.size v (tell13 n) ∧ Below w.heap.size w w' := by
  by_cases h : n = 281474976710656
  · subst h; exact number_max w
  · obtain ⟨k, rfl⟩ := Int.eq_ofNat_of_zero_le h0
    exact number_less k (by omega) w
end Go.Proofs.YtgihmkgbkffgbaaGreat
namespace Go.Proofs.YtgihmkgbkffgbaaGreat
open Go.RowKit Go.Shelf
variable {w w' : World}

set_option maxHeartbeats 1000000 in
theorem bare_any (k p e q : Int) (tx : Bool) (rs : List Rec) (ad : Option Addr) (len cap : Nat) (w : World) (hl : rs.length = len) : Calls Tryz.prog 66 #[.agg #[.int .i64 k, .int .i64 p, .int .i64 e, .int .i64 q, .bool tx, .slice ad len cap]] w fun r w' => r = .returned (.bool (bareB ⟨k, p, e, q, tx, rs⟩)) ∧ Below w.heap.size w w' := by
  have HB := hid ((Below.refl _ w).alloc (Nat.le_refl _) (.cells #[.int .i64 k, .int .i64 p, .int .i64 e, .int .i64 q, .bool tx, .slice ad len cap] 25))
  cases h0 : (k == 0) with
  | false =>
    have HR := hid (show bareB ⟨k, p, e, q, tx, rs⟩ = false from by show ((k == 0) && (p == 0) && (e == 0) && (q == 0) && !tx && rs.length == 0) = false; rw [h0]; rfl)
    go_enter Tryz.func66, Tryz.ntmps66
    go_wp2_with fail
    go_ret
    exact ⟨by rw [HR.out]; rfl, HB.out⟩
  | true =>
  cases h1 : (p == 0) with
  | false =>
    have HR := hid (show bareB ⟨k, p, e, q, tx, rs⟩ = false from by show ((k == 0) && (p == 0) && (e == 0) && (q == 0) && !tx && rs.length == 0) = false; rw [h0, h1]; rfl)
    go_enter Tryz.func66, Tryz.ntmps66
    go_wp2_with fail
    go_ret
    exact ⟨by rw [HR.out]; rfl, HB.out⟩
  | true =>
  cases h2 : (e == 0) with
  | false =>
    have HR := hid (show bareB ⟨k, p, e, q, tx, rs⟩ = false from by show ((k == 0) && (p == 0) && (e == 0) && (q == 0) && !tx && rs.length == 0) = false; rw [h0, h1, h2]; rfl)
    go_enter Tryz.func66, Tryz.ntmps66
    go_wp2_with fail
    go_ret
    exact ⟨by rw [HR.out]; rfl, HB.out⟩
  | true =>
  cases h3 : (q == 0) with
  | false =>
    have HR := hid (show bareB ⟨k, p, e, q, tx, rs⟩ = false from by show ((k == 0) && (p == 0) && (e == 0) && (q == 0) && !tx && rs.length == 0) = false; rw [h0, h1, h2, h3]; rfl)
    go_enter Tryz.func66, Tryz.ntmps66
    go_wp2_with fail
    go_ret
    exact ⟨by rw [HR.out]; rfl, HB.out⟩
  | true =>
  cases tx with
  | true =>
    have HR := hid (show bareB ⟨k, p, e, q, true, rs⟩ = false from by show ((k == 0) && (p == 0) && (e == 0) && (q == 0) && !true && rs.length == 0) = false; rw [h0, h1, h2, h3]; rfl)
    go_enter Tryz.func66, Tryz.ntmps66
    go_wp2_with fail
    go_ret
    exact ⟨by rw [HR.out]; rfl, HB.out⟩
  | false =>
    have HR := hid (show bareB ⟨k, p, e, q, false, rs⟩ = decide (len = 0) from by show ((k == 0) && (p == 0) && (e == 0) && (q == 0) && !false && rs.length == 0) = decide (len = 0); rw [h0, h1, h2, h3, hl]; rfl)
    cases hz : decide (len = 0) with
    | true =>
      rw [hz] at HR
      obtain rfl : len = 0 := by simpa using hz
      clear hz hl
      go_enter Tryz.func66, Tryz.ntmps66
      go_wp2_with fail
      go_ret
      exact ⟨by rw [HR.out]; rfl, HB.out⟩
    | false =>
      rw [hz] at HR
      have hz2 : (((len : Int)) == 0) = false := by simp at hz ⊢; omega
      clear hz hl
      go_enter Tryz.func66, Tryz.ntmps66
      go_wp2_with fail
      go_ret
      exact ⟨by rw [HR.out]; rfl, HB.out⟩
set_option maxHeartbeats 1000000 in
theorem right13_any (kd n k p e q : Int) (tx : Bool) (rs : List Rec) (ad : Option Addr) (len cap : Nat) (w : World) (h : BArg w ⟨k, p, e, q, tx, rs⟩ ad len cap) : Calls Tryz.prog 33 #[.agg #[.int .i64 kd, .int .i64 n, .int .i64 k, .int .i64 p, .int .i64 e, .int .i64 q, .bool tx, .slice ad len cap]] w fun r w' => r = .returned (.bool (mayE ⟨kd, n, ⟨k, p, e, q, tx, rs⟩⟩)) ∧ Below w.heap.size w w' := by
  have b0 : Below w.heap.size w (w.alloc (.cells #[.int .i64 kd, .int .i64 n, .int .i64 k, .int .i64 p, .int .i64 e, .int .i64 q, .bool tx, .slice ad len cap] 31)) := (Below.refl _ w).alloc (Nat.le_refl _) _
  have HC := hid (refCheck_any k p e q tx rs ad len cap _ (h.later b0))
  have HZ := hid (bare_any k p e q tx rs ad len cap (w.alloc (.cells #[.int .i64 kd, .int .i64 n, .int .i64 k, .int .i64 p, .int .i64 e, .int .i64 q, .bool tx, .slice ad len cap] 31)) h.len_eq)
  have HB := hid b0
  clear h b0
  by_cases k1 : kd = 1
  · subst k1
    have HM : Hid (mayE ⟨1, n, ⟨k, p, e, q, tx, rs⟩⟩ = ((n == 0) && (checkN ⟨k, p, e, q, tx, rs⟩ == 0))) := by unfold mayE; rw [if_pos rfl]; exact rfl
    rw [HM.out]
    cases hn : (n == 0) with
    | false =>
      rw [Bool.false_and]
      go_enter Tryz.func33, Tryz.ntmps33
      go_wp2_with fail
      go_ret
      exact ⟨rfl, HB.out⟩
    | true =>
      rw [Bool.true_and]
      have hc := HC.out
      generalize checkN ⟨k, p, e, q, tx, rs⟩ = z at *
      clear HC HZ HM
      go_enter Tryz.func33, Tryz.ntmps33
      go_wp2_with (go_at_call 42; refine hc.mono ?_; rintro x w1 ⟨rfl, hb1⟩; have HB1 := hid (HB.out.trans (hb1.mono HB.out.size)); clear hb1)
      go_ret
      exact ⟨rfl, HB1.out⟩
  · have k1' : (kd == 1) = false := by simpa using k1
    by_cases k2 : kd = 2 ∨ kd = 3
    · have HM : Hid (mayE ⟨kd, n, ⟨k, p, e, q, tx, rs⟩⟩ = (decide (0 ≤ n) && decide (n ≤ 281474976710656) && bareB ⟨k, p, e, q, tx, rs⟩)) := by unfold mayE; rw [if_neg k1, if_pos k2]; exact rfl
      rw [HM.out]
      have hz := HZ.out
      generalize bareB ⟨k, p, e, q, tx, rs⟩ = z at *
      clear HC HZ HM
      rcases k2 with rfl | rfl
      · clear k1 k1'
        cases h0 : decide (0 ≤ n) with
        | false =>
          rw [Bool.false_and, Bool.false_and]
          go_enter Tryz.func33, Tryz.ntmps33
          go_wp2_with fail
          go_ret
          exact ⟨rfl, HB.out⟩
        | true =>
          cases h1 : decide (n ≤ 281474976710656) with
          | false =>
            rw [Bool.true_and, Bool.false_and]
            go_enter Tryz.func33, Tryz.ntmps33
            go_wp2_with fail
            go_ret
            exact ⟨rfl, HB.out⟩
          | true =>
            rw [Bool.true_and, Bool.true_and]
            go_enter Tryz.func33, Tryz.ntmps33
            go_wp2_with (go_at_call 66; refine hz.mono ?_; rintro x w1 ⟨rfl, hb1⟩; have HB1 := hid (HB.out.trans (hb1.mono HB.out.size)); clear hb1)
            go_ret
            exact ⟨rfl, HB1.out⟩
      · clear k1 k1'
        cases h0 : decide (0 ≤ n) with
        | false =>
          rw [Bool.false_and, Bool.false_and]
          go_enter Tryz.func33, Tryz.ntmps33
          go_wp2_with fail
          go_ret
          exact ⟨rfl, HB.out⟩
        | true =>
          cases h1 : decide (n ≤ 281474976710656) with
          | false =>
            rw [Bool.true_and, Bool.false_and]
            go_enter Tryz.func33, Tryz.ntmps33
            go_wp2_with fail
            go_ret
            exact ⟨rfl, HB.out⟩
          | true =>
            rw [Bool.true_and, Bool.true_and]
            go_enter Tryz.func33, Tryz.ntmps33
            go_wp2_with (go_at_call 66; refine hz.mono ?_; rintro x w1 ⟨rfl, hb1⟩; have HB1 := hid (HB.out.trans (hb1.mono HB.out.size)); clear hb1)
            go_ret
            exact ⟨rfl, HB1.out⟩
    · have k2' : (kd == 2) = false := by simp; omega
      have k3' : (kd == 3) = false := by simp; omega
      have HM : Hid (mayE ⟨kd, n, ⟨k, p, e, q, tx, rs⟩⟩ = false) := by unfold mayE; rw [if_neg k1, if_neg k2]; exact rfl
      rw [HM.out]
      clear HC HZ HM k1 k2
      go_enter Tryz.func33, Tryz.ntmps33
      go_wp2_with fail
      go_ret
      exact ⟨rfl, HB.out⟩
end Go.Proofs.YtgihmkgbkffgbaaGreat
namespace Go.Proofs.YtgihmkgbkffgbaaGreat
open Go.RowKit
variable {w w' : World}

theorem putE_zero {x : Et} (h : mayE x = true) : (putE x).1 = 0 := by
  obtain ⟨kd, nn, b⟩ := x
  obtain ⟨hk, h0, h1, hc⟩ := mayE_nums h
  unfold putE
  rw [if_neg (by rw [h]; simp)]
  have hl : (if (⟨kd, nn, b⟩ : Et).kind = 1 then (encodeN b).2 else tell13 nn).length ≤ 65536 := by
    show (if kd = 1 then (encodeN b).2 else tell13 nn).length ≤ 65536
    split
    · rename_i h1'
      have hc' := hc h1'
      unfold encodeN
      rw [if_pos hc']
      have e1 := writeN_length b
      have e2 := (checkN_ok hc').2.2.2.2
      show (writeN b).length ≤ _
      omega
    · unfold tell13
      split
      · show 7 ≤ 65536; omega
      · rw [spellN_length]; omega
  unfold frameN
  dsimp only at hl ⊢
  rw [if_pos (by omega), if_pos hl]
set_option maxRecDepth 20000 in
set_option maxHeartbeats 2000000 in
theorem refPutEntry_any (kd nn k p e q : Int) (tx : Bool) (rs : List Rec) (ad : Option Addr) (len cap : Nat) (w : World) (h : BArg w ⟨k, p, e, q, tx, rs⟩ ad len cap) : Calls Tryz.prog 13 #[.agg #[.int .i64 kd, .int .i64 nn, .int .i64 k, .int .i64 p, .int .i64 e, .int .i64 q, .bool tx, .slice ad len cap]] w fun x w' => ∃ v, x = .returned (.tuple #[v, .int .i64 (putE ⟨kd, nn, ⟨k, p, e, q, tx, rs⟩⟩).1]) ∧ Own w' w.heap.size v (putE ⟨kd, nn, ⟨k, p, e, q, tx, rs⟩⟩).2 ∧ Below w.heap.size w w' := by
  obtain ⟨W0, hW0⟩ : ∃ W0, w.alloc (.cells #[.int .i64 kd, .int .i64 nn, .int .i64 k, .int .i64 p, .int .i64 e, .int .i64 q, .bool tx, .slice ad len cap] 31) = W0 := ⟨_, rfl⟩
  have b0 : Below w.heap.size w W0 := by rw [← hW0]; exact (Below.refl _ _).alloc (Nat.le_refl _) _
  have X0 : Blk W0 w.heap.size #[.int .i64 kd, .int .i64 nn, .int .i64 k, .int .i64 p, .int .i64 e, .int .i64 q, .bool tx, .slice ad len cap] 31 := by rw [← hW0]; exact heap_alloc_new w _
  have HMy := hid (right13_any kd nn k p e q tx rs ad len cap W0 (h.later b0))
  have HBa := hid (h.later b0)
  have HB0 := hid b0
  have HX := hid X0
  have lx := X0.lt
  have c0 := X0.cell 0
  have c1 := X0.cell 1
  have c2 := X0.cell 2
  have c3 := X0.cell 3
  have c4 := X0.cell 4
  have c5 := X0.cell 5
  have c6 := X0.cell 6
  have c7 := X0.cell 7
  simp only [List.getElem?_toArray, List.getElem?_cons_zero, List.getElem?_cons_succ] at c0 c1 c2 c3 c4 c5 c6 c7
  clear h b0 X0
  cases hm : mayE ⟨kd, nn, ⟨k, p, e, q, tx, rs⟩⟩ with
  | false =>
    have HP : Hid (putE ⟨kd, nn, ⟨k, p, e, q, tx, rs⟩⟩ = (1, [])) := if_pos hm
    rw [hm] at HMy
    clear hm
    go_enter Tryz.func13, Tryz.ntmps13
    go_wp2_with (go_at_call 33; (with_reducible_and_instances (refine HMy.out.mono ?_)); rintro x W1 ⟨rfl, hb1⟩; have HB1 := hid (HB0.out.trans (hb1.mono HB0.out.size)); clear hb1)
    refine bodyPost_ret (results_tmp2 Tryz.results13 _ _ _) rfl ⟨_, by rw [HP.out]; rfl, by rw [HP.out]; exact Own.nil _ _, HB1.out⟩
  | true =>
    obtain ⟨hkd, hn0, hn1, hck⟩ := mayE_nums hm
    rw [hm] at HMy
    by_cases hk : kd = 1
    · subst hk
      have HP : Hid (putE ⟨1, nn, ⟨k, p, e, q, tx, rs⟩⟩ = frameN 16 (encodeN ⟨k, p, e, q, tx, rs⟩).2) := by unfold putE; rw [if_neg (by rw [hm]; simp)]; exact rfl
      have hbl := writeN_small (hck rfl)
      obtain ⟨mb, hmb⟩ : ∃ mb, (encodeN ⟨k, p, e, q, tx, rs⟩).2.length = mb := ⟨_, rfl⟩
      rw [hmb] at hbl
      have HMb := hid hmb
      have HP0 := hid (putE_zero hm)
      clear hm hkd hck hmb
      go_enter Tryz.func13, Tryz.ntmps13
      go_wp2_with (first
        | (go_at_call 33; (with_reducible_and_instances (refine HMy.out.mono ?_)); rintro x W1 ⟨rfl, hb1⟩; have hx1 := HX.out.later hb1; have d0 := hx1.cell 0; have d1 := hx1.cell 1; have d2 := hx1.cell 2; have d3 := hx1.cell 3; have d4 := hx1.cell 4; have d5 := hx1.cell 5; have d6 := hx1.cell 6; have d7 := hx1.cell 7; simp only [List.getElem?_toArray, List.getElem?_cons_zero, List.getElem?_cons_succ] at d0 d1 d2 d3 d4 d5 d6 d7; have lx1 := hx1.lt; have HX1 := hid hx1; have HB1 := hid hb1; have HT1 := hid (number_any nn (by omega) (by omega) W1); clear hx1 hb1)
        | (go_at_call 21; (with_reducible_and_instances (refine HT1.out.mono ?_)); rintro x W2 ⟨v2, rfl, ho2, hb2⟩; have hx2 := HX1.out.later hb2; have f0 := hx2.cell 0; have f1 := hx2.cell 1; have f2 := hx2.cell 2; have f3 := hx2.cell 3; have f4 := hx2.cell 4; have f5 := hx2.cell 5; have f6 := hx2.cell 6; have f7 := hx2.cell 7; simp only [List.getElem?_toArray, List.getElem?_cons_zero, List.getElem?_cons_succ] at f0 f1 f2 f3 f4 f5 f6 f7; have lx2 := hx2.lt; have HB2 := hid (HB1.out.trans (hb2.mono HB1.out.size)); have HEn := hid (refEncode_any k p e q tx rs ad len cap W2 (HBa.out.later HB2.out)); clear ho2; clear hx2 hb2 d0 d1 d2 d3 d4 d5 d6 d7)
        | (go_at_call 34; (with_reducible_and_instances (refine HEn.out.mono ?_)); rintro x W3 ⟨v3, rfl, ho3, hb3⟩; obtain ⟨a3, c3, hv3, hq3, -, -⟩ := ho3.slice mb HMb.out; subst hv3; have HF3 := hid (refFrame_any 16 a3 mb c3 _ W3 hq3 (by unfold maxLen; omega)); have HB3 := hid (HB2.out.trans (hb3.mono HB2.out.size)); have hx3 := (HX.out.later HB3.out); have g0 := hx3.cell 0; simp only [List.getElem?_toArray, List.getElem?_cons_zero] at g0; have lx3 := hx3.lt; clear ho3 hb3 hq3 hx3 HEn)
        | (go_at_call 35; (with_reducible_and_instances (refine HF3.out.mono ?_)); rintro x W4 ⟨v4, rfl, ho4, hb4⟩; have HO4 := hid ho4; have HB4 := hid (HB0.out.trans ((HB3.out.trans (hb4.mono HB3.out.size)).mono HB0.out.size)); have hsz := HB3.out.size; clear ho4 hb4))
      refine bodyPost_ret (results_tmp2 Tryz.results13 _ _ _) rfl ⟨_, by rw [HP0.out]; rfl, by rw [HP.out]; exact HO4.out.down (by have := HB0.out.size; omega), HB4.out⟩
    · have HP : Hid (putE ⟨kd, nn, ⟨k, p, e, q, tx, rs⟩⟩ = frameN (15 + kd) (tell13 nn)) := by unfold putE; rw [if_neg (by rw [hm]; simp), if_neg hk, Int.add_comm]; exact rfl
      have hk' : (kd == 1) = false := by simpa using hk
      have hwk : IntKind.i64.wrap (15 + kd) = 15 + kd := by rw [IntKind.wrap_i64]; omega
      obtain ⟨mb, hmb⟩ : ∃ mb, (tell13 nn).length = mb := ⟨_, rfl⟩
      have hbl : mb ≤ 7 := by rw [← hmb]; unfold tell13; split; exact Nat.le_refl _; rw [spellN_length]; omega
      have HMb := hid hmb
      have HP0 := hid (putE_zero hm)
      clear hm hkd hck hmb
      go_enter Tryz.func13, Tryz.ntmps13
      go_wp2_with (first
        | (go_at_call 33; (with_reducible_and_instances (refine HMy.out.mono ?_)); rintro x W1 ⟨rfl, hb1⟩; have hx1 := HX.out.later hb1; have d0 := hx1.cell 0; have d1 := hx1.cell 1; have d2 := hx1.cell 2; have d3 := hx1.cell 3; have d4 := hx1.cell 4; have d5 := hx1.cell 5; have d6 := hx1.cell 6; have d7 := hx1.cell 7; simp only [List.getElem?_toArray, List.getElem?_cons_zero, List.getElem?_cons_succ] at d0 d1 d2 d3 d4 d5 d6 d7; have lx1 := hx1.lt; have HX1 := hid hx1; have HB1 := hid hb1; have HT1 := hid (number_any nn (by omega) (by omega) W1); clear hx1 hb1)
        | (go_at_call 21; (with_reducible_and_instances (refine HT1.out.mono ?_)); rintro x W2 ⟨v2, rfl, ho2, hb2⟩; have hx2 := HX1.out.later hb2; have f0 := hx2.cell 0; have f1 := hx2.cell 1; have f2 := hx2.cell 2; have f3 := hx2.cell 3; have f4 := hx2.cell 4; have f5 := hx2.cell 5; have f6 := hx2.cell 6; have f7 := hx2.cell 7; simp only [List.getElem?_toArray, List.getElem?_cons_zero, List.getElem?_cons_succ] at f0 f1 f2 f3 f4 f5 f6 f7; have lx2 := hx2.lt; have HB2 := hid (HB1.out.trans (hb2.mono HB1.out.size)); obtain ⟨a3, c3, hv3, hq3, -, -⟩ := ho2.slice mb HMb.out; subst hv3; have HF3 := hid (refFrame_any (15 + kd) a3 mb c3 _ W2 hq3 (by unfold maxLen; omega)); clear ho2 hq3; clear hx2 hb2 d0 d1 d2 d3 d4 d5 d6 d7)
        | (go_at_call 35; (with_reducible_and_instances (refine HF3.out.mono ?_)); rintro x W4 ⟨v4, rfl, ho4, hb4⟩; have HO4 := hid ho4; have HB4 := hid (HB0.out.trans ((HB2.out.trans (hb4.mono HB2.out.size)).mono HB0.out.size)); have hsz := HB2.out.size; clear ho4 hb4))
      refine bodyPost_ret (results_tmp2 Tryz.results13 _ _ _) rfl ⟨_, by rw [HP0.out]; rfl, by rw [HP.out]; exact HO4.out.down (by have := HB0.out.size; omega), HB4.out⟩
end Go.Proofs.YtgihmkgbkffgbaaGreat
