/- The walk of LedgerBytes (by genbytesw13.py). -/
import Derived.Test.YtgihmkgbkffgbaaGreatLReadsW
import Derived.Test.YtgihmkgbkffgbaaGreatLGetM
import Derived.Test.YtgihmkgbkffgbaaGreatPZRN
import Derived.Test.YtgihmkgbkffgbaaGreatPZLent
namespace Go.Proofs.YtgihmkgbkffgbaaGreat
open Go.RowKit
variable {w : World} {ad : Option Addr} {len cap : Nat} {l : List Nat}

theorem putE_not {x : Et} (h : mayE x = false) : putE x = (1, []) := if_pos h
theorem frameN_len (k : Int) (l : List Nat) : (frameN k l).2.length ≤ 1000000 := by
  unfold frameN
  split
  · split
    · show (frameBs _ _).length ≤ _
      rw [frameBs_length]
      omega
    · show 0 ≤ _; omega
  · show 0 ≤ _; omega
theorem putE_len (x : Et) : (putE x).2.length ≤ 1000000 := by
  unfold putE
  split
  · show 0 ≤ _; omega
  · exact frameN_len _ _
set_option maxRecDepth 100000 in
set_option maxHeartbeats 8000000 in
theorem bytesL_walk (kd nn k p e q : Int) (tx : Bool) (rs : List Rec) (ax : Option Addr) (lx cx : Nat) (hx : BArg w ⟨k, p, e, q, tx, rs⟩ ax lx cx) (hxm : lx * 40 ≤ 140737488351232) (hp : Part.ok w ⟨ad, len, cap, l⟩) (hlc : len ≤ cap) (hm : len ≤ 140737488351232) :
    Calls Tryz.prog 4 #[.agg #[.int .i64 kd, .int .i64 nn, .int .i64 k, .int .i64 p, .int .i64 e, .int .i64 q, .bool tx, .slice ax lx cx], .slice ad len cap] w fun r w' => r = .returned (.bool true) ∧ Below w.heap.size w w' := by
  have HP := hid hp
  have hl : l.length = len := hp.1
  have HL := hid hl
  obtain ⟨W0, hW0⟩ : ∃ W0, w.alloc (.cells #[.int .i64 kd, .int .i64 nn, .int .i64 k, .int .i64 p, .int .i64 e, .int .i64 q, .bool tx, .slice ax lx cx] REt) = W0 := ⟨_, rfl⟩
  have b0 : Below w.heap.size w W0 := by rw [← hW0]; exact (Below.refl _ _).alloc (Nat.le_refl _) _
  have x0 : Blk W0 w.heap.size #[.int .i64 kd, .int .i64 nn, .int .i64 k, .int .i64 p, .int .i64 e, .int .i64 q, .bool tx, .slice ax lx cx] REt := by rw [← hW0]; exact heap_alloc_new w _
  have HB0 := hid b0
  have HXB := hid x0
  have HBx := hid (hx.later b0)
  have HX0 : Hid (∀ W, Below W0.heap.size W0 W → W.cell? ⟨w.heap.size, 0, none⟩ = some (.int .i64 kd) ∧ W.cell? ⟨w.heap.size, 1, none⟩ = some (.int .i64 nn) ∧ W.cell? ⟨w.heap.size, 2, none⟩ = some (.int .i64 k) ∧ W.cell? ⟨w.heap.size, 3, none⟩ = some (.int .i64 p) ∧ W.cell? ⟨w.heap.size, 4, none⟩ = some (.int .i64 e) ∧ W.cell? ⟨w.heap.size, 5, none⟩ = some (.int .i64 q) ∧ W.cell? ⟨w.heap.size, 6, none⟩ = some (.bool tx) ∧ W.cell? ⟨w.heap.size, 7, none⟩ = some (.slice ax lx cx)) := hid (fun W hW => cells8L (x0.later hW))
  have lx0 := x0.lt
  have HLe := hid (lent_any ad len cap l W0 (hp.later b0) hm)
  have HOw := hid (fun W (hW : Below W0.heap.size W0 W) => own13_any kd nn k p e q tx rs ax lx cx W ((hx.later b0).later hW) (by omega))
  have HPu := hid (fun W (a : Option Addr) (c : Nat) (h : BArg W ⟨k, p, e, q, tx, rs⟩ a lx c) => putEntry_any kd nn k p e q tx rs a lx c W h)
  have HRu := hid (fun W (hW : Below W0.heap.size W0 W) => refPutEntry_any kd nn k p e q tx rs ax lx cx W ((hx.later b0).later hW))
  have hbl := putE_len ⟨kd, nn, ⟨k, p, e, q, tx, rs⟩⟩
  have HMy : Hid (mayE ⟨kd, nn, ⟨k, p, e, q, tx, rs⟩⟩ = true → (putE ⟨kd, nn, ⟨k, p, e, q, tx, rs⟩⟩).1 = 0 ∧ getE (putE ⟨kd, nn, ⟨k, p, e, q, tx, rs⟩⟩).2 = (⟨kd, nn, ⟨k, p, e, q, tx, rs⟩⟩, 0)) := hid (fun h => ⟨putE_zero h, get_put h⟩)
  have HMn : Hid (mayE ⟨kd, nn, ⟨k, p, e, q, tx, rs⟩⟩ = false → (putE ⟨kd, nn, ⟨k, p, e, q, tx, rs⟩⟩).1 = 1) := hid (fun h => by rw [putE_not h])
  obtain ⟨⟨E, B⟩, hEB⟩ : ∃ z, putE ⟨kd, nn, ⟨k, p, e, q, tx, rs⟩⟩ = z := ⟨_, rfl⟩
  rw [hEB] at HPu HRu hbl HMy HMn
  dsimp only at HPu HRu hbl HMy HMn
  obtain ⟨mB, hmB⟩ : ∃ mB, B.length = mB := ⟨_, rfl⟩
  rw [hmB] at hbl
  have HmB := hid hmB
  obtain ⟨bs, hbs⟩ : ∃ bs, bstr B = bs := ⟨_, rfl⟩
  have Hbs := hid hbs
  obtain ⟨F, hF⟩ : ∃ F, (getE l).2 = F := ⟨_, rfl⟩
  have HF := hid hF
  clear b0 x0 hx hp hEB hmB hbs hF
  go_enter Tryz.func4, Tryz.ntmps4
  go_upto_region 6 with (first
    | (go_at_call 10; (with_reducible_and_instances (refine HLe.out.mono ?_)); rintro r w1 ⟨g, c, rfl, hc1, hc2, own1, b1⟩; have HO1 := hid own1; have HB1 := hid b1; obtain ⟨e0, e1, e2, e3, e4, e5, e6, e7⟩ := HX0.out w1 b1; clear own1 b1)
    | (go_at_call 12; (with_reducible_and_instances (refine (HOw.out w1 HB1.out).mono ?_)); rintro r w2 ⟨aw, cw, rfl, hA2, -, b2⟩; have HA2 := hid hA2; have HB2 := hid b2; clear hA2 b2)
    | (go_at_call 11; (with_reducible_and_instances (refine (HPu.out w2 aw cw HA2.out).mono ?_)); rintro r w3 ⟨v3, rfl, o3, b3⟩; obtain ⟨a2, c2, hv2, hq2, hcc2, -⟩ := o3.slice mB HmB.out; subst hv2; have HQ2 := hid hq2; have HC2 := hid hcc2; have HB3 := hid (HB2.out.trans (b3.mono HB2.out.size)); have HB13 := hid (HB1.out.trans (HB3.out.mono HB1.out.size)); obtain ⟨k0, k1, k2, k3, k4, k5, k6, k7⟩ := HX0.out w3 HB13.out; clear o3 b3 hq2 hcc2 e0 e1 e2 e3 e4 e5 e6 e7)
    | (go_at_call 13; (with_reducible_and_instances (refine (HRu.out w3 HB13.out).mono ?_)); rintro r w4 ⟨v4, rfl, o4, b4⟩; obtain ⟨a3, c3, hv3, hq3, -, -⟩ := o4.slice mB HmB.out; subst hv3; have HQ3 := hid hq3; have HB34 := hid b4; have HB4 := hid (HB3.out.trans (b4.mono HB3.out.size)); have HGt := hid (getEntry_any (some ⟨g, 0, none⟩) len c l w4 ((HO1.out.later HB4.out).cut HL.out (by simp [HL.out])) (by omega) (by omega)); unfold GetPost at HGt; rw [HF.out] at HGt; clear o4 b4 hq3 k0 k1 k2 k3 k4 k5 k6 k7)
    | (go_at_call 5; (with_reducible_and_instances (refine HGt.out.mono ?_)); rintro r w5 ⟨kd1, nn1, kk1, p1, e1, s1, t1, rs1, a1, n1, c1, rfl, hE1, hA1, hb⟩; have HE1 := hid hE1; have HA1 := hid hA1; have HB5 := hid hb; obtain ⟨w6, hw6⟩ : ∃ x, w5.alloc (.cells #[.int .i64 kd1, .int .i64 nn1, .int .i64 kk1, .int .i64 p1, .int .i64 e1, .int .i64 s1, .bool t1, .slice a1 n1 c1] TEt) = x := ⟨_, rfl⟩; have hzw6 : Blk w6 w5.heap.size #[.int .i64 kd1, .int .i64 nn1, .int .i64 kk1, .int .i64 p1, .int .i64 e1, .int .i64 s1, .bool t1, .slice a1 n1 c1] TEt := (by rw [← hw6]; exact heap_alloc_new w5 _); have hbw6 : Below w5.heap.size w5 w6 := (by rw [← hw6]; exact (Below.refl _ _).alloc (Nat.le_refl _) _); have HX3 := hid hzw6; have HA3 := hid (hA1.later hbw6); have HB56 := hid hbw6; have HB46 := hid (HB5.out.trans (hbw6.mono HB5.out.size)); have HRg := hid (rgetEntry_any ad len cap l w6 (HP.out.later (HB0.out.trans ((HB1.out.trans ((HB4.out.trans (HB46.out.mono HB4.out.size)).mono HB1.out.size)).mono HB0.out.size))) hlc (by omega)); unfold GetPost at HRg; rw [HF.out] at HRg; clear hE1 hA1 hb hzw6 hbw6)
    | (go_at_call 6; (with_reducible_and_instances (refine HRg.out.mono ?_)); rintro r w7 ⟨kd', nn', k', p', e', s', t', rs', a', n', c', rfl, hE2, hA2, hb⟩; obtain ⟨rfl, rfl, rfl, rfl, rfl, rfl, rfl, rfl, rfl⟩ := got_like HE1.out hE2 HA1.out hA2; obtain ⟨w8, hw8⟩ : ∃ x, w7.alloc (.cells #[.int .i64 kd', .int .i64 nn', .int .i64 k', .int .i64 p', .int .i64 e', .int .i64 s', .bool t', .slice a' n' c'] REt) = x := ⟨_, rfl⟩; have hzw8 : Blk w8 w7.heap.size #[.int .i64 kd', .int .i64 nn', .int .i64 k', .int .i64 p', .int .i64 e', .int .i64 s', .bool t', .slice a' n' c'] REt := (by rw [← hw8]; exact heap_alloc_new w7 _); have hbw8 : Below w7.heap.size w7 w8 := (by rw [← hw8]; exact (Below.refl _ _).alloc (Nat.le_refl _) _); have HX8 := hid ((HX3.out.later hb).later hbw8); have HY8 := hid hzw8; have HT6 := hid (hb.trans (hbw8.mono hb.size)); have HSm := hid (sameE_like kd' nn' k' p' e' s' t' rs' a1 a' n' c1 c' w8 ((HA3.out.later hb).later hbw8) (hA2.later hbw8)); clear hE2 hA2 hb hzw8 hbw8))
  have HT4 : Hid (Below w4.heap.size w4 w8) := hid (HB46.out.trans (HT6.out.mono HB46.out.size))
  have HT1 : Hid (Below w1.heap.size w1 w8) := hid (HB4.out.trans (HT4.out.mono HB4.out.size))
  have HT0 : Hid (Below W0.heap.size W0 w8) := hid (HB1.out.trans (HT1.out.mono HB1.out.size))
  have HQ2' : Hid (Part.ok w8 ⟨a2, mB, c2, B⟩) := hid (HQ2.out.later (HB34.out.trans (HT4.out.mono HB34.out.size)))
  have HQ3' : Hid (Part.ok w8 ⟨a3, mB, c3, B⟩) := hid (HQ3.out.later HT4.out)
  have HOg : Hid (Own w8 W0.heap.size (.slice (some ⟨g, 0, none⟩) (len + 2) c) (l ++ [201, 202])) := hid (HO1.out.later HT1.out)
  have v1 := conv_any HQ2'.out.2.2 mB c2 HQ2'.out.1
  have v2 := conv_any HQ3'.out.2.2 mB c3 HQ3'.out.1
  rw [Hbs.out] at v1 v2
  have lx8 := HX8.out.lt
  have ly8 := HY8.out.lt
  obtain ⟨u0, u1, u2, u3, u4, u5, u6, u7⟩ := cells8L HX8.out
  obtain ⟨y0, y1, y2, y3, y4, y5, y6, y7⟩ := cells8L HY8.out
  have hne : (E != E) = false := by simp
  have HSt : Hid (∀ W, Below w8.heap.size w8 W → _) := hid (fun W (hW : Below w8.heap.size w8 W) => stays_any g c ad len cap W0.heap.size l W (by omega) hm (HOg.out.later hW) (HP.out.later (HB0.out.trans ((HT0.out.trans (hW.mono HT0.out.size)).mono HB0.out.size))))
  have HKn := hid (fun X => knows13 X)
  go_upto_region 8 with (first
    | (go_at_call 8; (with_reducible_and_instances (refine (num13_any _ _).mono ?_)); rintro r w99 ⟨rfl, hw99⟩; obtain rfl := hw99.symm)
    | (go_at_call 7; (with_reducible_and_instances (refine HSm.out.mono ?_)); rintro r x1 ⟨rfl, hb6⟩; have HB8 := hid hb6; have HStC := hid (HSt.out x1 hb6); clear hb6)
    | (go_at_call 14; (with_reducible_and_instances (refine HStC.out.mono ?_)); rintro r x2 ⟨rfl, hb7⟩; have HB9 := hid (HB8.out.trans (hb7.mono HB8.out.size)); clear hb7))
  have HX2B : Hid (Below w.heap.size w x2) := hid (HB0.out.trans ((HT0.out.trans (HB9.out.mono HT0.out.size)).mono HB0.out.size))
  have HT02 : Hid (Below W0.heap.size W0 x2) := hid (HT0.out.trans (HB9.out.mono HT0.out.size))
  clear u0 u1 u2 u3 u4 u5 u6 u7 y0 y1 y2 y3 y4 y5 y6 y7 v1 v2
  cases hmay : mayE ⟨kd, nn, ⟨k, p, e, q, tx, rs⟩⟩ with
  | true =>
    obtain ⟨rfl, hgp⟩ := HMy.out hmay
    have HGp := hid hgp
    have HGb := hid (getEntry_any a2 mB c2 B x2 (HQ2'.out.later HB9.out) HC2.out (by omega))
    unfold GetPost at HGb
    rw [HGp.out] at HGb
    clear hmay hgp HMy HMn
    go_wp2_with (first
      | (go_at_call 8; (with_reducible_and_instances (refine (num13_any _ _).mono ?_)); rintro r w99 ⟨rfl, hw99⟩; obtain rfl := hw99.symm)
      | (go_at_call 5; (with_reducible_and_instances (refine HGb.out.mono ?_)); rintro r x3 ⟨kd3, nn3, kk3, p3, e3, s3, t3, rs3, a4, n4, c4, rfl, hE3, hA3, hb3⟩; simp only [Et.mk.injEq, Bat.mk.injEq] at hE3; obtain ⟨rfl, rfl, rfl, rfl, rfl, rfl, rfl, rfl⟩ := hE3; have hn4 : n4 = lx := (BArg.len_eq hA3).symm.trans (BArg.len_eq HBx.out); subst hn4; obtain ⟨x4, hx4⟩ : ∃ x, x3.alloc (.cells #[.int .i64 kd3, .int .i64 nn3, .int .i64 kk3, .int .i64 p3, .int .i64 e3, .int .i64 s3, .bool t3, .slice a4 n4 c4] TEt) = x := ⟨_, rfl⟩; have hzx4 : Blk x4 x3.heap.size #[.int .i64 kd3, .int .i64 nn3, .int .i64 kk3, .int .i64 p3, .int .i64 e3, .int .i64 s3, .bool t3, .slice a4 n4 c4] TEt := (by rw [← hx4]; exact heap_alloc_new x3 _); have hbx4 : Below x3.heap.size x3 x4 := (by rw [← hx4]; exact (Below.refl _ _).alloc (Nat.le_refl _) _); have HB11 := hid (HT02.out.trans ((hb3.trans (hbx4.mono hb3.size)).mono HT02.out.size)); have lz := hzx4.lt; have hxw := HXB.out.later HB11.out; have lw := hxw.lt; have HSn := hid (sameE_like kd3 nn3 kk3 p3 e3 s3 t3 rs3 a4 ax n4 c4 cx x4 (hA3.later hbx4) (HBx.out.later HB11.out)); obtain ⟨z0, z1, z2, z3, z4, z5, z6, z7⟩ := cells8L hzx4; obtain ⟨m0, m1, m2, m3, m4, m5, m6, m7⟩ := cells8L hxw; clear hA3 hb3 hxw hzx4 hbx4)
      | (go_at_call 7; (with_reducible_and_instances (refine HSn.out.mono ?_)); rintro r x5 ⟨rfl, hb6⟩; have HB12 := hid (HB11.out.trans (hb6.mono HB11.out.size)); clear hb6)
      | (go_at_call 9; (with_reducible_and_instances (refine (HKn.out _).mono ?_)); rintro r x6 ⟨rfl, hb7⟩; have HB13' := hid (HB12.out.trans (hb7.mono HB12.out.size)); clear hb7))
    go_ret
    exact ⟨rfl, HB0.out.trans (HB13'.out.mono HB0.out.size)⟩
  | false =>
    have hE1' := HMn.out hmay
    subst hE1'
    clear hmay HMy HMn
    go_wp2_with (first
      | (go_at_call 8; (with_reducible_and_instances (refine (num13_any _ _).mono ?_)); rintro r w99 ⟨rfl, hw99⟩; obtain rfl := hw99.symm)
      | (go_at_call 9; (with_reducible_and_instances (refine (HKn.out _).mono ?_)); rintro r x6 ⟨rfl, hb7⟩; have HB13' := hid (HX2B.out.trans (hb7.mono HX2B.out.size)); clear hb7))
    go_ret
    exact ⟨rfl, HB13'.out⟩
end Go.Proofs.YtgihmkgbkffgbaaGreat
