/- The walk of GroupReplayed (P1510; by genrepw15.py). -/
import Derived.Test.YtiiepmljcjbflaaGreatGRepM
namespace Go.Proofs.YtiiepmljcjbflaaGreat
open Go.RowKit Go.Shelf
variable {w w' : World}

set_option maxRecDepth 100000 in
set_option maxHeartbeats 16000000 in
theorem replayed_walk {l : List Ev} {a : Option Addr} {m c : Nat} (h : ArgK kER w l a m c) (hm : m * 80 ≤ 140737488351232) : Calls Tryz.prog 4 #[.slice a m c] w fun r w' => r = .returned (.bool true) ∧ Below w.heap.size w w' := by
  have HN := hid (fun W => New_ok 5 10 (by omega) (by omega) W)
  have HL := hid h
  clear h
  go_enter Tryz.func4, Tryz.ntmps4
  go_wp2_with (first
    | (go_at_call 15; (with_reducible_and_instances (refine (HN.out w).mono ?_)); rintro r w1 ⟨F1, ga, rfl, h1, hb1, hF1⟩; have HA1 : Hid (GOf w.heap.size w1 ga 0 (gp0 5 10)) := hid ⟨F1, h1, hF1⟩; have HB1 := hid hb1; clear h1 hb1 hF1)
    | (go_at_call 15; (with_reducible_and_instances (refine (HN.out w1).mono ?_)); rintro r w2 ⟨F2, gb, rfl, h2, hb2, hF2⟩; have HT2 : Hid (Two w.heap.size w2 ga gb 0 0 (gp0 5 10) (gp0 5 10)) := hid (Two.new HA1.out hb2 ⟨F2, h2, hF2⟩ HB1.out.size); have HB2 := hid (HB1.out.trans (hb2.mono HB1.out.size)); clear h2 hb2 hF2)
    | (go_at_call 12; (with_reducible_and_instances (refine (num15_any _ _).mono ?_)); rintro r w99 ⟨rfl, hw99⟩; obtain rfl := hw99.symm)
    | (go_at_call 14; (with_reducible_and_instances (refine (knows15 w2).mono ?_)); rintro r w3 ⟨rfl, hb3⟩; have HI0 : Hid (Two w.heap.size w3 ga gb 0 0 (gp0 5 10) (gp0 5 10) ∧ Below w.heap.size w w3) := ⟨HT2.out.later hb3, HB2.out.trans (hb3.mono HB2.out.size)⟩; clear hb3))
  go_loopw [7] (fun iv wr => ∃ (i : Nat) (G : Gp), i ≤ m ∧ iv = .int .i64 (i : Int) ∧ Hid (Two w.heap.size wr ga gb (i * 102) (i * 102) G G ∧ Below w.heap.size w wr)) (fun iv _ => m - (intOf iv).toNat)
  case atStart => exact ⟨0, gp0 5 10, by omega, rfl, ⟨HI0.out.1.mono (by omega) (by omega), HI0.out.2⟩⟩
  case round =>
    obtain ⟨i, G, hi, rfl, HI⟩ := hrel
    obtain ⟨wo, rfl⟩ : ∃ q, q = wr := ⟨wr, rfl⟩
    clear HN HA1 HB1 HT2 HB2 HI0
    by_cases hlt : i < m
    · obtain ⟨b1, o1, rfl, hs0, hc0⟩ := HL.out.cells (by omega)
      obtain ⟨x, hx⟩ : ∃ x, l.getD i ev0 = x := ⟨_, rfl⟩
      have HPu := hid (fun W => putT_any x W)
      have HUn : Hid (x.may → ∀ y e, GotT (tellE x) y e → y = x ∧ e = 0) := hid (fun hm y e hg => hg.uniq (Or.inl ⟨rfl, hm, rfl⟩))
      have hpl : x.may → (tellE x).length ≤ 1000 := fun hm => by
        have hn := (may_fit hm).name
        unfold tellE
        rw [frameBs_length, bodyT_len]
        omega
      obtain ⟨xk, xs, xa, xb, xc, xd, xe, xf, xq⟩ := x
      obtain ⟨t, ht⟩ : ∃ t, nmS xs = t := ⟨_, rfl⟩
      have hcap := HL.out.cap
      have HXc : Hid (∀ W, Below w.heap.size w W → W.cell? ⟨b1, o1 + i * 9, none⟩ = some (Value.int .i64 xk) ∧ W.cell? ⟨b1, o1 + i * 9 + 1, none⟩ = some (Value.string t) ∧ W.cell? ⟨b1, o1 + i * 9 + 2, none⟩ = some (Value.int .i64 xa) ∧ W.cell? ⟨b1, o1 + i * 9 + 3, none⟩ = some (Value.int .i64 xb) ∧ W.cell? ⟨b1, o1 + i * 9 + 4, none⟩ = some (Value.int .i64 xc) ∧ W.cell? ⟨b1, o1 + i * 9 + 5, none⟩ = some (Value.int .i64 xd) ∧ W.cell? ⟨b1, o1 + i * 9 + 6, none⟩ = some (Value.int .i64 xe) ∧ W.cell? ⟨b1, o1 + i * 9 + 7, none⟩ = some (Value.int .i64 xf) ∧ W.cell? ⟨b1, o1 + i * 9 + 8, none⟩ = some (Value.bool xq)) := fun W hW => by
        have h9 : ∀ k, k < 9 → W.cell? ⟨b1, o1 + i * 9 + k, none⟩ = (evA ⟨xk, xs, xa, xb, xc, xd, xe, xf, xq⟩).toList[k]? := fun k hk => by
          have h := hc0 i hlt k hk
          rw [show l.getD i kER.z = l.getD i ev0 from rfl, hx] at h
          exact (hW.cell (p := ⟨b1, o1 + i * 9 + k, none⟩) hs0).trans h
        rw [← ht]
        exact ⟨h9 0 (by decide), h9 1 (by decide), h9 2 (by decide), h9 3 (by decide), h9 4 (by decide), h9 5 (by decide), h9 6 (by decide), h9 7 (by decide), h9 8 (by decide)⟩
      have HOw : Hid (∀ W, Calls Tryz.prog 8 #[.agg #[.int .i64 xk, .string t, .int .i64 xa, .int .i64 xb, .int .i64 xc, .int .i64 xd, .int .i64 xe, .int .i64 xf, .bool xq]] W fun r w' => r = .returned (.agg #[.int .i64 xk, .string t, .int .i64 xa, .int .i64 xb, .int .i64 xc, .int .i64 xd, .int .i64 xe, .int .i64 xf, .bool xq]) ∧ Below W.heap.size W w') := fun W => by
        have h := own15_any ⟨xk, xs, xa, xb, xc, xd, xe, xf, xq⟩ W
        rw [← ht]
        exact h
      obtain ⟨dn, de, hd⟩ : ∃ dn de, G.dec ⟨xk, xs, xa, xb, xc, xd, xe, xf, xq⟩ = (dn, de) := ⟨_, _, rfl⟩
      obtain ⟨G1, hG1⟩ : ∃ G1, G.app ⟨xk, xs, xa, xb, xc, xd, xe, xf, xq⟩ = G1 := ⟨_, rfl⟩
      have HDe : Hid (∀ W, Two w.heap.size W ga gb (i * 102) (i * 102) G G → Calls Tryz.prog 16 #[.pointer (some ⟨ga, 0, none⟩), .agg #[.int .i64 xk, .string t, .int .i64 xa, .int .i64 xb, .int .i64 xc, .int .i64 xd, .int .i64 xe, .int .i64 xf, .bool xq]] W fun e w' => e = .returned (.tuple #[.bool dn, .int .i64 de]) ∧ Below W.heap.size W w') := fun W hT => by
        have h := hT.a.decideR ⟨xk, xs, xa, xb, xc, xd, xe, xf, xq⟩
        rw [hd] at h
        rw [← ht]
        exact h
      have HAp : Hid (∀ W, Two w.heap.size W ga gb (i * 102) (i * 102) G G → w.heap.size ≤ W.heap.size → Calls Tryz.prog 17 #[.pointer (some ⟨ga, 0, none⟩), .agg #[.int .i64 xk, .string t, .int .i64 xa, .int .i64 xb, .int .i64 xc, .int .i64 xd, .int .i64 xe, .int .i64 xf, .bool xq]] W fun e w' => e = .returned (.int .i64 de) ∧ Two w.heap.size w' ga gb (i * 102 + 102) (i * 102) G1 G ∧ Below w.heap.size W w') := fun W hT hN => by
        have h := hT.applyA hN ⟨xk, xs, xa, xb, xc, xd, xe, xf, xq⟩ (by omega)
        rw [hd, hG1] at h
        rw [← ht]
        exact h
      have HAb : Hid (∀ W, Two w.heap.size W ga gb (i * 102 + 102) (i * 102) G1 G → w.heap.size ≤ W.heap.size → Calls Tryz.prog 17 #[.pointer (some ⟨gb, 0, none⟩), .agg #[.int .i64 xk, .string t, .int .i64 xa, .int .i64 xb, .int .i64 xc, .int .i64 xd, .int .i64 xe, .int .i64 xf, .bool xq]] W fun e w' => e = .returned (.int .i64 de) ∧ Two w.heap.size w' ga gb (i * 102 + 102) (i * 102 + 102) G1 G1 ∧ Below w.heap.size W w') := fun W hT hN => by
        have h := hT.applyB hN ⟨xk, xs, xa, xb, xc, xd, xe, xf, xq⟩ (by omega)
        rw [hd, hG1] at h
        rw [← ht]
        exact h
      have HNo : Hid ((dn, de) ≠ (false, 0) → G1 = G) := hid (fun hne => by rw [← hG1]; exact app_no15 (by rw [hd]; exact hne))
      have HMy : Hid ((dn, de) = (false, 0) → Ev.may ⟨xk, xs, xa, xb, xc, xd, xe, xf, xq⟩) := hid (fun he => dec_may15 (hd.trans he))
      obtain ⟨r0, r1, r2, r3, r4, r5, r6, r7, r8⟩ := HXc.out wo HI.out.2
      have HEv : Hid (evA ⟨xk, xs, xa, xb, xc, xd, xe, xf, xq⟩ = #[.int .i64 xk, .string t, .int .i64 xa, .int .i64 xb, .int .i64 xc, .int .i64 xd, .int .i64 xe, .int .i64 xf, .bool xq]) := hid (by rw [← ht])
      clear hc0 hx hs0 ht hd hG1
      by_cases he : de = 0
      case neg =>
        have heb : (de == 0) = false := by simpa using he
        obtain rfl : G1 = G := HNo.out (fun h => he (congrArg Prod.snd h))
        clear HNo HMy HUn hpl HPu HAb
        go_wp2_with (first
          | (go_at_call 8; (with_reducible_and_instances (refine (HOw.out wo).mono ?_)); rintro r w4 ⟨rfl, hb4⟩; have HT4 := hid (HI.out.1.later hb4); have HB4 := hid (HI.out.2.trans (hb4.mono HI.out.2.size)); clear hb4)
          | (go_at_call 16; (with_reducible_and_instances (refine (HDe.out w4 HT4.out).mono ?_)); rintro r w5 ⟨rfl, hb5⟩; have HT5 := hid (HT4.out.later hb5); have HB5 := hid (HB4.out.trans (hb5.mono HB4.out.size)); clear r0 r1 r2 r3 r4 r5 r6 r7 r8; obtain ⟨r0, r1, r2, r3, r4, r5, r6, r7, r8⟩ := HXc.out w5 HB5.out; clear hb5)
          | (go_at_call 8; (with_reducible_and_instances (refine (HOw.out w5).mono ?_)); rintro r w6 ⟨rfl, hb6⟩; have HT6 := hid (HT5.out.later hb6); have HB6 := hid (HB5.out.trans (hb6.mono HB5.out.size)); clear hb6)
          | (go_at_call 17; (with_reducible_and_instances (refine (HAp.out w6 HT6.out HB6.out.size).mono ?_)); rintro r w7 ⟨rfl, h7, hb7⟩; have HT7 := hid h7; have HB7 := hid (HB6.out.trans hb7); clear r0 r1 r2 r3 r4 r5 r6 r7 r8; obtain ⟨r0, r1, r2, r3, r4, r5, r6, r7, r8⟩ := HXc.out w7 HB7.out; clear h7 hb7)
          | (go_at_call 12; (with_reducible_and_instances (refine (num15_any _ _).mono ?_)); rintro r w99 ⟨rfl, hw99⟩; obtain rfl := hw99.symm))
        exact ⟨⟨i + 1, G1, by omega, by go_num, ⟨HT7.out.mono (by omega) (by omega), HB7.out⟩⟩, by simp [intOf]; omega⟩
      subst he
      cases dn with
      | true =>
        obtain rfl : G1 = G := HNo.out (fun h => absurd (congrArg Prod.fst h) (by simp))
        clear HNo HMy HUn hpl HPu HAb
        go_wp2_with (first
          | (go_at_call 8; (with_reducible_and_instances (refine (HOw.out wo).mono ?_)); rintro r w4 ⟨rfl, hb4⟩; have HT4 := hid (HI.out.1.later hb4); have HB4 := hid (HI.out.2.trans (hb4.mono HI.out.2.size)); clear hb4)
          | (go_at_call 16; (with_reducible_and_instances (refine (HDe.out w4 HT4.out).mono ?_)); rintro r w5 ⟨rfl, hb5⟩; have HT5 := hid (HT4.out.later hb5); have HB5 := hid (HB4.out.trans (hb5.mono HB4.out.size)); clear r0 r1 r2 r3 r4 r5 r6 r7 r8; obtain ⟨r0, r1, r2, r3, r4, r5, r6, r7, r8⟩ := HXc.out w5 HB5.out; clear hb5)
          | (go_at_call 8; (with_reducible_and_instances (refine (HOw.out w5).mono ?_)); rintro r w6 ⟨rfl, hb6⟩; have HT6 := hid (HT5.out.later hb6); have HB6 := hid (HB5.out.trans (hb6.mono HB5.out.size)); clear hb6)
          | (go_at_call 17; (with_reducible_and_instances (refine (HAp.out w6 HT6.out HB6.out.size).mono ?_)); rintro r w7 ⟨rfl, h7, hb7⟩; have HT7 := hid h7; have HB7 := hid (HB6.out.trans hb7); clear r0 r1 r2 r3 r4 r5 r6 r7 r8; obtain ⟨r0, r1, r2, r3, r4, r5, r6, r7, r8⟩ := HXc.out w7 HB7.out; clear h7 hb7)
          | (go_at_call 12; (with_reducible_and_instances (refine (num15_any _ _).mono ?_)); rintro r w99 ⟨rfl, hw99⟩; obtain rfl := hw99.symm))
        exact ⟨⟨i + 1, G1, by omega, by go_num, ⟨HT7.out.mono (by omega) (by omega), HB7.out⟩⟩, by simp [intOf]; omega⟩
      | false =>
        have hmay := HMy.out rfl
        obtain ⟨R, hR⟩ : ∃ R, tellE ⟨xk, xs, xa, xb, xc, xd, xe, xf, xq⟩ = R := ⟨_, rfl⟩
        have hpl := hpl hmay
        rw [hR] at hpl
        have HPv : Hid (∀ W, Calls Tryz.prog 7 #[.agg #[.int .i64 xk, .string t, .int .i64 xa, .int .i64 xb, .int .i64 xc, .int .i64 xd, .int .i64 xe, .int .i64 xf, .bool xq]] W fun r w' => (∃ v, r = .returned (.tuple #[v, .int .i64 0]) ∧ Own w' W.heap.size v R) ∧ Below W.heap.size W w') := hid (fun W => by
          have h := HPu.out W
          rw [if_pos hmay, if_pos hmay, hR, HEv.out] at h
          exact h)
        have HUm : Hid (∀ y e, GotT R y e → y = ⟨xk, xs, xa, xb, xc, xd, xe, xf, xq⟩ ∧ e = 0) := hid (fun y e hg => HUn.out hmay y e (by rw [hR]; exact hg))
        obtain ⟨n, hn⟩ : ∃ n, R.length = n := ⟨_, rfl⟩
        rw [hn] at hpl
        have HRn := hid hn
        clear HNo HMy HUn HPu hmay hR hn
        go_wp2_with (first
          | (go_at_call 8; (with_reducible_and_instances (refine (HOw.out wo).mono ?_)); rintro r w4 ⟨rfl, hb4⟩; have HT4 := hid (HI.out.1.later hb4); have HB4 := hid (HI.out.2.trans (hb4.mono HI.out.2.size)); clear hb4)
          | (go_at_call 16; (with_reducible_and_instances (refine (HDe.out w4 HT4.out).mono ?_)); rintro r w5 ⟨rfl, hb5⟩; have HT5 := hid (HT4.out.later hb5); have HB5 := hid (HB4.out.trans (hb5.mono HB4.out.size)); clear r0 r1 r2 r3 r4 r5 r6 r7 r8; obtain ⟨r0, r1, r2, r3, r4, r5, r6, r7, r8⟩ := HXc.out w5 HB5.out; clear hb5)
          | (go_at_call 8; (with_reducible_and_instances (refine (HOw.out w5).mono ?_)); rintro r w6 ⟨rfl, hb6⟩; have HT6 := hid (HT5.out.later hb6); have HB6 := hid (HB5.out.trans (hb6.mono HB5.out.size)); clear hb6)
          | (go_at_call 17; (with_reducible_and_instances (refine (HAp.out w6 HT6.out HB6.out.size).mono ?_)); rintro r w7 ⟨rfl, h7, hb7⟩; have HT7 := hid h7; have HB7 := hid (HB6.out.trans hb7); clear r0 r1 r2 r3 r4 r5 r6 r7 r8; obtain ⟨r0, r1, r2, r3, r4, r5, r6, r7, r8⟩ := HXc.out w7 HB7.out; clear h7 hb7)
          | (go_at_call 12; (with_reducible_and_instances (refine (num15_any _ _).mono ?_)); rintro r w99 ⟨rfl, hw99⟩; obtain rfl := hw99.symm)
          | (go_at_call 8; (with_reducible_and_instances (refine (HOw.out w7).mono ?_)); rintro r w8 ⟨rfl, hb8⟩; have HT8 := hid (HT7.out.later hb8); have HB8 := hid (HB7.out.trans (hb8.mono HB7.out.size)); clear hb8)
          | (go_at_call 7; (with_reducible_and_instances (refine (HPv.out w8).mono ?_)); rintro r w9 ⟨⟨v9, rfl, ho9⟩, hb9⟩; obtain ⟨a9, c9, hv9, hq9, hc9, -⟩ := ho9.slice n HRn.out; subst hv9; have HGt := hid (getT_any a9 n c9 R w9 hq9 hc9 (by omega)); have HT9 := hid (HT8.out.later hb9); have HB9 := hid (HB8.out.trans (hb9.mono HB8.out.size)); clear ho9 hb9 hq9)
          | (go_at_call 10; (with_reducible_and_instances (refine HGt.out.mono ?_)); rintro r w10 ⟨y, e, rfl, hG, hb10⟩; obtain ⟨rfl, rfl⟩ := HUm.out y e hG; (try rw [HEv.out]); have hbx : Below w10.heap.size w10 (w10.alloc (.cells #[.int .i64 xk, .string t, .int .i64 xa, .int .i64 xb, .int .i64 xc, .int .i64 xd, .int .i64 xe, .int .i64 xf, .bool xq] TEv)) := (Below.refl _ _).alloc (Nat.le_refl _) _; have HT10 := hid ((HT9.out.later hb10).later hbx); have HB10 := hid ((HB9.out.trans (hb10.mono HB9.out.size)).trans (hbx.mono (by have h1 := HB9.out.size; have h2 := hb10.size; omega))); clear hG hb10 hbx)
          | (go_at_call 17; (with_reducible_and_instances (refine (HAb.out _ HT10.out HB10.out.size).mono ?_)); rintro r w11 ⟨rfl, h11, hb11⟩; have HT11 := hid h11; have HB11 := hid (HB10.out.trans hb11); clear h11 hb11))
        exact ⟨⟨i + 1, G1, by omega, by go_num, ⟨HT11.out.mono (by omega) (by omega), HB11.out⟩⟩, by simp [intOf]; omega⟩
    · obtain rfl : m = i := by omega
      have hnn : m * 102 ≤ 598134325510144 := by omega
      have HTo := hid HI.out.1
      have HBo := hid HI.out.2
      obtain ⟨gn, hgn⟩ : ∃ gn, G.gen = gn := ⟨_, rfl⟩
      have HGn : Hid (∀ W g n, GOf w.heap.size W g n G → Calls Tryz.prog 18 #[.pointer (some ⟨g, 0, none⟩)] W fun e w' => e = .returned (.int .i64 gn) ∧ w' = W) := hid (fun W g n hg => by have h := hg.genR; rw [hgn] at h; exact h)
      obtain ⟨p, hp⟩ : ∃ p, G.pend.length = p := ⟨_, rfl⟩
      have HPe : Hid (∀ W g n, GOf w.heap.size W g n G → n ≤ 598134325510144 → Calls Tryz.prog 21 #[.pointer (some ⟨g, 0, none⟩)] W fun e w' => (∃ a c, e = .returned (.slice a p c)) ∧ Below W.heap.size W w') := hid (fun W g n hg h5 => by have h := hg.pending h5; rw [hp] at h; exact h)
      obtain ⟨ks, hks⟩ : ∃ ks, G.ks = ks := ⟨_, rfl⟩
      obtain ⟨q, hq⟩ : ∃ q, ks.length = q := ⟨_, rfl⟩
      have HMe : Hid (∀ W g n, GOf w.heap.size W g n G → Calls Tryz.prog 20 #[.pointer (some ⟨g, 0, none⟩)] W fun e w' => ∃ a c, e = .returned (.slice a q c) ∧ ArgK kS w' ks a q c ∧ Below W.heap.size W w') := hid (fun W g n hg => by have h := hg.membersR; rw [hks, hq] at h; exact h)
      have HTx : Hid (∀ W a c a2 c2, ArgK kS W ks a q c → ArgK kS W ks a2 q c2 → Calls Tryz.prog 19 #[.slice a q c, .slice a2 q c2] W fun e w' => e = .returned (.bool true) ∧ Below W.heap.size W w') := hid (fun W a c a2 c2 h1 h2 => by have h := Texts_any h1 h2; rw [decide_eq_true rfl] at h; exact h)
      have HIn : Hid (∀ W (S : List Int) a n c a2 c2, ArgK kZ W S a n c → ArgK kZ W S a2 n c2 → Calls Tryz.prog 23 #[.slice a n c, .slice a2 n c2] W fun e w' => e = .returned (.bool true) ∧ Below W.heap.size W w') := hid (fun W S a n c a2 c2 h1 h2 => by have h := Ints_any h1 h2; rw [decide_eq_true rfl] at h; exact h)
      have HSn : Hid (∀ j, j < q → (ks.getD j []).length ≤ maxLen) := hid (fun j hj => by
        have hok : GOk (m * 102) G := by obtain ⟨F, h1, -⟩ := HTo.out.a; exact h1.2.1
        have hmem : ks.getD j [] ∈ G.ks := by
          rw [hks, List.getD_eq_getElem?_getD, List.getElem?_eq_getElem (by omega)]
          exact List.getElem_mem _
        have h := hok.name _ hmem
        unfold nameOk at h
        rw [Bool.and_eq_true, decide_eq_true_eq, decide_eq_true_eq] at h
        unfold maxLen
        omega)
      clear hgn hp HL HI
      have HA3 : Hid (∀ a c b off W, a = some ⟨b, off, none⟩ → ArgK kS W ks a q c → ∀ j, j < q → W.cell? ⟨b, off + j, none⟩ = some (.string (nmS (ks.getD j [])))) := hid (fun a c b off W e hA j hj => by
        obtain ⟨b2, off2, e2, -, hc⟩ := hA.cells (by omega)
        rw [e] at e2
        injection e2 with e3
        injection e3 with e4 e5
        subst e4 e5
        have h := hc j hj 0 (by decide)
        rw [Nat.mul_one, Nat.add_zero] at h
        exact h)
      go_upto_region 19 with (first
        | (go_at_call 18; (with_reducible_and_instances (refine (HGn.out wo ga _ HTo.out.a).mono ?_)); rintro r w98 ⟨rfl, hw98⟩; obtain rfl := hw98.symm)
        | (go_at_call 18; (with_reducible_and_instances (refine (HGn.out wo gb _ HTo.out.b).mono ?_)); rintro r w98 ⟨rfl, hw98⟩; obtain rfl := hw98.symm)
        | (go_at_call 20; (with_reducible_and_instances (refine (HMe.out wo ga _ HTo.out.a).mono ?_)); rintro r w4 ⟨a4, c4, rfl, hA4, hb4⟩; have HT4 := hid (HTo.out.later hb4); have HB4 := hid (HBo.out.trans (hb4.mono HBo.out.size)); have HA4 := hid hA4; clear hA4 hb4)
        | (go_at_call 20; (with_reducible_and_instances (refine (HMe.out w4 gb _ HT4.out.b).mono ?_)); rintro r w5 ⟨a5, c5, rfl, hA5, hb5⟩; have HT5 := hid (HT4.out.later hb5); have HB5 := hid (HB4.out.trans (hb5.mono HB4.out.size)); have HT45 := hid (HTx.out w5 a4 c4 a5 c5 (HA4.out.later hb5) hA5); clear hA5 hb5)
        | (go_at_call 19; (with_reducible_and_instances (refine HT45.out.mono ?_)); rintro r w6 ⟨rfl, hb6⟩; have HT6 := hid (HT5.out.later hb6); have HB6 := hid (HB5.out.trans (hb6.mono HB5.out.size)); clear hb6)
        | (go_at_call 21; (with_reducible_and_instances (refine (HPe.out w6 ga _ HT6.out.a hnn).mono ?_)); rintro r w7 ⟨⟨a7, c7, rfl⟩, hb7⟩; have HT7 := hid (HT6.out.later hb7); have HB7 := hid (HB6.out.trans (hb7.mono HB6.out.size)); clear hb7)
        | (go_at_call 21; (with_reducible_and_instances (refine (HPe.out w7 gb _ HT7.out.b hnn).mono ?_)); rintro r w8 ⟨⟨a8, c8, rfl⟩, hb8⟩; have HT8 := hid (HT7.out.later hb8); have HB8 := hid (HB7.out.trans (hb8.mono HB7.out.size)); clear hb8))
      go_wp2_with fail
      clear HT4 HT5 HT6 HT7 HB4 HB5 HB6 HB7 HA4 HT45 HTx HGn HPe HTo HBo
      go_loopw [15] (fun kv wr => ∃ k : Nat, k ≤ 5 ∧ kv = .int .i64 (k : Int) ∧ wr = w8) (fun kv _ => 5 - (intOf kv).toNat)
      case atStart => exact ⟨0, by omega, rfl, rfl⟩
      case round =>
        obtain ⟨k, hk, rfl, rfl⟩ := hrel
        by_cases hk5 : k < 5
        · obtain ⟨v, hv⟩ : ∃ v, (G.off (k : Int)).getD 0 = v := ⟨_, rfl⟩
          obtain ⟨y, hy⟩ : ∃ y, (G.off (k : Int)).isSome = y := ⟨_, rfl⟩
          have HOa : Hid (∀ g n, GOf w.heap.size wr g n G → Calls Tryz.prog 22 #[.pointer (some ⟨g, 0, none⟩), .int .i64 (k : Int)] wr fun e w' => e = .returned (.tuple #[.int .i64 v, .bool y]) ∧ w' = wr) := hid (fun g n hg => by have h := hg.offsetR k hk5; rw [hv, hy] at h; exact h)
          clear hv hy
          go_wp2_with (first
            | (go_at_call 22; (with_reducible_and_instances (refine (HOa.out ga _ HT8.out.a).mono ?_)); rintro r w97 ⟨rfl, hw97⟩; obtain rfl := hw97.symm)
            | (go_at_call 22; (with_reducible_and_instances (refine (HOa.out gb _ HT8.out.b).mono ?_)); rintro r w97 ⟨rfl, hw97⟩; obtain rfl := hw97.symm))
          exact ⟨⟨k + 1, by omega, by go_num, by trivial⟩, by simp [intOf]; omega⟩
        · obtain rfl : k = 5 := by omega
          have HMw := hid (HMe.out wr ga _ HT8.out.a)
          go_wp2_with (go_at_call 20; (with_reducible_and_instances (refine HMw.out.mono ?_)); rintro r w9 ⟨a9, c9, rfl, hA9, hb9⟩; have HT9 := hid (HT8.out.later hb9); have HB9 := hid (HB8.out.trans (hb9.mono HB8.out.size)); have HA9 := hid hA9; clear hA9 hb9)
          have hcp := HA9.out.cap
          have hrm := HA9.out.room
          have hqb : q ≤ 9223372036854775807 := by unfold maxLen at hrm; omega
          clear HMw HMe
          go_loopw [21] (fun kv wq => ∃ k : Nat, k ≤ q ∧ kv = .int .i64 (k : Int) ∧ Hid (Below w9.heap.size w9 wq)) (fun kv _ => q - (intOf kv).toNat)
          case atStart => exact ⟨0, by omega, rfl, hid (Below.refl _ _)⟩
          case round =>
            obtain ⟨k, hk, rfl, HQ⟩ := hrel
            by_cases hkq : k < q
            · obtain ⟨b2, o2, rfl, hs2, -⟩ := HA9.out.cells (by omega)
              obtain ⟨s, hs⟩ : ∃ s, ks.getD k [] = s := ⟨_, rfl⟩
              have hc2 := HA3.out _ _ b2 o2 w9 rfl HA9.out k hkq
              have hsn := HSn.out k hkq
              rw [hs] at hc2 hsn
              obtain ⟨sh, hsh⟩ : ∃ sh, G.share s = sh := ⟨_, rfl⟩
              obtain ⟨z, hz⟩ : ∃ z, sh.length = z := ⟨_, rfl⟩
              have HSh : Hid (∀ W g n, GOf w.heap.size W g n G → Calls Tryz.prog 24 #[.pointer (some ⟨g, 0, none⟩), .string (nmS s)] W fun e w' => ∃ a c, e = .returned (.slice a z c) ∧ ArgK kZ w' sh a z c ∧ Below W.heap.size W w') := hid (fun W g n hg => by have h := hg.shareR s hsn (m := z) (by rw [hsh]; exact hz); rw [hsh] at h; exact h)
              obtain ⟨t, ht⟩ : ∃ t, nmS s = t := ⟨_, rfl⟩
              rw [ht] at HSh hc2
              have HC2 : Hid (∀ W, Below w9.heap.size w9 W → W.cell? ⟨b2, o2 + k, none⟩ = some (.string t)) := hid (fun W hW => (hW.cell (p := ⟨b2, o2 + k, none⟩) hs2).trans hc2)
              have HShA : Hid (∀ W, Below w9.heap.size w9 W → Calls Tryz.prog 24 #[.pointer (some ⟨ga, 0, none⟩), .string t] W fun e w' => ∃ a c, e = .returned (.slice a z c) ∧ ArgK kZ w' sh a z c ∧ Below W.heap.size W w') := hid (fun W hW => HSh.out W ga _ (HT9.out.later hW).a)
              have HShB : Hid (∀ W, Below w9.heap.size w9 W → Calls Tryz.prog 24 #[.pointer (some ⟨gb, 0, none⟩), .string t] W fun e w' => ∃ a c, e = .returned (.slice a z c) ∧ ArgK kZ w' sh a z c ∧ Below W.heap.size W w') := hid (fun W hW => HSh.out W gb _ (HT9.out.later hW).b)
              have cw := HC2.out wr HQ.out
              have HQD := hid HQ.out.drew
              clear hs2 hc2 hs hsn hsh hz ht HSh
              go_wp2_with fail
              go_region_with (first
                | (go_at_call 24; (with_reducible_and_instances (refine (HShA.out wr.drew HQD.out).mono ?_)); rintro r wa ⟨awa, cwa, rfl, hAwa, hbwa⟩; have HBwa := hid (HQD.out.trans (hbwa.mono HQD.out.size)); have HAwa := hid hAwa; have cwa := HC2.out wa HBwa.out; clear hAwa hbwa)
                | (go_at_call 24; (with_reducible_and_instances (refine (HShB.out wa HBwa.out).mono ?_)); rintro r wab ⟨awab, cwab, rfl, hAwab, hbwab⟩; have HBwab := hid (HBwa.out.trans (hbwab.mono HBwa.out.size)); have HAwab := hid hAwab; have HIx := hid (HIn.out wab sh _ z _ _ _ (HAwa.out.later hbwab) hAwab); have HBx := hid HBwab.out; clear hAwab hbwab)
                | (go_at_call 24; (with_reducible_and_instances (refine (HShB.out wr.drew HQD.out).mono ?_)); rintro r wb ⟨awb, cwb, rfl, hAwb, hbwb⟩; have HBwb := hid (HQD.out.trans (hbwb.mono HQD.out.size)); have HAwb := hid hAwb; have cwb := HC2.out wb HBwb.out; clear hAwb hbwb)
                | (go_at_call 24; (with_reducible_and_instances (refine (HShA.out wb HBwb.out).mono ?_)); rintro r wba ⟨awba, cwba, rfl, hAwba, hbwba⟩; have HBwba := hid (HBwb.out.trans (hbwba.mono HBwb.out.size)); have HAwba := hid hAwba; have HIx := hid (HIn.out wba sh _ z _ _ _ hAwba (HAwb.out.later hbwba)); have HBx := hid HBwba.out; clear hAwba hbwba)
                | (go_at_call 23; (with_reducible_and_instances (refine HIx.out.mono ?_)); rintro r wf ⟨rfl, hbf⟩; have HFin := hid (HBx.out.trans (hbf.mono HBx.out.size)); clear hbf))
              all_goals go_wp2_with fail
              all_goals exact ⟨⟨k + 1, by omega, by go_num, HFin⟩, by simp [intOf]; omega⟩
            · obtain rfl : k = q := by omega
              go_wp2_with fail
              go_ret
              exact ⟨rfl, HB9.out.trans (HQ.out.mono HB9.out.size)⟩
end Go.Proofs.YtiiepmljcjbflaaGreat
