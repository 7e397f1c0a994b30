/- The walk of TxnReplayed (P1609; by gentrep16.py, regs.py). -/
import Derived.Test.YteogogmmnijagaaTRepM
namespace Go.Proofs.Yteogogmmnijagaa
open Go.RowKit
variable {w w' : World}

theorem neq_wide16 {ops : Array Oper} {rest : List Oper} {o : Oper} {a : Act} {Q : Exit → Act → World → Prop} (hgd : o.guard = none) (B : Bk) (L : List Value) (hL : stL B = L) (p q : Operand) (ho : o.op = .binOp .neq TSs p q TSs) (h1 : a.eval p = .agg L.toArray) (h2 : a.eval q = .agg L.toArray)
    (h : wpList Try.prog ops Q rest (a.put o.dst (.bool false)) w) : wpList Try.prog ops Q (o :: rest) a w := by
  refine wpList_plain hgd fun K hK => ?_
  have e := exec_neq_wide (w := w) B L hL p q ho h1 h2
  unfold Oper.wp
  simp only [e]
  exact hK _ _ h
set_option maxRecDepth 100000 in
set_option maxHeartbeats 16000000 in
theorem replayed_walk {l : List Ev} {a : Option Addr} {m c : Nat} (h : ArgK kER w l a m c) (hm : m * 72 ≤ 140737488351232) : Calls Try.prog 3 #[.slice a m c] w fun r w' => r = .returned (.bool true) ∧ Below w.heap.size w w' := by
  have HN := hid (fun W => New_any W)
  have HL := hid h
  clear h
  go_enter Try.func3, Try.ntmps3
  go_wp2_with (first
    | (go_at_call 4; (with_reducible_and_instances (refine (HN.out w).mono ?_)); rintro r w1 ⟨ga, rfl, h1, hb1⟩; have HA1 := hid h1; have HB1 := hid hb1; clear h1 hb1)
    | (go_at_call 4; (with_reducible_and_instances (refine (HN.out w1).mono ?_)); rintro r w2 ⟨gb, rfl, h2, hb2⟩; have HT2 : Hid (Two w.heap.size w2 ga gb bk0 bk0) := hid (Two.new HA1.out hb2 h2 HB1.out.size); have HB2 := hid (HB1.out.trans (hb2.mono HB1.out.size)); clear h2 hb2)
    | (go_at_call 5; (with_reducible_and_instances (refine (knows16 w2).mono ?_)); rintro r w3 ⟨rfl, hb3⟩; have HI0 : Hid (Two w.heap.size w3 ga gb bk0 bk0 ∧ Below w.heap.size w w3) := ⟨HT2.out.later hb3, HB2.out.trans (hb3.mono HB2.out.size)⟩; clear hb3))
  go_loopw [5] (fun iv wr => ∃ (i : Nat) (B : Bk), i ≤ m ∧ iv = .int .i64 (i : Int) ∧ Hid (Two w.heap.size wr ga gb B B ∧ Below w.heap.size w wr)) (fun iv _ => m - (intOf iv).toNat)
  case atStart => exact ⟨0, bk0, by omega, rfl, HI0⟩
  case round =>
    obtain ⟨i, B, hi, rfl, HI⟩ := hrel
    obtain ⟨wo, rfl⟩ : ∃ q, q = wr := ⟨wr, rfl⟩
    clear HN HA1 HB1 HT2 HB2 HI0
    by_cases hlt : i < m
    · obtain ⟨b1, o1, rfl, hs0, hc0⟩ := HL.out.cells (by omega)
      obtain ⟨x, hx⟩ : ∃ x, l.getD i ev0 = x := ⟨_, rfl⟩
      have HPu := hid (fun W => putT_any x W)
      have HUn : Hid (x.may → ∀ y e, GotT (tellE x) y e → y = x ∧ e = 0) := hid (fun hm y e hg => hg.uniq (Or.inl ⟨rfl, hm, rfl⟩))
      have hpl : x.may → (tellE x).length ≤ 1000 := fun hm => by
        have hn := (may_fit hm).name
        unfold tellE
        rw [frameBs_length, bodyT_len]
        omega
      obtain ⟨xk, xs, xa, xb, xc, xd, xe, xq⟩ := x
      obtain ⟨t, ht⟩ : ∃ t, nmS xs = t := ⟨_, rfl⟩
      have hcap := HL.out.cap
      have HXc : Hid (∀ W, Below w.heap.size w W → W.cell? ⟨b1, o1 + i * 8, none⟩ = some (Value.int .i64 xk) ∧ W.cell? ⟨b1, o1 + i * 8 + 1, none⟩ = some (Value.string t) ∧ W.cell? ⟨b1, o1 + i * 8 + 2, none⟩ = some (Value.int .i64 xa) ∧ W.cell? ⟨b1, o1 + i * 8 + 3, none⟩ = some (Value.int .i64 xb) ∧ W.cell? ⟨b1, o1 + i * 8 + 4, none⟩ = some (Value.int .i64 xc) ∧ W.cell? ⟨b1, o1 + i * 8 + 5, none⟩ = some (Value.int .i64 xd) ∧ W.cell? ⟨b1, o1 + i * 8 + 6, none⟩ = some (Value.int .i64 xe) ∧ W.cell? ⟨b1, o1 + i * 8 + 7, none⟩ = some (Value.bool xq)) := fun W hW => by
        have h9 : ∀ k, k < 8 → W.cell? ⟨b1, o1 + i * 8 + k, none⟩ = (evA ⟨xk, xs, xa, xb, xc, xd, xe, xq⟩).toList[k]? := fun k hk => by
          have h := hc0 i hlt k hk
          rw [show l.getD i kER.z = l.getD i ev0 from rfl, hx] at h
          exact (hW.cell (p := ⟨b1, o1 + i * 8 + k, none⟩) hs0).trans h
        rw [← ht]
        exact ⟨h9 0 (by decide), h9 1 (by decide), h9 2 (by decide), h9 3 (by decide), h9 4 (by decide), h9 5 (by decide), h9 6 (by decide), h9 7 (by decide)⟩
      have HOw : Hid (∀ W, Calls Try.prog 7 #[.agg #[.int .i64 xk, .string t, .int .i64 xa, .int .i64 xb, .int .i64 xc, .int .i64 xd, .int .i64 xe, .bool xq]] W fun r w' => r = .returned (.agg #[.int .i64 xk, .string t, .int .i64 xa, .int .i64 xb, .int .i64 xc, .int .i64 xd, .int .i64 xe, .bool xq]) ∧ Below W.heap.size W w') := fun W => by
        have h := own16_any ⟨xk, xs, xa, xb, xc, xd, xe, xq⟩ W
        rw [← ht]
        exact h
      obtain ⟨dn, de, hd⟩ : ∃ dn de, B.dec ⟨xk, xs, xa, xb, xc, xd, xe, xq⟩ = (dn, de) := ⟨_, _, rfl⟩
      obtain ⟨B1, hB1⟩ : ∃ B1, B.app ⟨xk, xs, xa, xb, xc, xd, xe, xq⟩ = B1 := ⟨_, rfl⟩
      have HDe : Hid (∀ W, Two w.heap.size W ga gb B B → Calls Try.prog 6 #[.pointer (some ⟨ga, 0, none⟩), .agg #[.int .i64 xk, .string t, .int .i64 xa, .int .i64 xb, .int .i64 xc, .int .i64 xd, .int .i64 xe, .bool xq]] W fun e w' => e = .returned (.tuple #[.bool dn, .int .i64 de]) ∧ Below W.heap.size W w') := fun W hT => by
        have h := hT.a.decide ⟨xk, xs, xa, xb, xc, xd, xe, xq⟩
        rw [hd] at h
        rw [← ht]
        exact h
      have HAp : Hid (∀ W, Two w.heap.size W ga gb B B → w.heap.size ≤ W.heap.size → Calls Try.prog 8 #[.pointer (some ⟨ga, 0, none⟩), .agg #[.int .i64 xk, .string t, .int .i64 xa, .int .i64 xb, .int .i64 xc, .int .i64 xd, .int .i64 xe, .bool xq]] W fun e w' => e = .returned (.int .i64 de) ∧ Two w.heap.size w' ga gb B1 B ∧ Below w.heap.size W w') := fun W hT hN => by
        have h := hT.applyA hN ⟨xk, xs, xa, xb, xc, xd, xe, xq⟩
        rw [hd, hB1] at h
        rw [← ht]
        exact h
      have HAb : Hid (∀ W, Two w.heap.size W ga gb B1 B → w.heap.size ≤ W.heap.size → Calls Try.prog 8 #[.pointer (some ⟨gb, 0, none⟩), .agg #[.int .i64 xk, .string t, .int .i64 xa, .int .i64 xb, .int .i64 xc, .int .i64 xd, .int .i64 xe, .bool xq]] W fun e w' => e = .returned (.int .i64 de) ∧ Two w.heap.size w' ga gb B1 B1 ∧ Below w.heap.size W w') := fun W hT hN => by
        have h := hT.applyB hN ⟨xk, xs, xa, xb, xc, xd, xe, xq⟩
        rw [hd, hB1] at h
        rw [← ht]
        exact h
      have HNo : Hid ((dn, de) ≠ (false, 0) → B1 = B) := hid (fun hne => by rw [← hB1]; exact app_no (by rw [hd]; exact hne))
      have HMy : Hid ((dn, de) = (false, 0) → Ev.may ⟨xk, xs, xa, xb, xc, xd, xe, xq⟩) := hid (fun he => dec_mayT (hd.trans he))
      obtain ⟨r0, r1, r2, r3, r4, r5, r6, r7⟩ := HXc.out wo HI.out.2
      have HEv : Hid (evA ⟨xk, xs, xa, xb, xc, xd, xe, xq⟩ = #[.int .i64 xk, .string t, .int .i64 xa, .int .i64 xb, .int .i64 xc, .int .i64 xd, .int .i64 xe, .bool xq]) := hid (by rw [← ht])
      clear hc0 hx hs0 ht hd hB1
      by_cases he : de = 0
      case neg =>
        have heb : (de == 0) = false := by simpa using he
        obtain rfl : B1 = B := HNo.out (fun h => he (congrArg Prod.snd h))
        clear HNo HMy HUn hpl HPu HAb
        go_wp2_with (first
        | (go_at_call 7; (with_reducible_and_instances (refine (HOw.out wo).mono ?_)); rintro r w4 ⟨rfl, hb4⟩; have HT4 := hid (HI.out.1.later hb4); have HB4 := hid (HI.out.2.trans (hb4.mono HI.out.2.size)); clear hb4)
        | (go_at_call 6; (with_reducible_and_instances (refine (HDe.out w4 HT4.out).mono ?_)); rintro r w5 ⟨rfl, hb5⟩; have HT5 := hid (HT4.out.later hb5); have HB5 := hid (HB4.out.trans (hb5.mono HB4.out.size)); clear r0 r1 r2 r3 r4 r5 r6 r7; obtain ⟨r0, r1, r2, r3, r4, r5, r6, r7⟩ := HXc.out w5 HB5.out; clear hb5)
        | (go_at_call 7; (with_reducible_and_instances (refine (HOw.out w5).mono ?_)); rintro r w6 ⟨rfl, hb6⟩; have HT6 := hid (HT5.out.later hb6); have HB6 := hid (HB5.out.trans (hb6.mono HB5.out.size)); clear hb6)
        | (go_at_call 8; (with_reducible_and_instances (refine (HAp.out w6 HT6.out HB6.out.size).mono ?_)); rintro r w7 ⟨rfl, h7, hb7⟩; have HT7 := hid h7; have HB7 := hid (HB6.out.trans hb7); clear r0 r1 r2 r3 r4 r5 r6 r7; obtain ⟨r0, r1, r2, r3, r4, r5, r6, r7⟩ := HXc.out w7 HB7.out; clear h7 hb7)
        | (go_at_call 9; (with_reducible_and_instances (refine (num16_any _ _).mono ?_)); rintro r w99 ⟨rfl, hw99⟩; obtain rfl := hw99.symm))
        exact ⟨⟨i + 1, B1, by omega, by go_num, ⟨HT7.out, HB7.out⟩⟩, by simp [intOf]; omega⟩
      subst he
      cases dn with
      | true =>
        obtain rfl : B1 = B := HNo.out (fun h => absurd (congrArg Prod.fst h) (by simp))
        clear HNo HMy HUn hpl HPu HAb
        go_wp2_with (first
        | (go_at_call 7; (with_reducible_and_instances (refine (HOw.out wo).mono ?_)); rintro r w4 ⟨rfl, hb4⟩; have HT4 := hid (HI.out.1.later hb4); have HB4 := hid (HI.out.2.trans (hb4.mono HI.out.2.size)); clear hb4)
        | (go_at_call 6; (with_reducible_and_instances (refine (HDe.out w4 HT4.out).mono ?_)); rintro r w5 ⟨rfl, hb5⟩; have HT5 := hid (HT4.out.later hb5); have HB5 := hid (HB4.out.trans (hb5.mono HB4.out.size)); clear r0 r1 r2 r3 r4 r5 r6 r7; obtain ⟨r0, r1, r2, r3, r4, r5, r6, r7⟩ := HXc.out w5 HB5.out; clear hb5)
        | (go_at_call 7; (with_reducible_and_instances (refine (HOw.out w5).mono ?_)); rintro r w6 ⟨rfl, hb6⟩; have HT6 := hid (HT5.out.later hb6); have HB6 := hid (HB5.out.trans (hb6.mono HB5.out.size)); clear hb6)
        | (go_at_call 8; (with_reducible_and_instances (refine (HAp.out w6 HT6.out HB6.out.size).mono ?_)); rintro r w7 ⟨rfl, h7, hb7⟩; have HT7 := hid h7; have HB7 := hid (HB6.out.trans hb7); clear r0 r1 r2 r3 r4 r5 r6 r7; obtain ⟨r0, r1, r2, r3, r4, r5, r6, r7⟩ := HXc.out w7 HB7.out; clear h7 hb7)
        | (go_at_call 9; (with_reducible_and_instances (refine (num16_any _ _).mono ?_)); rintro r w99 ⟨rfl, hw99⟩; obtain rfl := hw99.symm))
        exact ⟨⟨i + 1, B1, by omega, by go_num, ⟨HT7.out, HB7.out⟩⟩, by simp [intOf]; omega⟩
      | false =>
        have hmay := HMy.out rfl
        obtain ⟨R, hR⟩ : ∃ R, tellE ⟨xk, xs, xa, xb, xc, xd, xe, xq⟩ = R := ⟨_, rfl⟩
        have hpl := hpl hmay
        rw [hR] at hpl
        have HPv : Hid (∀ W, Calls Try.prog 10 #[.agg #[.int .i64 xk, .string t, .int .i64 xa, .int .i64 xb, .int .i64 xc, .int .i64 xd, .int .i64 xe, .bool xq]] W fun r w' => (∃ v, r = .returned (.tuple #[v, .int .i64 0]) ∧ Own w' W.heap.size v R) ∧ Below W.heap.size W w') := hid (fun W => by
          have h := HPu.out W
          rw [if_pos hmay, if_pos hmay, hR, HEv.out] at h
          exact h)
        have HUm : Hid (∀ y e, GotT R y e → y = ⟨xk, xs, xa, xb, xc, xd, xe, xq⟩ ∧ e = 0) := hid (fun y e hg => HUn.out hmay y e (by rw [hR]; exact hg))
        obtain ⟨n, hn⟩ : ∃ n, R.length = n := ⟨_, rfl⟩
        rw [hn] at hpl
        have HRn := hid hn
        clear HNo HMy HUn HPu hmay hR hn
        go_wp2_with (first
        | (go_at_call 7; (with_reducible_and_instances (refine (HOw.out wo).mono ?_)); rintro r w4 ⟨rfl, hb4⟩; have HT4 := hid (HI.out.1.later hb4); have HB4 := hid (HI.out.2.trans (hb4.mono HI.out.2.size)); clear hb4)
        | (go_at_call 6; (with_reducible_and_instances (refine (HDe.out w4 HT4.out).mono ?_)); rintro r w5 ⟨rfl, hb5⟩; have HT5 := hid (HT4.out.later hb5); have HB5 := hid (HB4.out.trans (hb5.mono HB4.out.size)); clear r0 r1 r2 r3 r4 r5 r6 r7; obtain ⟨r0, r1, r2, r3, r4, r5, r6, r7⟩ := HXc.out w5 HB5.out; clear hb5)
        | (go_at_call 7; (with_reducible_and_instances (refine (HOw.out w5).mono ?_)); rintro r w6 ⟨rfl, hb6⟩; have HT6 := hid (HT5.out.later hb6); have HB6 := hid (HB5.out.trans (hb6.mono HB5.out.size)); clear hb6)
        | (go_at_call 8; (with_reducible_and_instances (refine (HAp.out w6 HT6.out HB6.out.size).mono ?_)); rintro r w7 ⟨rfl, h7, hb7⟩; have HT7 := hid h7; have HB7 := hid (HB6.out.trans hb7); clear r0 r1 r2 r3 r4 r5 r6 r7; obtain ⟨r0, r1, r2, r3, r4, r5, r6, r7⟩ := HXc.out w7 HB7.out; clear h7 hb7)
        | (go_at_call 9; (with_reducible_and_instances (refine (num16_any _ _).mono ?_)); rintro r w99 ⟨rfl, hw99⟩; obtain rfl := hw99.symm)
        | (go_at_call 7; (with_reducible_and_instances (refine (HOw.out w7).mono ?_)); rintro r w8 ⟨rfl, hb8⟩; have HT8 := hid (HT7.out.later hb8); have HB8 := hid (HB7.out.trans (hb8.mono HB7.out.size)); clear hb8)
        | (go_at_call 10; (with_reducible_and_instances (refine (HPv.out w8).mono ?_)); rintro r w9 ⟨⟨v9, rfl, ho9⟩, hb9⟩; obtain ⟨a9, c9, hv9, hq9, hc9, -⟩ := ho9.slice n HRn.out; subst hv9; have HGt := hid (getT_any a9 n c9 R w9 hq9 hc9 (by omega)); have HT9 := hid (HT8.out.later hb9); have HB9 := hid (HB8.out.trans (hb9.mono HB8.out.size)); clear ho9 hb9 hq9)
        | (go_at_call 11; (with_reducible_and_instances (refine HGt.out.mono ?_)); rintro r w10 ⟨y, e, rfl, hG, hb10⟩; obtain ⟨rfl, rfl⟩ := HUm.out y e hG; (try rw [HEv.out]); have hbx : Below w10.heap.size w10 (w10.alloc (.cells #[.int .i64 xk, .string t, .int .i64 xa, .int .i64 xb, .int .i64 xc, .int .i64 xd, .int .i64 xe, .bool xq] TEv)) := (Below.refl _ _).alloc (Nat.le_refl _) _; have HT10 := hid ((HT9.out.later hb10).later hbx); have HB10 := hid ((HB9.out.trans (hb10.mono HB9.out.size)).trans (hbx.mono (by have h1 := HB9.out.size; have h2 := hb10.size; omega))); clear hG hb10 hbx)
        | (go_at_call 8; (with_reducible_and_instances (refine (HAb.out _ HT10.out HB10.out.size).mono ?_)); rintro r w11 ⟨rfl, h11, hb11⟩; have HT11 := hid h11; have HB11 := hid (HB10.out.trans hb11); clear h11 hb11))
        exact ⟨⟨i + 1, B1, by omega, by go_num, ⟨HT11.out, HB11.out⟩⟩, by simp [intOf]; omega⟩
    · obtain rfl : m = i := by omega
      obtain ⟨L0, hL0⟩ : ∃ L, StsAt B L := ⟨_, ⟨rfl⟩⟩
      have HS0 := hid hL0
      obtain ⟨T, hT⟩ : ∃ T, B.todo = T := ⟨_, rfl⟩
      obtain ⟨n, hn⟩ : ∃ n, T.length = n := ⟨_, rfl⟩
      have HTo : Hid (∀ W g, BOf w.heap.size W g B → Calls Try.prog 12 #[.pointer (some ⟨g, 0, none⟩)] W fun e w' => ∃ a c, e = .returned (.slice a n c) ∧ ArgK kTd w' T a n c ∧ Below W.heap.size W w') := hid (fun W g hb => by
        refine hb.todo.mono ?_
        rintro e w' ⟨u, rfl, ho, hbl⟩
        rw [hT] at ho
        obtain ⟨a, c, hv, hA⟩ := ho.form kTd_ok.tofit
        rw [hn] at hv hA
        subst hv
        exact ⟨a, c, rfl, hA, hbl⟩)
      clear hL0 hT hn HL
      go_wp2_with (first
        | (go_at_call 12; (with_reducible_and_instances (refine (HTo.out wo ga HI.out.1.a).mono ?_)); rintro r w4 ⟨a4, c4, rfl, hA4, hb4⟩; have HA4 := hid hA4; have HT4 := hid (HI.out.1.later hb4); have HB4 := hid (HI.out.2.trans (hb4.mono HI.out.2.size)); clear hA4 hb4)
        | (go_at_call 12; (with_reducible_and_instances (refine (HTo.out w4 gb HT4.out.b).mono ?_)); rintro r w5 ⟨a5, c5, rfl, hA5, hb5⟩; have HA5 := hid hA5; have HA45 := hid (HA4.out.later hb5); have HT5 := hid (HT4.out.later hb5); have HB5 := hid (HB4.out.trans (hb5.mono HB4.out.size)); clear hA5 hb5)
        | (go_at_call 13; (with_reducible_and_instances (refine (HS0.out.call HT5.out.a).mono ?_)); rintro r w6 ⟨rfl, hb6⟩; have HT6 := hid (HT5.out.later hb6); have HB56 := hid hb6; clear hb6)
        | (go_at_call 13; (with_reducible_and_instances (refine (HS0.out.call HT6.out.b).mono ?_)); rintro r w7 ⟨rfl, hb7⟩; have HB57 := hid (HB56.out.trans (hb7.mono HB56.out.size)); clear hb7)
        | (refine neq_wide16 rfl B L0 HS0.out.eq (.tmp 92) (.tmp 94) rfl rfl rfl ?_))
      have HB7 := hid (HB5.out.trans (HB57.out.mono HB5.out.size))
      have HA47 := hid (HA45.out.later HB57.out)
      have HA57 := hid (HA5.out.later HB57.out)
      have hnb : n ≤ 9223372036854775807 := by have h1 := HA57.out.cap; have h2 := HA57.out.room; unfold maxLen at h2; omega
      have hcp4 := HA47.out.cap
      have hcp5 := HA57.out.cap
      clear HTo HS0 HA4 HA5 HA45 HT4 HT5 HT6 HB4 HB5 HB56 HB57 HI
      go_loopw [15] (fun kv wr => ∃ (k nq : Nat), k ≤ n ∧ kv = .int .i64 (k : Int) ∧ wr = w7.drewN nq) (fun kv _ => n - (intOf kv).toNat)
      case atStart => exact ⟨0, 0, by omega, rfl, rfl⟩
      case round =>
        obtain ⟨k, n0, hk, rfl, hwr⟩ := hrel
        have HWr := hid hwr
        have HBr : Hid (Below w7.heap.size w7 wr) := hid (by rw [hwr]; exact below_drewN' (Below.refl _ _) n0)
        clear hwr
        by_cases hkn : k < n
        · obtain ⟨bx, ox, rfl, hsx, hcx⟩ := HA47.out.cells (by omega)
          obtain ⟨by_, oy, rfl, hsy, hcy⟩ := HA57.out.cells (by omega)
          obtain ⟨td, htd⟩ : ∃ td, T.getD k ⟨0, 0, 0, false⟩ = td := ⟨_, rfl⟩
          obtain ⟨tp, te, tl, ty⟩ := td
          have hrx : ∀ q, q < 4 → ∀ W, Below w7.heap.size w7 W → W.cell? ⟨bx, ox + k * 4 + q, none⟩ = ([.int .i64 tp, .int .i64 te, .int .i64 tl, .bool ty] : List Value)[q]? := fun q hq W hW => by
            have h := hcx k hkn q hq
            rw [show T.getD k kTd.z = T.getD k ⟨0, 0, 0, false⟩ from rfl, htd] at h
            exact (hW.cell (p := ⟨bx, ox + k * 4 + q, none⟩) hsx).trans h
          have hry : ∀ q, q < 4 → ∀ W, Below w7.heap.size w7 W → W.cell? ⟨by_, oy + k * 4 + q, none⟩ = ([.int .i64 tp, .int .i64 te, .int .i64 tl, .bool ty] : List Value)[q]? := fun q hq W hW => by
            have h := hcy k hkn q hq
            rw [show T.getD k kTd.z = T.getD k ⟨0, 0, 0, false⟩ from rfl, htd] at h
            exact (hW.cell (p := ⟨by_, oy + k * 4 + q, none⟩) hsy).trans h
          have HSS : Hid (∀ W, Below w7.heap.size w7 W → (W.cell? ⟨bx, ox + k * 4, none⟩ = some (.int .i64 tp) ∧ W.cell? ⟨bx, ox + k * 4 + 1, none⟩ = some (.int .i64 te) ∧ W.cell? ⟨bx, ox + k * 4 + 2, none⟩ = some (.int .i64 tl) ∧ W.cell? ⟨bx, ox + k * 4 + 3, none⟩ = some (.bool ty)) ∧ (W.cell? ⟨by_, oy + k * 4, none⟩ = some (.int .i64 tp) ∧ W.cell? ⟨by_, oy + k * 4 + 1, none⟩ = some (.int .i64 te) ∧ W.cell? ⟨by_, oy + k * 4 + 2, none⟩ = some (.int .i64 tl) ∧ W.cell? ⟨by_, oy + k * 4 + 3, none⟩ = some (.bool ty))) := hid (fun W hW => ⟨⟨hrx 0 (by decide) W hW, hrx 1 (by decide) W hW, hrx 2 (by decide) W hW, hrx 3 (by decide) W hW⟩, ⟨hry 0 (by decide) W hW, hry 1 (by decide) W hW, hry 2 (by decide) W hW, hry 3 (by decide) W hW⟩⟩)
          clear hcx hcy hrx hry htd hsx hsy
          go_wp2_with fail
          refine wp_region_held_drew (S := fun W => (W.cell? ⟨bx, ox + k * 4, none⟩ = some (.int .i64 tp) ∧ W.cell? ⟨bx, ox + k * 4 + 1, none⟩ = some (.int .i64 te) ∧ W.cell? ⟨bx, ox + k * 4 + 2, none⟩ = some (.int .i64 tl) ∧ W.cell? ⟨bx, ox + k * 4 + 3, none⟩ = some (.bool ty)) ∧ (W.cell? ⟨by_, oy + k * 4, none⟩ = some (.int .i64 tp) ∧ W.cell? ⟨by_, oy + k * 4 + 1, none⟩ = some (.int .i64 te) ∧ W.cell? ⟨by_, oy + k * 4 + 2, none⟩ = some (.int .i64 tl) ∧ W.cell? ⟨by_, oy + k * 4 + 3, none⟩ = some (.bool ty))) (by kernel_rfl) (HSS.out _ HBr.out.drew) (fun hHeld => ?_)
          refine wpAnyH_take (i := 0) (oi := { dst := some 109, op := Op.move (Operand.tmp 13), type := 40, pos := "law.go:272", after := #[], guard := none }) (v := ?_) rfl (by kernel_rfl) (by kernel_rfl) (by kernel_rfl) (fun _ _ _ h => h) (Or.inl ⟨by rfl, ?_⟩) hHeld ?_
          rotate_left
          · intro w hSw; (try dsimp only at hSw); go_simp; try with_reducible rfl
          try simp only [Act.put, List.setIfInBounds_toArray, List.set_cons_zero, List.set_cons_succ]
          refine wpAnyH_take (i := 1) (oi := { dst := some 110, op := Op.move (Operand.tmp 15), type := 3, pos := "law.go:272", after := #[], guard := none }) (v := ?_) rfl (by kernel_rfl) (by kernel_rfl) (by kernel_rfl) (fun _ _ _ h => h) (Or.inl ⟨by rfl, ?_⟩) hHeld ?_
          rotate_left
          · intro w hSw; (try dsimp only at hSw); go_simp; try with_reducible rfl
          try simp only [Act.put, List.setIfInBounds_toArray, List.set_cons_zero, List.set_cons_succ]
          refine wpAnyH_take (i := 2) (oi := { dst := some 111, op := Op.indexAddr 40 (Operand.tmp 109) (Operand.tmp 110), type := 0, pos := "law.go:272", after := #[{ on := 0, ground := Ground.data }, { on := 1, ground := Ground.data }], guard := none }) (v := ?_) rfl (by kernel_rfl) (by kernel_rfl) (by kernel_rfl) (fun _ _ _ h => h) (Or.inl ⟨by rfl, ?_⟩) hHeld ?_
          rotate_left
          · intro w hSw; (try dsimp only at hSw); go_simp; try with_reducible rfl
          try simp only [Act.put, List.setIfInBounds_toArray, List.set_cons_zero, List.set_cons_succ]
          refine wpAnyH_take (i := 3) (oi := { dst := some 112, op := Op.load 47 (Operand.tmp 111), type := 47, pos := "law.go:272", after := #[{ on := 2, ground := Ground.data }], guard := none }) (v := ?_) rfl (by kernel_rfl) (by kernel_rfl) (by kernel_rfl) (fun _ _ _ h => h) (Or.inl ⟨by rfl, ?_⟩) hHeld ?_
          rotate_left
          · intro w hSw; (try dsimp only at hSw); go_simp; try with_reducible rfl
          try simp only [Act.put, List.setIfInBounds_toArray, List.set_cons_zero, List.set_cons_succ]
          refine wpAnyH_take (i := 4) (oi := { dst := some 113, op := Op.move (Operand.tmp 14), type := 40, pos := "law.go:272", after := #[], guard := none }) (v := ?_) rfl (by kernel_rfl) (by kernel_rfl) (by kernel_rfl) (fun _ _ _ h => h) (Or.inl ⟨by rfl, ?_⟩) hHeld ?_
          rotate_left
          · intro w hSw; (try dsimp only at hSw); go_simp; try with_reducible rfl
          try simp only [Act.put, List.setIfInBounds_toArray, List.set_cons_zero, List.set_cons_succ]
          refine wpAnyH_take (i := 5) (oi := { dst := some 114, op := Op.move (Operand.tmp 15), type := 3, pos := "law.go:272", after := #[], guard := none }) (v := ?_) rfl (by kernel_rfl) (by kernel_rfl) (by kernel_rfl) (fun _ _ _ h => h) (Or.inl ⟨by rfl, ?_⟩) hHeld ?_
          rotate_left
          · intro w hSw; (try dsimp only at hSw); go_simp; try with_reducible rfl
          try simp only [Act.put, List.setIfInBounds_toArray, List.set_cons_zero, List.set_cons_succ]
          refine wpAnyH_take (i := 6) (oi := { dst := some 115, op := Op.indexAddr 40 (Operand.tmp 113) (Operand.tmp 114), type := 0, pos := "law.go:272", after := #[{ on := 4, ground := Ground.data }, { on := 5, ground := Ground.data }], guard := none }) (v := ?_) rfl (by kernel_rfl) (by kernel_rfl) (by kernel_rfl) (fun _ _ _ h => h) (Or.inl ⟨by rfl, ?_⟩) hHeld ?_
          rotate_left
          · intro w hSw; (try dsimp only at hSw); go_simp; try with_reducible rfl
          try simp only [Act.put, List.setIfInBounds_toArray, List.set_cons_zero, List.set_cons_succ]
          refine wpAnyH_take (i := 7) (oi := { dst := some 116, op := Op.load 47 (Operand.tmp 115), type := 47, pos := "law.go:272", after := #[{ on := 6, ground := Ground.data }], guard := none }) (v := ?_) rfl (by kernel_rfl) (by kernel_rfl) (by kernel_rfl) (fun _ _ _ h => h) (Or.inl ⟨by rfl, ?_⟩) hHeld ?_
          rotate_left
          · intro w hSw; (try dsimp only at hSw); go_simp; try with_reducible rfl
          try simp only [Act.put, List.setIfInBounds_toArray, List.set_cons_zero, List.set_cons_succ]
          refine wpAnyH_take (i := 8) (oi := { dst := some 117, op := Op.binOp BinOp.neq 47 (Operand.tmp 112) (Operand.tmp 116) 47, type := 4, pos := "law.go:272", after := #[{ on := 3, ground := Ground.data }, { on := 7, ground := Ground.data }], guard := none }) (v := .bool false) rfl (by kernel_rfl) (by kernel_rfl) (by kernel_rfl) (fun _ _ _ h => h) (Or.inl ⟨by rfl, ?_⟩) hHeld ?_
          · intro w hSw; exact exec_td (.tmp 112) (.tmp 116) (by rfl) (by rfl) (by rfl)
          try simp only [Act.put, List.setIfInBounds_toArray, List.set_cons_zero, List.set_cons_succ]
          refine wpAnyH_done (by kernel_rfl) ?_ _
          clear hHeld
          go_wp2_with fail
          exact ⟨⟨k + 1, n0 + 1, by omega, by go_num, by rw [HWr.out]; rfl⟩, by simp [intOf]; omega⟩
        · obtain rfl : n = k := by omega
          go_wp2_with fail
          go_ret
          exact ⟨rfl, HB7.out.trans (HBr.out.mono HB7.out.size)⟩
end Go.Proofs.Yteogogmmnijagaa
