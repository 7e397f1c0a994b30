/- tell and PutEvent of package group: the bytes of an event (P1502; by gentell15.py). -/
import Derived.Test.YtiiepmljcjbflaaGreatGTellM
import Derived.Test.YtiiepmljcjbflaaGreatPGXJoin
import Derived.Test.YtiiepmljcjbflaaGreatGIns
import Derived.Test.YtiiepmljcjbflaaGreatPGXT
namespace Go.Proofs.YtiiepmljcjbflaaGreat
open Go.RowKit Crcm
variable {w w' : World}

theorem spellT_any (n size : Nat) (h1 : 1 ≤ size) (h6 : size ≤ 6) (h : n < 2 ^ (8 * size)) (w : World) : Calls Tryz.prog 54 #[.int .i64 (n : Int), .int .i64 (size : Int)] w fun e w' => ∃ v, e = .returned v ∧ Own w' w.heap.size v (spellN n size) ∧ Below w.heap.size w w' := by
  have HP := hid (put_any (n : Int) (size : Int) w)
  rw [putN_ok n size h1 h6 h] at HP
  dsimp only at HP
  go_enter Tryz.func54, Tryz.ntmps54
  go_wp2_with (go_at_call 87; (with_reducible_and_instances (refine HP.out.mono ?_)); rintro x w1 ⟨v1, rfl, ho1, hb1⟩; have HO1 := hid ho1; have HB1 := hid hb1; clear ho1 hb1)
  go_ret
  exact ⟨_, rfl, HO1.out, HB1.out⟩
set_option maxRecDepth 100000 in
set_option maxHeartbeats 8000000 in
theorem tell_any (x : Ev) (hf : FitE x) (w : World) : Calls Tryz.prog 28 #[.agg (evA x)] w fun r w' => ∃ v, r = .returned v ∧ Own w' w.heap.size v (tellE x) ∧ Below w.heap.size w w' := by
  have HPl := hid (preT_len x)
  have HLt := hid (preT_lt x)
  have HPs := hid (preT_s x)
  have HP0 := hid (preT_0 x)
  have HBo := hid (bodyT_pre x)
  have hbl := bodyT_len x
  have HTe : Hid (tellE x = frameBs 32 (bodyT x)) := hid rfl
  obtain ⟨k, nm, a, b, c, d, e, f, y⟩ := x
  obtain ⟨hk, ha, hb, hc, hd, he, hff, hn⟩ := hf
  dsimp only at hk ha hb hc hd he hff hn
  obtain ⟨k, rfl⟩ := Int.eq_ofNat_of_zero_le hk.1
  obtain ⟨a, rfl⟩ := Int.eq_ofNat_of_zero_le ha.1
  obtain ⟨b, rfl⟩ := Int.eq_ofNat_of_zero_le hb.1
  obtain ⟨c, rfl⟩ := Int.eq_ofNat_of_zero_le hc.1
  obtain ⟨d, rfl⟩ := Int.eq_ofNat_of_zero_le hd.1
  obtain ⟨e, rfl⟩ := Int.eq_ofNat_of_zero_le he.1
  obtain ⟨f, rfl⟩ := Int.eq_ofNat_of_zero_le hff.1
  have hk2 : k < 256 := by omega
  have hbl2 : (bodyT ⟨(k : Int), nm, (a : Int), (b : Int), (c : Int), (d : Int), (e : Int), (f : Int), y⟩).length ≤ 104 := by rw [hbl]; show 40 + nm.length ≤ 104; omega
  obtain ⟨bd, hbd⟩ : ∃ bd, bodyT ⟨(k : Int), nm, (a : Int), (b : Int), (c : Int), (d : Int), (e : Int), (f : Int), y⟩ = bd := ⟨_, rfl⟩
  rw [hbd] at HBo HTe hbl2
  obtain ⟨pr, hpr⟩ : ∃ pr, preT ⟨(k : Int), nm, (a : Int), (b : Int), (c : Int), (d : Int), (e : Int), (f : Int), y⟩ = pr := ⟨_, rfl⟩
  rw [hpr] at HPl HLt HPs HP0 HBo
  dsimp only [Int.toNat_natCast] at HPs HP0
  obtain ⟨t, ht⟩ : ∃ t, nmS nm = t := ⟨_, rfl⟩
  have htz : t.size ≤ 64 := by rw [← ht, nmS_sizeB]; exact hn
  have hTx := textN_ok t (by omega)
  have HBo2 : Hid (bd = pr 6 ++ (textN t).2) := by rw [hTx, ← ht]; exact HBo.out
  have HFr : Hid (frameN 32 bd = (0, tellE ⟨(k : Int), nm, (a : Int), (b : Int), (c : Int), (d : Int), (e : Int), (f : Int), y⟩)) := by rw [HTe.out]; exact frameN_ok 32 bd (by omega) (by omega)
  have hyl : yesN y < 256 := by unfold yesN; split <;> omega
  have HF0 : Hid (pr 0 = [k, yesN y]) := by rw [HP0.out, spell1 k hk2, spell1 _ hyl]; rfl
  have HSp := hid (fun (n s : Nat) (h1 : 1 ≤ s) (h6 : s ≤ 6) (h : n < 2 ^ (8 * s)) (W : World) => spellT_any n s h1 h6 h W)
  have HTx := hid (fun W => text_any t W (by unfold maxLen; omega))
  have HTl : Hid ((textN t).2.length = 2 + t.size) := hid (by rw [hTx]; simp [spellN_length, sbytes_length])
  have HTy : Hid (∀ z ∈ (textN t).2, z < 256) := by
    rw [hTx]
    intro z hz
    rcases List.mem_append.1 hz with h | h
    · exact spellN_lt _ _ z h
    · exact sbytes_lt _ z h
  show Calls Tryz.prog 28 #[.agg #[.int .i64 (k : Int), .string (nmS nm), .int .i64 (a : Int), .int .i64 (b : Int), .int .i64 (c : Int), .int .i64 (d : Int), .int .i64 (e : Int), .int .i64 (f : Int), .bool y]] w _
  rw [ht]
  obtain ⟨R, hR⟩ : ∃ R, tellE ⟨(k : Int), nm, (a : Int), (b : Int), (c : Int), (d : Int), (e : Int), (f : Int), y⟩ = R := ⟨_, rfl⟩
  rw [hR] at HFr
  have hGoal : ∀ (Q : List Nat → Prop), Q R → Q (tellE ⟨(k : Int), nm, (a : Int), (b : Int), (c : Int), (d : Int), (e : Int), (f : Int), y⟩) := fun Q h => by rw [hR]; exact h
  rw [hR]
  have hkw : IntKind.u8.wrap (k : Int) = (k : Int) := by rw [IntKind.wrap_u8]; omega
  have HNu : Hid (∀ W, Calls Tryz.prog 52 #[.agg #[.int .i64 (k : Int), .string t, .int .i64 (a : Int), .int .i64 (b : Int), .int .i64 (c : Int), .int .i64 (d : Int), .int .i64 (e : Int), .int .i64 (f : Int), .bool y]] W fun e9 w' => e9 = .returned (.agg #[.int .i64 (a : Int), .int .i64 (b : Int), .int .i64 (c : Int), .int .i64 (d : Int), .int .i64 (e : Int), .int .i64 (f : Int)]) ∧ Below W.heap.size W w') := fun W => by
    have h := numbers_any ⟨(k : Int), nm, (a : Int), (b : Int), (c : Int), (d : Int), (e : Int), (f : Int), y⟩ W
    rw [← ht]
    exact h
  obtain ⟨W0, hW0⟩ : ∃ W0, w.alloc (.cells #[.int .i64 (k : Int), .string t, .int .i64 (a : Int), .int .i64 (b : Int), .int .i64 (c : Int), .int .i64 (d : Int), .int .i64 (e : Int), .int .i64 (f : Int), .bool y] TEv) = W0 := ⟨_, rfl⟩
  have b0 : Below w.heap.size w W0 := by rw [← hW0]; exact (Below.refl _ _).alloc (Nat.le_refl _) _
  have x0 : Blk W0 w.heap.size #[.int .i64 (k : Int), .string t, .int .i64 (a : Int), .int .i64 (b : Int), .int .i64 (c : Int), .int .i64 (d : Int), .int .i64 (e : Int), .int .i64 (f : Int), .bool y] TEv := by rw [← hW0]; exact heap_alloc_new w _
  have HB0 := hid b0
  have HS : Hid (∀ W, Below W0.heap.size W0 W → W.cell? ⟨w.heap.size, 0, none⟩ = some (.int .i64 (k : Int)) ∧ W.cell? ⟨w.heap.size, 1, none⟩ = some (.string t) ∧ W.cell? ⟨w.heap.size, 2, none⟩ = some (.int .i64 (a : Int)) ∧ W.cell? ⟨w.heap.size, 3, none⟩ = some (.int .i64 (b : Int)) ∧ W.cell? ⟨w.heap.size, 4, none⟩ = some (.int .i64 (c : Int)) ∧ W.cell? ⟨w.heap.size, 5, none⟩ = some (.int .i64 (d : Int)) ∧ W.cell? ⟨w.heap.size, 6, none⟩ = some (.int .i64 (e : Int)) ∧ W.cell? ⟨w.heap.size, 7, none⟩ = some (.int .i64 (f : Int)) ∧ W.cell? ⟨w.heap.size, 8, none⟩ = some (.bool y)) := fun W hW => by
    have hx := x0.later hW
    exact ⟨hx.cell 0, hx.cell 1, hx.cell 2, hx.cell 3, hx.cell 4, hx.cell 5, hx.cell 6, hx.cell 7, hx.cell 8⟩
  have HHb : Hid (a < 281474976710656 ∧ b < 281474976710656 ∧ c < 281474976710656 ∧ d < 281474976710656 ∧ e < 281474976710656 ∧ f < 281474976710656 ∧ k < 256 ∧ yesN y < 256 ∧ t.size ≤ 64 ∧ bd.length ≤ 104) := ⟨by omega, by omega, by omega, by omega, by omega, by omega, hk2, hyl, htz, hbl2⟩
  obtain ⟨c0, c1, c2, c3, c4, c5, c6, c7, c8⟩ := HS.out W0 (Below.refl _ _)
  clear b0 x0 hbl hbd hpr ht hTx hk ha hb hc hd he hff hn hyl htz hbl2 hGoal hR hk2 HBo HP0
  cases y with
  | false =>
    go_enter Tryz.func28, Tryz.ntmps28
    have HK1 : Hid (∀ W, Calls Tryz.prog 54 #[.int .i64 (k : Int), .int .i64 1] W fun e9 w' => ∃ q : Part, e9 = .returned (.slice q.ad q.len q.cap) ∧ q.l = spellN k 1 ∧ q.ok w' ∧ Below W.heap.size W w') := fun W => (HSp.out k 1 (by omega) (by omega) (by have := HHb.out; omega) W).mono (fun e9 w' hh => by obtain ⟨v, rfl, ho, hb⟩ := hh; obtain ⟨q, rfl, h1, h2⟩ := Part.of_own ho; exact ⟨q, rfl, h1, h2, hb⟩)
    have HY1 : Hid (∀ W, Calls Tryz.prog 54 #[.int .i64 0, .int .i64 1] W fun e9 w' => ∃ q : Part, e9 = .returned (.slice q.ad q.len q.cap) ∧ q.l = spellN 0 1 ∧ q.ok w' ∧ Below W.heap.size W w') := fun W => (HSp.out 0 1 (by omega) (by omega) (by omega) W).mono (fun e9 w' hh => by obtain ⟨v, rfl, ho, hb⟩ := hh; obtain ⟨q, rfl, h1, h2⟩ := Part.of_own ho; exact ⟨q, rfl, h1, h2, hb⟩)
    have HP00 : Hid (pr 0 = spellN k 1 ++ spellN 0 1) := by rw [HF0.out, spell1 k HHb.out.2.2.2.2.2.2.1, spell1 0 (by omega)]; rfl
    go_wp2_with (first
      | (go_at_call 54; (with_reducible_and_instances (refine (HK1.out W0).mono ?_)); rintro r w1 ⟨p1, rfl, hl1, hk1, hb1⟩; have HL1 := hid hl1; have HQ1 := hid hk1; have HB1 := hid hb1; have HY2 := hid (HY1.out w1); clear hl1 hk1 hb1 HK1)
      | (go_at_call 54; (with_reducible_and_instances (refine HY2.out.mono ?_)); rintro r w2 ⟨p2, rfl, hl2, hk2, hb2⟩; have OK2 : Hid (∀ q ∈ [p1, p2], q.ok w2) := hid (by intro q hq; rcases List.mem_cons.1 hq with rfl | hq; exact HQ1.out.later hb2; rcases List.mem_cons.1 hq with rfl | hq; exact hk2; simp at hq); have HA2 : Hid (allN [p1, p2] 2 = pr 0) := hid (by rw [HP00.out, ← HL1.out, ← hl2]; simp [allN]); have LEN2 : Hid ((allN [p1, p2] 2).length ≤ 1000000) := hid (by rw [HA2.out, HPl.out 0 (by omega)]; omega); have HB2 := hid (HB1.out.trans (hb2.mono HB1.out.size)); clear hl2 hk2 hb2)
      | (go_at_call 53; refine (concat_at [p1, p2] w2 _ rfl 2 2 rfl OK2.out LEN2.out (by omega)).mono ?_; rintro r w3 ⟨p3, rfl, -, ho3, -, hb3⟩; have HB3 := hid (HB2.out.trans (hb3.mono HB2.out.size)); have HO3 : Hid (Own w3 W0.heap.size (.slice p3.ad p3.len p3.cap) (pr 0)) := hid (by have h := ho3.out.down HB2.out.size; rw [HA2.out] at h; exact h); obtain ⟨e0, e1, e2, e3, e4, e5, e6, e7, e8⟩ := HS.out w3 HB3.out; clear ho3 hb3)
      | (go_at_call 52; (with_reducible_and_instances (refine (HNu.out w3).mono ?_)); rintro r w4 ⟨rfl, hb4⟩; have HB4 := hid (HB3.out.trans (hb4.mono HB3.out.size)); have HO4 := hid (HO3.out.later hb4); clear hb4))
    obtain ⟨a4, n4c, hv4, hq4, -, -⟩ := HO4.out.slice 2 (HPl.out 0 (by omega))
    have HO4' : Hid (Own w4 W0.heap.size (.slice a4 2 n4c) (pr 0)) := hid (by have h := HO4.out; rw [hv4] at h; exact h)
    obtain ⟨hv4a, hv4l, hv4c⟩ : p3.ad = a4 ∧ p3.len = 2 ∧ p3.cap = n4c := by injection hv4 with h1 h2 h3; exact ⟨h1, h2, h3⟩
    rw [hv4a, hv4l, hv4c] at *
    clear hq4
    go_loopw [4, 22] (fun bv_ iv wr => ∃ (j : Nat) (aj : Option Addr) (cj : Nat), j ≤ 6 ∧ iv = .int .i64 (j : Int) ∧ bv_ = .slice aj (2 + 6 * j) cj ∧ Hid (Own wr W0.heap.size (.slice aj (2 + 6 * j) cj) (pr j) ∧ Below W0.heap.size W0 wr)) (fun _ iv _ => 6 - (intOf iv).toNat)
    case atStart => exact ⟨0, a4, n4c, by omega, rfl, rfl, ⟨HO4'.out, HB4.out⟩⟩
    case round =>
      obtain ⟨j, aj, cj, hj, rfl, rfl, HI⟩ := hrel
      obtain ⟨wo, rfl⟩ : ∃ q, q = wr := ⟨wr, rfl⟩
      have hws := HI.out.2.size
      clear c0 c1 c2 c3 c4 c5 c6 c7 c8
      obtain ⟨c0, c1, c2, c3, c4, c5, c6, c7, c8⟩ := HS.out wo HI.out.2
      obtain ⟨i0, i1, i2, i3, i4, i5⟩ := idx_at (a : Int) (b : Int) (c : Int) (d : Int) (e : Int) (f : Int) wo
      rcases (show j = 0 ∨ j = 1 ∨ j = 2 ∨ j = 3 ∨ j = 4 ∨ j = 5 ∨ j = 6 by omega) with rfl | rfl | rfl | rfl | rfl | rfl | rfl
      · have HSj : Hid (Calls Tryz.prog 54 #[.int .i64 (a : Int), .int .i64 6] wo fun e9 w' => ∃ v, e9 = .returned v ∧ Own w' wo.heap.size v (spellN a 6) ∧ Below wo.heap.size wo w') := HSp.out a 6 (by omega) (by omega) (by have := HHb.out.1; omega) wo
        go_wp2_with (first
          | (go_at_call 54; (with_reducible_and_instances (refine HSj.out.mono ?_)); rintro r w5 ⟨v5, rfl, ho5, hb5⟩; obtain ⟨a5, c5', hv5, hq5, -, -⟩ := ho5.slice 6 (spellN_length _ _); subst hv5; have HQ5 := hid hq5; have HO5 := hid (HI.out.1.later hb5); have HB5 := hid (HI.out.2.trans (hb5.mono HI.out.2.size)); clear ho5 hb5 hq5)
          | (at_builtin; refine app_any rfl (.tmp 25) (.tmp 27) rfl W0.heap.size (.slice aj (2 + 6 * 0) cj) (2 + 6 * 0) (pr 0) rfl (by have h := HO5.out.2; rw [HPl.out 0 (by omega)] at h; exact h) a5 6 c5' (spellN a 6) rfl (spellN_length _ _) HQ5.out.2.1 HQ5.out.2.2 (by omega) HB5.out.size ?_; intro v6 w6 ho6 hg6; have HB6 := hid (HB5.out.grown hg6 HB5.out.size (fun q hq => own_fromT HO5.out q hq)); have HO6 : Hid (Own w6 W0.heap.size v6 (pr 1)) := by { rw [HPs.out.1]; exact own_mkT ho6 (by rw [List.length_append, HPl.out 0 (by omega), spellN_length]) (fun z hz => (List.mem_append.1 hz).elim (HLt.out 0 z) (spellN_lt _ _ z)) }; obtain ⟨a6, c6', hv6, -, -, -⟩ := HO6.out.slice (2 + 6 * 1) (HPl.out 1 (by omega)); subst hv6; clear ho6 hg6))
        exact ⟨⟨1, a6, c6', by omega, by go_num, rfl, ⟨HO6.out, HB6.out⟩⟩, by simp [intOf]⟩
      · have HSj : Hid (Calls Tryz.prog 54 #[.int .i64 (b : Int), .int .i64 6] wo fun e9 w' => ∃ v, e9 = .returned v ∧ Own w' wo.heap.size v (spellN b 6) ∧ Below wo.heap.size wo w') := HSp.out b 6 (by omega) (by omega) (by have := HHb.out.2.1; omega) wo
        go_wp2_with (first
          | (go_at_call 54; (with_reducible_and_instances (refine HSj.out.mono ?_)); rintro r w5 ⟨v5, rfl, ho5, hb5⟩; obtain ⟨a5, c5', hv5, hq5, -, -⟩ := ho5.slice 6 (spellN_length _ _); subst hv5; have HQ5 := hid hq5; have HO5 := hid (HI.out.1.later hb5); have HB5 := hid (HI.out.2.trans (hb5.mono HI.out.2.size)); clear ho5 hb5 hq5)
          | (at_builtin; refine app_any rfl (.tmp 25) (.tmp 27) rfl W0.heap.size (.slice aj (2 + 6 * 1) cj) (2 + 6 * 1) (pr 1) rfl (by have h := HO5.out.2; rw [HPl.out 1 (by omega)] at h; exact h) a5 6 c5' (spellN b 6) rfl (spellN_length _ _) HQ5.out.2.1 HQ5.out.2.2 (by omega) HB5.out.size ?_; intro v6 w6 ho6 hg6; have HB6 := hid (HB5.out.grown hg6 HB5.out.size (fun q hq => own_fromT HO5.out q hq)); have HO6 : Hid (Own w6 W0.heap.size v6 (pr 2)) := by { rw [HPs.out.2.1]; exact own_mkT ho6 (by rw [List.length_append, HPl.out 1 (by omega), spellN_length]) (fun z hz => (List.mem_append.1 hz).elim (HLt.out 1 z) (spellN_lt _ _ z)) }; obtain ⟨a6, c6', hv6, -, -, -⟩ := HO6.out.slice (2 + 6 * 2) (HPl.out 2 (by omega)); subst hv6; clear ho6 hg6))
        exact ⟨⟨2, a6, c6', by omega, by go_num, rfl, ⟨HO6.out, HB6.out⟩⟩, by simp [intOf]⟩
      · have HSj : Hid (Calls Tryz.prog 54 #[.int .i64 (c : Int), .int .i64 6] wo fun e9 w' => ∃ v, e9 = .returned v ∧ Own w' wo.heap.size v (spellN c 6) ∧ Below wo.heap.size wo w') := HSp.out c 6 (by omega) (by omega) (by have := HHb.out.2.2.1; omega) wo
        go_wp2_with (first
          | (go_at_call 54; (with_reducible_and_instances (refine HSj.out.mono ?_)); rintro r w5 ⟨v5, rfl, ho5, hb5⟩; obtain ⟨a5, c5', hv5, hq5, -, -⟩ := ho5.slice 6 (spellN_length _ _); subst hv5; have HQ5 := hid hq5; have HO5 := hid (HI.out.1.later hb5); have HB5 := hid (HI.out.2.trans (hb5.mono HI.out.2.size)); clear ho5 hb5 hq5)
          | (at_builtin; refine app_any rfl (.tmp 25) (.tmp 27) rfl W0.heap.size (.slice aj (2 + 6 * 2) cj) (2 + 6 * 2) (pr 2) rfl (by have h := HO5.out.2; rw [HPl.out 2 (by omega)] at h; exact h) a5 6 c5' (spellN c 6) rfl (spellN_length _ _) HQ5.out.2.1 HQ5.out.2.2 (by omega) HB5.out.size ?_; intro v6 w6 ho6 hg6; have HB6 := hid (HB5.out.grown hg6 HB5.out.size (fun q hq => own_fromT HO5.out q hq)); have HO6 : Hid (Own w6 W0.heap.size v6 (pr 3)) := by { rw [HPs.out.2.2.1]; exact own_mkT ho6 (by rw [List.length_append, HPl.out 2 (by omega), spellN_length]) (fun z hz => (List.mem_append.1 hz).elim (HLt.out 2 z) (spellN_lt _ _ z)) }; obtain ⟨a6, c6', hv6, -, -, -⟩ := HO6.out.slice (2 + 6 * 3) (HPl.out 3 (by omega)); subst hv6; clear ho6 hg6))
        exact ⟨⟨3, a6, c6', by omega, by go_num, rfl, ⟨HO6.out, HB6.out⟩⟩, by simp [intOf]⟩
      · have HSj : Hid (Calls Tryz.prog 54 #[.int .i64 (d : Int), .int .i64 6] wo fun e9 w' => ∃ v, e9 = .returned v ∧ Own w' wo.heap.size v (spellN d 6) ∧ Below wo.heap.size wo w') := HSp.out d 6 (by omega) (by omega) (by have := HHb.out.2.2.2.1; omega) wo
        go_wp2_with (first
          | (go_at_call 54; (with_reducible_and_instances (refine HSj.out.mono ?_)); rintro r w5 ⟨v5, rfl, ho5, hb5⟩; obtain ⟨a5, c5', hv5, hq5, -, -⟩ := ho5.slice 6 (spellN_length _ _); subst hv5; have HQ5 := hid hq5; have HO5 := hid (HI.out.1.later hb5); have HB5 := hid (HI.out.2.trans (hb5.mono HI.out.2.size)); clear ho5 hb5 hq5)
          | (at_builtin; refine app_any rfl (.tmp 25) (.tmp 27) rfl W0.heap.size (.slice aj (2 + 6 * 3) cj) (2 + 6 * 3) (pr 3) rfl (by have h := HO5.out.2; rw [HPl.out 3 (by omega)] at h; exact h) a5 6 c5' (spellN d 6) rfl (spellN_length _ _) HQ5.out.2.1 HQ5.out.2.2 (by omega) HB5.out.size ?_; intro v6 w6 ho6 hg6; have HB6 := hid (HB5.out.grown hg6 HB5.out.size (fun q hq => own_fromT HO5.out q hq)); have HO6 : Hid (Own w6 W0.heap.size v6 (pr 4)) := by { rw [HPs.out.2.2.2.1]; exact own_mkT ho6 (by rw [List.length_append, HPl.out 3 (by omega), spellN_length]) (fun z hz => (List.mem_append.1 hz).elim (HLt.out 3 z) (spellN_lt _ _ z)) }; obtain ⟨a6, c6', hv6, -, -, -⟩ := HO6.out.slice (2 + 6 * 4) (HPl.out 4 (by omega)); subst hv6; clear ho6 hg6))
        exact ⟨⟨4, a6, c6', by omega, by go_num, rfl, ⟨HO6.out, HB6.out⟩⟩, by simp [intOf]⟩
      · have HSj : Hid (Calls Tryz.prog 54 #[.int .i64 (e : Int), .int .i64 6] wo fun e9 w' => ∃ v, e9 = .returned v ∧ Own w' wo.heap.size v (spellN e 6) ∧ Below wo.heap.size wo w') := HSp.out e 6 (by omega) (by omega) (by have := HHb.out.2.2.2.2.1; omega) wo
        go_wp2_with (first
          | (go_at_call 54; (with_reducible_and_instances (refine HSj.out.mono ?_)); rintro r w5 ⟨v5, rfl, ho5, hb5⟩; obtain ⟨a5, c5', hv5, hq5, -, -⟩ := ho5.slice 6 (spellN_length _ _); subst hv5; have HQ5 := hid hq5; have HO5 := hid (HI.out.1.later hb5); have HB5 := hid (HI.out.2.trans (hb5.mono HI.out.2.size)); clear ho5 hb5 hq5)
          | (at_builtin; refine app_any rfl (.tmp 25) (.tmp 27) rfl W0.heap.size (.slice aj (2 + 6 * 4) cj) (2 + 6 * 4) (pr 4) rfl (by have h := HO5.out.2; rw [HPl.out 4 (by omega)] at h; exact h) a5 6 c5' (spellN e 6) rfl (spellN_length _ _) HQ5.out.2.1 HQ5.out.2.2 (by omega) HB5.out.size ?_; intro v6 w6 ho6 hg6; have HB6 := hid (HB5.out.grown hg6 HB5.out.size (fun q hq => own_fromT HO5.out q hq)); have HO6 : Hid (Own w6 W0.heap.size v6 (pr 5)) := by { rw [HPs.out.2.2.2.2.1]; exact own_mkT ho6 (by rw [List.length_append, HPl.out 4 (by omega), spellN_length]) (fun z hz => (List.mem_append.1 hz).elim (HLt.out 4 z) (spellN_lt _ _ z)) }; obtain ⟨a6, c6', hv6, -, -, -⟩ := HO6.out.slice (2 + 6 * 5) (HPl.out 5 (by omega)); subst hv6; clear ho6 hg6))
        exact ⟨⟨5, a6, c6', by omega, by go_num, rfl, ⟨HO6.out, HB6.out⟩⟩, by simp [intOf]⟩
      · have HSj : Hid (Calls Tryz.prog 54 #[.int .i64 (f : Int), .int .i64 6] wo fun e9 w' => ∃ v, e9 = .returned v ∧ Own w' wo.heap.size v (spellN f 6) ∧ Below wo.heap.size wo w') := HSp.out f 6 (by omega) (by omega) (by have := HHb.out.2.2.2.2.2.1; omega) wo
        go_wp2_with (first
          | (go_at_call 54; (with_reducible_and_instances (refine HSj.out.mono ?_)); rintro r w5 ⟨v5, rfl, ho5, hb5⟩; obtain ⟨a5, c5', hv5, hq5, -, -⟩ := ho5.slice 6 (spellN_length _ _); subst hv5; have HQ5 := hid hq5; have HO5 := hid (HI.out.1.later hb5); have HB5 := hid (HI.out.2.trans (hb5.mono HI.out.2.size)); clear ho5 hb5 hq5)
          | (at_builtin; refine app_any rfl (.tmp 25) (.tmp 27) rfl W0.heap.size (.slice aj (2 + 6 * 5) cj) (2 + 6 * 5) (pr 5) rfl (by have h := HO5.out.2; rw [HPl.out 5 (by omega)] at h; exact h) a5 6 c5' (spellN f 6) rfl (spellN_length _ _) HQ5.out.2.1 HQ5.out.2.2 (by omega) HB5.out.size ?_; intro v6 w6 ho6 hg6; have HB6 := hid (HB5.out.grown hg6 HB5.out.size (fun q hq => own_fromT HO5.out q hq)); have HO6 : Hid (Own w6 W0.heap.size v6 (pr 6)) := by { rw [HPs.out.2.2.2.2.2]; exact own_mkT ho6 (by rw [List.length_append, HPl.out 5 (by omega), spellN_length]) (fun z hz => (List.mem_append.1 hz).elim (HLt.out 5 z) (spellN_lt _ _ z)) }; obtain ⟨a6, c6', hv6, -, -, -⟩ := HO6.out.slice (2 + 6 * 6) (HPl.out 6 (by omega)); subst hv6; clear ho6 hg6))
        exact ⟨⟨6, a6, c6', by omega, by go_num, rfl, ⟨HO6.out, HB6.out⟩⟩, by simp [intOf]⟩
      · have HTw := hid (HTx.out wo)
        go_wp2_with (first
          | (go_at_call 55; (with_reducible_and_instances (refine HTw.out.mono ?_)); rintro r w7 ⟨v7, rfl, ho7, hb7⟩; obtain ⟨a7, c7', hv7, hq7, -, -⟩ := ho7.slice (2 + t.size) HTl.out; subst hv7; have HQ7 := hid hq7; have HO7 := hid (HI.out.1.later hb7); have HB7 := hid (HI.out.2.trans (hb7.mono HI.out.2.size)); clear ho7 hb7 hq7)
          | (at_builtin; refine app_any rfl (.tmp 37) (.tmp 38) rfl W0.heap.size (.slice aj (2 + 6 * 6) cj) (2 + 6 * 6) (pr 6) rfl (by have h := HO7.out.2; rw [HPl.out 6 (by omega)] at h; exact h) a7 (2 + t.size) c7' (textN t).2 rfl HTl.out HQ7.out.2.1 HQ7.out.2.2 (by have := HHb.out; omega) HB7.out.size ?_; intro v8 w8 ho8 hg8; have HB8 := hid (HB7.out.grown hg8 HB7.out.size (fun q hq => own_fromT HO7.out q hq)); have HO8 : Hid (Own w8 W0.heap.size v8 bd) := by { rw [HBo2.out]; exact own_mkT ho8 (by rw [List.length_append, HPl.out 6 (by omega), HTl.out]) (fun z hz => (List.mem_append.1 hz).elim (HLt.out 6 z) (HTy.out z)) }; obtain ⟨a8, c8', hv8, hq8, -, -⟩ := HO8.out.slice bd.length rfl; subst hv8; have HFw := hid (frame_any 32 a8 bd.length c8' bd w8 hq8 (by have := HHb.out; unfold maxLen; omega)); clear ho8 hg8 hq8)
          | (go_at_call 56; (with_reducible_and_instances (refine HFw.out.mono ?_)); rintro r w9 ⟨v9, rfl, ho9, hb9⟩; rw [HFr.out] at ho9; have HO9 := hid ho9; have HB9 := hid (HB8.out.trans (hb9.mono HB8.out.size)); clear ho9 hb9))
        go_ret
        exact ⟨_, rfl, HO9.out.down (by have h1 := HB8.out.size; have h2 := HB0.out.size; omega), HB0.out.trans (HB9.out.mono HB0.out.size)⟩
  | true =>
    go_enter Tryz.func28, Tryz.ntmps28
    have HK1 : Hid (∀ W, Calls Tryz.prog 54 #[.int .i64 (k : Int), .int .i64 1] W fun e9 w' => ∃ q : Part, e9 = .returned (.slice q.ad q.len q.cap) ∧ q.l = spellN k 1 ∧ q.ok w' ∧ Below W.heap.size W w') := fun W => (HSp.out k 1 (by omega) (by omega) (by have := HHb.out; omega) W).mono (fun e9 w' hh => by obtain ⟨v, rfl, ho, hb⟩ := hh; obtain ⟨q, rfl, h1, h2⟩ := Part.of_own ho; exact ⟨q, rfl, h1, h2, hb⟩)
    have HY1 : Hid (∀ W, Calls Tryz.prog 54 #[.int .i64 1, .int .i64 1] W fun e9 w' => ∃ q : Part, e9 = .returned (.slice q.ad q.len q.cap) ∧ q.l = spellN 1 1 ∧ q.ok w' ∧ Below W.heap.size W w') := fun W => (HSp.out 1 1 (by omega) (by omega) (by omega) W).mono (fun e9 w' hh => by obtain ⟨v, rfl, ho, hb⟩ := hh; obtain ⟨q, rfl, h1, h2⟩ := Part.of_own ho; exact ⟨q, rfl, h1, h2, hb⟩)
    have HP00 : Hid (pr 0 = spellN k 1 ++ spellN 1 1) := by rw [HF0.out, spell1 k HHb.out.2.2.2.2.2.2.1, spell1 1 (by omega)]; rfl
    go_wp2_with (first
      | (go_at_call 54; (with_reducible_and_instances (refine (HK1.out W0).mono ?_)); rintro r w1 ⟨p1, rfl, hl1, hk1, hb1⟩; have HL1 := hid hl1; have HQ1 := hid hk1; have HB1 := hid hb1; have HY2 := hid (HY1.out w1); clear hl1 hk1 hb1 HK1)
      | (go_at_call 54; (with_reducible_and_instances (refine HY2.out.mono ?_)); rintro r w2 ⟨p2, rfl, hl2, hk2, hb2⟩; have OK2 : Hid (∀ q ∈ [p1, p2], q.ok w2) := hid (by intro q hq; rcases List.mem_cons.1 hq with rfl | hq; exact HQ1.out.later hb2; rcases List.mem_cons.1 hq with rfl | hq; exact hk2; simp at hq); have HA2 : Hid (allN [p1, p2] 2 = pr 0) := hid (by rw [HP00.out, ← HL1.out, ← hl2]; simp [allN]); have LEN2 : Hid ((allN [p1, p2] 2).length ≤ 1000000) := hid (by rw [HA2.out, HPl.out 0 (by omega)]; omega); have HB2 := hid (HB1.out.trans (hb2.mono HB1.out.size)); clear hl2 hk2 hb2)
      | (go_at_call 53; refine (concat_at [p1, p2] w2 _ rfl 2 2 rfl OK2.out LEN2.out (by omega)).mono ?_; rintro r w3 ⟨p3, rfl, -, ho3, -, hb3⟩; have HB3 := hid (HB2.out.trans (hb3.mono HB2.out.size)); have HO3 : Hid (Own w3 W0.heap.size (.slice p3.ad p3.len p3.cap) (pr 0)) := hid (by have h := ho3.out.down HB2.out.size; rw [HA2.out] at h; exact h); obtain ⟨e0, e1, e2, e3, e4, e5, e6, e7, e8⟩ := HS.out w3 HB3.out; clear ho3 hb3)
      | (go_at_call 52; (with_reducible_and_instances (refine (HNu.out w3).mono ?_)); rintro r w4 ⟨rfl, hb4⟩; have HB4 := hid (HB3.out.trans (hb4.mono HB3.out.size)); have HO4 := hid (HO3.out.later hb4); clear hb4))
    obtain ⟨a4, n4c, hv4, hq4, -, -⟩ := HO4.out.slice 2 (HPl.out 0 (by omega))
    have HO4' : Hid (Own w4 W0.heap.size (.slice a4 2 n4c) (pr 0)) := hid (by have h := HO4.out; rw [hv4] at h; exact h)
    obtain ⟨hv4a, hv4l, hv4c⟩ : p3.ad = a4 ∧ p3.len = 2 ∧ p3.cap = n4c := by injection hv4 with h1 h2 h3; exact ⟨h1, h2, h3⟩
    rw [hv4a, hv4l, hv4c] at *
    clear hq4
    go_loopw [4, 22] (fun bv_ iv wr => ∃ (j : Nat) (aj : Option Addr) (cj : Nat), j ≤ 6 ∧ iv = .int .i64 (j : Int) ∧ bv_ = .slice aj (2 + 6 * j) cj ∧ Hid (Own wr W0.heap.size (.slice aj (2 + 6 * j) cj) (pr j) ∧ Below W0.heap.size W0 wr)) (fun _ iv _ => 6 - (intOf iv).toNat)
    case atStart => exact ⟨0, a4, n4c, by omega, rfl, rfl, ⟨HO4'.out, HB4.out⟩⟩
    case round =>
      obtain ⟨j, aj, cj, hj, rfl, rfl, HI⟩ := hrel
      obtain ⟨wo, rfl⟩ : ∃ q, q = wr := ⟨wr, rfl⟩
      have hws := HI.out.2.size
      clear c0 c1 c2 c3 c4 c5 c6 c7 c8
      obtain ⟨c0, c1, c2, c3, c4, c5, c6, c7, c8⟩ := HS.out wo HI.out.2
      obtain ⟨i0, i1, i2, i3, i4, i5⟩ := idx_at (a : Int) (b : Int) (c : Int) (d : Int) (e : Int) (f : Int) wo
      rcases (show j = 0 ∨ j = 1 ∨ j = 2 ∨ j = 3 ∨ j = 4 ∨ j = 5 ∨ j = 6 by omega) with rfl | rfl | rfl | rfl | rfl | rfl | rfl
      · have HSj : Hid (Calls Tryz.prog 54 #[.int .i64 (a : Int), .int .i64 6] wo fun e9 w' => ∃ v, e9 = .returned v ∧ Own w' wo.heap.size v (spellN a 6) ∧ Below wo.heap.size wo w') := HSp.out a 6 (by omega) (by omega) (by have := HHb.out.1; omega) wo
        go_wp2_with (first
          | (go_at_call 54; (with_reducible_and_instances (refine HSj.out.mono ?_)); rintro r w5 ⟨v5, rfl, ho5, hb5⟩; obtain ⟨a5, c5', hv5, hq5, -, -⟩ := ho5.slice 6 (spellN_length _ _); subst hv5; have HQ5 := hid hq5; have HO5 := hid (HI.out.1.later hb5); have HB5 := hid (HI.out.2.trans (hb5.mono HI.out.2.size)); clear ho5 hb5 hq5)
          | (at_builtin; refine app_any rfl (.tmp 25) (.tmp 27) rfl W0.heap.size (.slice aj (2 + 6 * 0) cj) (2 + 6 * 0) (pr 0) rfl (by have h := HO5.out.2; rw [HPl.out 0 (by omega)] at h; exact h) a5 6 c5' (spellN a 6) rfl (spellN_length _ _) HQ5.out.2.1 HQ5.out.2.2 (by omega) HB5.out.size ?_; intro v6 w6 ho6 hg6; have HB6 := hid (HB5.out.grown hg6 HB5.out.size (fun q hq => own_fromT HO5.out q hq)); have HO6 : Hid (Own w6 W0.heap.size v6 (pr 1)) := by { rw [HPs.out.1]; exact own_mkT ho6 (by rw [List.length_append, HPl.out 0 (by omega), spellN_length]) (fun z hz => (List.mem_append.1 hz).elim (HLt.out 0 z) (spellN_lt _ _ z)) }; obtain ⟨a6, c6', hv6, -, -, -⟩ := HO6.out.slice (2 + 6 * 1) (HPl.out 1 (by omega)); subst hv6; clear ho6 hg6))
        exact ⟨⟨1, a6, c6', by omega, by go_num, rfl, ⟨HO6.out, HB6.out⟩⟩, by simp [intOf]⟩
      · have HSj : Hid (Calls Tryz.prog 54 #[.int .i64 (b : Int), .int .i64 6] wo fun e9 w' => ∃ v, e9 = .returned v ∧ Own w' wo.heap.size v (spellN b 6) ∧ Below wo.heap.size wo w') := HSp.out b 6 (by omega) (by omega) (by have := HHb.out.2.1; omega) wo
        go_wp2_with (first
          | (go_at_call 54; (with_reducible_and_instances (refine HSj.out.mono ?_)); rintro r w5 ⟨v5, rfl, ho5, hb5⟩; obtain ⟨a5, c5', hv5, hq5, -, -⟩ := ho5.slice 6 (spellN_length _ _); subst hv5; have HQ5 := hid hq5; have HO5 := hid (HI.out.1.later hb5); have HB5 := hid (HI.out.2.trans (hb5.mono HI.out.2.size)); clear ho5 hb5 hq5)
          | (at_builtin; refine app_any rfl (.tmp 25) (.tmp 27) rfl W0.heap.size (.slice aj (2 + 6 * 1) cj) (2 + 6 * 1) (pr 1) rfl (by have h := HO5.out.2; rw [HPl.out 1 (by omega)] at h; exact h) a5 6 c5' (spellN b 6) rfl (spellN_length _ _) HQ5.out.2.1 HQ5.out.2.2 (by omega) HB5.out.size ?_; intro v6 w6 ho6 hg6; have HB6 := hid (HB5.out.grown hg6 HB5.out.size (fun q hq => own_fromT HO5.out q hq)); have HO6 : Hid (Own w6 W0.heap.size v6 (pr 2)) := by { rw [HPs.out.2.1]; exact own_mkT ho6 (by rw [List.length_append, HPl.out 1 (by omega), spellN_length]) (fun z hz => (List.mem_append.1 hz).elim (HLt.out 1 z) (spellN_lt _ _ z)) }; obtain ⟨a6, c6', hv6, -, -, -⟩ := HO6.out.slice (2 + 6 * 2) (HPl.out 2 (by omega)); subst hv6; clear ho6 hg6))
        exact ⟨⟨2, a6, c6', by omega, by go_num, rfl, ⟨HO6.out, HB6.out⟩⟩, by simp [intOf]⟩
      · have HSj : Hid (Calls Tryz.prog 54 #[.int .i64 (c : Int), .int .i64 6] wo fun e9 w' => ∃ v, e9 = .returned v ∧ Own w' wo.heap.size v (spellN c 6) ∧ Below wo.heap.size wo w') := HSp.out c 6 (by omega) (by omega) (by have := HHb.out.2.2.1; omega) wo
        go_wp2_with (first
          | (go_at_call 54; (with_reducible_and_instances (refine HSj.out.mono ?_)); rintro r w5 ⟨v5, rfl, ho5, hb5⟩; obtain ⟨a5, c5', hv5, hq5, -, -⟩ := ho5.slice 6 (spellN_length _ _); subst hv5; have HQ5 := hid hq5; have HO5 := hid (HI.out.1.later hb5); have HB5 := hid (HI.out.2.trans (hb5.mono HI.out.2.size)); clear ho5 hb5 hq5)
          | (at_builtin; refine app_any rfl (.tmp 25) (.tmp 27) rfl W0.heap.size (.slice aj (2 + 6 * 2) cj) (2 + 6 * 2) (pr 2) rfl (by have h := HO5.out.2; rw [HPl.out 2 (by omega)] at h; exact h) a5 6 c5' (spellN c 6) rfl (spellN_length _ _) HQ5.out.2.1 HQ5.out.2.2 (by omega) HB5.out.size ?_; intro v6 w6 ho6 hg6; have HB6 := hid (HB5.out.grown hg6 HB5.out.size (fun q hq => own_fromT HO5.out q hq)); have HO6 : Hid (Own w6 W0.heap.size v6 (pr 3)) := by { rw [HPs.out.2.2.1]; exact own_mkT ho6 (by rw [List.length_append, HPl.out 2 (by omega), spellN_length]) (fun z hz => (List.mem_append.1 hz).elim (HLt.out 2 z) (spellN_lt _ _ z)) }; obtain ⟨a6, c6', hv6, -, -, -⟩ := HO6.out.slice (2 + 6 * 3) (HPl.out 3 (by omega)); subst hv6; clear ho6 hg6))
        exact ⟨⟨3, a6, c6', by omega, by go_num, rfl, ⟨HO6.out, HB6.out⟩⟩, by simp [intOf]⟩
      · have HSj : Hid (Calls Tryz.prog 54 #[.int .i64 (d : Int), .int .i64 6] wo fun e9 w' => ∃ v, e9 = .returned v ∧ Own w' wo.heap.size v (spellN d 6) ∧ Below wo.heap.size wo w') := HSp.out d 6 (by omega) (by omega) (by have := HHb.out.2.2.2.1; omega) wo
        go_wp2_with (first
          | (go_at_call 54; (with_reducible_and_instances (refine HSj.out.mono ?_)); rintro r w5 ⟨v5, rfl, ho5, hb5⟩; obtain ⟨a5, c5', hv5, hq5, -, -⟩ := ho5.slice 6 (spellN_length _ _); subst hv5; have HQ5 := hid hq5; have HO5 := hid (HI.out.1.later hb5); have HB5 := hid (HI.out.2.trans (hb5.mono HI.out.2.size)); clear ho5 hb5 hq5)
          | (at_builtin; refine app_any rfl (.tmp 25) (.tmp 27) rfl W0.heap.size (.slice aj (2 + 6 * 3) cj) (2 + 6 * 3) (pr 3) rfl (by have h := HO5.out.2; rw [HPl.out 3 (by omega)] at h; exact h) a5 6 c5' (spellN d 6) rfl (spellN_length _ _) HQ5.out.2.1 HQ5.out.2.2 (by omega) HB5.out.size ?_; intro v6 w6 ho6 hg6; have HB6 := hid (HB5.out.grown hg6 HB5.out.size (fun q hq => own_fromT HO5.out q hq)); have HO6 : Hid (Own w6 W0.heap.size v6 (pr 4)) := by { rw [HPs.out.2.2.2.1]; exact own_mkT ho6 (by rw [List.length_append, HPl.out 3 (by omega), spellN_length]) (fun z hz => (List.mem_append.1 hz).elim (HLt.out 3 z) (spellN_lt _ _ z)) }; obtain ⟨a6, c6', hv6, -, -, -⟩ := HO6.out.slice (2 + 6 * 4) (HPl.out 4 (by omega)); subst hv6; clear ho6 hg6))
        exact ⟨⟨4, a6, c6', by omega, by go_num, rfl, ⟨HO6.out, HB6.out⟩⟩, by simp [intOf]⟩
      · have HSj : Hid (Calls Tryz.prog 54 #[.int .i64 (e : Int), .int .i64 6] wo fun e9 w' => ∃ v, e9 = .returned v ∧ Own w' wo.heap.size v (spellN e 6) ∧ Below wo.heap.size wo w') := HSp.out e 6 (by omega) (by omega) (by have := HHb.out.2.2.2.2.1; omega) wo
        go_wp2_with (first
          | (go_at_call 54; (with_reducible_and_instances (refine HSj.out.mono ?_)); rintro r w5 ⟨v5, rfl, ho5, hb5⟩; obtain ⟨a5, c5', hv5, hq5, -, -⟩ := ho5.slice 6 (spellN_length _ _); subst hv5; have HQ5 := hid hq5; have HO5 := hid (HI.out.1.later hb5); have HB5 := hid (HI.out.2.trans (hb5.mono HI.out.2.size)); clear ho5 hb5 hq5)
          | (at_builtin; refine app_any rfl (.tmp 25) (.tmp 27) rfl W0.heap.size (.slice aj (2 + 6 * 4) cj) (2 + 6 * 4) (pr 4) rfl (by have h := HO5.out.2; rw [HPl.out 4 (by omega)] at h; exact h) a5 6 c5' (spellN e 6) rfl (spellN_length _ _) HQ5.out.2.1 HQ5.out.2.2 (by omega) HB5.out.size ?_; intro v6 w6 ho6 hg6; have HB6 := hid (HB5.out.grown hg6 HB5.out.size (fun q hq => own_fromT HO5.out q hq)); have HO6 : Hid (Own w6 W0.heap.size v6 (pr 5)) := by { rw [HPs.out.2.2.2.2.1]; exact own_mkT ho6 (by rw [List.length_append, HPl.out 4 (by omega), spellN_length]) (fun z hz => (List.mem_append.1 hz).elim (HLt.out 4 z) (spellN_lt _ _ z)) }; obtain ⟨a6, c6', hv6, -, -, -⟩ := HO6.out.slice (2 + 6 * 5) (HPl.out 5 (by omega)); subst hv6; clear ho6 hg6))
        exact ⟨⟨5, a6, c6', by omega, by go_num, rfl, ⟨HO6.out, HB6.out⟩⟩, by simp [intOf]⟩
      · have HSj : Hid (Calls Tryz.prog 54 #[.int .i64 (f : Int), .int .i64 6] wo fun e9 w' => ∃ v, e9 = .returned v ∧ Own w' wo.heap.size v (spellN f 6) ∧ Below wo.heap.size wo w') := HSp.out f 6 (by omega) (by omega) (by have := HHb.out.2.2.2.2.2.1; omega) wo
        go_wp2_with (first
          | (go_at_call 54; (with_reducible_and_instances (refine HSj.out.mono ?_)); rintro r w5 ⟨v5, rfl, ho5, hb5⟩; obtain ⟨a5, c5', hv5, hq5, -, -⟩ := ho5.slice 6 (spellN_length _ _); subst hv5; have HQ5 := hid hq5; have HO5 := hid (HI.out.1.later hb5); have HB5 := hid (HI.out.2.trans (hb5.mono HI.out.2.size)); clear ho5 hb5 hq5)
          | (at_builtin; refine app_any rfl (.tmp 25) (.tmp 27) rfl W0.heap.size (.slice aj (2 + 6 * 5) cj) (2 + 6 * 5) (pr 5) rfl (by have h := HO5.out.2; rw [HPl.out 5 (by omega)] at h; exact h) a5 6 c5' (spellN f 6) rfl (spellN_length _ _) HQ5.out.2.1 HQ5.out.2.2 (by omega) HB5.out.size ?_; intro v6 w6 ho6 hg6; have HB6 := hid (HB5.out.grown hg6 HB5.out.size (fun q hq => own_fromT HO5.out q hq)); have HO6 : Hid (Own w6 W0.heap.size v6 (pr 6)) := by { rw [HPs.out.2.2.2.2.2]; exact own_mkT ho6 (by rw [List.length_append, HPl.out 5 (by omega), spellN_length]) (fun z hz => (List.mem_append.1 hz).elim (HLt.out 5 z) (spellN_lt _ _ z)) }; obtain ⟨a6, c6', hv6, -, -, -⟩ := HO6.out.slice (2 + 6 * 6) (HPl.out 6 (by omega)); subst hv6; clear ho6 hg6))
        exact ⟨⟨6, a6, c6', by omega, by go_num, rfl, ⟨HO6.out, HB6.out⟩⟩, by simp [intOf]⟩
      · have HTw := hid (HTx.out wo)
        go_wp2_with (first
          | (go_at_call 55; (with_reducible_and_instances (refine HTw.out.mono ?_)); rintro r w7 ⟨v7, rfl, ho7, hb7⟩; obtain ⟨a7, c7', hv7, hq7, -, -⟩ := ho7.slice (2 + t.size) HTl.out; subst hv7; have HQ7 := hid hq7; have HO7 := hid (HI.out.1.later hb7); have HB7 := hid (HI.out.2.trans (hb7.mono HI.out.2.size)); clear ho7 hb7 hq7)
          | (at_builtin; refine app_any rfl (.tmp 37) (.tmp 38) rfl W0.heap.size (.slice aj (2 + 6 * 6) cj) (2 + 6 * 6) (pr 6) rfl (by have h := HO7.out.2; rw [HPl.out 6 (by omega)] at h; exact h) a7 (2 + t.size) c7' (textN t).2 rfl HTl.out HQ7.out.2.1 HQ7.out.2.2 (by have := HHb.out; omega) HB7.out.size ?_; intro v8 w8 ho8 hg8; have HB8 := hid (HB7.out.grown hg8 HB7.out.size (fun q hq => own_fromT HO7.out q hq)); have HO8 : Hid (Own w8 W0.heap.size v8 bd) := by { rw [HBo2.out]; exact own_mkT ho8 (by rw [List.length_append, HPl.out 6 (by omega), HTl.out]) (fun z hz => (List.mem_append.1 hz).elim (HLt.out 6 z) (HTy.out z)) }; obtain ⟨a8, c8', hv8, hq8, -, -⟩ := HO8.out.slice bd.length rfl; subst hv8; have HFw := hid (frame_any 32 a8 bd.length c8' bd w8 hq8 (by have := HHb.out; unfold maxLen; omega)); clear ho8 hg8 hq8)
          | (go_at_call 56; (with_reducible_and_instances (refine HFw.out.mono ?_)); rintro r w9 ⟨v9, rfl, ho9, hb9⟩; rw [HFr.out] at ho9; have HO9 := hid ho9; have HB9 := hid (HB8.out.trans (hb9.mono HB8.out.size)); clear ho9 hb9))
        go_ret
        exact ⟨_, rfl, HO9.out.down (by have h1 := HB8.out.size; have h2 := HB0.out.size; omega), HB0.out.trans (HB9.out.mono HB0.out.size)⟩
theorem ownsR_chg {w w' : World} {base E z n : Nat} {v : Value} {xs : List Value} {F : List Nat} (h : w.ownsRow base E z v n xs) (hb : Chg F w w') (hn : ∀ g ∈ v.ownBlock.toList, g ∉ F) : w'.ownsRow base E z v n xs := by
  refine ⟨h.1, ?_⟩
  rcases h.2 with h2 | ⟨g, cap, cur, hv, hgb, hg, r⟩
  · exact Or.inl h2
  · refine Or.inr ⟨g, cap, cur, hv, hgb, ?_, r⟩
    have hlt : g < w.heap.size := by
      rcases Nat.lt_or_ge g w.heap.size with hlt | hge
      · exact hlt
      · rw [Array.getElem?_eq_none hge] at hg; cases hg
    rw [hb.block g hlt (hn g (by rw [hv]; simp [Value.ownBlock]))]
    exact hg
theorem enters_put1 : ∀ args w, (callFunc 26 args).run Tryz.prog w = .ok (.enter 26 args) w := fun _ _ => by kernel_rfl
set_option maxRecDepth 40000 in
theorem put1_any {B0 : Nat} (x : Ev) (x0 : Blk w B0 (evA x) TEv) : Calls Tryz.prog 26 #[.pointer (some ⟨B0, 0, none⟩)] w fun r w' => ((∃ (ad : Option Addr) (m c : Nat), r = .returned (.slice ad m c) ∧ x.may ∧ Own w' w.heap.size (.slice ad m c) (tellE x)) ∨ (∃ y : Int, r = .panicked (refusal y) ∧ y = 1 ∧ ¬ x.may)) ∧ Below w.heap.size w w' := by
  have HM := hid (fun W => insistEvent_any x 1 W)
  have HTe := hid (fun (h : x.may) W => tell_any x (may_fit h) W)
  have HX := hid x0
  have HF : Hid (∀ W, Below w.heap.size w W → Blk W B0 (evA x) TEv) := fun W hW => HX.out.later hW
  obtain ⟨R, hR⟩ : ∃ R, tellE x = R := ⟨_, rfl⟩
  rw [hR]
  rw [hR] at HTe
  obtain ⟨k, nm, a, b, c, d, e, f, y⟩ := x
  obtain ⟨t, ht⟩ : ∃ t, nmS nm = t := ⟨_, rfl⟩
  have hE : evA ⟨k, nm, a, b, c, d, e, f, y⟩ = #[.int .i64 k, .string t, .int .i64 a, .int .i64 b, .int .i64 c, .int .i64 d, .int .i64 e, .int .i64 f, .bool y] := by rw [← ht]
  rw [hE] at HM HTe HF HX
  clear hR hE ht x0
  have HS : Hid (∀ W, Below w.heap.size w W → W.cell? ⟨B0, 0, none⟩ = some (.int .i64 k) ∧ W.cell? ⟨B0, 1, none⟩ = some (.string t) ∧ W.cell? ⟨B0, 2, none⟩ = some (.int .i64 a) ∧ W.cell? ⟨B0, 3, none⟩ = some (.int .i64 b) ∧ W.cell? ⟨B0, 4, none⟩ = some (.int .i64 c) ∧ W.cell? ⟨B0, 5, none⟩ = some (.int .i64 d) ∧ W.cell? ⟨B0, 6, none⟩ = some (.int .i64 e) ∧ W.cell? ⟨B0, 7, none⟩ = some (.int .i64 f) ∧ W.cell? ⟨B0, 8, none⟩ = some (.bool y)) := fun W hW => by
    have hx := HF.out W hW
    exact ⟨hx.cell 0, hx.cell 1, hx.cell 2, hx.cell 3, hx.cell 4, hx.cell 5, hx.cell 6, hx.cell 7, hx.cell 8⟩
  obtain ⟨c0, c1, c2, c3, c4, c5, c6, c7, c8⟩ := HS.out w (Below.refl _ _)
  by_cases hm : Ev.may ⟨k, nm, a, b, c, d, e, f, y⟩
  · have HTm := hid (HTe.out hm)
    rw [insC_ok hm] at HM
    have HMy := hid hm
    clear hm HTe
    go_enter Tryz.func26, Tryz.ntmps26
    go_wp2_with (first
      | (go_at_call 27; (with_reducible_and_instances (refine (HM.out w).mono ?_)); rintro r w1 ⟨rfl, hb1⟩; have HB1 := hid hb1; obtain ⟨e0, e1, e2, e3, e4, e5, e6, e7, e8⟩ := HS.out w1 hb1; clear hb1)
      | (go_at_call 28; (with_reducible_and_instances (refine (HTm.out w1).mono ?_)); rintro r w2 ⟨v2, rfl, ho2, hb2⟩; obtain ⟨a2, c2', hv2, hq2, -, -⟩ := ho2.slice R.length rfl; subst hv2; have HO2 := hid ho2; have HB2 := hid (HB1.out.trans (hb2.mono HB1.out.size)); have hs2 := HB1.out.size; clear ho2 hb2 hq2))
    go_ret
    exact ⟨Or.inl ⟨a2, _, c2', rfl, HMy.out, HO2.out.down hs2⟩, HB2.out⟩
  · rw [insC_no hm] at HM
    have HMy := hid hm
    clear hm HTe
    go_enter Tryz.func26, Tryz.ntmps26
    go_wp2_with (go_at_call 27; (with_reducible_and_instances (refine (HM.out w).mono ?_)); rintro r w1 ⟨rfl, hb1⟩; have HB1 := hid hb1; clear hb1)
    exact ⟨rfl, Or.inr ⟨1, rfl, rfl, HMy.out⟩, HB1.out⟩
set_option maxRecDepth 40000 in
set_option maxHeartbeats 2000000 in
theorem putT_any (x : Ev) (w : World) : Calls Tryz.prog 7 #[.agg (evA x)] w fun r w' => (∃ v, r = .returned (.tuple #[v, .int .i64 (if x.may then 0 else 1)]) ∧ Own w' w.heap.size v (if x.may then tellE x else [])) ∧ Below w.heap.size w w' := by
  obtain ⟨W1, hW1⟩ : ∃ W1, w.alloc (.cells (evA x) TEv) = W1 := ⟨_, rfl⟩
  have b1 : Below w.heap.size w W1 := by rw [← hW1]; exact (Below.refl _ _).alloc (Nat.le_refl _) _
  have z1 : W1.heap.size = w.heap.size + 1 := by rw [← hW1]; simp
  have x1 : Blk W1 w.heap.size (evA x) TEv := by rw [← hW1]; exact heap_alloc_new w _
  have b3 : Below W1.heap.size W1 (W1.alloc (.cells #[.int .i64 0] TEn)) := (Below.refl _ _).alloc (Nat.le_refl _) _
  have h1 := put1_any x (x1.later b3)
  rw [World.size_alloc] at h1
  have HA := attemptbyte 26 #[.pointer (some ⟨w.heap.size, 0, none⟩)] W1 enters_put1 (fun ad m c X => x.may ∧ Own X (W1.heap.size + 1) (.slice ad m c) (tellE x)) (fun y => y = 1 ∧ ¬ x.may) (h1.mono (fun r w' hh => by
    obtain ⟨⟨ad, m, c, rfl, hm, ho⟩ | ⟨y, rfl, hy⟩, hb⟩ := hh
    · exact ⟨Or.inl ⟨ad, m, c, rfl, hm, ho⟩, hb⟩
    · exact ⟨Or.inr ⟨y, rfl, hy⟩, hb⟩))
  have HA2 := hid (HA.mono (R' := fun r w' => ∃ v z, r = .returned (.tuple #[v, .int .i64 z]) ∧ Hid (z = (if x.may then 0 else 1) ∧ Own w' w.heap.size v (if x.may then tellE x else []) ∧ Below w.heap.size w w')) (by
    rintro r w' ⟨h | h, hb⟩
    · obtain ⟨X, hch, -, ad, m, c, rfl, hm, ho⟩ := h
      refine ⟨_, 0, rfl, hid ⟨by rw [if_pos hm], ?_, b1.trans (hb.mono b1.size)⟩⟩
      rw [if_pos hm]
      refine Own.down (base := W1.heap.size + 1) ⟨ho.1, ownsR_chg ho.2 hch (fun g hg hm2 => ?_)⟩ (by omega)
      have := own_fromT ho g (by simpa using hg)
      simp at hm2
      omega
    · obtain ⟨y, rfl, rfl, hm⟩ := h
      refine ⟨_, 1, rfl, hid ⟨by rw [if_neg hm], ?_, b1.trans (hb.mono b1.size)⟩⟩
      rw [if_neg hm]
      exact Own.nil _ _))
  have hmf : ∀ (fn : Fn) (first cap : Array Value) (w : World), (Instr.makeFunc fn first cap).run Tryz.prog w = .ok (.func fn first cap) w := fun _ _ _ _ => rfl
  clear b1 z1 x1 b3 h1 HA
  generalize (if x.may then tellE x else []) = R at *
  generalize (if x.may then (0 : Int) else 1) = rc at *
  obtain ⟨k, s, a, b, c, d, e, f, q⟩ := x
  obtain ⟨t, ht⟩ : ∃ t, nmS s = t := ⟨_, rfl⟩
  dsimp only [evA] at *
  rw [ht] at hW1 ⊢
  go_enter Tryz.func7, Tryz.ntmps7
  go_wp2_with (go_at_call 25; (with_reducible_and_instances (refine HA2.out.mono ?_)); rintro r W9 ⟨v, z, rfl, HR⟩)
  refine bodyPost_ret (results_tmp2 Tryz.results7 _ _ _) rfl ⟨⟨v, by rw [← HR.out.1]; rfl, HR.out.2.1⟩, HR.out.2.2⟩
end Go.Proofs.YtiiepmljcjbflaaGreat
