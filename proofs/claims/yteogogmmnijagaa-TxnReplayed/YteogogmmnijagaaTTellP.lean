/- tell and PutEvent of package txn, write and PutEvent of the document's: the bytes of an event (P1602; by gentell16.py). -/
import Derived.Test.YteogogmmnijagaaTByM
import Derived.Test.YteogogmmnijagaaPYJoin
import Derived.Test.YteogogmmnijagaaFrame
import Derived.Test.YteogogmmnijagaaTMay
namespace Go.Proofs.Yteogogmmnijagaa
open Go.RowKit Crcm
variable {w w' : World}

/-- What stands ahead of the j-th number behind kind and yes. -/
def preT (x : Ev) (j : Nat) : List Nat := (spellN x.kind.toNat 1 ++ spellN (yesN x.yes) 1) ++ ((numL x).take j).flatMap (fun n => spellN n.toNat 6)
theorem preT_lt (x : Ev) (j : Nat) : ∀ z ∈ preT x j, z < 256 := by
  intro z hz
  unfold preT at hz
  rw [List.mem_append, List.mem_append, List.mem_flatMap] at hz
  rcases hz with (h | h) | ⟨n, -, h⟩ <;> exact spellN_lt _ _ z h
theorem preT_0 (x : Ev) : preT x 0 = spellN x.kind.toNat 1 ++ spellN (yesN x.yes) 1 := by unfold preT; simp
theorem preT_len (x : Ev) (j : Nat) (h : j ≤ 5) : (preT x j).length = 2 + 6 * j := by
  rcases (show j = 0 ∨ j = 1 ∨ j = 2 ∨ j = 3 ∨ j = 4 ∨ j = 5 by omega) with rfl | rfl | rfl | rfl | rfl | rfl <;> simp [preT, numL, spellN_length]
theorem preT_s (x : Ev) : preT x 1 = preT x 0 ++ spellN x.prod.toNat 6 ∧ preT x 2 = preT x 1 ++ spellN x.ep.toNat 6 ∧ preT x 3 = preT x 2 ++ spellN x.place.toNat 6 ∧ preT x 4 = preT x 3 ++ spellN x.tmo.toNat 6 ∧ preT x 5 = preT x 4 ++ spellN x.now.toNat 6 := by
  refine ⟨?_, ?_, ?_, ?_, ?_⟩ <;> simp [preT, numL]
theorem bodyT_pre (x : Ev) : bodyT x = preT x 5 ++ (spellN (nmS x.name).size 2 ++ sbytes (nmS x.name)) := by
  unfold bodyT preT numL
  simp
theorem own_mkT {base : Nat} {v : Value} {n : Nat} {L : List Nat} (h : w.ownsRow base 5 1 v n (L.map bv)) (hn : L.length = n) (h8 : ∀ z ∈ L, z < 256) : Own w base v L := ⟨h8, by rw [hn]; exact h⟩
theorem own_fromT {base : Nat} {v : Value} {l : List Nat} (h : Own w base v l) : ∀ k, v.ownBlock = some k → base ≤ k := by
  intro k hk
  rcases h.2.2 with ⟨e, -⟩ | ⟨g, cap, cur, e, hgb, -⟩
  · rw [e] at hk; cases hk
  · rw [e] at hk; cases hk; exact hgb
theorem two_own (W : World) (a b : Nat) (ha : a < 256) (hb : b < 256) : Own (W.alloc (.cells #[.int .u8 (a : Int), .int .u8 (b : Int)] 5)) W.heap.size (.slice (some ⟨W.heap.size, 0, none⟩) 2 2) [a, b] := by
  exact ⟨fun z hz => by simp at hz; omega, by simp [bv], Or.inr ⟨W.heap.size, 2, _, rfl, Nat.le_refl _, heap_alloc_new W _, Nat.le_refl _, by unfold maxLen; omega, rfl, rfl⟩⟩
theorem spell1 (n : Nat) (h : n < 256) : spellN n 1 = [n] := by
  have h1 := valN_spellN n 1
  have h2 := spellN_length n 1
  have h3 := spellN_lt n 1
  match hl : spellN n 1, h2 with
  | [z], _ =>
    rw [hl] at h1 h3
    simp [valN] at h1
    have := h3 z (by simp)
    rw [h1]
    congr 1
    omega
theorem spellT_any (n size : Nat) (h1 : 1 ≤ size) (h6 : size ≤ 6) (h : n < 2 ^ (8 * size)) (w : World) : Calls Try.prog 38 #[.int .i64 (n : Int), .int .i64 (size : Int)] w fun e w' => ∃ v, e = .returned v ∧ Own w' w.heap.size v (spellN n size) ∧ Below w.heap.size w w' := by
  have HP := hid (put_any (n : Int) (size : Int) w)
  rw [putN_ok n size h1 h6 h] at HP
  dsimp only at HP
  go_enter Try.func38, Try.ntmps38
  go_wp2_with (go_at_call 53; (with_reducible_and_instances (refine HP.out.mono ?_)); rintro x w1 ⟨v1, rfl, ho1, hb1⟩; have HO1 := hid ho1; have HB1 := hid hb1; clear ho1 hb1)
  go_ret
  exact ⟨_, rfl, HO1.out, HB1.out⟩
theorem yes_tgl (y : Bool) : (if y = true then (1 : Int) else 0) = (yesN y : Int) := by cases y <;> rfl
set_option maxRecDepth 100000 in
set_option maxHeartbeats 8000000 in
theorem tell_any (x : Ev) (hf : FitE x) (w : World) : Calls Try.prog 19 #[.agg (evA x)] w fun r w' => ∃ v, r = .returned v ∧ Own w' w.heap.size v (tellE x) ∧ Below w.heap.size w w' := by
  have HPl := hid (preT_len x)
  have HLt := hid (preT_lt x)
  have HPs := hid (preT_s x)
  have HP0 := hid (preT_0 x)
  have HBo := hid (bodyT_pre x)
  have hbl := bodyT_len x
  have HTe : Hid (tellE x = frameBs 33 (bodyT x)) := hid rfl
  obtain ⟨k, nm, a, b, c, d, e, y⟩ := x
  obtain ⟨hk, ha, hb, hc, hd, he, hn⟩ := hf
  dsimp only at hk ha hb hc hd he hn
  obtain ⟨k, rfl⟩ := Int.eq_ofNat_of_zero_le hk.1
  obtain ⟨a, rfl⟩ := Int.eq_ofNat_of_zero_le ha.1
  obtain ⟨b, rfl⟩ := Int.eq_ofNat_of_zero_le hb.1
  obtain ⟨c, rfl⟩ := Int.eq_ofNat_of_zero_le hc.1
  obtain ⟨d, rfl⟩ := Int.eq_ofNat_of_zero_le hd.1
  obtain ⟨e, rfl⟩ := Int.eq_ofNat_of_zero_le he.1
  have hk2 : k < 256 := by omega
  have hbl2 : (bodyT ⟨(k : Int), nm, (a : Int), (b : Int), (c : Int), (d : Int), (e : Int), y⟩).length ≤ 98 := by rw [hbl]; show 34 + nm.length ≤ 98; omega
  obtain ⟨bd, hbd⟩ : ∃ bd, bodyT ⟨(k : Int), nm, (a : Int), (b : Int), (c : Int), (d : Int), (e : Int), y⟩ = bd := ⟨_, rfl⟩
  rw [hbd] at HBo HTe hbl2
  obtain ⟨pr, hpr⟩ : ∃ pr, preT ⟨(k : Int), nm, (a : Int), (b : Int), (c : Int), (d : Int), (e : Int), y⟩ = pr := ⟨_, rfl⟩
  rw [hpr] at HPl HLt HPs HP0 HBo
  dsimp only [Int.toNat_natCast] at HPs HP0
  obtain ⟨t, ht⟩ : ∃ t, nmS nm = t := ⟨_, rfl⟩
  have htz : t.size ≤ 64 := by rw [← ht, nmS_size]; exact hn
  have hTx := textN_ok t (by omega)
  have HBo2 : Hid (bd = pr 5 ++ (textN t).2) := by rw [hTx, ← ht]; exact HBo.out
  have HFr : Hid (frameN 33 bd = (0, tellE ⟨(k : Int), nm, (a : Int), (b : Int), (c : Int), (d : Int), (e : Int), y⟩)) := by rw [HTe.out]; exact frameN_ok 33 bd (by omega) (by omega)
  have hyl : yesN y < 256 := by unfold yesN; split <;> omega
  have HF0 : Hid (pr 0 = [k, yesN y]) := by rw [HP0.out, spell1 k hk2, spell1 _ hyl]; rfl
  have HSp := hid (fun (n s : Nat) (h1 : 1 ≤ s) (h6 : s ≤ 6) (h : n < 2 ^ (8 * s)) (W : World) => spellT_any n s h1 h6 h W)
  have HTx := hid (fun W => text_any t W (by unfold maxLen; omega))
  have HTl : Hid ((textN t).2.length = 2 + t.size) := hid (by rw [hTx]; simp [spellN_length, sbytes_length])
  have HTy : Hid (∀ z ∈ (textN t).2, z < 256) := by
    rw [hTx]
    intro z hz
    rcases List.mem_append.1 hz with h | h
    · exact spellN_lt _ _ z h
    · exact sbytes_lt _ z h
  show Calls Try.prog 19 #[.agg #[.int .i64 (k : Int), .string (nmS nm), .int .i64 (a : Int), .int .i64 (b : Int), .int .i64 (c : Int), .int .i64 (d : Int), .int .i64 (e : Int), .bool y]] w _
  rw [ht]
  obtain ⟨R, hR⟩ : ∃ R, tellE ⟨(k : Int), nm, (a : Int), (b : Int), (c : Int), (d : Int), (e : Int), y⟩ = R := ⟨_, rfl⟩
  rw [hR] at HFr
  have hGoal : ∀ (Q : List Nat → Prop), Q R → Q (tellE ⟨(k : Int), nm, (a : Int), (b : Int), (c : Int), (d : Int), (e : Int), y⟩) := fun Q h => by rw [hR]; exact h
  rw [hR]
  have hkw : IntKind.u8.wrap (k : Int) = (k : Int) := by rw [IntKind.wrap_u8]; omega
  have HNu : Hid (∀ W, Calls Try.prog 27 #[.agg #[.int .i64 (k : Int), .string t, .int .i64 (a : Int), .int .i64 (b : Int), .int .i64 (c : Int), .int .i64 (d : Int), .int .i64 (e : Int), .bool y]] W fun e9 w' => e9 = .returned (.agg #[.int .i64 (a : Int), .int .i64 (b : Int), .int .i64 (c : Int), .int .i64 (d : Int), .int .i64 (e : Int)]) ∧ Below W.heap.size W w') := fun W => by
    have h := numbers_any ⟨(k : Int), nm, (a : Int), (b : Int), (c : Int), (d : Int), (e : Int), y⟩ W
    rw [← ht]
    exact h
  obtain ⟨W0, hW0⟩ : ∃ W0, w.alloc (.cells #[.int .i64 (k : Int), .string t, .int .i64 (a : Int), .int .i64 (b : Int), .int .i64 (c : Int), .int .i64 (d : Int), .int .i64 (e : Int), .bool y] TEv) = W0 := ⟨_, rfl⟩
  have b0 : Below w.heap.size w W0 := by rw [← hW0]; exact (Below.refl _ _).alloc (Nat.le_refl _) _
  have x0 : Blk W0 w.heap.size #[.int .i64 (k : Int), .string t, .int .i64 (a : Int), .int .i64 (b : Int), .int .i64 (c : Int), .int .i64 (d : Int), .int .i64 (e : Int), .bool y] TEv := by rw [← hW0]; exact heap_alloc_new w _
  have HB0 := hid b0
  have HS : Hid (∀ W, Below W0.heap.size W0 W → W.cell? ⟨w.heap.size, 0, none⟩ = some (.int .i64 (k : Int)) ∧ W.cell? ⟨w.heap.size, 1, none⟩ = some (.string t) ∧ W.cell? ⟨w.heap.size, 2, none⟩ = some (.int .i64 (a : Int)) ∧ W.cell? ⟨w.heap.size, 3, none⟩ = some (.int .i64 (b : Int)) ∧ W.cell? ⟨w.heap.size, 4, none⟩ = some (.int .i64 (c : Int)) ∧ W.cell? ⟨w.heap.size, 5, none⟩ = some (.int .i64 (d : Int)) ∧ W.cell? ⟨w.heap.size, 6, none⟩ = some (.int .i64 (e : Int)) ∧ W.cell? ⟨w.heap.size, 7, none⟩ = some (.bool y)) := fun W hW => by
    have hx := x0.later hW
    exact ⟨hx.cell 0, hx.cell 1, hx.cell 2, hx.cell 3, hx.cell 4, hx.cell 5, hx.cell 6, hx.cell 7⟩
  have HHb : Hid (a < 281474976710656 ∧ b < 281474976710656 ∧ c < 281474976710656 ∧ d < 281474976710656 ∧ e < 281474976710656 ∧ k < 256 ∧ yesN y < 256 ∧ t.size ≤ 64 ∧ bd.length ≤ 98) := ⟨by omega, by omega, by omega, by omega, by omega, hk2, hyl, htz, hbl2⟩
  obtain ⟨c0, c1, c2, c3, c4, c5, c6, c7⟩ := HS.out W0 (Below.refl _ _)
  clear b0 x0 hbl hbd hpr ht hTx hk ha hb hc hd he hn hyl htz hbl2 hGoal hR hk2 HBo HP0
  cases y with
  | false =>
    go_enter Try.func19, Try.ntmps19
    have HK1 : Hid (∀ W, Calls Try.prog 38 #[.int .i64 (k : Int), .int .i64 1] W fun e9 w' => ∃ v, e9 = .returned v ∧ Own w' W.heap.size v (spellN k 1) ∧ Below W.heap.size W w') := fun W => HSp.out k 1 (by omega) (by omega) (by have := HHb.out; omega) W
    have HY1 : Hid (∀ W, Calls Try.prog 38 #[.int .i64 0, .int .i64 1] W fun e9 w' => ∃ v, e9 = .returned v ∧ Own w' W.heap.size v (spellN 0 1) ∧ Below W.heap.size W w') := fun W => HSp.out 0 1 (by omega) (by omega) (by omega) W
    go_wp2_with (first
      | (go_at_call 38; (with_reducible_and_instances (refine (HK1.out W0).mono ?_)); rintro r w1 ⟨v1, rfl, ho1, hb1⟩; have HO1 := hid ho1; have HB1 := hid hb1; have HY2 := hid (HY1.out w1); clear ho1 hb1 HK1)
      | (go_at_call 38; (with_reducible_and_instances (refine HY2.out.mono ?_)); rintro r w2 ⟨v2, rfl, ho2, hb2⟩; have HO1' := hid (HO1.out.later hb2); obtain ⟨a2, m2c, hv2, hq2, -, -⟩ := ho2.slice 1 (spellN_length _ _); subst hv2; have HQ2 := hid hq2; have HB2 := hid (HB1.out.trans (hb2.mono HB1.out.size)); have HO2 := hid ho2; clear ho2 hb2 hq2)
      | (at_builtin; refine app_any rfl (.tmp 15) (.tmp 17) rfl W0.heap.size v1 1 (spellN k 1) rfl (by have h := HO1'.out.2; rw [spellN_length] at h; exact h) a2 1 m2c (spellN 0 1) rfl (spellN_length _ _) HQ2.out.2.1 HQ2.out.2.2 (by omega) HB2.out.size ?_; intro v3 w3 ho3 hg3; have HB3 := hid (HB2.out.grown hg3 HB2.out.size (fun q hq => own_fromT HO1'.out q hq)); have HO3 : Hid (Own w3 W0.heap.size v3 (pr 0)) := by { rw [HF0.out]; have h := own_mkT ho3 (by simp [spellN_length]) (fun z hz => by rcases List.mem_append.1 hz with h | h <;> exact spellN_lt _ _ z h); rw [spell1 k HHb.out.2.2.2.2.2.1, spell1 0 (by omega)] at h; exact h }; obtain ⟨e0, e1, e2, e3, e4, e5, e6, e7⟩ := HS.out w3 HB3.out; clear ho3 hg3)
      | (go_at_call 27; (with_reducible_and_instances (refine (HNu.out w3).mono ?_)); rintro r w4 ⟨rfl, hb4⟩; have HB4 := hid (HB3.out.trans (hb4.mono HB3.out.size)); have HO4 := hid (HO3.out.later hb4); clear hb4))
    obtain ⟨a4, n4c, hv4, hq4, -, -⟩ := HO4.out.slice 2 (HPl.out 0 (by omega))
    subst hv4
    clear hq4
    go_loopw [4, 21] (fun bv_ iv wr => ∃ (j : Nat) (aj : Option Addr) (cj : Nat), j ≤ 5 ∧ iv = .int .i64 (j : Int) ∧ bv_ = .slice aj (2 + 6 * j) cj ∧ Hid (Own wr W0.heap.size (.slice aj (2 + 6 * j) cj) (pr j) ∧ Below W0.heap.size W0 wr)) (fun _ iv _ => 5 - (intOf iv).toNat)
    case atStart => exact ⟨0, a4, n4c, by omega, rfl, rfl, ⟨HO4.out, HB4.out⟩⟩
    case round =>
      obtain ⟨j, aj, cj, hj, rfl, rfl, HI⟩ := hrel
      obtain ⟨wo, rfl⟩ : ∃ q, q = wr := ⟨wr, rfl⟩
      have hws := HI.out.2.size
      clear c0 c1 c2 c3 c4 c5 c6 c7
      obtain ⟨c0, c1, c2, c3, c4, c5, c6, c7⟩ := HS.out wo HI.out.2
      obtain ⟨i0, i1, i2, i3, i4⟩ := idx_at (a : Int) (b : Int) (c : Int) (d : Int) (e : Int) wo
      rcases (show j = 0 ∨ j = 1 ∨ j = 2 ∨ j = 3 ∨ j = 4 ∨ j = 5 by omega) with rfl | rfl | rfl | rfl | rfl | rfl
      · have HSj : Hid (Calls Try.prog 38 #[.int .i64 (a : Int), .int .i64 6] wo fun e9 w' => ∃ v, e9 = .returned v ∧ Own w' wo.heap.size v (spellN a 6) ∧ Below wo.heap.size wo w') := HSp.out a 6 (by omega) (by omega) (by have := HHb.out.1; omega) wo
        go_wp2_with (first
          | (go_at_call 38; (with_reducible_and_instances (refine HSj.out.mono ?_)); rintro r w5 ⟨v5, rfl, ho5, hb5⟩; obtain ⟨a5, c5', hv5, hq5, -, -⟩ := ho5.slice 6 (spellN_length _ _); subst hv5; have HQ5 := hid hq5; have HO5 := hid (HI.out.1.later hb5); have HB5 := hid (HI.out.2.trans (hb5.mono HI.out.2.size)); clear ho5 hb5 hq5)
          | (at_builtin; refine app_any rfl (.tmp 24) (.tmp 26) rfl W0.heap.size (.slice aj (2 + 6 * 0) cj) (2 + 6 * 0) (pr 0) rfl (by have h := HO5.out.2; rw [HPl.out 0 (by omega)] at h; exact h) a5 6 c5' (spellN a 6) rfl (spellN_length _ _) HQ5.out.2.1 HQ5.out.2.2 (by omega) HB5.out.size ?_; intro v6 w6 ho6 hg6; have HB6 := hid (HB5.out.grown hg6 HB5.out.size (fun q hq => own_fromT HO5.out q hq)); have HO6 : Hid (Own w6 W0.heap.size v6 (pr 1)) := by { rw [HPs.out.1]; exact own_mkT ho6 (by rw [List.length_append, HPl.out 0 (by omega), spellN_length]) (fun z hz => (List.mem_append.1 hz).elim (HLt.out 0 z) (spellN_lt _ _ z)) }; obtain ⟨a6, c6', hv6, -, -, -⟩ := HO6.out.slice (2 + 6 * 1) (HPl.out 1 (by omega)); subst hv6; clear ho6 hg6))
        exact ⟨⟨1, a6, c6', by omega, by go_num, rfl, ⟨HO6.out, HB6.out⟩⟩, by simp [intOf]⟩
      · have HSj : Hid (Calls Try.prog 38 #[.int .i64 (b : Int), .int .i64 6] wo fun e9 w' => ∃ v, e9 = .returned v ∧ Own w' wo.heap.size v (spellN b 6) ∧ Below wo.heap.size wo w') := HSp.out b 6 (by omega) (by omega) (by have := HHb.out.2.1; omega) wo
        go_wp2_with (first
          | (go_at_call 38; (with_reducible_and_instances (refine HSj.out.mono ?_)); rintro r w5 ⟨v5, rfl, ho5, hb5⟩; obtain ⟨a5, c5', hv5, hq5, -, -⟩ := ho5.slice 6 (spellN_length _ _); subst hv5; have HQ5 := hid hq5; have HO5 := hid (HI.out.1.later hb5); have HB5 := hid (HI.out.2.trans (hb5.mono HI.out.2.size)); clear ho5 hb5 hq5)
          | (at_builtin; refine app_any rfl (.tmp 24) (.tmp 26) rfl W0.heap.size (.slice aj (2 + 6 * 1) cj) (2 + 6 * 1) (pr 1) rfl (by have h := HO5.out.2; rw [HPl.out 1 (by omega)] at h; exact h) a5 6 c5' (spellN b 6) rfl (spellN_length _ _) HQ5.out.2.1 HQ5.out.2.2 (by omega) HB5.out.size ?_; intro v6 w6 ho6 hg6; have HB6 := hid (HB5.out.grown hg6 HB5.out.size (fun q hq => own_fromT HO5.out q hq)); have HO6 : Hid (Own w6 W0.heap.size v6 (pr 2)) := by { rw [HPs.out.2.1]; exact own_mkT ho6 (by rw [List.length_append, HPl.out 1 (by omega), spellN_length]) (fun z hz => (List.mem_append.1 hz).elim (HLt.out 1 z) (spellN_lt _ _ z)) }; obtain ⟨a6, c6', hv6, -, -, -⟩ := HO6.out.slice (2 + 6 * 2) (HPl.out 2 (by omega)); subst hv6; clear ho6 hg6))
        exact ⟨⟨2, a6, c6', by omega, by go_num, rfl, ⟨HO6.out, HB6.out⟩⟩, by simp [intOf]⟩
      · have HSj : Hid (Calls Try.prog 38 #[.int .i64 (c : Int), .int .i64 6] wo fun e9 w' => ∃ v, e9 = .returned v ∧ Own w' wo.heap.size v (spellN c 6) ∧ Below wo.heap.size wo w') := HSp.out c 6 (by omega) (by omega) (by have := HHb.out.2.2.1; omega) wo
        go_wp2_with (first
          | (go_at_call 38; (with_reducible_and_instances (refine HSj.out.mono ?_)); rintro r w5 ⟨v5, rfl, ho5, hb5⟩; obtain ⟨a5, c5', hv5, hq5, -, -⟩ := ho5.slice 6 (spellN_length _ _); subst hv5; have HQ5 := hid hq5; have HO5 := hid (HI.out.1.later hb5); have HB5 := hid (HI.out.2.trans (hb5.mono HI.out.2.size)); clear ho5 hb5 hq5)
          | (at_builtin; refine app_any rfl (.tmp 24) (.tmp 26) rfl W0.heap.size (.slice aj (2 + 6 * 2) cj) (2 + 6 * 2) (pr 2) rfl (by have h := HO5.out.2; rw [HPl.out 2 (by omega)] at h; exact h) a5 6 c5' (spellN c 6) rfl (spellN_length _ _) HQ5.out.2.1 HQ5.out.2.2 (by omega) HB5.out.size ?_; intro v6 w6 ho6 hg6; have HB6 := hid (HB5.out.grown hg6 HB5.out.size (fun q hq => own_fromT HO5.out q hq)); have HO6 : Hid (Own w6 W0.heap.size v6 (pr 3)) := by { rw [HPs.out.2.2.1]; exact own_mkT ho6 (by rw [List.length_append, HPl.out 2 (by omega), spellN_length]) (fun z hz => (List.mem_append.1 hz).elim (HLt.out 2 z) (spellN_lt _ _ z)) }; obtain ⟨a6, c6', hv6, -, -, -⟩ := HO6.out.slice (2 + 6 * 3) (HPl.out 3 (by omega)); subst hv6; clear ho6 hg6))
        exact ⟨⟨3, a6, c6', by omega, by go_num, rfl, ⟨HO6.out, HB6.out⟩⟩, by simp [intOf]⟩
      · have HSj : Hid (Calls Try.prog 38 #[.int .i64 (d : Int), .int .i64 6] wo fun e9 w' => ∃ v, e9 = .returned v ∧ Own w' wo.heap.size v (spellN d 6) ∧ Below wo.heap.size wo w') := HSp.out d 6 (by omega) (by omega) (by have := HHb.out.2.2.2.1; omega) wo
        go_wp2_with (first
          | (go_at_call 38; (with_reducible_and_instances (refine HSj.out.mono ?_)); rintro r w5 ⟨v5, rfl, ho5, hb5⟩; obtain ⟨a5, c5', hv5, hq5, -, -⟩ := ho5.slice 6 (spellN_length _ _); subst hv5; have HQ5 := hid hq5; have HO5 := hid (HI.out.1.later hb5); have HB5 := hid (HI.out.2.trans (hb5.mono HI.out.2.size)); clear ho5 hb5 hq5)
          | (at_builtin; refine app_any rfl (.tmp 24) (.tmp 26) rfl W0.heap.size (.slice aj (2 + 6 * 3) cj) (2 + 6 * 3) (pr 3) rfl (by have h := HO5.out.2; rw [HPl.out 3 (by omega)] at h; exact h) a5 6 c5' (spellN d 6) rfl (spellN_length _ _) HQ5.out.2.1 HQ5.out.2.2 (by omega) HB5.out.size ?_; intro v6 w6 ho6 hg6; have HB6 := hid (HB5.out.grown hg6 HB5.out.size (fun q hq => own_fromT HO5.out q hq)); have HO6 : Hid (Own w6 W0.heap.size v6 (pr 4)) := by { rw [HPs.out.2.2.2.1]; exact own_mkT ho6 (by rw [List.length_append, HPl.out 3 (by omega), spellN_length]) (fun z hz => (List.mem_append.1 hz).elim (HLt.out 3 z) (spellN_lt _ _ z)) }; obtain ⟨a6, c6', hv6, -, -, -⟩ := HO6.out.slice (2 + 6 * 4) (HPl.out 4 (by omega)); subst hv6; clear ho6 hg6))
        exact ⟨⟨4, a6, c6', by omega, by go_num, rfl, ⟨HO6.out, HB6.out⟩⟩, by simp [intOf]⟩
      · have HSj : Hid (Calls Try.prog 38 #[.int .i64 (e : Int), .int .i64 6] wo fun e9 w' => ∃ v, e9 = .returned v ∧ Own w' wo.heap.size v (spellN e 6) ∧ Below wo.heap.size wo w') := HSp.out e 6 (by omega) (by omega) (by have := HHb.out.2.2.2.2.1; omega) wo
        go_wp2_with (first
          | (go_at_call 38; (with_reducible_and_instances (refine HSj.out.mono ?_)); rintro r w5 ⟨v5, rfl, ho5, hb5⟩; obtain ⟨a5, c5', hv5, hq5, -, -⟩ := ho5.slice 6 (spellN_length _ _); subst hv5; have HQ5 := hid hq5; have HO5 := hid (HI.out.1.later hb5); have HB5 := hid (HI.out.2.trans (hb5.mono HI.out.2.size)); clear ho5 hb5 hq5)
          | (at_builtin; refine app_any rfl (.tmp 24) (.tmp 26) rfl W0.heap.size (.slice aj (2 + 6 * 4) cj) (2 + 6 * 4) (pr 4) rfl (by have h := HO5.out.2; rw [HPl.out 4 (by omega)] at h; exact h) a5 6 c5' (spellN e 6) rfl (spellN_length _ _) HQ5.out.2.1 HQ5.out.2.2 (by omega) HB5.out.size ?_; intro v6 w6 ho6 hg6; have HB6 := hid (HB5.out.grown hg6 HB5.out.size (fun q hq => own_fromT HO5.out q hq)); have HO6 : Hid (Own w6 W0.heap.size v6 (pr 5)) := by { rw [HPs.out.2.2.2.2]; exact own_mkT ho6 (by rw [List.length_append, HPl.out 4 (by omega), spellN_length]) (fun z hz => (List.mem_append.1 hz).elim (HLt.out 4 z) (spellN_lt _ _ z)) }; obtain ⟨a6, c6', hv6, -, -, -⟩ := HO6.out.slice (2 + 6 * 5) (HPl.out 5 (by omega)); subst hv6; clear ho6 hg6))
        exact ⟨⟨5, a6, c6', by omega, by go_num, rfl, ⟨HO6.out, HB6.out⟩⟩, by simp [intOf]⟩
      · have HTw := hid (HTx.out wo)
        go_wp2_with (first
          | (go_at_call 39; (with_reducible_and_instances (refine HTw.out.mono ?_)); rintro r w7 ⟨v7, rfl, ho7, hb7⟩; obtain ⟨a7, c7', hv7, hq7, -, -⟩ := ho7.slice (2 + t.size) HTl.out; subst hv7; have HQ7 := hid hq7; have HO7 := hid (HI.out.1.later hb7); have HB7 := hid (HI.out.2.trans (hb7.mono HI.out.2.size)); clear ho7 hb7 hq7)
          | (at_builtin; refine app_any rfl (.tmp 36) (.tmp 37) rfl W0.heap.size (.slice aj (2 + 6 * 5) cj) (2 + 6 * 5) (pr 5) rfl (by have h := HO7.out.2; rw [HPl.out 5 (by omega)] at h; exact h) a7 (2 + t.size) c7' (textN t).2 rfl HTl.out HQ7.out.2.1 HQ7.out.2.2 (by have := HHb.out; omega) HB7.out.size ?_; intro v8 w8 ho8 hg8; have HB8 := hid (HB7.out.grown hg8 HB7.out.size (fun q hq => own_fromT HO7.out q hq)); have HO8 : Hid (Own w8 W0.heap.size v8 bd) := by { rw [HBo2.out]; exact own_mkT ho8 (by rw [List.length_append, HPl.out 5 (by omega), HTl.out]) (fun z hz => (List.mem_append.1 hz).elim (HLt.out 5 z) (HTy.out z)) }; obtain ⟨a8, c8', hv8, hq8, -, -⟩ := HO8.out.slice bd.length rfl; subst hv8; have HFw := hid (frame_any 33 a8 bd.length c8' bd w8 hq8 (by have := HHb.out; unfold maxLen; omega)); clear ho8 hg8 hq8)
          | (go_at_call 40; (with_reducible_and_instances (refine HFw.out.mono ?_)); rintro r w9 ⟨v9, rfl, ho9, hb9⟩; rw [HFr.out] at ho9; have HO9 := hid ho9; have HB9 := hid (HB8.out.trans (hb9.mono HB8.out.size)); clear ho9 hb9))
        go_ret
        exact ⟨_, rfl, HO9.out.down (by have h1 := HB8.out.size; have h2 := HB0.out.size; omega), HB0.out.trans (HB9.out.mono HB0.out.size)⟩
  | true =>
    go_enter Try.func19, Try.ntmps19
    have HK1 : Hid (∀ W, Calls Try.prog 38 #[.int .i64 (k : Int), .int .i64 1] W fun e9 w' => ∃ v, e9 = .returned v ∧ Own w' W.heap.size v (spellN k 1) ∧ Below W.heap.size W w') := fun W => HSp.out k 1 (by omega) (by omega) (by have := HHb.out; omega) W
    have HY1 : Hid (∀ W, Calls Try.prog 38 #[.int .i64 1, .int .i64 1] W fun e9 w' => ∃ v, e9 = .returned v ∧ Own w' W.heap.size v (spellN 1 1) ∧ Below W.heap.size W w') := fun W => HSp.out 1 1 (by omega) (by omega) (by omega) W
    go_wp2_with (first
      | (go_at_call 38; (with_reducible_and_instances (refine (HK1.out W0).mono ?_)); rintro r w1 ⟨v1, rfl, ho1, hb1⟩; have HO1 := hid ho1; have HB1 := hid hb1; have HY2 := hid (HY1.out w1); clear ho1 hb1 HK1)
      | (go_at_call 38; (with_reducible_and_instances (refine HY2.out.mono ?_)); rintro r w2 ⟨v2, rfl, ho2, hb2⟩; have HO1' := hid (HO1.out.later hb2); obtain ⟨a2, m2c, hv2, hq2, -, -⟩ := ho2.slice 1 (spellN_length _ _); subst hv2; have HQ2 := hid hq2; have HB2 := hid (HB1.out.trans (hb2.mono HB1.out.size)); have HO2 := hid ho2; clear ho2 hb2 hq2)
      | (at_builtin; refine app_any rfl (.tmp 15) (.tmp 17) rfl W0.heap.size v1 1 (spellN k 1) rfl (by have h := HO1'.out.2; rw [spellN_length] at h; exact h) a2 1 m2c (spellN 1 1) rfl (spellN_length _ _) HQ2.out.2.1 HQ2.out.2.2 (by omega) HB2.out.size ?_; intro v3 w3 ho3 hg3; have HB3 := hid (HB2.out.grown hg3 HB2.out.size (fun q hq => own_fromT HO1'.out q hq)); have HO3 : Hid (Own w3 W0.heap.size v3 (pr 0)) := by { rw [HF0.out]; have h := own_mkT ho3 (by simp [spellN_length]) (fun z hz => by rcases List.mem_append.1 hz with h | h <;> exact spellN_lt _ _ z h); rw [spell1 k HHb.out.2.2.2.2.2.1, spell1 1 (by omega)] at h; exact h }; obtain ⟨e0, e1, e2, e3, e4, e5, e6, e7⟩ := HS.out w3 HB3.out; clear ho3 hg3)
      | (go_at_call 27; (with_reducible_and_instances (refine (HNu.out w3).mono ?_)); rintro r w4 ⟨rfl, hb4⟩; have HB4 := hid (HB3.out.trans (hb4.mono HB3.out.size)); have HO4 := hid (HO3.out.later hb4); clear hb4))
    obtain ⟨a4, n4c, hv4, hq4, -, -⟩ := HO4.out.slice 2 (HPl.out 0 (by omega))
    subst hv4
    clear hq4
    go_loopw [4, 21] (fun bv_ iv wr => ∃ (j : Nat) (aj : Option Addr) (cj : Nat), j ≤ 5 ∧ iv = .int .i64 (j : Int) ∧ bv_ = .slice aj (2 + 6 * j) cj ∧ Hid (Own wr W0.heap.size (.slice aj (2 + 6 * j) cj) (pr j) ∧ Below W0.heap.size W0 wr)) (fun _ iv _ => 5 - (intOf iv).toNat)
    case atStart => exact ⟨0, a4, n4c, by omega, rfl, rfl, ⟨HO4.out, HB4.out⟩⟩
    case round =>
      obtain ⟨j, aj, cj, hj, rfl, rfl, HI⟩ := hrel
      obtain ⟨wo, rfl⟩ : ∃ q, q = wr := ⟨wr, rfl⟩
      have hws := HI.out.2.size
      clear c0 c1 c2 c3 c4 c5 c6 c7
      obtain ⟨c0, c1, c2, c3, c4, c5, c6, c7⟩ := HS.out wo HI.out.2
      obtain ⟨i0, i1, i2, i3, i4⟩ := idx_at (a : Int) (b : Int) (c : Int) (d : Int) (e : Int) wo
      rcases (show j = 0 ∨ j = 1 ∨ j = 2 ∨ j = 3 ∨ j = 4 ∨ j = 5 by omega) with rfl | rfl | rfl | rfl | rfl | rfl
      · have HSj : Hid (Calls Try.prog 38 #[.int .i64 (a : Int), .int .i64 6] wo fun e9 w' => ∃ v, e9 = .returned v ∧ Own w' wo.heap.size v (spellN a 6) ∧ Below wo.heap.size wo w') := HSp.out a 6 (by omega) (by omega) (by have := HHb.out.1; omega) wo
        go_wp2_with (first
          | (go_at_call 38; (with_reducible_and_instances (refine HSj.out.mono ?_)); rintro r w5 ⟨v5, rfl, ho5, hb5⟩; obtain ⟨a5, c5', hv5, hq5, -, -⟩ := ho5.slice 6 (spellN_length _ _); subst hv5; have HQ5 := hid hq5; have HO5 := hid (HI.out.1.later hb5); have HB5 := hid (HI.out.2.trans (hb5.mono HI.out.2.size)); clear ho5 hb5 hq5)
          | (at_builtin; refine app_any rfl (.tmp 24) (.tmp 26) rfl W0.heap.size (.slice aj (2 + 6 * 0) cj) (2 + 6 * 0) (pr 0) rfl (by have h := HO5.out.2; rw [HPl.out 0 (by omega)] at h; exact h) a5 6 c5' (spellN a 6) rfl (spellN_length _ _) HQ5.out.2.1 HQ5.out.2.2 (by omega) HB5.out.size ?_; intro v6 w6 ho6 hg6; have HB6 := hid (HB5.out.grown hg6 HB5.out.size (fun q hq => own_fromT HO5.out q hq)); have HO6 : Hid (Own w6 W0.heap.size v6 (pr 1)) := by { rw [HPs.out.1]; exact own_mkT ho6 (by rw [List.length_append, HPl.out 0 (by omega), spellN_length]) (fun z hz => (List.mem_append.1 hz).elim (HLt.out 0 z) (spellN_lt _ _ z)) }; obtain ⟨a6, c6', hv6, -, -, -⟩ := HO6.out.slice (2 + 6 * 1) (HPl.out 1 (by omega)); subst hv6; clear ho6 hg6))
        exact ⟨⟨1, a6, c6', by omega, by go_num, rfl, ⟨HO6.out, HB6.out⟩⟩, by simp [intOf]⟩
      · have HSj : Hid (Calls Try.prog 38 #[.int .i64 (b : Int), .int .i64 6] wo fun e9 w' => ∃ v, e9 = .returned v ∧ Own w' wo.heap.size v (spellN b 6) ∧ Below wo.heap.size wo w') := HSp.out b 6 (by omega) (by omega) (by have := HHb.out.2.1; omega) wo
        go_wp2_with (first
          | (go_at_call 38; (with_reducible_and_instances (refine HSj.out.mono ?_)); rintro r w5 ⟨v5, rfl, ho5, hb5⟩; obtain ⟨a5, c5', hv5, hq5, -, -⟩ := ho5.slice 6 (spellN_length _ _); subst hv5; have HQ5 := hid hq5; have HO5 := hid (HI.out.1.later hb5); have HB5 := hid (HI.out.2.trans (hb5.mono HI.out.2.size)); clear ho5 hb5 hq5)
          | (at_builtin; refine app_any rfl (.tmp 24) (.tmp 26) rfl W0.heap.size (.slice aj (2 + 6 * 1) cj) (2 + 6 * 1) (pr 1) rfl (by have h := HO5.out.2; rw [HPl.out 1 (by omega)] at h; exact h) a5 6 c5' (spellN b 6) rfl (spellN_length _ _) HQ5.out.2.1 HQ5.out.2.2 (by omega) HB5.out.size ?_; intro v6 w6 ho6 hg6; have HB6 := hid (HB5.out.grown hg6 HB5.out.size (fun q hq => own_fromT HO5.out q hq)); have HO6 : Hid (Own w6 W0.heap.size v6 (pr 2)) := by { rw [HPs.out.2.1]; exact own_mkT ho6 (by rw [List.length_append, HPl.out 1 (by omega), spellN_length]) (fun z hz => (List.mem_append.1 hz).elim (HLt.out 1 z) (spellN_lt _ _ z)) }; obtain ⟨a6, c6', hv6, -, -, -⟩ := HO6.out.slice (2 + 6 * 2) (HPl.out 2 (by omega)); subst hv6; clear ho6 hg6))
        exact ⟨⟨2, a6, c6', by omega, by go_num, rfl, ⟨HO6.out, HB6.out⟩⟩, by simp [intOf]⟩
      · have HSj : Hid (Calls Try.prog 38 #[.int .i64 (c : Int), .int .i64 6] wo fun e9 w' => ∃ v, e9 = .returned v ∧ Own w' wo.heap.size v (spellN c 6) ∧ Below wo.heap.size wo w') := HSp.out c 6 (by omega) (by omega) (by have := HHb.out.2.2.1; omega) wo
        go_wp2_with (first
          | (go_at_call 38; (with_reducible_and_instances (refine HSj.out.mono ?_)); rintro r w5 ⟨v5, rfl, ho5, hb5⟩; obtain ⟨a5, c5', hv5, hq5, -, -⟩ := ho5.slice 6 (spellN_length _ _); subst hv5; have HQ5 := hid hq5; have HO5 := hid (HI.out.1.later hb5); have HB5 := hid (HI.out.2.trans (hb5.mono HI.out.2.size)); clear ho5 hb5 hq5)
          | (at_builtin; refine app_any rfl (.tmp 24) (.tmp 26) rfl W0.heap.size (.slice aj (2 + 6 * 2) cj) (2 + 6 * 2) (pr 2) rfl (by have h := HO5.out.2; rw [HPl.out 2 (by omega)] at h; exact h) a5 6 c5' (spellN c 6) rfl (spellN_length _ _) HQ5.out.2.1 HQ5.out.2.2 (by omega) HB5.out.size ?_; intro v6 w6 ho6 hg6; have HB6 := hid (HB5.out.grown hg6 HB5.out.size (fun q hq => own_fromT HO5.out q hq)); have HO6 : Hid (Own w6 W0.heap.size v6 (pr 3)) := by { rw [HPs.out.2.2.1]; exact own_mkT ho6 (by rw [List.length_append, HPl.out 2 (by omega), spellN_length]) (fun z hz => (List.mem_append.1 hz).elim (HLt.out 2 z) (spellN_lt _ _ z)) }; obtain ⟨a6, c6', hv6, -, -, -⟩ := HO6.out.slice (2 + 6 * 3) (HPl.out 3 (by omega)); subst hv6; clear ho6 hg6))
        exact ⟨⟨3, a6, c6', by omega, by go_num, rfl, ⟨HO6.out, HB6.out⟩⟩, by simp [intOf]⟩
      · have HSj : Hid (Calls Try.prog 38 #[.int .i64 (d : Int), .int .i64 6] wo fun e9 w' => ∃ v, e9 = .returned v ∧ Own w' wo.heap.size v (spellN d 6) ∧ Below wo.heap.size wo w') := HSp.out d 6 (by omega) (by omega) (by have := HHb.out.2.2.2.1; omega) wo
        go_wp2_with (first
          | (go_at_call 38; (with_reducible_and_instances (refine HSj.out.mono ?_)); rintro r w5 ⟨v5, rfl, ho5, hb5⟩; obtain ⟨a5, c5', hv5, hq5, -, -⟩ := ho5.slice 6 (spellN_length _ _); subst hv5; have HQ5 := hid hq5; have HO5 := hid (HI.out.1.later hb5); have HB5 := hid (HI.out.2.trans (hb5.mono HI.out.2.size)); clear ho5 hb5 hq5)
          | (at_builtin; refine app_any rfl (.tmp 24) (.tmp 26) rfl W0.heap.size (.slice aj (2 + 6 * 3) cj) (2 + 6 * 3) (pr 3) rfl (by have h := HO5.out.2; rw [HPl.out 3 (by omega)] at h; exact h) a5 6 c5' (spellN d 6) rfl (spellN_length _ _) HQ5.out.2.1 HQ5.out.2.2 (by omega) HB5.out.size ?_; intro v6 w6 ho6 hg6; have HB6 := hid (HB5.out.grown hg6 HB5.out.size (fun q hq => own_fromT HO5.out q hq)); have HO6 : Hid (Own w6 W0.heap.size v6 (pr 4)) := by { rw [HPs.out.2.2.2.1]; exact own_mkT ho6 (by rw [List.length_append, HPl.out 3 (by omega), spellN_length]) (fun z hz => (List.mem_append.1 hz).elim (HLt.out 3 z) (spellN_lt _ _ z)) }; obtain ⟨a6, c6', hv6, -, -, -⟩ := HO6.out.slice (2 + 6 * 4) (HPl.out 4 (by omega)); subst hv6; clear ho6 hg6))
        exact ⟨⟨4, a6, c6', by omega, by go_num, rfl, ⟨HO6.out, HB6.out⟩⟩, by simp [intOf]⟩
      · have HSj : Hid (Calls Try.prog 38 #[.int .i64 (e : Int), .int .i64 6] wo fun e9 w' => ∃ v, e9 = .returned v ∧ Own w' wo.heap.size v (spellN e 6) ∧ Below wo.heap.size wo w') := HSp.out e 6 (by omega) (by omega) (by have := HHb.out.2.2.2.2.1; omega) wo
        go_wp2_with (first
          | (go_at_call 38; (with_reducible_and_instances (refine HSj.out.mono ?_)); rintro r w5 ⟨v5, rfl, ho5, hb5⟩; obtain ⟨a5, c5', hv5, hq5, -, -⟩ := ho5.slice 6 (spellN_length _ _); subst hv5; have HQ5 := hid hq5; have HO5 := hid (HI.out.1.later hb5); have HB5 := hid (HI.out.2.trans (hb5.mono HI.out.2.size)); clear ho5 hb5 hq5)
          | (at_builtin; refine app_any rfl (.tmp 24) (.tmp 26) rfl W0.heap.size (.slice aj (2 + 6 * 4) cj) (2 + 6 * 4) (pr 4) rfl (by have h := HO5.out.2; rw [HPl.out 4 (by omega)] at h; exact h) a5 6 c5' (spellN e 6) rfl (spellN_length _ _) HQ5.out.2.1 HQ5.out.2.2 (by omega) HB5.out.size ?_; intro v6 w6 ho6 hg6; have HB6 := hid (HB5.out.grown hg6 HB5.out.size (fun q hq => own_fromT HO5.out q hq)); have HO6 : Hid (Own w6 W0.heap.size v6 (pr 5)) := by { rw [HPs.out.2.2.2.2]; exact own_mkT ho6 (by rw [List.length_append, HPl.out 4 (by omega), spellN_length]) (fun z hz => (List.mem_append.1 hz).elim (HLt.out 4 z) (spellN_lt _ _ z)) }; obtain ⟨a6, c6', hv6, -, -, -⟩ := HO6.out.slice (2 + 6 * 5) (HPl.out 5 (by omega)); subst hv6; clear ho6 hg6))
        exact ⟨⟨5, a6, c6', by omega, by go_num, rfl, ⟨HO6.out, HB6.out⟩⟩, by simp [intOf]⟩
      · have HTw := hid (HTx.out wo)
        go_wp2_with (first
          | (go_at_call 39; (with_reducible_and_instances (refine HTw.out.mono ?_)); rintro r w7 ⟨v7, rfl, ho7, hb7⟩; obtain ⟨a7, c7', hv7, hq7, -, -⟩ := ho7.slice (2 + t.size) HTl.out; subst hv7; have HQ7 := hid hq7; have HO7 := hid (HI.out.1.later hb7); have HB7 := hid (HI.out.2.trans (hb7.mono HI.out.2.size)); clear ho7 hb7 hq7)
          | (at_builtin; refine app_any rfl (.tmp 36) (.tmp 37) rfl W0.heap.size (.slice aj (2 + 6 * 5) cj) (2 + 6 * 5) (pr 5) rfl (by have h := HO7.out.2; rw [HPl.out 5 (by omega)] at h; exact h) a7 (2 + t.size) c7' (textN t).2 rfl HTl.out HQ7.out.2.1 HQ7.out.2.2 (by have := HHb.out; omega) HB7.out.size ?_; intro v8 w8 ho8 hg8; have HB8 := hid (HB7.out.grown hg8 HB7.out.size (fun q hq => own_fromT HO7.out q hq)); have HO8 : Hid (Own w8 W0.heap.size v8 bd) := by { rw [HBo2.out]; exact own_mkT ho8 (by rw [List.length_append, HPl.out 5 (by omega), HTl.out]) (fun z hz => (List.mem_append.1 hz).elim (HLt.out 5 z) (HTy.out z)) }; obtain ⟨a8, c8', hv8, hq8, -, -⟩ := HO8.out.slice bd.length rfl; subst hv8; have HFw := hid (frame_any 33 a8 bd.length c8' bd w8 hq8 (by have := HHb.out; unfold maxLen; omega)); clear ho8 hg8 hq8)
          | (go_at_call 40; (with_reducible_and_instances (refine HFw.out.mono ?_)); rintro r w9 ⟨v9, rfl, ho9, hb9⟩; rw [HFr.out] at ho9; have HO9 := hid ho9; have HB9 := hid (HB8.out.trans (hb9.mono HB8.out.size)); clear ho9 hb9))
        go_ret
        exact ⟨_, rfl, HO9.out.down (by have h1 := HB8.out.size; have h2 := HB0.out.size; omega), HB0.out.trans (HB9.out.mono HB0.out.size)⟩
set_option maxRecDepth 40000 in
theorem putT_any (x : Ev) (w : World) : Calls Try.prog 10 #[.agg (evA x)] w fun r w' => (∃ v, r = .returned (.tuple #[v, .int .i64 (if x.may then 0 else 1)]) ∧ Own w' w.heap.size v (if x.may then tellE x else [])) ∧ Below w.heap.size w w' := by
  have HM := hid (fun W => mayBe_any x W)
  have HTe := hid (fun (h : x.may) W => tell_any x (may_fit h) W)
  obtain ⟨R, hR⟩ : ∃ R, tellE x = R := ⟨_, rfl⟩
  rw [hR]
  rw [hR] at HTe
  have HMy : Hid (x.may ↔ decide x.may = true) := by simp; exact hid trivial
  obtain ⟨k, nm, a, b, c, d, e, y⟩ := x
  obtain ⟨t, ht⟩ : ∃ t, nmS nm = t := ⟨_, rfl⟩
  have hE : evA ⟨k, nm, a, b, c, d, e, y⟩ = #[.int .i64 k, .string t, .int .i64 a, .int .i64 b, .int .i64 c, .int .i64 d, .int .i64 e, .bool y] := by rw [← ht]
  rw [hE] at HM HTe ⊢
  clear hR hE ht
  obtain ⟨W0, hW0⟩ : ∃ W0, w.alloc (.cells #[.int .i64 k, .string t, .int .i64 a, .int .i64 b, .int .i64 c, .int .i64 d, .int .i64 e, .bool y] TEv) = W0 := ⟨_, rfl⟩
  have b0 : Below w.heap.size w W0 := by rw [← hW0]; exact (Below.refl _ _).alloc (Nat.le_refl _) _
  have x0 : Blk W0 w.heap.size #[.int .i64 k, .string t, .int .i64 a, .int .i64 b, .int .i64 c, .int .i64 d, .int .i64 e, .bool y] TEv := by rw [← hW0]; exact heap_alloc_new w _
  have HB0 := hid b0
  have HS : Hid (∀ W, Below W0.heap.size W0 W → W.cell? ⟨w.heap.size, 0, none⟩ = some (.int .i64 k) ∧ W.cell? ⟨w.heap.size, 1, none⟩ = some (.string t) ∧ W.cell? ⟨w.heap.size, 2, none⟩ = some (.int .i64 a) ∧ W.cell? ⟨w.heap.size, 3, none⟩ = some (.int .i64 b) ∧ W.cell? ⟨w.heap.size, 4, none⟩ = some (.int .i64 c) ∧ W.cell? ⟨w.heap.size, 5, none⟩ = some (.int .i64 d) ∧ W.cell? ⟨w.heap.size, 6, none⟩ = some (.int .i64 e) ∧ W.cell? ⟨w.heap.size, 7, none⟩ = some (.bool y)) := fun W hW => by
    have hx := x0.later hW
    exact ⟨hx.cell 0, hx.cell 1, hx.cell 2, hx.cell 3, hx.cell 4, hx.cell 5, hx.cell 6, hx.cell 7⟩
  obtain ⟨c0, c1, c2, c3, c4, c5, c6, c7⟩ := HS.out W0 (Below.refl _ _)
  clear b0 x0
  by_cases hm : Ev.may ⟨k, nm, a, b, c, d, e, y⟩
  · rw [if_pos hm, if_pos hm]
    have HTm := hid (HTe.out hm)
    rw [decide_eq_true hm] at HM
    clear hm HTe HMy
    go_enter Try.func10, Try.ntmps10
    go_wp2_with (first
      | (go_at_call 16; (with_reducible_and_instances (refine (HM.out W0).mono ?_)); rintro r w1 ⟨rfl, hb1⟩; have HB1 := hid hb1; obtain ⟨e0, e1, e2, e3, e4, e5, e6, e7⟩ := HS.out w1 hb1; clear hb1)
      | (go_at_call 19; (with_reducible_and_instances (refine (HTm.out w1).mono ?_)); rintro r w2 ⟨v2, rfl, ho2, hb2⟩; have HO2 := hid ho2; have HB2 := hid (HB0.out.trans ((HB1.out.trans (hb2.mono HB1.out.size)).mono HB0.out.size)); have hs2 := HB1.out.size; clear ho2 hb2))
    refine bodyPost_ret (results_tmp2 Try.results10 _ _ _) rfl ⟨⟨_, rfl, HO2.out.down (by have := HB0.out.size; omega)⟩, HB2.out⟩
  · rw [if_neg hm, if_neg hm]
    rw [decide_eq_false hm] at HM
    clear hm HTe HMy
    go_enter Try.func10, Try.ntmps10
    go_wp2_with (go_at_call 16; (with_reducible_and_instances (refine (HM.out W0).mono ?_)); rintro r w1 ⟨rfl, hb1⟩; have HB1 := hid (HB0.out.trans (hb1.mono HB0.out.size)); clear hb1)
    refine bodyPost_ret (results_tmp2 Try.results10 _ _ _) rfl ⟨⟨_, rfl, Own.nil _ _⟩, HB1.out⟩
end Go.Proofs.Yteogogmmnijagaa
