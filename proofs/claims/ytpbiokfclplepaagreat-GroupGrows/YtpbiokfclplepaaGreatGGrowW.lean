/- GroupGrows, whatever the number and the events: P1507. -/
import Derived.Test.YtpbiokfclplepaaGreatGGrowM
import Derived.Test.YtpbiokfclplepaaGreatGAll
import Derived.Test.YtpbiokfclplepaaGreatGNil
import Derived.Test.YtpbiokfclplepaaGreatACnt
import Derived.Test.YtpbiokfclplepaaGreatOpenEvs
namespace Go.Proofs.YtpbiokfclplepaaGreat
open Go.RowKit Go.Shelf
variable {w w' W : World} {g n B : Nat} {G : Gp} {F : List Nat}

theorem tm32 (x : Int) : -32 < x.tmod 32 ∧ x.tmod 32 < 32 := by
  constructor
  · have := Int.lt_tmod_of_pos x (show (0 : Int) < 32 by omega); omega
  · exact Int.tmod_lt_of_pos x (by omega)
theorem par_rng (x : Int) : 0 ≤ (x.tmod 32 + 32).tmod 32 ∧ (x.tmod 32 + 32).tmod 32 ≤ 31 := by
  have h := tm32 x
  have h2 : 0 ≤ x.tmod 32 + 32 := by omega
  rw [Int.tmod_eq_emod_of_nonneg h2]
  omega
/-- Apply, beside a row that is none of the group's. -/
theorem GAt.stepK (h : GAt W F g n G) (hB : ∀ b ∈ F, B ≤ b) (hBW : B ≤ W.heap.size) (x : Ev) (hn : n + 102 ≤ 598134325510144) {base : Nat} {v : Value} {l : List Nm} (hF : ∀ b ∈ F, b < base) (hO : OwnK kS W base v l) :
    Calls Tryz.prog 23 #[.pointer (some ⟨g, 0, none⟩), .agg (evA x)] W fun r w' => (∃ y, r = .returned (.int .i64 y)) ∧ GOf B w' g (n + 102) (G.app x) ∧ OwnK kS w' base v l ∧ Below B W w' := by
  refine (h.apply x hn).mono ?_
  rintro r w' ⟨rfl, F', h3, h4, h5⟩
  refine ⟨⟨_, rfl⟩, ⟨F', h3, fun b hb => (h5 b hb).elim (hB b) (fun h => Nat.le_trans hBW h)⟩, hO.chg h4 (fun q hq hm => ?_), h4.below (fun k hk => hB k hk) hBW⟩
  have h6 := (hO.block q hq).1
  have h7 := hF q hm
  omega
theorem GOf.gen (h : GOf B W g n G) : Calls Tryz.prog 24 #[.pointer (some ⟨g, 0, none⟩)] W fun e w' => e = .returned (.int .i64 G.gen) ∧ w' = W := by
  obtain ⟨F, h1, -⟩ := h
  exact Generation_any h1
theorem GOf.members (h : GOf B W g n G) : Calls Tryz.prog 25 #[.pointer (some ⟨g, 0, none⟩)] W fun e w' => ∃ a c, e = .returned (.slice a G.ks.length c) ∧ OwnK kS w' W.heap.size (.slice a G.ks.length c) G.ks ∧ Below W.heap.size W w' := by
  obtain ⟨F, h1, -⟩ := h
  refine (Members_at h1).mono ?_
  rintro r w' ⟨v, rfl, h2, h3⟩
  obtain ⟨a, c, rfl, -⟩ := h2.form kS_ok.tofit
  exact ⟨a, c, rfl, h2, h3⟩
theorem GOf.shareOf (h : GOf B W g n G) (s : Nm) (hs : s.length ≤ maxLen) {m : Nat} (hm : (G.share s).length = m) : Calls Tryz.prog 26 #[.pointer (some ⟨g, 0, none⟩), .string (nmS s)] W fun e w' => ∃ a c, e = .returned (.slice a m c) ∧ OwnK kZ w' W.heap.size (.slice a m c) (G.share s) ∧ Below W.heap.size W w' := by
  obtain ⟨F, h1, -⟩ := h
  refine (Share_any h1 s hs).mono ?_
  rintro r w' ⟨v, rfl, h2, h3⟩
  obtain ⟨a, c, rfl, -⟩ := h2.form kZ_ok.tofit
  subst hm
  exact ⟨a, c, rfl, h2, h3⟩
/-- Apply of a group that a caller made, beside what Members answered. -/
theorem GOf.stepM (h : GOf B W g n G) (hBW : B ≤ W.heap.size) (x : Ev) (hn : n + 102 ≤ 598134325510144) {W1 : World} {v : Value} {l : List Nm} (hO : OwnK kS W1 W.heap.size v l) (hb : Below W.heap.size W W1) {W2 : World} (hb2 : Below W1.heap.size W1 W2) :
    Calls Tryz.prog 23 #[.pointer (some ⟨g, 0, none⟩), .agg (evA x)] W2 fun r w' => (∃ y, r = .returned (.int .i64 y)) ∧ GOf B w' g (n + 102) (G.app x) ∧ OwnK kS w' W.heap.size v l ∧ Below B W2 w' := by
  obtain ⟨F, h1, h2⟩ := h
  have h3 := (h1.later hb).later hb2
  exact h3.stepK h2 (Nat.le_trans hBW (Nat.le_trans hb.size hb2.size)) x hn h1.2.2 (hO.later hb2)
theorem GOf.ok (h : GOf B W g n G) : GOk n G := by obtain ⟨F, h1, -⟩ := h; exact h1.2.1
theorem own_arg {α : Type} {K : Kd α} (hK : K.fit) {base m c : Nat} {a : Option Addr} {l : List α} (h : OwnK K W base (.slice a m c) l) : ArgK K W l a m c := by
  obtain ⟨a', c', e, hA⟩ := h.form hK
  injection e with e1 e2 e3
  subst e1 e2 e3
  exact hA
theorem own_cells {base m c : Nat} {a : Option Addr} {l : List Int} (h : OwnK kZ W base (.slice a m c) l) (hm : 0 < m) : ∃ b off, a = some ⟨b, off, none⟩ ∧ base ≤ b ∧ b < W.heap.size ∧ ∀ i, i < m → W.cell? ⟨b, off + i, none⟩ = some (.int .i64 (l.getD i 0)) := by
  obtain ⟨b, off, rfl, hs, hc⟩ := (own_arg kZ_ok.tofit h).cells hm
  refine ⟨b, off, rfl, (h.block b rfl).1, hs, fun i hi => ?_⟩
  have h := hc i hi 0 (by decide)
  rw [Nat.mul_one, Nat.add_zero] at h
  exact h
/-- What the counting wants of the shares. -/
structure CovF (P : List (List Int)) (p m : Nat) : Prop where
  len : P.length = m
  inx : ∀ k j, k < m → j < (P.getD k []).length → ∃ x : Nat, (P.getD k []).getD j 0 = (x : Int) ∧ x < p
  cnt : 0 < m → ∀ x, x < p → P.flatten.count ((x : Nat) : Int) = 1
  few : ∀ k j, k < m → ((P.take k).flatten ++ (P.getD k []).take j).length ≤ p
theorem cov_facts (h : GCov G) {p : Nat} (hp : G.parts = (p : Int)) : CovF (G.ks.map G.share) p G.ks.length := by
  have hl : (G.ks.map G.share).length = G.ks.length := by simp
  by_cases h0 : G.ks = []
  · rw [h0]
    exact ⟨rfl, fun k j hk => absurd hk (Nat.not_lt_zero _), fun h => absurd h (Nat.not_lt_zero _), fun k j hk => absurd hk (Nat.not_lt_zero _)⟩
  · have hc : CovP (G.ks.map G.share) p := by
      have h1 := h.resolve_left h0
      rw [hp, Int.toNat_natCast] at h1
      exact h1
    generalize G.ks.map G.share = P at *
    have hin : ∀ i, i < G.ks.length → P.getD i [] ∈ P := fun i hi => getD_mem_any P [] i (by omega)
    have hfl : P.flatten.length = p := by rw [hc.perm.length_eq, allP_len]
    refine ⟨hl, fun k j hk hj => ?_, fun _ x hx => by rw [hc.perm.count_eq, count_all p x hx], fun k j hk => ?_⟩
    · have hm := getD_mem_any (P.getD k []) 0 j hj
      exact mem_all (hc.perm.mem_iff.1 ((List.sublist_flatten_of_mem (hin k hk)).subset hm))
    · have h1 := flat_take_le P (k + 1)
      rw [flat_take P k (by omega), hfl, List.length_append] at h1
      rw [List.length_append, List.length_take]
      omega
set_option maxRecDepth 100000 in
set_option maxHeartbeats 4000000 in
theorem grows_walk {l : List Ev} {a : Option Addr} {m c : Nat} (h : ArgK kER w l a m c) (hm : m * 80 ≤ 140737488351232) (pp : Int) : Calls Tryz.prog 6 #[.int .i64 pp, .slice a m c] w fun r w' => r = .returned (.bool true) ∧ Below w.heap.size w w' := by
  have hr := tm32 pp
  have hq := par_rng pp
  generalize hr' : pp.tmod 32 = r at *
  generalize hq' : (r + 32).tmod 32 = q at *
  obtain ⟨p, hp⟩ : ∃ p : Nat, 1 + q = (p : Int) := ⟨(1 + q).toNat, by omega⟩
  have hp1 : 1 ≤ p ∧ p ≤ 32 := by omega
  have HN := hid (New_ok (p : Int) 10 (by omega) (by omega) w)
  have HL := hid h
  clear h
  go_enter Tryz.func6, Tryz.ntmps6
  go_wp2_with (first
    | (go_at_call 18; (with_reducible_and_instances (refine HN.out.mono ?_)); rintro r w1 ⟨F, g, rfl, h1, hb1, hF1⟩; have HG1 : Hid (GOf w.heap.size w1 g 0 (gp0 (p : Int) 10)) := hid ⟨F, h1, hF1⟩; have HB1 := hid hb1; clear h1 hb1 hF1)
    | (go_at_call 15; (with_reducible_and_instances (refine (num15_any _ _).mono ?_)); rintro r w9 ⟨rfl, hw9⟩; obtain rfl := hw9.symm)
    | (go_at_call 17; (with_reducible_and_instances (refine (knows15 _).mono ?_)); rintro r w2 ⟨rfl, hb2⟩; have HG2 := hid (HG1.out.later hb2); have HB2 := hid (HB1.out.trans (hb2.mono HB1.out.size)); clear hb2))
  go_loopw [7] (fun iv wr => ∃ (i : Nat) (G : Gp), i ≤ m ∧ iv = .int .i64 (i : Int) ∧ Hid (GOf w.heap.size wr g (102 * i) G) ∧ Hid (GCov G ∧ G.parts = (p : Int)) ∧ Hid (Below w.heap.size w wr)) (fun iv _ => m - (intOf iv).toNat)
  case atStart => exact ⟨0, gp0 p 10, by omega, rfl, HG2, hid ⟨GCov.new _ _, rfl⟩, HB2⟩
  case round =>
    obtain ⟨i, G, hi, rfl, HG, HC, HB⟩ := hrel
    obtain ⟨wo, rfl⟩ : ∃ q, q = wr := ⟨wr, rfl⟩
    clear HN HG1 HB1 HG2 HB2 hr' hq' hp hr hq
    by_cases hlt : i < m
    · obtain ⟨b1, o1, rfl, hs0, hc0⟩ := HL.out.cells (by omega)
      obtain ⟨x, hx⟩ : ∃ x, l.getD i ev0 = x := ⟨_, rfl⟩
      obtain ⟨xk, xs, xa, xb, xc, xd, xe, xf, xq⟩ := x
      obtain ⟨t, ht⟩ : ∃ t, nmS xs = t := ⟨_, rfl⟩
      have hcap := HL.out.cap
      have HXc : Hid (∀ W, Below w.heap.size w W → W.cell? ⟨b1, o1 + i * 9, none⟩ = some (Value.int .i64 xk) ∧ W.cell? ⟨b1, o1 + i * 9 + 1, none⟩ = some (Value.string t) ∧ W.cell? ⟨b1, o1 + i * 9 + 2, none⟩ = some (Value.int .i64 xa) ∧ W.cell? ⟨b1, o1 + i * 9 + 3, none⟩ = some (Value.int .i64 xb) ∧ W.cell? ⟨b1, o1 + i * 9 + 4, none⟩ = some (Value.int .i64 xc) ∧ W.cell? ⟨b1, o1 + i * 9 + 5, none⟩ = some (Value.int .i64 xd) ∧ W.cell? ⟨b1, o1 + i * 9 + 6, none⟩ = some (Value.int .i64 xe) ∧ W.cell? ⟨b1, o1 + i * 9 + 7, none⟩ = some (Value.int .i64 xf) ∧ W.cell? ⟨b1, o1 + i * 9 + 8, none⟩ = some (Value.bool xq)) := fun W hW => by
        have h9 : ∀ k, k < 9 → W.cell? ⟨b1, o1 + i * 9 + k, none⟩ = (evA ⟨xk, xs, xa, xb, xc, xd, xe, xf, xq⟩).toList[k]? := fun k hk => by
          have h := hc0 i hlt k hk
          rw [show l.getD i kER.z = l.getD i ev0 from rfl, hx] at h
          exact (hW.cell (p := ⟨b1, o1 + i * 9 + k, none⟩) hs0).trans h
        rw [← ht]
        exact ⟨h9 0 (by decide), h9 1 (by decide), h9 2 (by decide), h9 3 (by decide), h9 4 (by decide), h9 5 (by decide), h9 6 (by decide), h9 7 (by decide), h9 8 (by decide)⟩
      obtain ⟨G', hG'⟩ : ∃ G', G.app ⟨xk, xs, xa, xb, xc, xd, xe, xf, xq⟩ = G' := ⟨_, rfl⟩
      have HNx : Hid (GNext G G') := by rw [← hG']; exact GNext.app HG.out.ok HC.out.1 _
      have HOw : Hid (∀ W, Calls Tryz.prog 11 #[.agg #[.int .i64 xk, .string t, .int .i64 xa, .int .i64 xb, .int .i64 xc, .int .i64 xd, .int .i64 xe, .int .i64 xf, .bool xq]] W fun r w' => r = .returned (.agg #[.int .i64 xk, .string t, .int .i64 xa, .int .i64 xb, .int .i64 xc, .int .i64 xd, .int .i64 xe, .int .i64 xf, .bool xq]) ∧ Below W.heap.size W w') := fun W => by
        have h := own15_any ⟨xk, xs, xa, xb, xc, xd, xe, xf, xq⟩ W
        rw [← ht]
        exact h
      have HAp : Hid (∀ W1 W2 v, OwnK kS W1 wo.heap.size v G.ks → Below wo.heap.size wo W1 → Below W1.heap.size W1 W2 → Calls Tryz.prog 23 #[.pointer (some ⟨g, 0, none⟩), .agg #[.int .i64 xk, .string t, .int .i64 xa, .int .i64 xb, .int .i64 xc, .int .i64 xd, .int .i64 xe, .int .i64 xf, .bool xq]] W2 fun r w' => (∃ y, r = .returned (.int .i64 y)) ∧ GOf w.heap.size w' g (102 * (i + 1)) G' ∧ OwnK kS w' wo.heap.size v G.ks ∧ Below w.heap.size W2 w') := fun W1 W2 v hO hb hb2 => by
        have h := HG.out.stepM HB.out.size ⟨xk, xs, xa, xb, xc, xd, xe, xf, xq⟩ (by omega) hO hb hb2
        rw [hG', show 102 * i + 102 = 102 * (i + 1) by omega] at h
        rw [← ht]
        exact h
      have hgb := HG.out.ok.gen
      have HGe := hid HG.out.gen
      have HMe := hid HG.out.members
      obtain ⟨gn, hgn⟩ : ∃ gn, G.gen = gn := ⟨_, rfl⟩
      obtain ⟨mk, hmk⟩ : ∃ mk, G.ks.length = mk := ⟨_, rfl⟩
      rw [hgn] at hgb HGe
      rw [hmk] at HMe
      have HGn := hid hgn
      have HMk := hid hmk
      obtain ⟨m2, hm2⟩ : ∃ m2, G'.ks.length = m2 := ⟨_, rfl⟩
      have HM2 := hid hm2
      obtain ⟨P, hP⟩ : ∃ P, G'.ks.map G'.share = P := ⟨_, rfl⟩
      have HPe := hid hP
      have HCv : Hid (CovF P p m2) := by rw [← hP, ← hm2]; exact cov_facts HNx.out.cov (HNx.out.parts.trans HC.out.2)
      have HPg : Hid (∀ k, k < m2 → P.getD k [] = G'.share (G'.ks.getD k [])) := fun k hk => by
        have hk' : k < G'.ks.length := by rw [hm2]; exact hk
        rw [← hP, List.getD_eq_getElem?_getD, List.getElem?_map, List.getElem?_eq_getElem hk', getD_at _ _ _ hk']; rfl
      clear hc0 hx ht hG' hgn hmk hm2 hP
      go_wp2_with (first
        | (go_at_call 24; (with_reducible_and_instances (refine HGe.out.mono ?_)); rintro r w3 ⟨rfl, hw3⟩; obtain rfl := hw3.symm)
        | (go_at_call 25; (with_reducible_and_instances (refine HMe.out.mono ?_)); rintro r w4 ⟨ma, mc, rfl, hO4, hb4⟩; have HO4 := hid hO4; have HB4 := hid hb4; have HBw4 := hid (HB.out.trans (hb4.mono HB.out.size)); obtain ⟨r0, r1, r2, r3, r4, r5, r6, r7, r8⟩ := HXc.out w4 HBw4.out; clear hO4 hb4)
        | (go_at_call 11; (with_reducible_and_instances (refine (HOw.out _).mono ?_)); rintro r w5 ⟨rfl, hb5⟩; have HA5 := hid (HAp.out _ _ _ HO4.out HB4.out hb5); have HBw5 := hid (HBw4.out.trans (hb5.mono HBw4.out.size)); clear hb5 r0 r1 r2 r3 r4 r5 r6 r7 r8)
        | (go_at_call 23; (with_reducible_and_instances (refine HA5.out.mono ?_)); rintro r w6 ⟨⟨y, rfl⟩, hG6, hO6, hb6⟩; have HG6 := hid hG6; have HO6 := hid hO6; have HBw6 := hid (HBw5.out.trans hb6); have hM6 := hG6.members; (rw [HM2.out] at hM6); have HM6 := hid hM6; clear hG6 hO6 hb6 hM6)
        | (go_at_call 25; (with_reducible_and_instances (refine HM6.out.mono ?_)); rintro r w7 ⟨na, nc, rfl, hO7, hb7⟩; have HO7 := hid hO7; have HB7 := hid hb7; have HG7 := hid (HG6.out.later hb7); have HBw7 := hid (HBw6.out.trans (hb7.mono HBw6.out.size)); have HO6' := hid (HO6.out.later hb7); have HN7 := hid (own_arg kS_ok.tofit hO7); clear hO7 hb7))
      rcases HNx.out.gen with ⟨e1, e2⟩ | ⟨e1, e2⟩
      · have HTx : Hid (∀ W, Below w7.heap.size w7 W → Calls Tryz.prog 28 #[.slice ma mk mc, .slice na m2 nc] W fun r w' => r = .returned (.bool true) ∧ Below W.heap.size W w') := fun W hW => by
          have h := Texts_any ((own_arg kS_ok.tofit HO6'.out).later hW) (HN7.out.later hW)
          rw [decide_eq_true e1.symm] at h
          exact h
        have HG8 : Hid (∀ W, Below w7.heap.size w7 W → Calls Tryz.prog 24 #[.pointer (some ⟨g, 0, none⟩)] W fun e w' => e = .returned (.int .i64 gn) ∧ w' = W) := fun W hW => by
          have h := (HG7.out.later hW).gen
          rw [e2, HGn.out] at h
          exact h
        have HT7 := hid (HTx.out w7 (Below.refl _ _))
        have hm2b : m2 ≤ 100 := by rw [← HM2.out]; exact HG7.out.ok.cnt
        clear e1 e2
        go_wp2_with (first
          | (go_at_call 28; (with_reducible_and_instances (refine HT7.out.mono ?_)); rintro r w8 ⟨rfl, hb8⟩; have HB8 := hid hb8; have HT8 := hid (HTx.out w8 hb8); clear hb8)
          | (go_at_call 28; (with_reducible_and_instances (refine HT8.out.mono ?_)); rintro r w9 ⟨rfl, hb9⟩; have HB9 := hid (HB8.out.trans (hb9.mono HB8.out.size)); have hmk := make_ints p (by omega) w9; have hX0 : Blk (w9.alloc (.cells (cnts p []).toArray 3)) w9.heap.size (cnts p []).toArray 3 := heap_alloc_new w9 _; have hB0 := (Below.refl w9.heap.size w9).alloc (Nat.le_refl _) (.cells (cnts p []).toArray 3); obtain ⟨W0, hW0⟩ : ∃ W0, w9.alloc (.cells (cnts p []).toArray 3) = W0 := ⟨_, rfl⟩; (rw [hW0] at hmk hX0 hB0); have HX0 := hid hX0; have HB0 := hid hB0; clear hX0 hB0 hW0 hb9)
          | (go_at_call 24; (with_reducible_and_instances (refine (HG8.out _ HB9.out).mono ?_)); rintro r w3 ⟨rfl, hw3⟩; obtain rfl := hw3.symm)
          | (go_at_call 24; (with_reducible_and_instances (refine (HG8.out _ HB8.out).mono ?_)); rintro r w3 ⟨rfl, hw3⟩; obtain rfl := hw3.symm))
        clear HTx HG8 HT7 HT8 hmk
        go_loopw [12] (fun kv wr => ∃ k : Nat, k ≤ m2 ∧ kv = .int .i64 (k : Int) ∧ Hid (Blk wr w9.heap.size (cnts p (P.take k).flatten).toArray 3) ∧ Hid (Below w9.heap.size w9 wr)) (fun kv _ => m2 - (intOf kv).toNat)
        case atStart => exact ⟨0, by omega, rfl, HX0, HB0⟩
        case round =>
          obtain ⟨k, hk, rfl, HXk, HBk⟩ := hrel
          clear HX0 HB0
          obtain ⟨wk, rfl⟩ : ∃ q, q = wr := ⟨wr, rfl⟩
          have HB7k := hid (HB9.out.trans (HBk.out.mono HB9.out.size))
          by_cases hk2 : k < m2
          · obtain ⟨bn, on, rfl, hsn, hcn⟩ := HN7.out.cells (by omega)
            have hn1 : wk.cell? ⟨bn, on + k, none⟩ = some (.string (nmS (G'.ks.getD k []))) := by
              have h := hcn k hk2 0 (by decide)
              rw [Nat.mul_one, Nat.add_zero] at h
              exact (HB7k.out.cell (p := ⟨bn, on + k, none⟩) hsn).trans h
            have hcapn := HN7.out.cap
            obtain ⟨sm, hsm⟩ : ∃ sm, (P.getD k []).length = sm := ⟨_, rfl⟩
            have HSm := hid hsm
            have hsmb : sm ≤ 32 := by have h := HCv.out.few k sm hk2; rw [List.length_append, List.length_take, hsm] at h; omega
            have hGk := HG7.out.later HB7k.out
            have hsh := hGk.shareOf (G'.ks.getD k []) (name_len hGk.ok _ (getD_mem_any _ _ _ (by rw [HM2.out]; exact hk2))) (m := sm) (by rw [← HPg.out k hk2]; exact hsm)
            rw [← HPg.out k hk2] at hsh
            have HSh := hid hsh
            have HFl := hid (flat_take P k (by rw [HCv.out.len]; exact hk2))
            generalize nmS (G'.ks.getD k []) = nt at *
            clear hcn hsm hGk hsh
            go_wp2_with (go_at_call 26; (with_reducible_and_instances (refine HSh.out.mono ?_)); rintro r w10 ⟨sa, sc, rfl, hO10, hb10⟩; have HO10 := hid hO10; have HX10 := hid (HXk.out.later hb10); have HB10 := hid (HBk.out.trans (hb10.mono HBk.out.size)); have HS10 := hid hb10.size; clear hO10 hb10)
            go_loopw [14] (fun qv wr => ∃ j : Nat, j ≤ sm ∧ qv = .int .i64 (j : Int) ∧ Hid (Blk wr w9.heap.size (cnts p ((P.take k).flatten ++ (P.getD k []).take j)).toArray 3) ∧ Hid (Chg [w9.heap.size] w10 wr)) (fun qv _ => sm - (intOf qv).toNat)
            case atStart => exact ⟨0, by omega, rfl, (by rw [List.take_zero, List.append_nil]; exact HX10), Chg.refl _ _⟩
            case round =>
              obtain ⟨j, hj, rfl, HXj, HCj⟩ := hrel
              by_cases hjs : j < sm
              · obtain ⟨bp, op, rfl, hge, hbp0, hcp⟩ := own_cells HO10.out (by omega)
                obtain ⟨x, hxe, hxp⟩ := HCv.out.inx k j hk2 (by rw [HSm.out]; exact hjs)
                have hlt9 := HXk.out.lt
                have q2 : wr.cell? ⟨bp, op + j, none⟩ = some (.int .i64 (x : Int)) := (HCj.out.cell hbp0 (by rw [List.mem_singleton]; omega)).trans (by rw [hcp j hjs, hxe])
                have hcaps := (own_arg kZ_ok.tofit HO10.out).cap
                have c0 : wr.cell? ⟨w9.heap.size, x, none⟩ = some (.int .i64 ((((P.take k).flatten ++ (P.getD k []).take j).count (x : Int) : Nat) : Int)) := (HXj.out.cell x).trans (by rw [List.getElem?_toArray]; exact cnts_get p _ x hxp)
                have f0 := HXj.out.free x
                have HTk := hid (take_snoc_any (P.getD k []) 0 j (by rw [HSm.out]; exact hjs))
                have hct : ((P.take k).flatten ++ (P.getD k []).take j).count (x : Int) ≤ 100000 := Nat.le_trans List.count_le_length (Nat.le_trans (HCv.out.few k j hk2) (by omega))
                have HNj : Hid (Blk (wr.setCell ⟨w9.heap.size, x, none⟩ (.int .i64 (((((P.take k).flatten ++ (P.getD k []).take j).count (x : Int) : Nat) : Int) + 1))) w9.heap.size (cnts p ((P.take k).flatten ++ (P.getD k []).take (j + 1))).toArray 3) := by
                  have h := HXj.out.set x (.int .i64 (((((P.take k).flatten ++ (P.getD k []).take j).count (x : Int) : Nat) : Int) + 1))
                  rw [cnts_set p _ x hxp, List.append_assoc] at h
                  rw [HTk.out, hxe]
                  exact h
                have HCn : Hid (Chg [w9.heap.size] w10 (wr.setCell ⟨w9.heap.size, x, none⟩ (.int .i64 (((((P.take k).flatten ++ (P.getD k []).take j).count (x : Int) : Nat) : Int) + 1)))) := HCj.out.set (Or.inl (by simp)) x _
                generalize ((P.take k).flatten ++ (P.getD k []).take j).count (x : Int) = ct at *
                have hx0 : ¬ ((x : Int) < 0) := by omega
                have hxg : decide (p ≤ x) = false := by simp; omega
                clear hcp hxe
                go_wp2_with fail
                exact ⟨⟨j + 1, by omega, by go_num, HNj, HCn⟩, by simp [intOf]; omega⟩
              · obtain rfl : sm = j := by omega
                have HF : Hid ((P.take (k + 1)).flatten = (P.take k).flatten ++ (P.getD k []).take sm) := by
                  have e : (P.getD k []).take sm = P.getD k [] := List.take_of_length_le (by rw [HSm.out]; exact Nat.le_refl _)
                  rw [HFl.out, e]; exact rfl
                have HBn : Hid (Below w9.heap.size w9 wr) := HB10.out.trans (HCj.out.below (fun b hb => by rw [List.mem_singleton] at hb; omega) HB10.out.size)
                go_wp2_with fail
                exact ⟨⟨k + 1, by omega, by go_num, (by rw [HF.out]; exact HXj), HBn⟩, by simp [intOf]; omega⟩
          · obtain rfl : m2 = k := by omega
            have HF : Hid ((P.take m2).flatten = P.flatten) := by rw [List.take_of_length_le (by rw [HCv.out.len]; exact Nat.le_refl _)]; exact rfl
            rw [HF.out] at HXk
            go_wp2_with fail
            go_loopw [15] (fun xv wr => ∃ (x : Nat), x ≤ p ∧ xv = .int .i64 (x : Int) ∧ wr = wk) (fun xv _ => p - (intOf xv).toNat)
            case atStart => exact ⟨0, by omega, rfl, rfl⟩
            case round =>
              obtain ⟨x, hxp, rfl, hwr⟩ := hrel
              have HXw : Hid (Blk wr w9.heap.size (cnts p P.flatten).toArray 3) := by rw [hwr]; exact HXk
              have HWr := hid hwr
              clear hwr
              by_cases hx : x < p
              · by_cases h20 : m2 = 0
                · have hz : decide (0 < m2) = false := by simp; omega
                  go_wp2_with fail
                  exact ⟨⟨x + 1, by omega, by go_num, HWr.out⟩, by simp [intOf]; omega⟩
                · have h21 : 0 < m2 := by omega
                  have c0 : wr.cell? ⟨w9.heap.size, x, none⟩ = some (.int .i64 1) := (HXw.out.cell x).trans (by rw [List.getElem?_toArray, cnts_get p _ x hx, HCv.out.cnt h21 x hx]; rfl)
                  go_wp2_with fail
                  exact ⟨⟨x + 1, by omega, by go_num, HWr.out⟩, by simp [intOf]; omega⟩
              · obtain rfl : p = x := by omega
                have HGw : Hid (GOf w.heap.size wr g (102 * (i + 1)) G') := by rw [HWr.out]; exact HG7.out.later HB7k.out
                have HBw : Hid (Below w.heap.size w wr) := by rw [HWr.out]; exact HBw7.out.trans (HB7k.out.mono HBw7.out.size)
                have HCw : Hid (GCov G' ∧ G'.parts = (p : Int)) := ⟨HNx.out.cov, HNx.out.parts.trans HC.out.2⟩
                go_wp2_with fail
                exact ⟨⟨i + 1, G', by omega, by go_num, HGw, HCw, HBw⟩, by simp [intOf]; omega⟩
      · have HTx : Hid (∀ W, Below w7.heap.size w7 W → Calls Tryz.prog 28 #[.slice ma mk mc, .slice na m2 nc] W fun r w' => r = .returned (.bool false) ∧ Below W.heap.size W w') := fun W hW => by
          have h := Texts_any ((own_arg kS_ok.tofit HO6'.out).later hW) (HN7.out.later hW)
          rw [decide_eq_false (fun e => e1 e.symm)] at h
          exact h
        have HG8 : Hid (∀ W, Below w7.heap.size w7 W → Calls Tryz.prog 24 #[.pointer (some ⟨g, 0, none⟩)] W fun e w' => e = .returned (.int .i64 (gn + 1)) ∧ w' = W) := fun W hW => by
          have h := (HG7.out.later hW).gen
          rw [e2, HGn.out] at h
          exact h
        have HT7 := hid (HTx.out w7 (Below.refl _ _))
        have hm2b : m2 ≤ 100 := by rw [← HM2.out]; exact HG7.out.ok.cnt
        clear e1 e2
        go_wp2_with (first
          | (go_at_call 28; (with_reducible_and_instances (refine HT7.out.mono ?_)); rintro r w8 ⟨rfl, hb8⟩; have HB8 := hid hb8; have HT8 := hid (HTx.out w8 hb8); clear hb8)
          | (go_at_call 28; (with_reducible_and_instances (refine HT8.out.mono ?_)); rintro r w9 ⟨rfl, hb9⟩; have HB9 := hid (HB8.out.trans (hb9.mono HB8.out.size)); have hmk := make_ints p (by omega) w9; have hX0 : Blk (w9.alloc (.cells (cnts p []).toArray 3)) w9.heap.size (cnts p []).toArray 3 := heap_alloc_new w9 _; have hB0 := (Below.refl w9.heap.size w9).alloc (Nat.le_refl _) (.cells (cnts p []).toArray 3); obtain ⟨W0, hW0⟩ : ∃ W0, w9.alloc (.cells (cnts p []).toArray 3) = W0 := ⟨_, rfl⟩; (rw [hW0] at hmk hX0 hB0); have HX0 := hid hX0; have HB0 := hid hB0; clear hX0 hB0 hW0 hb9)
          | (go_at_call 24; (with_reducible_and_instances (refine (HG8.out _ HB9.out).mono ?_)); rintro r w3 ⟨rfl, hw3⟩; obtain rfl := hw3.symm)
          | (go_at_call 24; (with_reducible_and_instances (refine (HG8.out _ HB8.out).mono ?_)); rintro r w3 ⟨rfl, hw3⟩; obtain rfl := hw3.symm))
        clear HTx HG8 HT7 HT8 hmk
        go_loopw [12] (fun kv wr => ∃ k : Nat, k ≤ m2 ∧ kv = .int .i64 (k : Int) ∧ Hid (Blk wr w9.heap.size (cnts p (P.take k).flatten).toArray 3) ∧ Hid (Below w9.heap.size w9 wr)) (fun kv _ => m2 - (intOf kv).toNat)
        case atStart => exact ⟨0, by omega, rfl, HX0, HB0⟩
        case round =>
          obtain ⟨k, hk, rfl, HXk, HBk⟩ := hrel
          clear HX0 HB0
          obtain ⟨wk, rfl⟩ : ∃ q, q = wr := ⟨wr, rfl⟩
          have HB7k := hid (HB9.out.trans (HBk.out.mono HB9.out.size))
          by_cases hk2 : k < m2
          · obtain ⟨bn, on, rfl, hsn, hcn⟩ := HN7.out.cells (by omega)
            have hn1 : wk.cell? ⟨bn, on + k, none⟩ = some (.string (nmS (G'.ks.getD k []))) := by
              have h := hcn k hk2 0 (by decide)
              rw [Nat.mul_one, Nat.add_zero] at h
              exact (HB7k.out.cell (p := ⟨bn, on + k, none⟩) hsn).trans h
            have hcapn := HN7.out.cap
            obtain ⟨sm, hsm⟩ : ∃ sm, (P.getD k []).length = sm := ⟨_, rfl⟩
            have HSm := hid hsm
            have hsmb : sm ≤ 32 := by have h := HCv.out.few k sm hk2; rw [List.length_append, List.length_take, hsm] at h; omega
            have hGk := HG7.out.later HB7k.out
            have hsh := hGk.shareOf (G'.ks.getD k []) (name_len hGk.ok _ (getD_mem_any _ _ _ (by rw [HM2.out]; exact hk2))) (m := sm) (by rw [← HPg.out k hk2]; exact hsm)
            rw [← HPg.out k hk2] at hsh
            have HSh := hid hsh
            have HFl := hid (flat_take P k (by rw [HCv.out.len]; exact hk2))
            generalize nmS (G'.ks.getD k []) = nt at *
            clear hcn hsm hGk hsh
            go_wp2_with (go_at_call 26; (with_reducible_and_instances (refine HSh.out.mono ?_)); rintro r w10 ⟨sa, sc, rfl, hO10, hb10⟩; have HO10 := hid hO10; have HX10 := hid (HXk.out.later hb10); have HB10 := hid (HBk.out.trans (hb10.mono HBk.out.size)); have HS10 := hid hb10.size; clear hO10 hb10)
            go_loopw [14] (fun qv wr => ∃ j : Nat, j ≤ sm ∧ qv = .int .i64 (j : Int) ∧ Hid (Blk wr w9.heap.size (cnts p ((P.take k).flatten ++ (P.getD k []).take j)).toArray 3) ∧ Hid (Chg [w9.heap.size] w10 wr)) (fun qv _ => sm - (intOf qv).toNat)
            case atStart => exact ⟨0, by omega, rfl, (by rw [List.take_zero, List.append_nil]; exact HX10), Chg.refl _ _⟩
            case round =>
              obtain ⟨j, hj, rfl, HXj, HCj⟩ := hrel
              by_cases hjs : j < sm
              · obtain ⟨bp, op, rfl, hge, hbp0, hcp⟩ := own_cells HO10.out (by omega)
                obtain ⟨x, hxe, hxp⟩ := HCv.out.inx k j hk2 (by rw [HSm.out]; exact hjs)
                have hlt9 := HXk.out.lt
                have q2 : wr.cell? ⟨bp, op + j, none⟩ = some (.int .i64 (x : Int)) := (HCj.out.cell hbp0 (by rw [List.mem_singleton]; omega)).trans (by rw [hcp j hjs, hxe])
                have hcaps := (own_arg kZ_ok.tofit HO10.out).cap
                have c0 : wr.cell? ⟨w9.heap.size, x, none⟩ = some (.int .i64 ((((P.take k).flatten ++ (P.getD k []).take j).count (x : Int) : Nat) : Int)) := (HXj.out.cell x).trans (by rw [List.getElem?_toArray]; exact cnts_get p _ x hxp)
                have f0 := HXj.out.free x
                have HTk := hid (take_snoc_any (P.getD k []) 0 j (by rw [HSm.out]; exact hjs))
                have hct : ((P.take k).flatten ++ (P.getD k []).take j).count (x : Int) ≤ 100000 := Nat.le_trans List.count_le_length (Nat.le_trans (HCv.out.few k j hk2) (by omega))
                have HNj : Hid (Blk (wr.setCell ⟨w9.heap.size, x, none⟩ (.int .i64 (((((P.take k).flatten ++ (P.getD k []).take j).count (x : Int) : Nat) : Int) + 1))) w9.heap.size (cnts p ((P.take k).flatten ++ (P.getD k []).take (j + 1))).toArray 3) := by
                  have h := HXj.out.set x (.int .i64 (((((P.take k).flatten ++ (P.getD k []).take j).count (x : Int) : Nat) : Int) + 1))
                  rw [cnts_set p _ x hxp, List.append_assoc] at h
                  rw [HTk.out, hxe]
                  exact h
                have HCn : Hid (Chg [w9.heap.size] w10 (wr.setCell ⟨w9.heap.size, x, none⟩ (.int .i64 (((((P.take k).flatten ++ (P.getD k []).take j).count (x : Int) : Nat) : Int) + 1)))) := HCj.out.set (Or.inl (by simp)) x _
                generalize ((P.take k).flatten ++ (P.getD k []).take j).count (x : Int) = ct at *
                have hx0 : ¬ ((x : Int) < 0) := by omega
                have hxg : decide (p ≤ x) = false := by simp; omega
                clear hcp hxe
                go_wp2_with fail
                exact ⟨⟨j + 1, by omega, by go_num, HNj, HCn⟩, by simp [intOf]; omega⟩
              · obtain rfl : sm = j := by omega
                have HF : Hid ((P.take (k + 1)).flatten = (P.take k).flatten ++ (P.getD k []).take sm) := by
                  have e : (P.getD k []).take sm = P.getD k [] := List.take_of_length_le (by rw [HSm.out]; exact Nat.le_refl _)
                  rw [HFl.out, e]; exact rfl
                have HBn : Hid (Below w9.heap.size w9 wr) := HB10.out.trans (HCj.out.below (fun b hb => by rw [List.mem_singleton] at hb; omega) HB10.out.size)
                go_wp2_with fail
                exact ⟨⟨k + 1, by omega, by go_num, (by rw [HF.out]; exact HXj), HBn⟩, by simp [intOf]; omega⟩
          · obtain rfl : m2 = k := by omega
            have HF : Hid ((P.take m2).flatten = P.flatten) := by rw [List.take_of_length_le (by rw [HCv.out.len]; exact Nat.le_refl _)]; exact rfl
            rw [HF.out] at HXk
            go_wp2_with fail
            go_loopw [15] (fun xv wr => ∃ (x : Nat), x ≤ p ∧ xv = .int .i64 (x : Int) ∧ wr = wk) (fun xv _ => p - (intOf xv).toNat)
            case atStart => exact ⟨0, by omega, rfl, rfl⟩
            case round =>
              obtain ⟨x, hxp, rfl, hwr⟩ := hrel
              have HXw : Hid (Blk wr w9.heap.size (cnts p P.flatten).toArray 3) := by rw [hwr]; exact HXk
              have HWr := hid hwr
              clear hwr
              by_cases hx : x < p
              · by_cases h20 : m2 = 0
                · have hz : decide (0 < m2) = false := by simp; omega
                  go_wp2_with fail
                  exact ⟨⟨x + 1, by omega, by go_num, HWr.out⟩, by simp [intOf]; omega⟩
                · have h21 : 0 < m2 := by omega
                  have c0 : wr.cell? ⟨w9.heap.size, x, none⟩ = some (.int .i64 1) := (HXw.out.cell x).trans (by rw [List.getElem?_toArray, cnts_get p _ x hx, HCv.out.cnt h21 x hx]; rfl)
                  go_wp2_with fail
                  exact ⟨⟨x + 1, by omega, by go_num, HWr.out⟩, by simp [intOf]; omega⟩
              · obtain rfl : p = x := by omega
                have HGw : Hid (GOf w.heap.size wr g (102 * (i + 1)) G') := by rw [HWr.out]; exact HG7.out.later HB7k.out
                have HBw : Hid (Below w.heap.size w wr) := by rw [HWr.out]; exact HBw7.out.trans (HB7k.out.mono HBw7.out.size)
                have HCw : Hid (GCov G' ∧ G'.parts = (p : Int)) := ⟨HNx.out.cov, HNx.out.parts.trans HC.out.2⟩
                go_wp2_with fail
                exact ⟨⟨i + 1, G', by omega, by go_num, HGw, HCw, HBw⟩, by simp [intOf]; omega⟩
    · obtain rfl : m = i := by omega
      go_wp2_with fail
      go_ret
      exact ⟨rfl, HB.out⟩
end Go.Proofs.YtpbiokfclplepaaGreat
