/- GroupFences, whatever the events, the producer and the epoch (P1504; by genfen15.py). -/
import Derived.Test.YtabnjdknnabhmaaGreatGFenceM
import Derived.Test.YtabnjdknnabhmaaGreatGPendC
import Derived.Test.YtabnjdknnabhmaaGreatOpenEvs
namespace Go.Proofs.YtabnjdknnabhmaaGreat
open Go.RowKit Go.Shelf
variable {w w' W : World} {g n B : Nat} {G : Gp} {F : List Nat}

theorem tmodA (x : Int) {n : Int} (hn : 0 < n) : -n < x.tmod n ∧ x.tmod n < n := by
  constructor
  · have := Int.lt_tmod_of_pos x hn; omega
  · exact Int.tmod_lt_of_pos x hn
theorem tmodB (x : Int) {n : Int} (hn : 0 < n) : 0 ≤ (x.tmod n + n).tmod n ∧ (x.tmod n + n).tmod n < n := by
  have h := tmodA x hn
  rw [Int.tmod_eq_emod_of_nonneg (by omega)]
  exact ⟨Int.emod_nonneg _ (by omega), Int.emod_lt_of_pos _ hn⟩
theorem own15_any (x : Ev) (w : World) : Calls Tryz.prog 11 #[.agg (evA x)] w fun r w' => r = .returned (.agg (evA x)) ∧ Below w.heap.size w w' := by
  obtain ⟨k, s, a, b, c, d, e, f, q⟩ := x
  show Calls Tryz.prog 11 #[.agg #[.int .i64 k, .string (nmS s), .int .i64 a, .int .i64 b, .int .i64 c, .int .i64 d, .int .i64 e, .int .i64 f, .bool q]] w fun r w' => r = .returned (.agg #[.int .i64 k, .string (nmS s), .int .i64 a, .int .i64 b, .int .i64 c, .int .i64 d, .int .i64 e, .int .i64 f, .bool q]) ∧ Below w.heap.size w w'
  generalize nmS s = t
  go_enter Tryz.func11, Tryz.ntmps11
  go_wp2_with fail
  refine bodyPost_ret (v := .agg #[.int .i64 k, .string t, .int .i64 a, .int .i64 b, .int .i64 c, .int .i64 d, .int .i64 e, .int .i64 f, .bool q]) (by simp [results, Tryz.results11, go_sem]) rfl ⟨rfl, ?_⟩
  exact ((Below.refl _ w).alloc (Nat.le_refl _) _).alloc (by simp) _
/-- Apply, beside a block that came behind the group. -/
theorem GOf.stepC {W2 : World} (h : GOf B W g n G) (hBW : B ≤ W.heap.size) (hb : Below W.heap.size W W2) (x : Ev) (hn : n + 102 ≤ 598134325510144) :
    Calls Tryz.prog 10 #[.pointer (some ⟨g, 0, none⟩), .agg (evA x)] W2 fun r w' => r = .returned (.int .i64 (G.dec x).2) ∧ GOf B w' g (n + 102) (G.app x) ∧ Below B W2 w' ∧ ∀ b off u, W.heap.size ≤ b → W2.cell? ⟨b, off, none⟩ = some u → w'.cell? ⟨b, off, none⟩ = some u := by
  obtain ⟨F, h1, h2⟩ := h
  refine ((h1.later hb).apply x hn).mono ?_
  rintro r w' ⟨rfl, F', h3, h4, h5⟩
  have hBW2 : B ≤ W2.heap.size := Nat.le_trans hBW hb.size
  refine ⟨rfl, ⟨F', h3, fun b hb => (h5 b hb).elim (h2 b) (fun h => Nat.le_trans hBW2 h)⟩, h4.below (fun k hk => h2 k hk) hBW2, fun b off u hbw hc => ?_⟩
  rw [h4.cell (World.block_lt_of_cell? W2 ⟨b, off, none⟩ hc) (fun hm => by have := h1.2.2 b hm; omega)]
  exact hc
theorem GOf.gen (h : GOf B W g n G) : Calls Tryz.prog 9 #[.pointer (some ⟨g, 0, none⟩)] W fun e w' => e = .returned (.int .i64 G.gen) ∧ w' = W := by
  obtain ⟨F, h1, -⟩ := h
  exact Generation_any h1
theorem GOf.ok (h : GOf B W g n G) : GOk n G := by obtain ⟨F, h1, -⟩ := h; exact h1.2.1
/-- Members: the row of names, and what its first one is. -/
theorem GOf.members1 (h : GOf B W g n G) : Calls Tryz.prog 8 #[.pointer (some ⟨g, 0, none⟩)] W fun e w' => ∃ a c, e = .returned (.slice a G.ks.length c) ∧ (0 < G.ks.length → ∃ b off, a = some ⟨b, off, none⟩ ∧ W.heap.size ≤ b ∧ w'.cell? ⟨b, off, none⟩ = some (.string (nmS (G.ks.getD 0 [])))) ∧ Below W.heap.size W w' := by
  obtain ⟨F, h1, -⟩ := h
  refine (Members_at h1).mono ?_
  rintro r w' ⟨v, rfl, h2, h3⟩
  obtain ⟨a, c, rfl, hA⟩ := h2.form kS_ok.tofit
  refine ⟨a, c, rfl, fun h0 => ?_, h3⟩
  obtain ⟨b, off, e, -, hc⟩ := hA.cells h0
  have hbl := (h2.block b (by rw [e]; rfl)).1
  have h4 := hc 0 h0 0 (by decide)
  rw [Nat.zero_mul, Nat.add_zero] at h4
  exact ⟨b, off, e, hbl, h4⟩
set_option maxRecDepth 100000 in
set_option maxHeartbeats 8000000 in
theorem fences_walk {l : List Ev} {a : Option Addr} {m c : Nat} (h : ArgK kER w l a m c) (hm : m * 80 ≤ 140737488351232) (pp ee : Int) : Calls Tryz.prog 4 #[.slice a m c, .int .i64 pp, .int .i64 ee] w fun r w' => r = .returned (.bool true) ∧ Below w.heap.size w w' := by
  obtain ⟨r0, hr0⟩ : ∃ r, pp.tmod 1000 = r := ⟨_, rfl⟩
  obtain ⟨q0, hq0⟩ : ∃ q, (r0 + 1000).tmod 1000 = q := ⟨_, rfl⟩
  have hb0 := tmodA pp (n := 1000) (by omega)
  have hc0 := tmodB pp (n := 1000) (by omega)
  rw [hr0] at hb0 hc0
  rw [hq0] at hc0
  obtain ⟨r1, hr1⟩ : ∃ r, ee.tmod 1000 = r := ⟨_, rfl⟩
  obtain ⟨q1, hq1⟩ : ∃ q, (r1 + 1000).tmod 1000 = q := ⟨_, rfl⟩
  have hb1 := tmodA ee (n := 1000) (by omega)
  have hc1 := tmodB ee (n := 1000) (by omega)
  rw [hr1] at hb1 hc1
  rw [hq1] at hc1
  obtain ⟨E, hE⟩ : ∃ E, 1 + q1 = E := ⟨_, rfl⟩
  have hE1 : 1 ≤ E ∧ E ≤ 1000 := by omega
  have HN := hid (New_ok 4 10 (by omega) (by omega) w)
  have HL := hid h
  clear h
  go_enter Tryz.func4, Tryz.ntmps4
  go_wp2_with (first
    | (go_at_call 5; (with_reducible_and_instances (refine HN.out.mono ?_)); rintro r w1 ⟨F, g, rfl, h1, hb1, hF1⟩; have HG1 : Hid (GOf w.heap.size w1 g 0 (gp0 4 10)) := hid ⟨F, h1, hF1⟩; have HB1 := hid hb1; clear h1 hb1 hF1)
    | (go_at_call 6; (with_reducible_and_instances (refine (num15_any _ _).mono ?_)); rintro r w9 ⟨rfl, hw9⟩; obtain rfl := hw9.symm)
    | (go_at_call 7; (with_reducible_and_instances (refine (knows15 _).mono ?_)); rintro r w2 ⟨rfl, hb2⟩; have HI0 : Hid (GOf w.heap.size w2 g 0 (gp0 4 10) ∧ Below w.heap.size w w2) := ⟨HG1.out.later hb2, HB1.out.trans (hb2.mono HB1.out.size)⟩; clear hb2))
  go_loopw [9] (fun iv wr => ∃ (i : Nat) (G : Gp), i ≤ m ∧ iv = .int .i64 (i : Int) ∧ Hid (GOf w.heap.size wr g (102 * i) G ∧ Below w.heap.size w wr)) (fun iv _ => m - (intOf iv).toNat)
  case atStart => exact ⟨0, gp0 4 10, by omega, rfl, HI0⟩
  case round =>
    obtain ⟨i, G, hi, rfl, HI⟩ := hrel
    obtain ⟨wo, rfl⟩ : ∃ q, q = wr := ⟨wr, rfl⟩
    clear HN HG1 HB1 HI0 hr0 hq0 hr1 hq1 hE hb0 hb1 hc1
    by_cases hlt : i < m
    · obtain ⟨b1, o1, rfl, hs0, hcc⟩ := HL.out.cells (by omega)
      obtain ⟨x, hx⟩ : ∃ x, l.getD i ev0 = x := ⟨_, rfl⟩
      obtain ⟨xk, xs, xa, xb, xc, xd, xe, xf, xq⟩ := x
      obtain ⟨t, ht⟩ : ∃ t, nmS xs = t := ⟨_, rfl⟩
      have hcap := HL.out.cap
      have HXc : Hid (∀ W, Below w.heap.size w W → W.cell? ⟨b1, o1 + i * 9, none⟩ = some (Value.int .i64 xk) ∧ W.cell? ⟨b1, o1 + i * 9 + 1, none⟩ = some (Value.string t) ∧ W.cell? ⟨b1, o1 + i * 9 + 2, none⟩ = some (Value.int .i64 xa) ∧ W.cell? ⟨b1, o1 + i * 9 + 3, none⟩ = some (Value.int .i64 xb) ∧ W.cell? ⟨b1, o1 + i * 9 + 4, none⟩ = some (Value.int .i64 xc) ∧ W.cell? ⟨b1, o1 + i * 9 + 5, none⟩ = some (Value.int .i64 xd) ∧ W.cell? ⟨b1, o1 + i * 9 + 6, none⟩ = some (Value.int .i64 xe) ∧ W.cell? ⟨b1, o1 + i * 9 + 7, none⟩ = some (Value.int .i64 xf) ∧ W.cell? ⟨b1, o1 + i * 9 + 8, none⟩ = some (Value.bool xq)) := fun W hW => by
        have h9 : ∀ k, k < 9 → W.cell? ⟨b1, o1 + i * 9 + k, none⟩ = (evA ⟨xk, xs, xa, xb, xc, xd, xe, xf, xq⟩).toList[k]? := fun k hk => by
          have h := hcc i hlt k hk
          rw [show l.getD i kER.z = l.getD i ev0 from rfl, hx] at h
          exact (hW.cell (p := ⟨b1, o1 + i * 9 + k, none⟩) hs0).trans h
        rw [← ht]
        exact ⟨h9 0 (by decide), h9 1 (by decide), h9 2 (by decide), h9 3 (by decide), h9 4 (by decide), h9 5 (by decide), h9 6 (by decide), h9 7 (by decide), h9 8 (by decide)⟩
      have HOw : Hid (∀ W, Calls Tryz.prog 11 #[.agg #[.int .i64 xk, .string t, .int .i64 xa, .int .i64 xb, .int .i64 xc, .int .i64 xd, .int .i64 xe, .int .i64 xf, .bool xq]] W fun r w' => r = .returned (.agg #[.int .i64 xk, .string t, .int .i64 xa, .int .i64 xb, .int .i64 xc, .int .i64 xd, .int .i64 xe, .int .i64 xf, .bool xq]) ∧ Below W.heap.size W w') := fun W => by
        have h := own15_any ⟨xk, xs, xa, xb, xc, xd, xe, xf, xq⟩ W
        rw [← ht]
        exact h
      have HAp : Hid (∀ W, GOf w.heap.size W g (102 * i) G → w.heap.size ≤ W.heap.size → Calls Tryz.prog 10 #[.pointer (some ⟨g, 0, none⟩), .agg #[.int .i64 xk, .string t, .int .i64 xa, .int .i64 xb, .int .i64 xc, .int .i64 xd, .int .i64 xe, .int .i64 xf, .bool xq]] W fun r w' => (∃ y, r = .returned (.int .i64 y)) ∧ GOf w.heap.size w' g (102 * (i + 1)) (G.app ⟨xk, xs, xa, xb, xc, xd, xe, xf, xq⟩) ∧ Below w.heap.size W w') := fun W hG hN => by
        have h := hG.applyA hN ⟨xk, xs, xa, xb, xc, xd, xe, xf, xq⟩ (by omega)
        rw [show 102 * i + 102 = 102 * (i + 1) by omega] at h
        rw [← ht]
        exact h.mono (fun r w' hh => ⟨⟨_, hh.1⟩, hh.2.1, hh.2.2⟩)
      obtain ⟨r0, r1, r2, r3, r4, r5, r6, r7, r8⟩ := HXc.out wo HI.out.2
      clear hcc hx ht HXc hE1 hc0
      go_wp2_with (first
        | (go_at_call 11; (with_reducible_and_instances (refine (HOw.out _).mono ?_)); rintro r w5 ⟨rfl, hb5⟩; have HA5 := hid (HAp.out w5 (HI.out.1.later hb5) (Nat.le_trans HI.out.2.size hb5.size)); have HBw5 := hid (HI.out.2.trans (hb5.mono HI.out.2.size)); clear hb5)
        | (go_at_call 10; (with_reducible_and_instances (refine HA5.out.mono ?_)); rintro r w6 ⟨⟨y, rfl⟩, h6, hb6⟩; have HI6 : Hid (GOf w.heap.size w6 g (102 * (i + 1)) (G.app ⟨xk, xs, xa, xb, xc, xd, xe, xf, xq⟩) ∧ Below w.heap.size w w6) := ⟨h6, HBw5.out.trans hb6⟩; clear h6 hb6))
      exact ⟨⟨i + 1, _, by omega, by go_num, HI6⟩, by simp [intOf]; omega⟩
    · obtain rfl : m = i := by omega
      have hge := HI.out.1.ok.gen
      obtain ⟨G1, hG1⟩ : ∃ G1, G.app (evM q0 E false) = G1 := ⟨_, rfl⟩
      obtain ⟨d0, hd0⟩ : ∃ d, (G.dec (evM q0 E false)).2 = d := ⟨_, rfl⟩
      have hdd := decM (G := G) (y := false) hc0 (e := E) (by omega)
      rw [hd0] at hdd
      have HA1 : Hid (Calls Tryz.prog 10 #[.pointer (some ⟨g, 0, none⟩), .agg #[.int .i64 7, .string ⟨#[]⟩, .int .i64 0, .int .i64 0, .int .i64 0, .int .i64 q0, .int .i64 E, .int .i64 0, .bool false]] wo fun r w' => r = .returned (.int .i64 d0) ∧ GOf w.heap.size w' g (102 * m + 102) G1 ∧ Below w.heap.size wo w') := by
        have h := HI.out.1.applyA HI.out.2.size (evM q0 E false) (by omega)
        rw [hd0, hG1] at h
        exact h
      by_cases hp : G.epo q0 ≤ E
      · rw [if_pos hp] at hdd
        subst hdd
        have hep : G1.epo q0 = E := by rw [← hG1]; exact appM hc0 (by omega) hp
        obtain ⟨l1, l2⟩ := lateM (G := G1) (y := true) hc0 hE1 hep
        have HA2 : Hid (∀ W, GOf w.heap.size W g (102 * m + 102) G1 → w.heap.size ≤ W.heap.size → Calls Tryz.prog 10 #[.pointer (some ⟨g, 0, none⟩), .agg #[.int .i64 7, .string ⟨#[]⟩, .int .i64 0, .int .i64 0, .int .i64 0, .int .i64 q0, .int .i64 (E - 1), .int .i64 0, .bool true]] W fun r w' => r = .returned (.int .i64 50) ∧ GOf w.heap.size w' g (102 * m + 102 + 102) G1 ∧ Below w.heap.size W w') := fun W h hN => by
          have h1 := h.applyA hN (evM q0 (E - 1) true) (by omega)
          rw [l1, l2] at h1
          exact h1
        obtain ⟨pn, hpn⟩ : ∃ k, G1.pend.length = k := ⟨_, rfl⟩
        have HPe : Hid (∀ W k, k ≤ 598134325510144 → GOf w.heap.size W g k G1 → Calls Tryz.prog 13 #[.pointer (some ⟨g, 0, none⟩)] W fun e w' => (∃ a c, e = .returned (.slice a pn c)) ∧ Below W.heap.size W w') := fun W k hk h => by
          have h1 := h.pending hk
          rw [hpn] at h1
          exact h1
        obtain ⟨gn, hgn⟩ : ∃ k, G1.gen = k := ⟨_, rfl⟩
        have HGe : Hid (∀ W k, GOf w.heap.size W g k G1 → Calls Tryz.prog 9 #[.pointer (some ⟨g, 0, none⟩)] W fun e w' => e = .returned (.int .i64 gn) ∧ w' = W) := fun W k h => by
          have h1 := h.gen
          rw [hgn] at h1
          exact h1
        obtain ⟨nk, hnk⟩ : ∃ k, G1.ks.length = k := ⟨_, rfl⟩
        have HGk := hid hnk
        have HMe : Hid (∀ W k, GOf w.heap.size W g k G1 → Calls Tryz.prog 8 #[.pointer (some ⟨g, 0, none⟩)] W fun e w' => ∃ a c, e = .returned (.slice a nk c) ∧ (0 < nk → ∃ b off, a = some ⟨b, off, none⟩ ∧ W.heap.size ≤ b ∧ w'.cell? ⟨b, off, none⟩ = some (.string (nmS (G1.ks.getD 0 [])))) ∧ Below W.heap.size W w') := fun W k h => by
          have h1 := h.members1
          rw [hnk] at h1
          exact h1
        have HPr : Hid (0 < nk → ∀ (W W2 : World) (k : Nat), (k : Int) < 281474976710656 → k + 102 ≤ 598134325510144 → GOf w.heap.size W g k G1 → w.heap.size ≤ W.heap.size → Below W.heap.size W W2 → Calls Tryz.prog 10 #[.pointer (some ⟨g, 0, none⟩), .agg #[.int .i64 6, .string (nmS (G1.ks.getD 0 [])), .int .i64 gn, .int .i64 0, .int .i64 0, .int .i64 q0, .int .i64 (E - 1), .int .i64 0, .bool false]] W2 fun r w' => r = .returned (.int .i64 50) ∧ GOf w.heap.size w' g (k + 102) G1 ∧ Below w.heap.size W2 w' ∧ ∀ b off u, W.heap.size ≤ b → W2.cell? ⟨b, off, none⟩ = some u → w'.cell? ⟨b, off, none⟩ = some u) := fun h0 W W2 k hk hk2 h hN hb => by
          have hin : G1.ks.getD 0 [] ∈ G1.ks := by rw [List.getD_eq_getElem?_getD, List.getElem?_eq_getElem (by omega)]; exact List.getElem_mem _
          obtain ⟨p1, p2⟩ := lateP h.ok hc0 hE1 hep hk hin
          rw [hgn] at p1 p2
          have h1 := h.stepC hN hb ⟨6, G1.ks.getD 0 [], gn, 0, 0, q0, E - 1, 0, false⟩ hk2
          rw [p1, p2] at h1
          exact h1
        generalize nmS (G1.ks.getD 0 []) = t0 at *
        clear hep l1 l2 hG1 hd0 hp hpn hgn hge HL
        by_cases hk0 : nk = 0
        · subst hk0
          go_wp2_with (first
            | (go_at_call 10; (with_reducible_and_instances (refine HA1.out.mono ?_)); rintro r w5 ⟨rfl, h5, hb5⟩; have HG5 := hid h5; have HB5 := hid (HI.out.2.trans hb5); have HP5 := hid (HPe.out w5 _ (by omega) h5); clear h5 hb5)
            | (go_at_call 13; (with_reducible_and_instances (refine HP5.out.mono ?_)); rintro r w6 ⟨⟨a6, c6, rfl⟩, hb6⟩; have HB6 := hid (HB5.out.trans (hb6.mono HB5.out.size)); have HA6 := hid (HA2.out w6 (HG5.out.later hb6) HB6.out.size); clear hb6)
            | (go_at_call 10; (with_reducible_and_instances (refine HA6.out.mono ?_)); rintro r w7 ⟨rfl, h7, hb7⟩; have HG7 := hid h7; have HB7 := hid (HB6.out.trans hb7); have HM7 := hid (HMe.out w7 _ h7); clear h7 hb7)
            | (go_at_call 8; (with_reducible_and_instances (refine HM7.out.mono ?_)); rintro r w8 ⟨a8, c8, rfl, -, hb8⟩; have HB8 := hid (HB7.out.trans (hb8.mono HB7.out.size)); have HP8 := hid (HPe.out w8 _ (by omega) (HG7.out.later hb8)); clear hb8)
            | (go_at_call 13; (with_reducible_and_instances (refine HP8.out.mono ?_)); rintro r w10 ⟨⟨a10, c10, rfl⟩, hb10⟩; have HB10 := hid (HB8.out.trans (hb10.mono HB8.out.size)); clear hb10)
            | (go_at_call 6; (with_reducible_and_instances (refine (num15_any _ _).mono ?_)); rintro r w9 ⟨rfl, hw9⟩; obtain rfl := hw9.symm))
          go_ret
          exact ⟨rfl, HB10.out⟩
        · have hk1 : 0 < nk := by omega
          have hwr : IntKind.i64.wrap (E - 1) = E - 1 := by rw [IntKind.wrap_i64]; omega
          go_wp2_with (first
            | (go_at_call 10; (with_reducible_and_instances (refine HA1.out.mono ?_)); rintro r w5 ⟨rfl, h5, hb5⟩; have HG5 := hid h5; have HB5 := hid (HI.out.2.trans hb5); have HP5 := hid (HPe.out w5 _ (by omega) h5); clear h5 hb5)
            | (go_at_call 13; (with_reducible_and_instances (refine HP5.out.mono ?_)); rintro r w6 ⟨⟨a6, c6, rfl⟩, hb6⟩; have HB6 := hid (HB5.out.trans (hb6.mono HB5.out.size)); have HA6 := hid (HA2.out w6 (HG5.out.later hb6) HB6.out.size); clear hb6)
            | (go_at_call 10; (with_reducible_and_instances (refine HA6.out.mono ?_)); rintro r w7 ⟨rfl, h7, hb7⟩; have HG7 := hid h7; have HB7 := hid (HB6.out.trans hb7); have HM7 := hid (HMe.out w7 _ h7); clear h7 hb7)
            | (go_at_call 8; (with_reducible_and_instances (refine HM7.out.mono ?_)); rintro r w8 ⟨a8, c8, rfl, hcl, hb8⟩; obtain ⟨b8, o8, rfl, z7, z8⟩ := hcl hk1; have HB8 := hid (HB7.out.trans (hb8.mono HB7.out.size)); have HG8 := hid (HG7.out.later hb8); have HE8 : Hid (∀ W, Below w8.heap.size w8 W → Calls Tryz.prog 9 #[.pointer (some ⟨g, 0, none⟩)] W fun e w' => e = .returned (.int .i64 gn) ∧ w' = W) := hid (fun W hW => HGe.out W _ (HG8.out.later hW)); have HR8 := hid (HPr.out hk1 w7 w8.drew _ (by omega) (by omega) HG7.out HB7.out.size hb8.drew); clear hb8 hcl)
            | (go_at_call 6; (with_reducible_and_instances (refine (num15_any _ _).mono ?_)); rintro r w9 ⟨rfl, hw9⟩; obtain rfl := hw9.symm))
          refine wp_region_held_drew (S := fun W => W.cell? ⟨b8, o8, none⟩ = some (.string t0)) (by kernel_rfl) (z8) (fun hHeld => ?_)
          refine wpAnyH_take (i := 0) (oi := { dst := some 77, op := Op.move (Operand.tmp 7), type := 23, pos := "law.go:296", after := #[], guard := none }) (v := ?_) rfl (by kernel_rfl) (by kernel_rfl) (by kernel_rfl) (fun _ _ _ h => h) (Or.inl ⟨by rfl, ?_⟩) hHeld ?_
          rotate_left
          · intro w hSw; (try dsimp only at hSw); go_simp; try with_reducible rfl
          try simp only [Act.put, List.setIfInBounds_toArray, List.set_cons_zero, List.set_cons_succ]
          refine wpAnyH_take (i := 1) (oi := { dst := some 78, op := Op.move (Operand.tmp 13), type := 32, pos := "law.go:296", after := #[], guard := none }) (v := ?_) rfl (by kernel_rfl) (by kernel_rfl) (by kernel_rfl) (fun _ _ _ h => h) (Or.inl ⟨by rfl, ?_⟩) hHeld ?_
          rotate_left
          · intro w hSw; (try dsimp only at hSw); go_simp; try with_reducible rfl
          try simp only [Act.put, List.setIfInBounds_toArray, List.set_cons_zero, List.set_cons_succ]
          refine wpAnyH_take (i := 2) (oi := { dst := some 79, op := Op.indexAddr 32 (Operand.tmp 78) (Operand.const (Value.int IntKind.i64 0)), type := 0, pos := "law.go:296", after := #[{ on := 1, ground := Ground.data }], guard := none }) (v := ?_) rfl (by kernel_rfl) (by kernel_rfl) (by kernel_rfl) (fun _ _ _ h => h) (Or.inl ⟨by rfl, ?_⟩) hHeld ?_
          rotate_left
          · intro w hSw; (try dsimp only at hSw); go_simp; try with_reducible rfl
          try simp only [Act.put, List.setIfInBounds_toArray, List.set_cons_zero, List.set_cons_succ]
          refine wpAnyH_take (i := 3) (oi := { dst := some 80, op := Op.load 9 (Operand.tmp 79), type := 9, pos := "law.go:296", after := #[{ on := 2, ground := Ground.data }], guard := none }) (v := ?_) rfl (by kernel_rfl) (by kernel_rfl) (by kernel_rfl) (fun _ _ _ h => h) (Or.inl ⟨by rfl, ?_⟩) hHeld ?_
          rotate_left
          · intro w hSw; (try dsimp only at hSw); go_simp; try with_reducible rfl
          try simp only [Act.put, List.setIfInBounds_toArray, List.set_cons_zero, List.set_cons_succ]
          refine wpAnyH_take (i := 4) (oi := { dst := some 81, op := Op.move (Operand.tmp 7), type := 23, pos := "law.go:296", after := #[], guard := none }) (v := ?_) rfl (by kernel_rfl) (by kernel_rfl) (by kernel_rfl) (fun _ _ _ h => h) (Or.inl ⟨by rfl, ?_⟩) hHeld ?_
          rotate_left
          · intro w hSw; (try dsimp only at hSw); go_simp; try with_reducible rfl
          try simp only [Act.put, List.setIfInBounds_toArray, List.set_cons_zero, List.set_cons_succ]
          refine wpAnyH_take (i := 6) (oi := { dst := some 83, op := Op.move (Operand.tmp 1), type := 3, pos := "law.go:296", after := #[], guard := none }) (v := ?_) rfl (by kernel_rfl) (by kernel_rfl) (by kernel_rfl) (fun _ _ _ h => h) (Or.inl ⟨by rfl, ?_⟩) hHeld ?_
          rotate_left
          · intro w hSw; (try dsimp only at hSw); go_simp; try with_reducible rfl
          try simp only [Act.put, List.setIfInBounds_toArray, List.set_cons_zero, List.set_cons_succ]
          refine wpAnyH_take (i := 7) (oi := { dst := some 84, op := Op.move (Operand.tmp 2), type := 3, pos := "law.go:296", after := #[], guard := none }) (v := ?_) rfl (by kernel_rfl) (by kernel_rfl) (by kernel_rfl) (fun _ _ _ h => h) (Or.inl ⟨by rfl, ?_⟩) hHeld ?_
          rotate_left
          · intro w hSw; (try dsimp only at hSw); go_simp; try with_reducible rfl
          try simp only [Act.put, List.setIfInBounds_toArray, List.set_cons_zero, List.set_cons_succ]
          refine wpAnyH_take (i := 8) (oi := { dst := some 85, op := Op.binOp BinOp.sub 3 (Operand.tmp 84) (Operand.const (Value.int IntKind.i64 1)) 3, type := 3, pos := "law.go:296", after := #[{ on := 7, ground := Ground.data }], guard := none }) (v := ?_) rfl (by kernel_rfl) (by kernel_rfl) (by kernel_rfl) (fun _ _ _ h => h) (Or.inl ⟨by rfl, ?_⟩) hHeld ?_
          rotate_left
          · intro w hSw; (try dsimp only at hSw); go_simp; try with_reducible rfl
          try simp only [Act.put, List.setIfInBounds_toArray, List.set_cons_zero, List.set_cons_succ]
          refine wpAnyH_ready (rs := [5]) (by kernel_rfl) (by simp) ?_
          refine AllReadyH.cons rfl (fun K hK => ?_) (AllReadyH.nil)
          go_simp
          go_wp2_with (go_at_call 9; (with_reducible_and_instances (refine (HE8.out _ (Below.refl _ _).drew).mono ?_)); rintro r w9 ⟨rfl, hw9⟩; obtain rfl := hw9.symm)
          refine hK.out _ _ (z8) (fun hHeld => ?_)
          clear hK K
          try simp only [Act.put, List.setIfInBounds_toArray, List.set_cons_zero, List.set_cons_succ]
          refine wpAnyH_take (i := 9) (oi := { dst := some 86, op := Op.build 36 #[(0, Operand.const (Value.int IntKind.i64 6)), (1, Operand.tmp 80), (2, Operand.tmp 82), (5, Operand.tmp 83), (6, Operand.tmp 85)], type := 36, pos := "law.go:296", after := #[{ on := 3, ground := Ground.data }, { on := 5, ground := Ground.data }, { on := 6, ground := Ground.data }, { on := 8, ground := Ground.data }], guard := none }) (v := ?_) rfl (by kernel_rfl) (by kernel_rfl) (by kernel_rfl) (fun _ _ _ h => h) (Or.inl ⟨by rfl, ?_⟩) hHeld ?_
          rotate_left
          · intro w hSw; (try dsimp only at hSw); go_simp; try with_reducible rfl
          try simp only [Act.put, List.setIfInBounds_toArray, List.set_cons_zero, List.set_cons_succ]
          refine wpAnyH_ready (rs := [10]) (by kernel_rfl) (by simp) ?_
          refine AllReadyH.cons rfl (fun K hK => ?_) (AllReadyH.nil)
          go_simp
          go_wp2_with (go_at_call 10; (with_reducible_and_instances (refine HR8.out.mono ?_)); rintro r w11 ⟨rfl, h11, hb11, hc11⟩; have HB11 : Hid (Below w.heap.size w w11) := hid (HB8.out.drew.trans hb11); have HP11 := hid (HPe.out w11 _ (by omega) h11); have z11 := hc11 b8 o8 _ z7 z8; clear h11 hb11 hc11)
          refine hK.out _ _ (z11) (fun hHeld => ?_)
          clear hK K
          try simp only [Act.put, List.setIfInBounds_toArray, List.set_cons_zero, List.set_cons_succ]
          refine wpAnyH_take (i := 11) (oi := { dst := some 14, op := Op.assign (Operand.tmp 87), type := 24, pos := "law.go:296", after := #[{ on := 10, ground := Ground.data }, { on := 10, ground := Ground.chain }, { on := 0, ground := Ground.phase }, { on := 1, ground := Ground.phase }, { on := 2, ground := Ground.phase }, { on := 3, ground := Ground.phase }, { on := 4, ground := Ground.phase }, { on := 5, ground := Ground.phase }, { on := 6, ground := Ground.phase }, { on := 7, ground := Ground.phase }, { on := 8, ground := Ground.phase }, { on := 9, ground := Ground.phase }, { on := 10, ground := Ground.phase }], guard := none }) (v := ?_) rfl (by kernel_rfl) (by kernel_rfl) (by kernel_rfl) (fun _ _ _ h => h) (Or.inl ⟨by rfl, ?_⟩) hHeld ?_
          rotate_left
          · intro w hSw; (try dsimp only at hSw); go_simp; try with_reducible rfl
          try simp only [Act.put, List.setIfInBounds_toArray, List.set_cons_zero, List.set_cons_succ]
          refine wpAnyH_done (by kernel_rfl) ?_ _
          clear hHeld
          go_wp2_with (first
            | (go_at_call 13; (with_reducible_and_instances (refine HP11.out.mono ?_)); rintro r w10 ⟨⟨a10, c10, rfl⟩, hb10⟩; have HB10 := hid (HB11.out.trans (hb10.mono HB11.out.size)); clear hb10)
            | (go_at_call 6; (with_reducible_and_instances (refine (num15_any _ _).mono ?_)); rintro r w9 ⟨rfl, hw9⟩; obtain rfl := hw9.symm))
          go_ret
          exact ⟨rfl, HB10.out⟩
      · rw [if_neg hp] at hdd
        subst hdd
        clear HL hp hG1 hd0 hge
        go_wp2_with (first
          | (go_at_call 10; (with_reducible_and_instances (refine HA1.out.mono ?_)); rintro r w5 ⟨rfl, h5, hb5⟩; have HB5 := hid (HI.out.2.trans hb5); clear h5 hb5)
          | (go_at_call 6; (with_reducible_and_instances (refine (num15_any _ _).mono ?_)); rintro r w9 ⟨rfl, hw9⟩; obtain rfl := hw9.symm))
        go_ret
        exact ⟨rfl, HB5.out⟩
end Go.Proofs.YtabnjdknnabhmaaGreat
