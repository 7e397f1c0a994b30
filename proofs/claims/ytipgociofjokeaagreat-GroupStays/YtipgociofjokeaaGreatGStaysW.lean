/- The walk of GroupStays. -/
import Derived.Test.YtipgociofjokeaaGreatGGrowL
import Derived.Test.YtipgociofjokeaaGreatGStaysM
namespace Go.Proofs.YtipgociofjokeaaGreat
open Go.RowKit Go.Shelf
variable {w w' W : World} {g n B base : Nat} {G : Gp} {F : List Nat} {v : Value}

abbrev kW : Kd Sl := ⟨34, 33, 1, 24, fun x => [.slice x.ad x.m x.c], sl0, .slice none 0 0⟩
theorem kW_ok : kW.ok := ⟨⟨fun _ => rfl, by decide⟩, fun a v hv => by (have : v = .slice a.ad a.m a.c := by simpa using hv); subst this; rfl, by kernel_rfl, rfl, Tryz.underlying33⟩
/-- A slice of rows of numbers, each row of the call's own. -/
structure Rs (w : World) (base : Nat) (v : Value) (A : List Sl) (P : List (List Int)) : Prop where
  row : OwnK kW w base v A
  len : A.length = P.length
  part : ∀ i, i < A.length → OwnK kZ w base (A.getD i sl0).v (P.getD i [])
variable {A : List Sl} {P : List (List Int)}
theorem Rs.nil (w : World) (base : Nat) : Rs w base (.slice none 0 0) [] [] := ⟨OwnK.nil _ _, rfl, fun i hi => by simp at hi⟩
theorem Rs.later (h : Rs w base v A P) (hb : Below w.heap.size w w') : Rs w' base v A P := ⟨h.row.later hb, h.len, fun i hi => (h.part i hi).later hb⟩
theorem Rs.chg (h : Rs w base v A P) (hc : Chg F w w') (hF : ∀ b ∈ F, b < base) : Rs w' base v A P :=
  ⟨h.row.chg hc (fun q hq hm => by have h1 := (h.row.block q hq).1; have h2 := hF q hm; omega), h.len, fun i hi => (h.part i hi).chg hc (fun q hq hm => by have h1 := ((h.part i hi).block q hq).1; have h2 := hF q hm; omega)⟩
theorem kinds_ne {g : Nat} {c1 c2 : Array Value} (h1 : w.heap[g]? = some (.cells c1 kW.T (0, 0))) (h2 : w.heap[g]? = some (.cells c2 kZ.T (0, 0))) : False := by
  rw [h1] at h2
  injection h2 with h2
  injection h2 with _ h2
  exact absurd h2 (by decide)
theorem Rs.app (h : Rs w base v A P) {s : Sl} {q : List Int} (hs : OwnK kZ w base s.v q) {v' : Value} (hO : OwnK kW w' base v' (A ++ [s])) (hg : w.grownBy w' v.ownBlock) : Rs w' base v' (A ++ [s]) (P ++ [q]) := by
  have hl := h.len
  have hkeep : ∀ {x : Value} {r : List Int}, OwnK kZ w base x r → OwnK kZ w' base x r := fun hx => hx.keep (fun b hb => hg.block b (hx.block b hb).2.1 (fun e => by
    obtain ⟨c1, h1⟩ := (h.row.block b e.symm).2.2
    obtain ⟨c2, h2⟩ := (hx.block b hb).2.2
    exact kinds_ne h1 h2))
  refine ⟨hO, by simp [hl], fun i hi => ?_⟩
  rw [List.length_append, List.length_singleton] at hi
  by_cases e : i < A.length
  · rw [List.getD_eq_getElem?_getD, List.getElem?_append_left e, ← List.getD_eq_getElem?_getD, List.getD_eq_getElem?_getD (l := P ++ [q]), List.getElem?_append_left (by omega), ← List.getD_eq_getElem?_getD]
    exact hkeep (h.part i e)
  · obtain rfl : i = A.length := by omega
    have e1 : (A ++ [s]).getD A.length sl0 = s := by simp [List.getD_eq_getElem?_getD]
    have e2 : (P ++ [q]).getD A.length [] = q := by rw [hl]; simp [List.getD_eq_getElem?_getD]
    rw [e1, e2]
    exact hkeep hs
/-- Apply, beside what Members answered and what Share did. -/
theorem GAt.stepR (h : GAt W F g n G) (hB : ∀ b ∈ F, B ≤ b) (hBW : B ≤ W.heap.size) (x : Ev) (hn : n + 102 ≤ 598134325510144) {base2 : Nat} {l : List Nm} (hF : ∀ b ∈ F, b < base) (hF2 : ∀ b ∈ F, b < base2) (hO : OwnK kS W base v l) {vs : Value} (hR : Rs W base2 vs A P) :
    Calls Tryz.prog 7 #[.pointer (some ⟨g, 0, none⟩), .agg (evA x)] W fun r w' => r = .returned (.int .i64 (G.dec x).2) ∧ GOf B w' g (n + 102) (G.app x) ∧ OwnK kS w' base v l ∧ Rs w' base2 vs A P ∧ Below B W w' := by
  refine (h.apply x hn).mono ?_
  rintro r w' ⟨rfl, F', h3, h4, h5⟩
  refine ⟨rfl, ⟨F', h3, fun b hb => (h5 b hb).elim (hB b) (fun h => Nat.le_trans hBW h)⟩, hO.chg h4 (fun q hq hm => ?_), hR.chg h4 hF2, h4.below (fun k hk => hB k hk) hBW⟩
  have h6 := (hO.block q hq).1
  have h7 := hF q hm
  omega
theorem modSG (x : Int) (m : Nat) (hm : 0 < m) : ∃ N : Nat, N < m ∧ (x.tmod (m : Int) + (m : Int)).tmod (m : Int) = (N : Int) ∧ (x.tmod (m : Int) + (m : Int)) % (m : Int) = (N : Int) ∧ x.tmod (m : Int) % (m : Int) = (N : Int) ∧ -(m : Int) < x.tmod (m : Int) ∧ x.tmod (m : Int) < (m : Int) := by
  have h1 := Int.tmod_lt_of_pos x (show (0 : Int) < (m : Int) by omega)
  have h2 := Int.lt_tmod_of_pos x (show (0 : Int) < (m : Int) by omega)
  have h0 : 0 ≤ x.tmod (m : Int) + (m : Int) := by omega
  have e1 := Int.tmod_eq_emod_of_nonneg (b := (m : Int)) h0
  have h4 := Int.emod_nonneg (x.tmod (m : Int) + (m : Int)) (b := (m : Int)) (by omega)
  have h5 := Int.emod_lt_of_pos (x.tmod (m : Int) + (m : Int)) (b := (m : Int)) (by omega)
  refine ⟨((x.tmod (m : Int) + (m : Int)) % (m : Int)).toNat, by omega, by omega, by omega, ?_, h2, h1⟩
  have h3 : (x.tmod (m : Int) + (m : Int)) % (m : Int) = x.tmod (m : Int) % (m : Int) := by simp
  omega
theorem sl_row (Y : World) (a : Option Addr) (m c : Nat) : RowK kW (Y.alloc (.cells #[.slice a m c] 34)) (some ⟨Y.heap.size, 0, none⟩) [⟨a, m, c⟩] := by
  refine Or.inr ⟨_, 0, rfl, by simp, fun i hi c hc => ?_⟩
  obtain rfl : i = 0 := by simp at hi; omega
  obtain rfl : c = 0 := by have : kW.sz = 1 := rfl; omega
  have hb : Blk (Y.alloc (.cells #[.slice a m c] 34)) Y.heap.size _ _ := heap_alloc_new Y _
  exact hb.cell 0
theorem met_more {lb : List Int} {k : Nat} {x y : Int} {mt : Bool} (h : decide (x ∈ lb.take k) = mt) (ht : lb.take (k + 1) = lb.take k ++ [y]) : decide (x ∈ lb.take (k + 1)) = (mt || decide (y = x)) := by
  rw [ht, ← h]
  by_cases e : x ∈ lb.take k
  · simp [e]
  · by_cases e2 : y = x
    · simp [e2]
    · simp [e, e2]
      exact fun e3 => e2 e3.symm
theorem getD_memZ {l : List Int} {i : Nat} (h : i < l.length) : l.getD i 0 ∈ l := by rw [getD_at _ _ _ h]; exact List.getElem_mem h
def evJ (nm : Nm) : Ev := ⟨1, nm, 0, 0, 0, 0, 0, 0, false⟩
set_option maxRecDepth 100000 in
set_option maxHeartbeats 4000000 in
theorem stays15_walk {names : List Nm} {a : Option Addr} {m c : Nat} (h : ArgK kS w names a m c) (pp : Int) (gone : Int) : Calls Tryz.prog 3 #[.slice a m c, .int .i64 pp, .int .i64 gone] w fun r w' => r = .returned (.bool true) ∧ Below w.heap.size w w' := by
  have hr := tm32 pp
  have hq := par_rng pp
  generalize hr' : pp.tmod 32 = r at *
  generalize hq' : (r + 32).tmod 32 = q at *
  obtain ⟨p, hp⟩ : ∃ p : Nat, 1 + q = (p : Int) := ⟨(1 + q).toNat, by omega⟩
  have hp1 : 1 ≤ p ∧ p ≤ 32 := by omega
  have HN := hid (New_ok (p : Int) 10 (by omega) (by omega) w)
  have HL := hid h
  have hm64 : m ≤ 9223372036854775807 := by have h1 := h.cap; have h2 := h.room; unfold maxLen at h2; omega
  clear h
  go_enter Tryz.func3, Tryz.ntmps3
  go_wp2_with (first
    | (go_at_call 4; (with_reducible_and_instances (refine HN.out.mono ?_)); rintro r w1 ⟨F, g, rfl, h1, hb1, hF1⟩; have HG1 : Hid (GOf w.heap.size w1 g 0 (gp0 (p : Int) 10)) := hid ⟨F, h1, hF1⟩; have HB1 := hid hb1; clear h1 hb1 hF1)
    | (go_at_call 5; (with_reducible_and_instances (refine (num15_any _ _).mono ?_)); rintro r w9 ⟨rfl, hw9⟩; obtain rfl := hw9.symm)
    | (go_at_call 6; (with_reducible_and_instances (refine (knows15 _).mono ?_)); rintro r w2 ⟨rfl, hb2⟩; have HG2 := hid (HG1.out.later hb2); have HB2 := hid (HB1.out.trans (hb2.mono HB1.out.size)); clear hb2))
  go_loopw [9] (fun iv wr => ∃ (i : Nat) (G : Gp), i ≤ m ∧ i ≤ 20 ∧ iv = .int .i64 (i : Int) ∧ Hid (GOf w.heap.size wr g (102 * i) G) ∧ Hid (GCov G) ∧ Hid (Below w.heap.size w wr)) (fun iv _ => m - (intOf iv).toNat)
  case atStart => exact ⟨0, gp0 p 10, by omega, by omega, rfl, HG2, hid (GCov.new _ _), HB2⟩
  case round =>
    obtain ⟨i0, G, hi, hi20, rfl, HG, HC, HB⟩ := hrel
    obtain ⟨wo, rfl⟩ : ∃ q, q = wr := ⟨wr, rfl⟩
    clear HN HG1 HB1 HG2 HB2 hr' hq' hp hr hq
    by_cases hlt : i0 < m ∧ i0 < 20
    · obtain ⟨hlm, hl20⟩ := hlt
      have hd20 : decide ((i0 : Int) < 20) = true := by simp; omega
      obtain ⟨b1, o1, rfl, hs0, hc0⟩ := HL.out.cells (by omega)
      obtain ⟨xs, hx⟩ : ∃ x, names.getD i0 [] = x := ⟨_, rfl⟩
      obtain ⟨t, ht⟩ : ∃ t, nmS xs = t := ⟨_, rfl⟩
      have hcap := HL.out.cap
      have q1 : wo.cell? ⟨b1, o1 + i0, none⟩ = some (.string t) := (HB.out.cell (p := ⟨b1, o1 + i0, none⟩) hs0).trans (by have h := hc0 i0 hlm 0 (by decide); rw [Nat.mul_one, Nat.add_zero, show names.getD i0 kS.z = names.getD i0 [] from rfl, hx] at h; rw [← ht]; exact h)
      obtain ⟨G', hG'⟩ : ∃ G', G.app (evJ xs) = G' := ⟨_, rfl⟩
      have HC' : Hid (GCov G') := by rw [← hG']; exact (GNext.app HG.out.ok HC.out _).cov
      obtain ⟨y, hy⟩ : ∃ y, (G.dec (evJ xs)).2 = y := ⟨_, rfl⟩
      have HAp : Hid (Calls Tryz.prog 7 #[.pointer (some ⟨g, 0, none⟩), .agg #[.int .i64 1, .string t, .int .i64 0, .int .i64 0, .int .i64 0, .int .i64 0, .int .i64 0, .int .i64 0, .bool false]] wo fun r w' => r = .returned (.int .i64 y) ∧ GOf w.heap.size w' g (102 * (i0 + 1)) G' ∧ Below w.heap.size wo w') := by
        have h := HG.out.apply HB.out.size (evJ xs) (by omega) ⟨by show (1 : Int) ≠ 6; decide, by show (1 : Int) ≠ 7; decide⟩ y hy G' hG'
        rw [show 102 * i0 + 102 = 102 * (i0 + 1) by omega] at h
        rw [← ht]
        exact h
      clear hc0 hx ht hG' hy hs0
      go_wp2_with (go_at_call 7; (with_reducible_and_instances (refine HAp.out.mono ?_)); rintro r w6 ⟨rfl, hG6, hb6⟩; have HG6 := hid hG6; have HBw6 := hid (HB.out.trans hb6); clear hG6 hb6)
      exact ⟨⟨i0 + 1, G', by omega, by omega, by go_num, HG6, HC', HBw6⟩, by simp [intOf]; omega⟩
    · have HMe := hid HG.out.members
      obtain ⟨mk, hmk⟩ : ∃ mk, G.ks.length = mk := ⟨_, rfl⟩
      rw [hmk] at HMe
      have hmk100 : mk ≤ 100 := by rw [← hmk]; exact HG.out.ok.cnt
      have HMk := hid hmk
      clear hmk
      have hend : (i0 < m ∧ decide ((i0 : Int) < 20) = false) ∨ ¬ i0 < m := by
        by_cases e : i0 < m
        · left; exact ⟨e, by simp; omega⟩
        · right; exact e
      by_cases h2 : mk < 2
      · have hd2 : decide ((mk : Int) < 2) = true := by simp; omega
        rcases hend with ⟨e1, e2⟩ | e1
        all_goals
          go_wp2_with (go_at_call 8; (with_reducible_and_instances (refine HMe.out.mono ?_)); rintro r w4 ⟨ma, mc, rfl, hO4, hb4⟩; have HB4 := hid hb4; clear hO4 hb4)
          go_ret
          exact ⟨rfl, HB.out.trans (HB4.out.mono HB.out.size)⟩
      · have hd2 : decide ((mk : Int) < 2) = false := by simp; omega
        obtain ⟨gv, hg1, hg2, hg3, hg4, hg5, hg6⟩ := modSG gone mk (by omega)
        have hwm : IntKind.i64.wrap (gone.tmod (mk : Int) + (mk : Int)) = gone.tmod (mk : Int) + (mk : Int) := by
          rw [IntKind.wrap_i64]
          omega
        have hz : ((mk : Int) == 0) = false := by simp; omega
        obtain ⟨F, hGA, hFB⟩ := HG.out
        have HGa := hid hGA
        have HFb := hid hFB
        have HFs : Hid (∀ b ∈ F, b < wo.heap.size) := hGA.2.2
        clear hGA hFB
        have hks : ∀ i, i < mk → G.ks.getD i [] ∈ G.ks := fun i hi => getD_name (by rw [HMk.out]; exact hi)
        have HKs := hid hks
        have HNd : Hid (∀ i j, i < mk → j < mk → i ≠ j → G.ks.getD i [] ≠ G.ks.getD j []) := fun i j hi hj hne e => by
          have hn := HG.out.ok.nodup
          have e1 := List.getElem?_eq_getElem (l := G.ks) (i := i) (by rw [HMk.out]; exact hi)
          have e2 := List.getElem?_eq_getElem (l := G.ks) (i := j) (by rw [HMk.out]; exact hj)
          rw [getD_at _ _ _ (by rw [HMk.out]; exact hi), getD_at _ _ _ (by rw [HMk.out]; exact hj)] at e
          exact hne ((List.getElem_inj hn).1 e)
        clear hks
        obtain ⟨G', hG'⟩ : ∃ G', G.app (evL (G.ks.getD gv [])) = G' := ⟨_, rfl⟩
        have hlv := app_leave HG.out.ok (HKs.out gv hg1)
        have HGo : Hid (G'.share (G.ks.getD gv []) = []) := by rw [← hG', hlv.1]; exact gone_none _
        have HKp : Hid (∀ i, i < mk → i ≠ gv → ∀ z ∈ G.share (G.ks.getD i []), z ∈ G'.share (G.ks.getD i [])) := fun i hi hne z hz => by
          rw [← hG', hlv.1]
          exact stays_more HG.out.ok HC.out (HKs.out gv hg1) (HKs.out i hi) (HNd.out i gv hi hg1 hne) z hz
        have HDec := hid hlv.2
        have HApp := hid hG'
        clear hlv hG'
        rcases hend with ⟨e1, e2⟩ | e1
        all_goals
          go_wp2_with (go_at_call 8; (with_reducible_and_instances (refine HMe.out.mono ?_)); rintro r w4 ⟨ma, mc, rfl, hO4, hb4⟩; have HO4 := hid hO4; have HB4 := hid hb4; have HA4 := hid (own_arg kS_ok.tofit hO4); clear hO4 hb4)
          clear HMe
          have HGa4 := hid (HGa.out.later HB4.out)
          have hFw4 : Hid (∀ b ∈ F, b < w4.heap.size) := fun b hb => Nat.lt_of_lt_of_le (HFs.out b hb) HB4.out.size
          go_loopw [12, 11] (fun iv sv wr => ∃ (i : Nat) (A : List Sl), i ≤ mk ∧ iv = .int .i64 (i : Int) ∧ A.length = i ∧ Hid (Rs wr w4.heap.size sv A ((G.ks.take i).map G.share)) ∧ Hid (Below w4.heap.size w4 wr)) (fun iv _ _ => mk - (intOf iv).toNat)
          case atStart => exact ⟨0, [], by omega, rfl, rfl, Rs.nil _ _, Below.refl _ _⟩
          case round =>
            obtain ⟨i, A, hi, rfl, hAl, HR, HBi⟩ := hrel
            obtain ⟨wi, rfl⟩ : ∃ q, q = wr := ⟨wr, rfl⟩
            obtain ⟨va, vc, hsv, -⟩ := HR.out.row.form kW_ok.tofit
            subst hsv
            by_cases hlt : i < mk
            · obtain ⟨bn, on, rfl, hsn, hcn⟩ := HA4.out.cells (by omega)
              obtain ⟨nm, hnm⟩ : ∃ nm, G.ks.getD i [] = nm := ⟨_, rfl⟩
              have hn1 : wi.cell? ⟨bn, on + i, none⟩ = some (.string (nmS nm)) := by
                have h := hcn i hlt 0 (by decide)
                rw [Nat.mul_one, Nat.add_zero, show G.ks.getD i kS.z = G.ks.getD i [] from rfl, hnm] at h
                exact (HBi.out.cell (p := ⟨bn, on + i, none⟩) hsn).trans h
              have hcapn := HA4.out.cap
              obtain ⟨sm, hsm⟩ : ∃ sm, (G.share nm).length = sm := ⟨_, rfl⟩
              have hGi : GOf w.heap.size wi g (102 * i0) G := ⟨F, HGa4.out.later HBi.out, HFb.out⟩
              have HSh := hid (hGi.shareOf nm (name_len hGi.ok _ (hnm ▸ HKs.out i hlt)) hsm)
              have HTk : Hid ((G.ks.take (i + 1)).map G.share = (G.ks.take i).map G.share ++ [G.share nm]) := by
                rw [take_snoc_any G.ks [] i (by rw [HMk.out]; exact hlt), hnm, List.map_append]; rfl
              have hAl9 : A.length ≤ 100 := by omega
              have HAl := hid hAl
              have hsz4 : w4.heap.size ≤ wi.heap.size := HBi.out.size
              clear hcn hsn hnm hsm hGi hAl
              generalize nmS nm = nt at *
              go_wp2_with (first
                | (go_at_call 9; (with_reducible_and_instances (refine HSh.out.mono ?_)); rintro r w5 ⟨sa, sc, rfl, hO5, hb5⟩; have HO5 := hid (hO5.mono hsz4); have HR5 := hid (HR.out.later hb5); have HB5 := hid (HBi.out.trans (hb5.mono HBi.out.size)); have HX5 := hid (sl_row w5 sa sm sc); have HR6 := hid (HR5.out.later ((Below.refl _ w5).alloc (Nat.le_refl _) (.cells #[.slice sa sm sc] 34))); have HO6 := hid (HO5.out.later ((Below.refl _ w5).alloc (Nat.le_refl _) (.cells #[.slice sa sm sc] 34))); have hsz5 : w4.heap.size ≤ w5.heap.size := HB5.out.size; clear hO5 hb5)
                | (at_builtin; have hz1 : A.length + 1 ≤ maxLen := (by unfold maxLen; omega); have hz2 : (A.length + 1) * 24 ≤ 140737488355328 := (by omega); have hz3 : w4.heap.size ≤ (w5.alloc (.cells #[.slice sa sm sc] 34)).heap.size := Nat.le_trans HB5.out.size ((Below.refl w5.heap.size w5).alloc (Nat.le_refl _) (.cells #[.slice sa sm sc] 34)).size; (with_reducible_and_instances (refine app_kd kW_ok rfl _ _ rfl w4.heap.size (.slice va A.length vc) A ?_ ?_ (some ⟨w5.heap.size, 0, none⟩) 1 1 [⟨sa, sm, sc⟩] ?_ ?_ ?_ ?_ hz1 hz2 hz3 ?_)); exact rfl; exact HR6.out.row; exact rfl; rfl; (intro e; cases e); exact HX5.out; intro v7 w7 hO7 hG7; have HR7 := hid (HR6.out.app (s := ⟨sa, sm, sc⟩) HO6.out hO7 hG7); have HB7 := hid ((HB5.out.alloc HB5.out.size (.cells #[.slice sa sm sc] 34)).grown hG7 hz3 (fun g hg => (HR6.out.row.block g hg).1)); clear hO7 hG7))
              exact ⟨⟨i + 1, A ++ [⟨sa, sm, sc⟩], by omega, by go_num, by rw [List.length_append, HAl.out]; rfl, (by rw [HTk.out]; exact HR7), HB7⟩, by simp [intOf]; omega⟩
            · obtain rfl : mk = i := by omega
              have HTk : Hid ((G.ks.take mk).map G.share = G.ks.map G.share) := by rw [List.take_of_length_le (by rw [HMk.out]; exact Nat.le_refl _)]; exact rfl
              rw [HTk.out] at HR
              obtain ⟨bn0, on0, rfl, hsn, hcn⟩ := HA4.out.cells (by omega)
              obtain ⟨nm, hnm⟩ : ∃ nm, G.ks.getD gv [] = nm := ⟨_, rfl⟩
              have hcapn := HA4.out.cap
              have hn1 : wi.cell? ⟨bn0, on0 + gv, none⟩ = some (.string (nmS nm)) := by
                have h := hcn gv hg1 0 (by decide)
                rw [Nat.mul_one, Nat.add_zero, show G.ks.getD gv kS.z = G.ks.getD gv [] from rfl, hnm] at h
                exact (HBi.out.cell (p := ⟨bn0, on0 + gv, none⟩) hsn).trans h
              have HLv : Hid (Calls Tryz.prog 7 #[.pointer (some ⟨g, 0, none⟩), .agg #[.int .i64 2, .string (nmS nm), .int .i64 0, .int .i64 0, .int .i64 0, .int .i64 0, .int .i64 0, .int .i64 0, .bool false]] wi fun r w' => r = .returned (.int .i64 0) ∧ GOf w.heap.size w' g (102 * i0 + 102) G' ∧ OwnK kS w' wo.heap.size (.slice (some ⟨bn0, on0, none⟩) mk mc) G.ks ∧ Rs w' w4.heap.size (.slice va A.length vc) A (G.ks.map G.share) ∧ Below w.heap.size wi w') := by
                have h := (HGa4.out.later HBi.out).stepR HFb.out (Nat.le_trans HB.out.size (Nat.le_trans HB4.out.size HBi.out.size)) (evL nm) (by omega) HFs.out hFw4.out (HO4.out.later HBi.out) HR.out
                rw [← hnm, HDec.out, HApp.out, hnm] at h
                exact h
              have HBw := hid (HB.out.trans ((HB4.out.trans (HBi.out.mono HB4.out.size)).mono HB.out.size))
              have HGn : Hid (G.ks.getD gv [] = nm) := hnm
              rw [hnm] at HGo
              have HAm : Hid (A.length = mk) := hAl
              clear hcn hsn hnm HTk HDec HApp HGa4 HGa HA4 hwm hz hd2 hAl
              generalize nmS nm = nt at *
              go_wp2_with (first
                | (go_at_call 7; (with_reducible_and_instances (refine HLv.out.mono ?_)); rintro r w8 ⟨rfl, hG8, hO8, hR8, hb8⟩; have HG8 := hid hG8; have HA8 := hid (own_arg kS_ok.tofit hO8); have HR8 := hid hR8; have HB8 := hid (HBw.out.trans hb8); clear hG8 hO8 hR8 hb8)
                | (go_at_call 5; (with_reducible_and_instances (refine (num15_any _ _).mono ?_)); rintro r w9 ⟨rfl, hw9⟩; obtain rfl := hw9.symm))
              clear HLv HBw HR HO4 HBi HB4
              have HW8 := hid (own_arg kW_ok.tofit HR8.out.row)
              go_loopw [13] (fun iv wr => ∃ i : Nat, i ≤ mk ∧ iv = .int .i64 (i : Int) ∧ Hid (Below w8.heap.size w8 wr)) (fun iv _ => mk - (intOf iv).toNat)
              case atStart => exact ⟨0, by omega, rfl, Below.refl _ _⟩
              case round =>
                obtain ⟨i, hi, rfl, HBi⟩ := hrel
                obtain ⟨wi, rfl⟩ : ∃ q, q = wr := ⟨wr, rfl⟩
                by_cases hlt : i < mk
                · obtain ⟨bn, on, hba, hsn, hcn⟩ := HA8.out.cells (by omega)
                  obtain ⟨rfl, rfl⟩ : bn0 = bn ∧ on0 = on := by injection hba with hba; injection hba with h1 h2 h3; exact ⟨h1, h2⟩
                  obtain ⟨nmi, hnm⟩ : ∃ nm, G.ks.getD i [] = nm := ⟨_, rfl⟩
                  have hn1 : wi.cell? ⟨bn0, on0 + i, none⟩ = some (.string (nmS nmi)) := by
                    have h := hcn i hlt 0 (by decide)
                    rw [Nat.mul_one, Nat.add_zero, show G.ks.getD i kS.z = G.ks.getD i [] from rfl, hnm] at h
                    exact (HBi.out.cell (p := ⟨bn0, on0 + i, none⟩) hsn).trans h
                  obtain ⟨lb, hlb⟩ : ∃ lb, G'.share nmi = lb := ⟨_, rfl⟩
                  obtain ⟨bm, hbm⟩ : ∃ bm, lb.length = bm := ⟨_, rfl⟩
                  have hGi := HG8.out.later HBi.out
                  have hnl : nmi.length ≤ maxLen := name_len HG.out.ok _ (hnm ▸ HKs.out i hlt)
                  have HSh := hid (hGi.shareOf nmi hnl (m := bm) (by rw [hlb]; exact hbm))
                  rw [hlb] at HSh
                  have HLb := hid hbm
                  -- what it had
                  obtain ⟨la, hla⟩ : ∃ la, G.share nmi = la := ⟨_, rfl⟩
                  obtain ⟨bs, os, rfl, hss, hcs⟩ := HW8.out.cells (by rw [HAm.out]; omega)
                  have hpart := HR8.out.part i (by rw [HAm.out]; exact hlt)
                  rw [show (G.ks.map G.share).getD i [] = la by rw [getD_map_nm _ _ _ (by rw [HMk.out]; exact hlt), hnm, hla]] at hpart
                  obtain ⟨sl, hsl⟩ : ∃ sl, A.getD i sl0 = sl := ⟨_, rfl⟩
                  rw [hsl] at hpart
                  obtain ⟨sa, sm, sc⟩ := sl
                  have HPa : Hid (ArgK kZ w8 la sa sm sc) := own_arg kZ_ok.tofit (hpart : OwnK kZ w8 w4.heap.size (.slice sa sm sc) la)
                  have hcapw := HW8.out.cap
                  have q1 : w8.cell? ⟨bs, os + i, none⟩ = some (.slice sa sm sc) := by
                    have h := hcs i (by rw [HAm.out]; exact hlt) 0 (by decide)
                    rw [Nat.mul_one, Nat.add_zero, show A.getD i kW.z = A.getD i sl0 from rfl, hsl] at h
                    exact h
                  have HQ1 := hid q1
                  have HS1 := hid hss
                  have hs64 : sm ≤ 9223372036854775807 := by have h1 := HPa.out.cap; have h2 := HPa.out.room; unfold maxLen at h2; omega
                  have hcapn := HA8.out.cap
                  have hAi : i < A.length := by rw [HAm.out]; exact hlt
                  have HIn : Hid (i ≠ gv → ∀ z ∈ la, z ∈ lb) := fun hne z hz => by
                    have h := HKp.out i hlt hne z (by rw [hnm, hla]; exact hz)
                    rw [hnm, hlb] at h
                    exact h
                  have HZ : Hid (i = gv → bm = 0) := fun e => by
                    subst e
                    have h1 := HGn.out
                    rw [hnm] at h1
                    subst h1
                    rw [HGo.out] at hlb
                    rw [← hbm, ← hlb]; rfl
                  clear hcn hsn hnm hlb hbm hGi hnl hla hcs hpart hsl hss q1 hba
                  generalize nmS nmi = nt2 at *
                  go_wp2_with (go_at_call 9; (with_reducible_and_instances (refine HSh.out.mono ?_)); rintro r w9 ⟨na, nc, rfl, hO9, hb9⟩; have HN9 := hid (own_arg kZ_ok.tofit hO9); have HB9 := hid (HBi.out.trans (hb9.mono HBi.out.size)); clear hO9 hb9)
                  have hb64 : bm ≤ 9223372036854775807 := by have h1 := HN9.out.cap; have h2 := HN9.out.room; unfold maxLen at h2; omega
                  go_loopw [15] (fun kv wr => ∃ k : Nat, k ≤ sm ∧ kv = .int .i64 (k : Int) ∧ Hid (Below w9.heap.size w9 wr)) (fun kv _ => sm - (intOf kv).toNat)
                  case atStart => exact ⟨0, by omega, rfl, Below.refl _ _⟩
                  case round =>
                    obtain ⟨k, hk, rfl, HBk⟩ := hrel
                    have HB8k := hid (HB9.out.trans (HBk.out.mono HB9.out.size))
                    have q1 := (HB8k.out.cell (p := ⟨bs, os + i, none⟩) HS1.out).trans HQ1.out
                    by_cases hks : k < sm ∧ i ≠ gv
                    · obtain ⟨hks, hne⟩ := hks
                      have hnb : ((i : Int) == (gv : Int)) = false := by simp; omega
                      obtain ⟨be, oe, rfl, hbe, hce⟩ := HPa.out.cells (by omega)
                      obtain ⟨x, hx⟩ : ∃ x, la.getD k 0 = x := ⟨_, rfl⟩
                      have q2 : w8.cell? ⟨be, oe + k, none⟩ = some (.int .i64 x) := by
                        have h := hce k hks 0 (by decide)
                        rw [Nat.mul_one, Nat.add_zero, show la.getD k kZ.z = la.getD k 0 from rfl, hx] at h
                        exact h
                      have HM : Hid (x ∈ lb) := HIn.out hne x (by rw [← hx]; exact getD_memZ (by rw [HPa.out.len]; exact hks))
                      have hcape := HPa.out.cap
                      have HQ2 := hid q2
                      have HSe := hid hbe
                      clear hce hx q2 hbe
                      go_wp2_with fail
                      go_loopw [16, 17] (fun mv qv wz => ∃ (q : Nat) (mt : Bool), q ≤ bm ∧ qv = .int .i64 (q : Int) ∧ mv = .bool mt ∧ Hid (decide (x ∈ lb.take q) = mt) ∧ Hid (Below w9.heap.size w9 wz)) (fun _ qv _ => bm - (intOf qv).toNat)
                      case atStart => exact ⟨0, false, by omega, rfl, rfl, (by simp : decide (x ∈ lb.take 0) = false), HBk⟩
                      case round =>
                        obtain ⟨q, mt, hq, rfl, rfl, HT, HBq⟩ := hrel
                        by_cases hqb : q < bm
                        · obtain ⟨bp, op, rfl, hbp0, hcp⟩ := HN9.out.cells (by omega)
                          obtain ⟨y, hy⟩ : ∃ y, lb.getD q 0 = y := ⟨_, rfl⟩
                          have HB8q := hid (HB9.out.trans (HBq.out.mono HB9.out.size))
                          have q1 := (HB8q.out.cell (p := ⟨bs, os + i, none⟩) HS1.out).trans HQ1.out
                          have q2 := (HB8q.out.cell (p := ⟨be, oe + k, none⟩) HSe.out).trans HQ2.out
                          have q3 := (HBq.out.cell (p := ⟨bp, op + q, none⟩) hbp0).trans (by have h := hcp q hqb 0 (by decide); rw [Nat.mul_one, Nat.add_zero] at h; rw [h, show lb.getD q kZ.z = lb.getD q 0 from rfl, hy]; rfl : w9.cell? ⟨bp, op + q, none⟩ = some (.int .i64 y))
                          have hcapb := HN9.out.cap
                          have HTm : Hid (decide (x ∈ lb.take (q + 1)) = (mt || decide (y = x))) := met_more HT.out (by rw [← hy]; exact take_snoc_any lb 0 q (by rw [HLb.out]; exact hqb))
                          clear hcp hy hbp0 HT
                          cases mt with
                          | true =>
                            have HN : Hid (decide (x ∈ lb.take (q + 1)) = true) := HTm.out
                            clear HTm
                            go_wp2_with fail
                            go_quiet (fail)
                            all_goals go_wp2
                            exact ⟨⟨q + 1, true, by omega, by go_num, rfl, HN, below_drewN' HBq.out _⟩, by simp [intOf]; omega⟩
                          | false =>
                            by_cases hxy : y = x
                            · have HN : Hid (decide (x ∈ lb.take (q + 1)) = true) := by rw [HTm.out, hxy]; exact decide_eq_true rfl
                              subst hxy
                              clear HTm
                              go_wp2_with fail
                              go_quiet (fail)
                              all_goals go_wp2
                              exact ⟨⟨q + 1, true, by omega, by go_num, rfl, HN, below_drewN' HBq.out _⟩, by simp [intOf]; omega⟩
                            · have HN : Hid (decide (x ∈ lb.take (q + 1)) = false) := by rw [HTm.out]; exact decide_eq_false hxy
                              have hb2 : (y == x) = false := by simp [hxy]
                              clear HTm
                              go_wp2_with fail
                              go_quiet (fail)
                              all_goals go_wp2
                              exact ⟨⟨q + 1, false, by omega, by go_num, rfl, HN, below_drewN' HBq.out _⟩, by simp [intOf]; omega⟩
                        · obtain rfl : bm = q := by omega
                          obtain rfl : mt = true := by
                            have h := HT.out
                            rw [List.take_of_length_le (by rw [HLb.out]; exact Nat.le_refl _)] at h
                            rw [← h]
                            simpa using HM.out
                          go_wp2_with fail
                          exact ⟨⟨k + 1, by omega, by go_num, HBq⟩, by simp [intOf]; omega⟩
                    · by_cases hks2 : k < sm
                      · obtain rfl : i = gv := by
                          by_cases e : i = gv
                          · exact e
                          · exact absurd ⟨hks2, e⟩ hks
                        have hb0 := HZ.out rfl
                        subst hb0
                        go_wp2_with fail
                        first | exact ⟨⟨i + 1, by omega, by go_num, HB8k⟩, by simp [intOf]; omega⟩ | exact ⟨⟨i + 1, by omega, by go_num⟩, by simp [intOf]; omega⟩
                      · by_cases hig : i = gv
                        · have hb0 := HZ.out hig
                          subst hb0 hig
                          go_wp2_with fail
                          first | exact ⟨⟨i + 1, by omega, by go_num, HB8k⟩, by simp [intOf]; omega⟩ | exact ⟨⟨i + 1, by omega, by go_num⟩, by simp [intOf]; omega⟩
                        · have hnb : ((i : Int) == (gv : Int)) = false := by simp; omega
                          go_wp2_with fail
                          exact ⟨⟨i + 1, by omega, by go_num, HB8k⟩, by simp [intOf]; omega⟩
                · obtain rfl : mk = i := by omega
                  go_wp2_with fail
                  go_ret
                  exact ⟨rfl, HB8.out.trans (HBi.out.mono HB8.out.size)⟩
end Go.Proofs.YtipgociofjokeaaGreat
