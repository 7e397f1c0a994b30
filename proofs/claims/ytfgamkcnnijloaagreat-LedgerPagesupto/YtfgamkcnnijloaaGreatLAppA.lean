/- Decide and Apply of a Retain or a Compact (by genlapp13.py). -/
import Derived.Test.YtfgamkcnnijloaaGreatTk
import Derived.Test.YtfgamkcnnijloaaGreatLNoth
namespace Go.Proofs.YtfgamkcnnijloaaGreat
open Go.RowKit Go.Shelf
variable {w w' : World} {L t M n N : Nat} {vr vo va : Value} {g : Lg}

theorem decE_keep {kd nn : Int} {b : Bat} (hm : mayE ⟨kd, nn, b⟩ = true) (hk : kd = 2 ∨ kd = 3) : decE g ⟨kd, nn, b⟩ = if g.stable < nn then (0, false, 11) else (0, nothB g kd nn, 0) := by
  have h1 : ¬ kd = 1 := by rcases hk with rfl | rfl <;> decide
  unfold decE
  rw [if_neg (by rw [hm]; simp)]
  dsimp only
  rw [if_neg h1, left_stay]
  unfold nothB
  by_cases hs : g.stable < nn
  · rw [if_pos hs, if_pos hs]
  · rw [if_neg hs, if_neg hs]
    rcases hk with rfl | rfl
    · rw [if_pos rfl, if_pos rfl]
    · rw [if_neg (by decide), if_neg (by decide)]
theorem LPic0.started (h : LPic0 w L t M n N vr vo va g) (s : Int) : LPic0 (w.setCell ⟨L, 1, none⟩ (.int .i64 s)) L t M n N vr vo va { g with start := s } := by
  obtain ⟨a1, a2, a3, a4, a5, a6⟩ := h.apart
  have hc : Chg [L] w (w.setCell ⟨L, 1, none⟩ (.int .i64 s)) := (Chg.refl _ _).set (Or.inl (by simp)) _ _
  exact ⟨h.box.set 1 _, h.tab.chg hc (by simp; exact fun e => a1 e.symm) (by simp; exact fun e => a2 e.symm), h.rows.keep (fun b e => hc.block b (h.rows.block b e).2.1 (by simp; exact (a4 b e).1)), h.opn.keep (fun b e => hc.block b (h.opn.block b e).2.1 (by simp; exact (a5 b e).1)), h.gone.keep (fun b e => hc.block b (h.gone.block b e).2.1 (by simp; exact (a6 b e).1))⟩
theorem LPic0.rowsNew {w1 : World} (h : LPic0 w L t M n N vr vo va g) (hb : Below w.heap.size w w1) {v' : Value} {l' : List Rw} (h1 : OwnK kRw w1 w.heap.size v' l') (hN : N ≤ w.heap.size) : LPic0 (w1.setCell ⟨L, 3, none⟩ v') L t M n N v' vo va { g with rows := l' } := by
  have h2 := h.later hb
  obtain ⟨a1, a2, a3, a4, a5, a6⟩ := h2.apart
  have hc : Chg [L] w1 (w1.setCell ⟨L, 3, none⟩ v') := (Chg.refl _ _).set (Or.inl (by simp)) _ _
  have hL := h.lt
  exact ⟨h2.box.set 3 _, h2.tab.chg hc (by simp; exact fun e => a1 e.symm) (by simp; exact fun e => a2 e.symm), (h1.keep (fun b e => hc.block b (h1.block b e).2.1 (by have := (h1.block b e).1; simp; omega))).mono hN, h2.opn.keep (fun b e => hc.block b (h2.opn.block b e).2.1 (by simp; exact (a5 b e).1)), h2.gone.keep (fun b e => hc.block b (h2.gone.block b e).2.1 (by simp; exact (a6 b e).1))⟩
theorem LPic0.goneNew {w1 : World} (h : LPic0 w L t M n N vr vo va g) (hb : Below w.heap.size w w1) {v' : Value} {l' : List Gn} (h1 : OwnK kGn w1 w.heap.size v' l') (hN : N ≤ w.heap.size) : LPic0 (w1.setCell ⟨L, 5, none⟩ v') L t M n N vr vo v' { g with gone := l' } := by
  have h2 := h.later hb
  obtain ⟨a1, a2, a3, a4, a5, a6⟩ := h2.apart
  have hc : Chg [L] w1 (w1.setCell ⟨L, 5, none⟩ v') := (Chg.refl _ _).set (Or.inl (by simp)) _ _
  have hL := h.lt
  exact ⟨h2.box.set 5 _, h2.tab.chg hc (by simp; exact fun e => a1 e.symm) (by simp; exact fun e => a2 e.symm), h2.rows.keep (fun b e => hc.block b (h2.rows.block b e).2.1 (by simp; exact (a4 b e).1)), h2.opn.keep (fun b e => hc.block b (h2.opn.block b e).2.1 (by simp; exact (a5 b e).1)), (h1.keep (fun b e => hc.block b (h1.block b e).2.1 (by have := (h1.block b e).1; simp; omega))).mono hN⟩
theorem newB_own {α : Type} {K : Kd α} {W W' : World} {v v' : Value} {l : List α} (h : OwnK K W' W.heap.size v' l) : NewB W v v' := fun b e => Or.inr (h.block b e).1
theorem apply1_ch {xb : Nat} {kd nn k p e q : Int} {tx : Bool} {ad : Option Addr} {len cap : Nat} (h : EBox w xb kd nn k p e q tx ad len cap) : ∀ W, Below w.heap.size w W → ∀ (l : List Gn) (ad : Option Addr) (m c most : Nat), ArgK kGn W l ad m c → most ≤ 9223372036854775807 → m * 24 ≤ 140737488355328 →
    Calls Tryz.prog 28 #[.slice ad m c, .int .i64 (most : Int), .func (.func 29) #[] #[.pointer (some ⟨xb, 0, none⟩)]] W fun e W' => ∃ v, e = .returned v ∧ OwnK kGn W' W.heap.size v (chooseN (fun x => decide (nn ≤ x.last)) most l) ∧ Below W.heap.size W W' := by
  intro W hW l ad m c most ha hmo hby
  refine chooseGone xb (fun x => decide (nn ≤ x.last)) ha most hmo hby (fun X hX j hj => ?_)
  exact apply1_any (l.getD j gn0) xb X (Blk.later (Blk.later h hW) hX)
set_option maxRecDepth 100000 in
set_option maxHeartbeats 4000000 in
theorem DecideL_keep (h : LPic w L t M n N vr vo va g) (hks : LKeys g) (hby : g.rows.length * 64 ≤ 140737488355328) (kd nn k p e q : Int) (tx : Bool) (rs : List Rec) (ad : Option Addr) (len cap : Nat) (hB : BArg w ⟨k, p, e, q, tx, rs⟩ ad len cap) (hkd : kd = 2 ∨ kd = 3) (hm : mayE ⟨kd, nn, ⟨k, p, e, q, tx, rs⟩⟩ = true) :
    Calls Tryz.prog 11 #[.pointer (some ⟨L, 0, none⟩), .agg #[.int .i64 kd, .int .i64 nn, .int .i64 k, .int .i64 p, .int .i64 e, .int .i64 q, .bool tx, .slice ad len cap]] w fun x w' => x = .returned (decV (decE g ⟨kd, nn, ⟨k, p, e, q, tx, rs⟩⟩)) ∧ Below w.heap.size w w' := by
  obtain ⟨W0, hW0⟩ : ∃ W0, w.alloc (.cells #[.int .i64 kd, .int .i64 nn, .int .i64 k, .int .i64 p, .int .i64 e, .int .i64 q, .bool tx, .slice ad len cap] TEt) = W0 := ⟨_, rfl⟩
  have b0 : Below w.heap.size w W0 := by rw [← hW0]; exact (Below.refl _ _).alloc (Nat.le_refl _) _
  have X0 : EBox W0 w.heap.size kd nn k p e q tx ad len cap := by rw [← hW0]; exact heap_alloc_new w _
  have lx := Blk.lt X0
  have HM0 := hid (madeL_any (h.later b0).c0)
  have HMy := hid (mayBe13_any kd nn k p e q tx rs ad len cap W0 (hB.later b0))
  rw [hm] at HMy
  have HB0 := hid b0
  have HP := hid (h.later b0)
  have HX := hid X0
  have HS : Hid (∀ W, Below W0.heap.size W0 W → W.cell? ⟨w.heap.size, 0, none⟩ = some (.int .i64 kd) ∧ W.cell? ⟨w.heap.size, 1, none⟩ = some (.int .i64 nn) ∧ W.cell? ⟨w.heap.size, 2, none⟩ = some (.int .i64 k) ∧ W.cell? ⟨w.heap.size, 3, none⟩ = some (.int .i64 p) ∧ W.cell? ⟨w.heap.size, 4, none⟩ = some (.int .i64 e) ∧ W.cell? ⟨w.heap.size, 5, none⟩ = some (.int .i64 q) ∧ W.cell? ⟨w.heap.size, 6, none⟩ = some (.bool tx) ∧ W.cell? ⟨w.heap.size, 7, none⟩ = some (.slice ad len cap)) := hid (fun W hW => by
    have hx := Blk.later X0 hW
    exact ⟨Blk.cell hx 0, Blk.cell hx 1, Blk.cell hx 2, Blk.cell hx 3, Blk.cell hx 4, Blk.cell hx 5, Blk.cell hx 6, Blk.cell hx 7⟩)
  have HSt := hid (fun W (hW : Below W0.heap.size W0 W) => stable_any (HP.out.toLPic0.later hW))
  have HN : Hid (∀ W, Below W0.heap.size W0 W → Calls Tryz.prog 26 #[.pointer (some ⟨L, 0, none⟩), .agg #[.int .i64 kd, .int .i64 nn, .int .i64 k, .int .i64 p, .int .i64 e, .int .i64 q, .bool tx, .slice ad len cap]] W fun x w' => x = .returned (.bool (nothB g kd nn)) ∧ Below W.heap.size W w') := hid (fun W hW => noth_any (HP.out.toLPic0.later hW) hks hby kd nn k p e q tx ad len cap hkd)
  have HR := hid (decE_keep (g := g) hm hkd)
  have hk1 : (kd == 1) = false := by rcases hkd with rfl | rfl <;> rfl
  obtain ⟨c0, c1, c2, c3, c4, c5, c6, c7⟩ := HS.out W0 (Below.refl _ _)
  clear h hB b0 X0 hks hby hm hkd
  generalize nothB g kd nn = nb at *
  obtain ⟨s, hs⟩ : ∃ s, g.stable = s := ⟨_, rfl⟩
  rw [hs] at HR HSt
  clear hs
  by_cases hg : s < nn
  · have HR2 := hid (HR.out.trans (if_pos hg))
    have hg' : decide (s < nn) = true := decide_eq_true hg
    clear HR hg
    go_enter Tryz.func11, Tryz.ntmps11
    go_wp2_with (first
      | (go_at_call 23; (with_reducible_and_instances (refine HM0.out.mono ?_)); rintro x w1 ⟨rfl, hw1⟩; obtain rfl := hw1.symm)
      | (go_at_call 24; (with_reducible_and_instances (refine HMy.out.mono ?_)); rintro x W2 ⟨rfl, hb2⟩; have HB2 := hid hb2; clear hb2; obtain ⟨d0, d1, d2, d3, d4, d5, d6, d7⟩ := HS.out W2 HB2.out))
    refine wp_region_held_drew (S := fun W => W.cell? ⟨w.heap.size, 1, none⟩ = some (.int .i64 nn)) (by kernel_rfl) ((HS.out W2 HB2.out).2.1) (fun hHeld => ?_)
    refine tk 0 25 hHeld ?_
    try simp only [Act.put, p1, p2, p3]
    refine tk 1 26 hHeld ?_
    try simp only [Act.put, p1, p2, p3]
    refine tk 2 27 hHeld ?_
    try simp only [Act.put, p1, p2, p3]
    refine wpAnyH_ready (rs := [3]) (by kernel_rfl) (by simp) ?_
    refine AllReadyH.cons rfl (fun K hK => ?_) (AllReadyH.nil)
    go_simp
    go_wp2_with (go_at_call 15; (with_reducible_and_instances (refine (HSt.out _ HB2.out.drew).mono ?_)); rintro r w9 ⟨rfl, hw9⟩; obtain rfl := hw9.symm)
    refine hK.out _ _ ((HS.out _ HB2.out.drew).2.1) (fun hHeld => ?_)
    clear hK K
    try simp only [Act.put, p1, p2, p3]
    refine tk 4 29 hHeld ?_
    try simp only [Act.put, p1, p2, p3]
    refine wpAnyH_done (by kernel_rfl) ?_ _
    clear hHeld
    go_wp2_with fail
    refine bodyPost_ret (results_tmp3 Tryz.results11 _ _ _) rfl ⟨by rw [HR2.out]; rfl, HB0.out.trans (HB2.out.drew.mono HB0.out.size)⟩
  · have HR2 := hid (HR.out.trans (if_neg hg))
    have hg' : decide (s < nn) = false := decide_eq_false hg
    clear HR hg
    go_enter Tryz.func11, Tryz.ntmps11
    go_wp2_with (first
      | (go_at_call 23; (with_reducible_and_instances (refine HM0.out.mono ?_)); rintro x w1 ⟨rfl, hw1⟩; obtain rfl := hw1.symm)
      | (go_at_call 24; (with_reducible_and_instances (refine HMy.out.mono ?_)); rintro x W2 ⟨rfl, hb2⟩; have HB2 := hid hb2; clear hb2; obtain ⟨d0, d1, d2, d3, d4, d5, d6, d7⟩ := HS.out W2 HB2.out))
    refine wp_region_held_drew (S := fun W => W.cell? ⟨w.heap.size, 1, none⟩ = some (.int .i64 nn)) (by kernel_rfl) ((HS.out W2 HB2.out).2.1) (fun hHeld => ?_)
    refine tk 0 25 hHeld ?_
    try simp only [Act.put, p1, p2, p3]
    refine tk 1 26 hHeld ?_
    try simp only [Act.put, p1, p2, p3]
    refine tk 2 27 hHeld ?_
    try simp only [Act.put, p1, p2, p3]
    refine wpAnyH_ready (rs := [3]) (by kernel_rfl) (by simp) ?_
    refine AllReadyH.cons rfl (fun K hK => ?_) (AllReadyH.nil)
    go_simp
    go_wp2_with (go_at_call 15; (with_reducible_and_instances (refine (HSt.out _ HB2.out.drew).mono ?_)); rintro r w9 ⟨rfl, hw9⟩; obtain rfl := hw9.symm)
    refine hK.out _ _ ((HS.out _ HB2.out.drew).2.1) (fun hHeld => ?_)
    clear hK K
    try simp only [Act.put, p1, p2, p3]
    refine tk 4 29 hHeld ?_
    try simp only [Act.put, p1, p2, p3]
    refine wpAnyH_done (by kernel_rfl) ?_ _
    clear hHeld
    obtain ⟨e0, e1, e2, e3, e4, e5, e6, e7⟩ := HS.out _ HB2.out.drew
    have HN2 := hid (HN.out _ HB2.out.drew)
    go_wp2_with (go_at_call 26; (with_reducible_and_instances (refine HN2.out.mono ?_)); rintro x W3 ⟨rfl, hb3⟩; have HB3 := hid (HB0.out.trans ((HB2.out.drew.trans (hb3.mono HB2.out.drew.size)).mono HB0.out.size)); clear hb3)
    refine bodyPost_ret (results_tmp3 Tryz.results11 _ _ _) rfl ⟨by rw [HR2.out]; rfl, HB3.out⟩
set_option maxRecDepth 100000 in
set_option maxHeartbeats 4000000 in
theorem ApplyL_keep (h : LPic w L t M n N vr vo va g) (hN : N ≤ w.heap.size) (hgy : g.gone.length * 24 ≤ 140737488355328) (hks : LKeys g) (hby : g.rows.length * 64 ≤ 140737488355328) (kd nn k p e q : Int) (tx : Bool) (rs : List Rec) (ad : Option Addr) (len cap : Nat) (hB : BArg w ⟨k, p, e, q, tx, rs⟩ ad len cap) (hkd : kd = 2 ∨ kd = 3) (hm : mayE ⟨kd, nn, ⟨k, p, e, q, tx, rs⟩⟩ = true) (od : Int) (dd : Bool) (er : Int) (hd : decE g ⟨kd, nn, ⟨k, p, e, q, tx, rs⟩⟩ = (od, dd, er)) (G : Lg) (hG : G = appG g ⟨kd, nn, ⟨k, p, e, q, tx, rs⟩⟩) :
    Calls Tryz.prog 12 #[.pointer (some ⟨L, 0, none⟩), .agg #[.int .i64 kd, .int .i64 nn, .int .i64 k, .int .i64 p, .int .i64 e, .int .i64 q, .bool tx, .slice ad len cap]] w fun x w' => x = .returned (.tuple #[.int .i64 od, .int .i64 er]) ∧ LMv w w' L t M n N vr vo va G := by
  obtain ⟨W0, hW0⟩ : ∃ W0, w.alloc (.cells #[.int .i64 kd, .int .i64 nn, .int .i64 k, .int .i64 p, .int .i64 e, .int .i64 q, .bool tx, .slice ad len cap] TEt) = W0 := ⟨_, rfl⟩
  have b0 : Below w.heap.size w W0 := by rw [← hW0]; exact (Below.refl _ _).alloc (Nat.le_refl _) _
  have X0 : EBox W0 w.heap.size kd nn k p e q tx ad len cap := by rw [← hW0]; exact heap_alloc_new w _
  have lx := Blk.lt X0
  have HD := hid (DecideL_keep (h.later b0) hks hby kd nn k p e q tx rs ad len cap (hB.later b0) hkd hm)
  rw [hd] at HD
  unfold decV at HD
  dsimp only at HD
  have HB0 := hid b0
  have HP := hid h
  have HX := hid X0
  have HNn := hid hN
  have HGG := hid hG
  have HDd := hid hd
  have HKy := hid hks
  have HS : Hid (∀ W, Below W0.heap.size W0 W → W.cell? ⟨w.heap.size, 0, none⟩ = some (.int .i64 kd) ∧ W.cell? ⟨w.heap.size, 1, none⟩ = some (.int .i64 nn) ∧ W.cell? ⟨w.heap.size, 2, none⟩ = some (.int .i64 k) ∧ W.cell? ⟨w.heap.size, 3, none⟩ = some (.int .i64 p) ∧ W.cell? ⟨w.heap.size, 4, none⟩ = some (.int .i64 e) ∧ W.cell? ⟨w.heap.size, 5, none⟩ = some (.int .i64 q) ∧ W.cell? ⟨w.heap.size, 6, none⟩ = some (.bool tx) ∧ W.cell? ⟨w.heap.size, 7, none⟩ = some (.slice ad len cap)) := hid (fun W hW => by
    have hx := Blk.later X0 hW
    exact ⟨Blk.cell hx 0, Blk.cell hx 1, Blk.cell hx 2, Blk.cell hx 3, Blk.cell hx 4, Blk.cell hx 5, Blk.cell hx 6, Blk.cell hx 7⟩)
  obtain ⟨c0, c1, c2, c3, c4, c5, c6, c7⟩ := HS.out W0 (Below.refl _ _)
  have HSame : Hid ((er ≠ 0 ∨ dd = true) → G = g) := fun hh => by rw [hG]; unfold appG; rw [hd, if_pos hh]
  have hLw : L < w.heap.size := h.lt
  clear hB b0 X0 hG hN hks
  by_cases her : er = 0
  rotate_left
  · have her' : (er == 0) = false := by simpa using her
    have HGs := hid (HSame.out (Or.inl her))
    clear h hd hm hkd
    go_enter Tryz.func12, Tryz.ntmps12
    go_wp2_with (go_at_call 11; (with_reducible_and_instances (refine HD.out.mono ?_)); rintro x w1 ⟨rfl, hb1⟩; have HB1 := hid (HB0.out.trans (hb1.mono HB0.out.size)); clear hb1)
    refine bodyPost_ret (results_tmp2 Tryz.results12 _ _ _) rfl ⟨rfl, ?_⟩
    rw [HGs.out]
    exact LMv.same HP.out HB1.out
  subst her
  cases dd with
  | true =>
    have HGs := hid (HSame.out (Or.inr rfl))
    clear h hd hm hkd
    go_enter Tryz.func12, Tryz.ntmps12
    go_wp2_with (go_at_call 11; (with_reducible_and_instances (refine HD.out.mono ?_)); rintro x w1 ⟨rfl, hb1⟩; have HB1 := hid (HB0.out.trans (hb1.mono HB0.out.size)); clear hb1)
    refine bodyPost_ret (results_tmp2 Tryz.results12 _ _ _) rfl ⟨rfl, ?_⟩
    rw [HGs.out]
    exact LMv.same HP.out HB1.out
  | false =>
    have hst : ¬ g.stable < nn ∧ nothB g kd nn = false ∧ od = 0 := by
      have h1 := hd
      rw [decE_keep hm hkd] at h1
      by_cases hs : g.stable < nn
      · rw [if_pos hs] at h1; cases h1
      · rw [if_neg hs] at h1
        injection h1 with h2 h3
        injection h3 with h4 h5
        exact ⟨hs, h4, h2.symm⟩
    obtain ⟨hst, hnb, rfl⟩ := hst
    obtain ⟨ar, cr, hvr, hAr⟩ := h.rows.form kRw_ok.tofit
    obtain ⟨ag, cg, hvg, hAg⟩ := h.gone.form kGn_ok.tofit
    subst hvr hvg
    have hml : g.rows.length ≤ 9223372036854775807 := by have := hAr.cap; have := hAr.room; unfold maxLen at this; omega
    have hgl : g.gone.length ≤ 9223372036854775807 := by have := hAg.cap; have := hAg.room; unfold maxLen at this; omega
    have HAr := hid hAr
    have HAg := hid hAg
    rcases hkd with rfl | rfl
    rotate_left
    · skip
      have HKr : Hid (∀ r ∈ g.rows, r.rc.key.size ≤ 65536) := HKy
      have HSy : Hid (∀ W, Below w.heap.size w W → _) := hid (fun W (hW : Below w.heap.size w W) => staying_any (HP.out.toLPic0.later hW) HKy.out 3 nn k p e q tx ad len cap (Or.inr rfl))
      have hGe : G = { g with rows := g.rows.filter (stayB g 3 nn) } := by
        rw [HGG.out]
        unfold appG
        rw [HDd.out, if_neg (by simp)]
        dsimp only
        rw [if_neg (by decide), if_neg (by decide), left_stay]
      have HGe := hid hGe
      have HSet : Hid (∀ (W : World) (v : Value), (W.cell? ⟨w.heap.size, 0, none⟩ = some (.int .i64 3) ∧ W.cell? ⟨w.heap.size, 1, none⟩ = some (.int .i64 nn) ∧ W.cell? ⟨w.heap.size, 2, none⟩ = some (.int .i64 k) ∧ W.cell? ⟨w.heap.size, 3, none⟩ = some (.int .i64 p) ∧ W.cell? ⟨w.heap.size, 4, none⟩ = some (.int .i64 e) ∧ W.cell? ⟨w.heap.size, 5, none⟩ = some (.int .i64 q) ∧ W.cell? ⟨w.heap.size, 6, none⟩ = some (.bool tx) ∧ W.cell? ⟨w.heap.size, 7, none⟩ = some (.slice ad len cap)) → ((W.setCell ⟨L, 3, none⟩ v).cell? ⟨w.heap.size, 0, none⟩ = some (.int .i64 3) ∧ (W.setCell ⟨L, 3, none⟩ v).cell? ⟨w.heap.size, 1, none⟩ = some (.int .i64 nn) ∧ (W.setCell ⟨L, 3, none⟩ v).cell? ⟨w.heap.size, 2, none⟩ = some (.int .i64 k) ∧ (W.setCell ⟨L, 3, none⟩ v).cell? ⟨w.heap.size, 3, none⟩ = some (.int .i64 p) ∧ (W.setCell ⟨L, 3, none⟩ v).cell? ⟨w.heap.size, 4, none⟩ = some (.int .i64 e) ∧ (W.setCell ⟨L, 3, none⟩ v).cell? ⟨w.heap.size, 5, none⟩ = some (.int .i64 q) ∧ (W.setCell ⟨L, 3, none⟩ v).cell? ⟨w.heap.size, 6, none⟩ = some (.bool tx) ∧ (W.setCell ⟨L, 3, none⟩ v).cell? ⟨w.heap.size, 7, none⟩ = some (.slice ad len cap))) := hid (fun W v hW => by
        obtain ⟨s0, s1, s2, s3, s4, s5, s6, s7⟩ := hW
        exact ⟨(cell_set_ne' (by omega)).trans s0, (cell_set_ne' (by omega)).trans s1, (cell_set_ne' (by omega)).trans s2, (cell_set_ne' (by omega)).trans s3, (cell_set_ne' (by omega)).trans s4, (cell_set_ne' (by omega)).trans s5, (cell_set_ne' (by omega)).trans s6, (cell_set_ne' (by omega)).trans s7⟩)
      have hgz := g.rows.filter (stayB g 3 nn)
      clear hgz hnb hst hGe h hd hm hAr hAg
      go_enter Tryz.func12, Tryz.ntmps12
      go_wp2_with (go_at_call 11; (with_reducible_and_instances (refine HD.out.mono ?_)); rintro x W1 ⟨rfl, hb1⟩; have HB1 := hid hb1; clear hb1; obtain ⟨d0, d1, d2, d3, d4, d5, d6, d7⟩ := HS.out W1 HB1.out; have l1 := (HP.out.later (HB0.out.trans (HB1.out.mono HB0.out.size))).c1; have f1 := (HP.out.later (HB0.out.trans (HB1.out.mono HB0.out.size))).box.free 1; have lL := (HP.out.later (HB0.out.trans (HB1.out.mono HB0.out.size))).lt)
      have HB1' := hid (HB0.out.trans (HB1.out.mono HB0.out.size))
      have HS1 : Hid (∀ X, Below W1.heap.size W1 X → X.cell? ⟨w.heap.size, 0, none⟩ = some (.int .i64 3) ∧ X.cell? ⟨w.heap.size, 1, none⟩ = some (.int .i64 nn) ∧ X.cell? ⟨w.heap.size, 2, none⟩ = some (.int .i64 k) ∧ X.cell? ⟨w.heap.size, 3, none⟩ = some (.int .i64 p) ∧ X.cell? ⟨w.heap.size, 4, none⟩ = some (.int .i64 e) ∧ X.cell? ⟨w.heap.size, 5, none⟩ = some (.int .i64 q) ∧ X.cell? ⟨w.heap.size, 6, none⟩ = some (.bool tx) ∧ X.cell? ⟨w.heap.size, 7, none⟩ = some (.slice ad len cap)) := hid (fun X hX => HS.out X (HB1.out.trans (hX.mono HB1.out.size)))
      have HL3 : Hid (∀ X, Below W1.heap.size W1 X → X.cell? ⟨L, 3, none⟩ = some (.slice ar g.rows.length cr)) := hid (fun X hX => (HP.out.later (HB1'.out.trans (hX.mono HB1'.out.size))).c3)
      have HL3f : Hid (∀ X, Below W1.heap.size W1 X → X.frozen? ⟨L, 3, none⟩ = false) := hid (fun X hX => (HP.out.later (HB1'.out.trans (hX.mono HB1'.out.size))).box.free 3)
      have HR1 : Hid (∀ X, Below W1.heap.size W1 X → ArgK kRw X g.rows ar g.rows.length cr) := hid (fun X hX => HAr.out.later (HB1'.out.trans (hX.mono HB1'.out.size)))
      have HSt : Hid (∀ X, Below W1.heap.size W1 X → _) := hid (fun X (hX : Below W1.heap.size W1 X) => HSy.out X (HB1'.out.trans (hX.mono HB1'.out.size)))
      clear d0 d1 d2 d3 d4 d5 d6 d7 l1 f1 c0 c1 c2 c3 c4 c5 c6 c7
      refine wp_region_held_drew (S := fun W => W.cell? ⟨w.heap.size, 0, none⟩ = some (.int .i64 3) ∧ W.cell? ⟨w.heap.size, 1, none⟩ = some (.int .i64 nn) ∧ W.cell? ⟨w.heap.size, 2, none⟩ = some (.int .i64 k) ∧ W.cell? ⟨w.heap.size, 3, none⟩ = some (.int .i64 p) ∧ W.cell? ⟨w.heap.size, 4, none⟩ = some (.int .i64 e) ∧ W.cell? ⟨w.heap.size, 5, none⟩ = some (.int .i64 q) ∧ W.cell? ⟨w.heap.size, 6, none⟩ = some (.bool tx) ∧ W.cell? ⟨w.heap.size, 7, none⟩ = some (.slice ad len cap)) (by kernel_rfl) (HS1.out _ (Below.refl _ _).drew) (fun hHeld => ?_)
      refine tk 0 54 hHeld ?_
      try simp only [Act.put, p1, p2, p3]
      refine tk 1 55 hHeld ?_
      try simp only [Act.put, p1, p2, p3]
      refine tk 2 56 hHeld ?_
      try simp only [Act.put, p1, p2, p3]
      refine tk 3 57 hHeld ?_
      try simp only [Act.put, p1, p2, p3]
      refine tk 5 59 hHeld ?_
      try simp only [Act.put, p1, p2, p3]
      refine tk 6 60 hHeld ?_
      try simp only [Act.put, p1, p2, p3]
      refine tk 7 61 hHeld ?_
      try simp only [Act.put, p1, p2, p3]
      refine tk 10 64 hHeld ?_
      try simp only [Act.put, p1, p2, p3]
      refine tk 11 65 hHeld ?_
      try simp only [Act.put, p1, p2, p3]
      refine wpAnyH_ready (rs := [4, 8, 12]) (by kernel_rfl) (by simp) ?_
      refine AllReadyH.cons rfl (fun K hK => ?_) (AllReadyH.cons rfl (fun K hK => ?_) (AllReadyH.cons rfl (fun K hK => ?_) (AllReadyH.nil)))
      · skip
        have y3 := HL3.out W1.drew (Below.refl W1.heap.size W1).drew
        go_simp
        clear y3
        refine hK.out _ _ (HS1.out _ (Below.refl W1.heap.size W1).drew) (fun hHeld => ?_)
        clear hK K
        try simp only [Act.put, p1, p2, p3]
        refine wpAnyH_ready (rs := [8, 12]) (by kernel_rfl) (by simp) ?_
        refine AllReadyH.cons rfl (fun K hK => ?_) (AllReadyH.cons rfl (fun K hK => ?_) (AllReadyH.nil))
        · skip
          have y3 := HL3.out W1.drew (Below.refl W1.heap.size W1).drew
          go_simp
          clear y3
          refine hK.out _ _ (HS1.out _ (Below.refl W1.heap.size W1).drew) (fun hHeld => ?_)
          clear hK K
          try simp only [Act.put, p1, p2, p3]
          refine tk 9 63 hHeld ?_
          try simp only [Act.put, p1, p2, p3]
          refine wpAnyH_ready (rs := [12]) (by kernel_rfl) (by simp) ?_
          refine AllReadyH.cons rfl (fun K hK => ?_) (AllReadyH.nil)
          · skip
            go_simp
            go_wp2_with (go_at_call 31; refine (HSt.out W1.drew (Below.refl W1.heap.size W1).drew).mono ?_; rintro r W3 ⟨fv, rfl, hch, hb3⟩; have HB3 := hid (((Below.refl W1.heap.size W1).drew).trans (hb3.mono ((Below.refl W1.heap.size W1).drew).size)); have HCh := hid hch; clear hch hb3)
            refine hK.out _ _ (HS1.out _ HB3.out) (fun hHeld => ?_)
            clear hK K
            try simp only [Act.put, p1, p2, p3]
            refine wpAnyH_ready (rs := [13]) (by kernel_rfl) (by simp) ?_
            refine AllReadyH.cons rfl (fun K hK => ?_) (AllReadyH.nil)
            go_simp
            go_wp2_with (go_at_call 30; refine (HCh.out W3 (Below.refl _ _) _ ar _ cr _ (HR1.out _ HB3.out) HKr.out hml hby).mono ?_; rintro r W5 ⟨v5, rfl, ho5, hb5⟩; obtain ⟨a5, n5, c5, rfl⟩ := OwnK.shape ho5; have HO5 := hid ho5; have HB5 := hid ((HB3.out).trans (hb5.mono (HB3.out).size)); clear ho5 hb5)
            refine hK.out _ _ (HS1.out _ HB5.out) (fun hHeld => ?_)
            clear hK K
            try simp only [Act.put, p1, p2, p3]
            refine tk 14 68 hHeld ?_
            try simp only [Act.put, p1, p2, p3]
            refine tk 15 69 hHeld ?_
            try simp only [Act.put, p1, p2, p3]
            have y3 := HL3.out W5 HB5.out
            have z3 := HL3f.out W5 HB5.out
            refine wpAnyH_ready (rs := [16]) (by kernel_rfl) (by simp) ?_
            refine AllReadyH.cons rfl (fun K hK => ?_) (AllReadyH.nil)
            go_simp
            clear y3 z3
            refine hK.out _ _ (HSet.out W5 _ (HS1.out _ HB5.out)) (fun hHeld => ?_)
            clear hK K
            try simp only [Act.put, p1, p2, p3]
            refine wpAnyH_done (by kernel_rfl) ?_ _
            clear hHeld
            go_wp2_with fail
            have HB6 := hid (HB1'.out.trans (HB5.out.mono HB1'.out.size))
            have hO := HO5.out
            rw [choose_all _ _ _ (Nat.le_refl _)] at hO
            refine bodyPost_ret (results_tmp2 Tryz.results12 _ _ _) rfl ⟨rfl, n, (.slice a5 n5 c5), vo, _, by omega, ⟨?_, ?_⟩, ?_, ?_, NewB.refl _ _, NewB.refl _ _⟩
            · rw [HGe.out]
              exact HP.out.toLPic0.rowsNew HB6.out (hO.mono (by have h1 := HB1'.out.size; have h3 : W1.heap.size ≤ W1.drew.heap.size := Nat.le_refl _; (try have h4 := HB3.out.size); omega)) HNn.out
            · rw [HGe.out]; exact compact_ok HP.out.ok _
            · exact (Chg.of HB6.out).set (Or.inl (by simp)) _ _
            · exact newB_own (hO.mono (by have h1 := HB1'.out.size; have h3 : W1.heap.size ≤ W1.drew.heap.size := Nat.le_refl _; (try have h4 := HB3.out.size); omega))
        · skip
          go_simp
          go_wp2_with (go_at_call 31; refine (HSt.out W1.drew (Below.refl W1.heap.size W1).drew).mono ?_; rintro r W3 ⟨fv, rfl, hch, hb3⟩; have HB3 := hid (((Below.refl W1.heap.size W1).drew).trans (hb3.mono ((Below.refl W1.heap.size W1).drew).size)); have HCh := hid hch; clear hch hb3)
          refine hK.out _ _ (HS1.out _ HB3.out) (fun hHeld => ?_)
          clear hK K
          try simp only [Act.put, p1, p2, p3]
          refine wpAnyH_ready (rs := [8]) (by kernel_rfl) (by simp) ?_
          refine AllReadyH.cons rfl (fun K hK => ?_) (AllReadyH.nil)
          · skip
            have y3 := HL3.out W3 HB3.out
            go_simp
            clear y3
            refine hK.out _ _ (HS1.out _ HB3.out) (fun hHeld => ?_)
            clear hK K
            try simp only [Act.put, p1, p2, p3]
            refine tk 9 63 hHeld ?_
            try simp only [Act.put, p1, p2, p3]
            refine wpAnyH_ready (rs := [13]) (by kernel_rfl) (by simp) ?_
            refine AllReadyH.cons rfl (fun K hK => ?_) (AllReadyH.nil)
            go_simp
            go_wp2_with (go_at_call 30; refine (HCh.out W3 (Below.refl _ _) _ ar _ cr _ (HR1.out _ HB3.out) HKr.out hml hby).mono ?_; rintro r W5 ⟨v5, rfl, ho5, hb5⟩; obtain ⟨a5, n5, c5, rfl⟩ := OwnK.shape ho5; have HO5 := hid ho5; have HB5 := hid ((HB3.out).trans (hb5.mono (HB3.out).size)); clear ho5 hb5)
            refine hK.out _ _ (HS1.out _ HB5.out) (fun hHeld => ?_)
            clear hK K
            try simp only [Act.put, p1, p2, p3]
            refine tk 14 68 hHeld ?_
            try simp only [Act.put, p1, p2, p3]
            refine tk 15 69 hHeld ?_
            try simp only [Act.put, p1, p2, p3]
            have y3 := HL3.out W5 HB5.out
            have z3 := HL3f.out W5 HB5.out
            refine wpAnyH_ready (rs := [16]) (by kernel_rfl) (by simp) ?_
            refine AllReadyH.cons rfl (fun K hK => ?_) (AllReadyH.nil)
            go_simp
            clear y3 z3
            refine hK.out _ _ (HSet.out W5 _ (HS1.out _ HB5.out)) (fun hHeld => ?_)
            clear hK K
            try simp only [Act.put, p1, p2, p3]
            refine wpAnyH_done (by kernel_rfl) ?_ _
            clear hHeld
            go_wp2_with fail
            have HB6 := hid (HB1'.out.trans (HB5.out.mono HB1'.out.size))
            have hO := HO5.out
            rw [choose_all _ _ _ (Nat.le_refl _)] at hO
            refine bodyPost_ret (results_tmp2 Tryz.results12 _ _ _) rfl ⟨rfl, n, (.slice a5 n5 c5), vo, _, by omega, ⟨?_, ?_⟩, ?_, ?_, NewB.refl _ _, NewB.refl _ _⟩
            · rw [HGe.out]
              exact HP.out.toLPic0.rowsNew HB6.out (hO.mono (by have h1 := HB1'.out.size; have h3 : W1.heap.size ≤ W1.drew.heap.size := Nat.le_refl _; (try have h4 := HB3.out.size); omega)) HNn.out
            · rw [HGe.out]; exact compact_ok HP.out.ok _
            · exact (Chg.of HB6.out).set (Or.inl (by simp)) _ _
            · exact newB_own (hO.mono (by have h1 := HB1'.out.size; have h3 : W1.heap.size ≤ W1.drew.heap.size := Nat.le_refl _; (try have h4 := HB3.out.size); omega))
      · skip
        have y3 := HL3.out W1.drew (Below.refl W1.heap.size W1).drew
        go_simp
        clear y3
        refine hK.out _ _ (HS1.out _ (Below.refl W1.heap.size W1).drew) (fun hHeld => ?_)
        clear hK K
        try simp only [Act.put, p1, p2, p3]
        refine tk 9 63 hHeld ?_
        try simp only [Act.put, p1, p2, p3]
        refine wpAnyH_ready (rs := [4, 12]) (by kernel_rfl) (by simp) ?_
        refine AllReadyH.cons rfl (fun K hK => ?_) (AllReadyH.cons rfl (fun K hK => ?_) (AllReadyH.nil))
        · skip
          have y3 := HL3.out W1.drew (Below.refl W1.heap.size W1).drew
          go_simp
          clear y3
          refine hK.out _ _ (HS1.out _ (Below.refl W1.heap.size W1).drew) (fun hHeld => ?_)
          clear hK K
          try simp only [Act.put, p1, p2, p3]
          refine wpAnyH_ready (rs := [12]) (by kernel_rfl) (by simp) ?_
          refine AllReadyH.cons rfl (fun K hK => ?_) (AllReadyH.nil)
          · skip
            go_simp
            go_wp2_with (go_at_call 31; refine (HSt.out W1.drew (Below.refl W1.heap.size W1).drew).mono ?_; rintro r W3 ⟨fv, rfl, hch, hb3⟩; have HB3 := hid (((Below.refl W1.heap.size W1).drew).trans (hb3.mono ((Below.refl W1.heap.size W1).drew).size)); have HCh := hid hch; clear hch hb3)
            refine hK.out _ _ (HS1.out _ HB3.out) (fun hHeld => ?_)
            clear hK K
            try simp only [Act.put, p1, p2, p3]
            refine wpAnyH_ready (rs := [13]) (by kernel_rfl) (by simp) ?_
            refine AllReadyH.cons rfl (fun K hK => ?_) (AllReadyH.nil)
            go_simp
            go_wp2_with (go_at_call 30; refine (HCh.out W3 (Below.refl _ _) _ ar _ cr _ (HR1.out _ HB3.out) HKr.out hml hby).mono ?_; rintro r W5 ⟨v5, rfl, ho5, hb5⟩; obtain ⟨a5, n5, c5, rfl⟩ := OwnK.shape ho5; have HO5 := hid ho5; have HB5 := hid ((HB3.out).trans (hb5.mono (HB3.out).size)); clear ho5 hb5)
            refine hK.out _ _ (HS1.out _ HB5.out) (fun hHeld => ?_)
            clear hK K
            try simp only [Act.put, p1, p2, p3]
            refine tk 14 68 hHeld ?_
            try simp only [Act.put, p1, p2, p3]
            refine tk 15 69 hHeld ?_
            try simp only [Act.put, p1, p2, p3]
            have y3 := HL3.out W5 HB5.out
            have z3 := HL3f.out W5 HB5.out
            refine wpAnyH_ready (rs := [16]) (by kernel_rfl) (by simp) ?_
            refine AllReadyH.cons rfl (fun K hK => ?_) (AllReadyH.nil)
            go_simp
            clear y3 z3
            refine hK.out _ _ (HSet.out W5 _ (HS1.out _ HB5.out)) (fun hHeld => ?_)
            clear hK K
            try simp only [Act.put, p1, p2, p3]
            refine wpAnyH_done (by kernel_rfl) ?_ _
            clear hHeld
            go_wp2_with fail
            have HB6 := hid (HB1'.out.trans (HB5.out.mono HB1'.out.size))
            have hO := HO5.out
            rw [choose_all _ _ _ (Nat.le_refl _)] at hO
            refine bodyPost_ret (results_tmp2 Tryz.results12 _ _ _) rfl ⟨rfl, n, (.slice a5 n5 c5), vo, _, by omega, ⟨?_, ?_⟩, ?_, ?_, NewB.refl _ _, NewB.refl _ _⟩
            · rw [HGe.out]
              exact HP.out.toLPic0.rowsNew HB6.out (hO.mono (by have h1 := HB1'.out.size; have h3 : W1.heap.size ≤ W1.drew.heap.size := Nat.le_refl _; (try have h4 := HB3.out.size); omega)) HNn.out
            · rw [HGe.out]; exact compact_ok HP.out.ok _
            · exact (Chg.of HB6.out).set (Or.inl (by simp)) _ _
            · exact newB_own (hO.mono (by have h1 := HB1'.out.size; have h3 : W1.heap.size ≤ W1.drew.heap.size := Nat.le_refl _; (try have h4 := HB3.out.size); omega))
        · skip
          go_simp
          go_wp2_with (go_at_call 31; refine (HSt.out W1.drew (Below.refl W1.heap.size W1).drew).mono ?_; rintro r W3 ⟨fv, rfl, hch, hb3⟩; have HB3 := hid (((Below.refl W1.heap.size W1).drew).trans (hb3.mono ((Below.refl W1.heap.size W1).drew).size)); have HCh := hid hch; clear hch hb3)
          refine hK.out _ _ (HS1.out _ HB3.out) (fun hHeld => ?_)
          clear hK K
          try simp only [Act.put, p1, p2, p3]
          refine wpAnyH_ready (rs := [4]) (by kernel_rfl) (by simp) ?_
          refine AllReadyH.cons rfl (fun K hK => ?_) (AllReadyH.nil)
          · skip
            have y3 := HL3.out W3 HB3.out
            go_simp
            clear y3
            refine hK.out _ _ (HS1.out _ HB3.out) (fun hHeld => ?_)
            clear hK K
            try simp only [Act.put, p1, p2, p3]
            refine wpAnyH_ready (rs := [13]) (by kernel_rfl) (by simp) ?_
            refine AllReadyH.cons rfl (fun K hK => ?_) (AllReadyH.nil)
            go_simp
            go_wp2_with (go_at_call 30; refine (HCh.out W3 (Below.refl _ _) _ ar _ cr _ (HR1.out _ HB3.out) HKr.out hml hby).mono ?_; rintro r W5 ⟨v5, rfl, ho5, hb5⟩; obtain ⟨a5, n5, c5, rfl⟩ := OwnK.shape ho5; have HO5 := hid ho5; have HB5 := hid ((HB3.out).trans (hb5.mono (HB3.out).size)); clear ho5 hb5)
            refine hK.out _ _ (HS1.out _ HB5.out) (fun hHeld => ?_)
            clear hK K
            try simp only [Act.put, p1, p2, p3]
            refine tk 14 68 hHeld ?_
            try simp only [Act.put, p1, p2, p3]
            refine tk 15 69 hHeld ?_
            try simp only [Act.put, p1, p2, p3]
            have y3 := HL3.out W5 HB5.out
            have z3 := HL3f.out W5 HB5.out
            refine wpAnyH_ready (rs := [16]) (by kernel_rfl) (by simp) ?_
            refine AllReadyH.cons rfl (fun K hK => ?_) (AllReadyH.nil)
            go_simp
            clear y3 z3
            refine hK.out _ _ (HSet.out W5 _ (HS1.out _ HB5.out)) (fun hHeld => ?_)
            clear hK K
            try simp only [Act.put, p1, p2, p3]
            refine wpAnyH_done (by kernel_rfl) ?_ _
            clear hHeld
            go_wp2_with fail
            have HB6 := hid (HB1'.out.trans (HB5.out.mono HB1'.out.size))
            have hO := HO5.out
            rw [choose_all _ _ _ (Nat.le_refl _)] at hO
            refine bodyPost_ret (results_tmp2 Tryz.results12 _ _ _) rfl ⟨rfl, n, (.slice a5 n5 c5), vo, _, by omega, ⟨?_, ?_⟩, ?_, ?_, NewB.refl _ _, NewB.refl _ _⟩
            · rw [HGe.out]
              exact HP.out.toLPic0.rowsNew HB6.out (hO.mono (by have h1 := HB1'.out.size; have h3 : W1.heap.size ≤ W1.drew.heap.size := Nat.le_refl _; (try have h4 := HB3.out.size); omega)) HNn.out
            · rw [HGe.out]; exact compact_ok HP.out.ok _
            · exact (Chg.of HB6.out).set (Or.inl (by simp)) _ _
            · exact newB_own (hO.mono (by have h1 := HB1'.out.size; have h3 : W1.heap.size ≤ W1.drew.heap.size := Nat.le_refl _; (try have h4 := HB3.out.size); omega))
      · skip
        go_simp
        go_wp2_with (go_at_call 31; refine (HSt.out W1.drew (Below.refl W1.heap.size W1).drew).mono ?_; rintro r W3 ⟨fv, rfl, hch, hb3⟩; have HB3 := hid (((Below.refl W1.heap.size W1).drew).trans (hb3.mono ((Below.refl W1.heap.size W1).drew).size)); have HCh := hid hch; clear hch hb3)
        refine hK.out _ _ (HS1.out _ HB3.out) (fun hHeld => ?_)
        clear hK K
        try simp only [Act.put, p1, p2, p3]
        refine wpAnyH_ready (rs := [4, 8]) (by kernel_rfl) (by simp) ?_
        refine AllReadyH.cons rfl (fun K hK => ?_) (AllReadyH.cons rfl (fun K hK => ?_) (AllReadyH.nil))
        · skip
          have y3 := HL3.out W3 HB3.out
          go_simp
          clear y3
          refine hK.out _ _ (HS1.out _ HB3.out) (fun hHeld => ?_)
          clear hK K
          try simp only [Act.put, p1, p2, p3]
          refine wpAnyH_ready (rs := [8]) (by kernel_rfl) (by simp) ?_
          refine AllReadyH.cons rfl (fun K hK => ?_) (AllReadyH.nil)
          · skip
            have y3 := HL3.out W3 HB3.out
            go_simp
            clear y3
            refine hK.out _ _ (HS1.out _ HB3.out) (fun hHeld => ?_)
            clear hK K
            try simp only [Act.put, p1, p2, p3]
            refine tk 9 63 hHeld ?_
            try simp only [Act.put, p1, p2, p3]
            refine wpAnyH_ready (rs := [13]) (by kernel_rfl) (by simp) ?_
            refine AllReadyH.cons rfl (fun K hK => ?_) (AllReadyH.nil)
            go_simp
            go_wp2_with (go_at_call 30; refine (HCh.out W3 (Below.refl _ _) _ ar _ cr _ (HR1.out _ HB3.out) HKr.out hml hby).mono ?_; rintro r W5 ⟨v5, rfl, ho5, hb5⟩; obtain ⟨a5, n5, c5, rfl⟩ := OwnK.shape ho5; have HO5 := hid ho5; have HB5 := hid ((HB3.out).trans (hb5.mono (HB3.out).size)); clear ho5 hb5)
            refine hK.out _ _ (HS1.out _ HB5.out) (fun hHeld => ?_)
            clear hK K
            try simp only [Act.put, p1, p2, p3]
            refine tk 14 68 hHeld ?_
            try simp only [Act.put, p1, p2, p3]
            refine tk 15 69 hHeld ?_
            try simp only [Act.put, p1, p2, p3]
            have y3 := HL3.out W5 HB5.out
            have z3 := HL3f.out W5 HB5.out
            refine wpAnyH_ready (rs := [16]) (by kernel_rfl) (by simp) ?_
            refine AllReadyH.cons rfl (fun K hK => ?_) (AllReadyH.nil)
            go_simp
            clear y3 z3
            refine hK.out _ _ (HSet.out W5 _ (HS1.out _ HB5.out)) (fun hHeld => ?_)
            clear hK K
            try simp only [Act.put, p1, p2, p3]
            refine wpAnyH_done (by kernel_rfl) ?_ _
            clear hHeld
            go_wp2_with fail
            have HB6 := hid (HB1'.out.trans (HB5.out.mono HB1'.out.size))
            have hO := HO5.out
            rw [choose_all _ _ _ (Nat.le_refl _)] at hO
            refine bodyPost_ret (results_tmp2 Tryz.results12 _ _ _) rfl ⟨rfl, n, (.slice a5 n5 c5), vo, _, by omega, ⟨?_, ?_⟩, ?_, ?_, NewB.refl _ _, NewB.refl _ _⟩
            · rw [HGe.out]
              exact HP.out.toLPic0.rowsNew HB6.out (hO.mono (by have h1 := HB1'.out.size; have h3 : W1.heap.size ≤ W1.drew.heap.size := Nat.le_refl _; (try have h4 := HB3.out.size); omega)) HNn.out
            · rw [HGe.out]; exact compact_ok HP.out.ok _
            · exact (Chg.of HB6.out).set (Or.inl (by simp)) _ _
            · exact newB_own (hO.mono (by have h1 := HB1'.out.size; have h3 : W1.heap.size ≤ W1.drew.heap.size := Nat.le_refl _; (try have h4 := HB3.out.size); omega))
        · skip
          have y3 := HL3.out W3 HB3.out
          go_simp
          clear y3
          refine hK.out _ _ (HS1.out _ HB3.out) (fun hHeld => ?_)
          clear hK K
          try simp only [Act.put, p1, p2, p3]
          refine tk 9 63 hHeld ?_
          try simp only [Act.put, p1, p2, p3]
          refine wpAnyH_ready (rs := [4]) (by kernel_rfl) (by simp) ?_
          refine AllReadyH.cons rfl (fun K hK => ?_) (AllReadyH.nil)
          · skip
            have y3 := HL3.out W3 HB3.out
            go_simp
            clear y3
            refine hK.out _ _ (HS1.out _ HB3.out) (fun hHeld => ?_)
            clear hK K
            try simp only [Act.put, p1, p2, p3]
            refine wpAnyH_ready (rs := [13]) (by kernel_rfl) (by simp) ?_
            refine AllReadyH.cons rfl (fun K hK => ?_) (AllReadyH.nil)
            go_simp
            go_wp2_with (go_at_call 30; refine (HCh.out W3 (Below.refl _ _) _ ar _ cr _ (HR1.out _ HB3.out) HKr.out hml hby).mono ?_; rintro r W5 ⟨v5, rfl, ho5, hb5⟩; obtain ⟨a5, n5, c5, rfl⟩ := OwnK.shape ho5; have HO5 := hid ho5; have HB5 := hid ((HB3.out).trans (hb5.mono (HB3.out).size)); clear ho5 hb5)
            refine hK.out _ _ (HS1.out _ HB5.out) (fun hHeld => ?_)
            clear hK K
            try simp only [Act.put, p1, p2, p3]
            refine tk 14 68 hHeld ?_
            try simp only [Act.put, p1, p2, p3]
            refine tk 15 69 hHeld ?_
            try simp only [Act.put, p1, p2, p3]
            have y3 := HL3.out W5 HB5.out
            have z3 := HL3f.out W5 HB5.out
            refine wpAnyH_ready (rs := [16]) (by kernel_rfl) (by simp) ?_
            refine AllReadyH.cons rfl (fun K hK => ?_) (AllReadyH.nil)
            go_simp
            clear y3 z3
            refine hK.out _ _ (HSet.out W5 _ (HS1.out _ HB5.out)) (fun hHeld => ?_)
            clear hK K
            try simp only [Act.put, p1, p2, p3]
            refine wpAnyH_done (by kernel_rfl) ?_ _
            clear hHeld
            go_wp2_with fail
            have HB6 := hid (HB1'.out.trans (HB5.out.mono HB1'.out.size))
            have hO := HO5.out
            rw [choose_all _ _ _ (Nat.le_refl _)] at hO
            refine bodyPost_ret (results_tmp2 Tryz.results12 _ _ _) rfl ⟨rfl, n, (.slice a5 n5 c5), vo, _, by omega, ⟨?_, ?_⟩, ?_, ?_, NewB.refl _ _, NewB.refl _ _⟩
            · rw [HGe.out]
              exact HP.out.toLPic0.rowsNew HB6.out (hO.mono (by have h1 := HB1'.out.size; have h3 : W1.heap.size ≤ W1.drew.heap.size := Nat.le_refl _; (try have h4 := HB3.out.size); omega)) HNn.out
            · rw [HGe.out]; exact compact_ok HP.out.ok _
            · exact (Chg.of HB6.out).set (Or.inl (by simp)) _ _
            · exact newB_own (hO.mono (by have h1 := HB1'.out.size; have h3 : W1.heap.size ≤ W1.drew.heap.size := Nat.le_refl _; (try have h4 := HB3.out.size); omega))
    · skip
      have HKr : Hid (∀ r ∈ g.rows, r.rc.key.size ≤ 65536) := HKy
      have hsn : g.start ≤ nn := by
        unfold nothB at hnb
        rw [if_pos rfl] at hnb
        have := of_decide_eq_false hnb
        omega
      have HOk := hid (retain_ok h.ok hsn (by omega) (fun y => decide (nn ≤ y.last)))
      have hGe : G = { g with start := nn, rows := g.rows.filter (fun r => decide (nn ≤ r.off)), gone := g.gone.filter (fun y => decide (nn ≤ y.last)) } := by
        rw [HGG.out]
        unfold appG
        rw [HDd.out, if_neg (by simp)]
        dsimp only
        rw [if_neg (by decide), if_pos rfl]
        unfold Lg.left
        rw [if_pos rfl]
      have HGe := hid hGe
      have HSet : Hid (∀ (W : World) (v : Value), (W.cell? ⟨w.heap.size, 0, none⟩ = some (.int .i64 2) ∧ W.cell? ⟨w.heap.size, 1, none⟩ = some (.int .i64 nn) ∧ W.cell? ⟨w.heap.size, 2, none⟩ = some (.int .i64 k) ∧ W.cell? ⟨w.heap.size, 3, none⟩ = some (.int .i64 p) ∧ W.cell? ⟨w.heap.size, 4, none⟩ = some (.int .i64 e) ∧ W.cell? ⟨w.heap.size, 5, none⟩ = some (.int .i64 q) ∧ W.cell? ⟨w.heap.size, 6, none⟩ = some (.bool tx) ∧ W.cell? ⟨w.heap.size, 7, none⟩ = some (.slice ad len cap)) → ((W.setCell ⟨L, 3, none⟩ v).cell? ⟨w.heap.size, 0, none⟩ = some (.int .i64 2) ∧ (W.setCell ⟨L, 3, none⟩ v).cell? ⟨w.heap.size, 1, none⟩ = some (.int .i64 nn) ∧ (W.setCell ⟨L, 3, none⟩ v).cell? ⟨w.heap.size, 2, none⟩ = some (.int .i64 k) ∧ (W.setCell ⟨L, 3, none⟩ v).cell? ⟨w.heap.size, 3, none⟩ = some (.int .i64 p) ∧ (W.setCell ⟨L, 3, none⟩ v).cell? ⟨w.heap.size, 4, none⟩ = some (.int .i64 e) ∧ (W.setCell ⟨L, 3, none⟩ v).cell? ⟨w.heap.size, 5, none⟩ = some (.int .i64 q) ∧ (W.setCell ⟨L, 3, none⟩ v).cell? ⟨w.heap.size, 6, none⟩ = some (.bool tx) ∧ (W.setCell ⟨L, 3, none⟩ v).cell? ⟨w.heap.size, 7, none⟩ = some (.slice ad len cap))) := hid (fun W v hW => by
        obtain ⟨s0, s1, s2, s3, s4, s5, s6, s7⟩ := hW
        exact ⟨(cell_set_ne' (by omega)).trans s0, (cell_set_ne' (by omega)).trans s1, (cell_set_ne' (by omega)).trans s2, (cell_set_ne' (by omega)).trans s3, (cell_set_ne' (by omega)).trans s4, (cell_set_ne' (by omega)).trans s5, (cell_set_ne' (by omega)).trans s6, (cell_set_ne' (by omega)).trans s7⟩)
      have HSet5 : Hid (∀ (W : World) (v : Value), (W.cell? ⟨w.heap.size, 0, none⟩ = some (.int .i64 2) ∧ W.cell? ⟨w.heap.size, 1, none⟩ = some (.int .i64 nn) ∧ W.cell? ⟨w.heap.size, 2, none⟩ = some (.int .i64 k) ∧ W.cell? ⟨w.heap.size, 3, none⟩ = some (.int .i64 p) ∧ W.cell? ⟨w.heap.size, 4, none⟩ = some (.int .i64 e) ∧ W.cell? ⟨w.heap.size, 5, none⟩ = some (.int .i64 q) ∧ W.cell? ⟨w.heap.size, 6, none⟩ = some (.bool tx) ∧ W.cell? ⟨w.heap.size, 7, none⟩ = some (.slice ad len cap)) → ((W.setCell ⟨L, 5, none⟩ v).cell? ⟨w.heap.size, 0, none⟩ = some (.int .i64 2) ∧ (W.setCell ⟨L, 5, none⟩ v).cell? ⟨w.heap.size, 1, none⟩ = some (.int .i64 nn) ∧ (W.setCell ⟨L, 5, none⟩ v).cell? ⟨w.heap.size, 2, none⟩ = some (.int .i64 k) ∧ (W.setCell ⟨L, 5, none⟩ v).cell? ⟨w.heap.size, 3, none⟩ = some (.int .i64 p) ∧ (W.setCell ⟨L, 5, none⟩ v).cell? ⟨w.heap.size, 4, none⟩ = some (.int .i64 e) ∧ (W.setCell ⟨L, 5, none⟩ v).cell? ⟨w.heap.size, 5, none⟩ = some (.int .i64 q) ∧ (W.setCell ⟨L, 5, none⟩ v).cell? ⟨w.heap.size, 6, none⟩ = some (.bool tx) ∧ (W.setCell ⟨L, 5, none⟩ v).cell? ⟨w.heap.size, 7, none⟩ = some (.slice ad len cap))) := hid (fun W v hW => by
        obtain ⟨s0, s1, s2, s3, s4, s5, s6, s7⟩ := hW
        exact ⟨(cell_set_ne' (by omega)).trans s0, (cell_set_ne' (by omega)).trans s1, (cell_set_ne' (by omega)).trans s2, (cell_set_ne' (by omega)).trans s3, (cell_set_ne' (by omega)).trans s4, (cell_set_ne' (by omega)).trans s5, (cell_set_ne' (by omega)).trans s6, (cell_set_ne' (by omega)).trans s7⟩)
      have HSet1 : Hid (∀ (W : World) (v : Value), (W.cell? ⟨w.heap.size, 0, none⟩ = some (.int .i64 2) ∧ W.cell? ⟨w.heap.size, 1, none⟩ = some (.int .i64 nn) ∧ W.cell? ⟨w.heap.size, 2, none⟩ = some (.int .i64 k) ∧ W.cell? ⟨w.heap.size, 3, none⟩ = some (.int .i64 p) ∧ W.cell? ⟨w.heap.size, 4, none⟩ = some (.int .i64 e) ∧ W.cell? ⟨w.heap.size, 5, none⟩ = some (.int .i64 q) ∧ W.cell? ⟨w.heap.size, 6, none⟩ = some (.bool tx) ∧ W.cell? ⟨w.heap.size, 7, none⟩ = some (.slice ad len cap)) → ((W.setCell ⟨L, 1, none⟩ v).cell? ⟨w.heap.size, 0, none⟩ = some (.int .i64 2) ∧ (W.setCell ⟨L, 1, none⟩ v).cell? ⟨w.heap.size, 1, none⟩ = some (.int .i64 nn) ∧ (W.setCell ⟨L, 1, none⟩ v).cell? ⟨w.heap.size, 2, none⟩ = some (.int .i64 k) ∧ (W.setCell ⟨L, 1, none⟩ v).cell? ⟨w.heap.size, 3, none⟩ = some (.int .i64 p) ∧ (W.setCell ⟨L, 1, none⟩ v).cell? ⟨w.heap.size, 4, none⟩ = some (.int .i64 e) ∧ (W.setCell ⟨L, 1, none⟩ v).cell? ⟨w.heap.size, 5, none⟩ = some (.int .i64 q) ∧ (W.setCell ⟨L, 1, none⟩ v).cell? ⟨w.heap.size, 6, none⟩ = some (.bool tx) ∧ (W.setCell ⟨L, 1, none⟩ v).cell? ⟨w.heap.size, 7, none⟩ = some (.slice ad len cap))) := hid (fun W v hW => by
        obtain ⟨s0, s1, s2, s3, s4, s5, s6, s7⟩ := hW
        exact ⟨(cell_set_ne' (by omega)).trans s0, (cell_set_ne' (by omega)).trans s1, (cell_set_ne' (by omega)).trans s2, (cell_set_ne' (by omega)).trans s3, (cell_set_ne' (by omega)).trans s4, (cell_set_ne' (by omega)).trans s5, (cell_set_ne' (by omega)).trans s6, (cell_set_ne' (by omega)).trans s7⟩)
      clear hnb hst hGe h hd hm hAr hAg hsn
      go_enter Tryz.func12, Tryz.ntmps12
      go_upto_region 10 with (go_at_call 11; (with_reducible_and_instances (refine HD.out.mono ?_)); rintro x W1 ⟨rfl, hb1⟩; have HB1 := hid hb1; clear hb1; obtain ⟨d0, d1, d2, d3, d4, d5, d6, d7⟩ := HS.out W1 HB1.out; have l1 := (HP.out.later (HB0.out.trans (HB1.out.mono HB0.out.size))).c1; have f1 := (HP.out.later (HB0.out.trans (HB1.out.mono HB0.out.size))).box.free 1; have lL := (HP.out.later (HB0.out.trans (HB1.out.mono HB0.out.size))).lt)
      have HB1' := hid (HB0.out.trans (HB1.out.mono HB0.out.size))
      obtain ⟨W2, hW2⟩ : ∃ q, W1.setCell ⟨L, 1, none⟩ (.int .i64 nn) = q := ⟨_, rfl⟩
      have HP2 : Hid (LPic0 W2 L t M n N (.slice ar g.rows.length cr) vo (.slice ag g.gone.length cg) { g with start := nn }) := hid (by rw [← hW2]; exact (HP.out.toLPic0.later HB1'.out).started nn)
      have HC2 : Hid (Chg [L] w W2) := hid (by rw [← hW2]; exact (Chg.of HB1'.out).set (Or.inl (by simp)) _ _)
      have HX2 : Hid (EBox W2 w.heap.size 2 nn k p e q tx ad len cap) := hid (by
        have hc : Chg [L] W1 W2 := by rw [← hW2]; exact (Chg.refl _ _).set (Or.inl (by simp)) _ _
        exact Blk.chg (Blk.later HX.out HB1.out) hc (by simp; omega))
      (try rw [hW2])
      clear hW2 d0 d1 d2 d3 d4 d5 d6 d7 l1 f1 c0 c1 c2 c3 c4 c5 c6 c7 lL
      have HS2 : Hid (∀ W, Below W2.heap.size W2 W → W.cell? ⟨w.heap.size, 0, none⟩ = some (.int .i64 2) ∧ W.cell? ⟨w.heap.size, 1, none⟩ = some (.int .i64 nn) ∧ W.cell? ⟨w.heap.size, 2, none⟩ = some (.int .i64 k) ∧ W.cell? ⟨w.heap.size, 3, none⟩ = some (.int .i64 p) ∧ W.cell? ⟨w.heap.size, 4, none⟩ = some (.int .i64 e) ∧ W.cell? ⟨w.heap.size, 5, none⟩ = some (.int .i64 q) ∧ W.cell? ⟨w.heap.size, 6, none⟩ = some (.bool tx) ∧ W.cell? ⟨w.heap.size, 7, none⟩ = some (.slice ad len cap)) := hid (fun W hW => by
        have hx := Blk.later HX2.out hW
        exact ⟨Blk.cell hx 0, Blk.cell hx 1, Blk.cell hx 2, Blk.cell hx 3, Blk.cell hx 4, Blk.cell hx 5, Blk.cell hx 6, Blk.cell hx 7⟩)
      have HL5 : Hid (∀ X, Below W2.heap.size W2 X → X.cell? ⟨L, 5, none⟩ = some (.slice ag g.gone.length cg)) := hid (fun X hX => (HP2.out.later hX).c5)
      have HL5f : Hid (∀ X, Below W2.heap.size W2 X → X.frozen? ⟨L, 5, none⟩ = false) := hid (fun X hX => (HP2.out.later hX).box.free 5)
      have HAg2 : Hid (∀ X, Below W2.heap.size W2 X → ArgK kGn X g.gone ag g.gone.length cg) := hid (fun X hX => by
        obtain ⟨a, c, e1, h1⟩ := HP2.out.gone.form kGn_ok.tofit
        cases e1
        exact h1.later hX)
      have HGo := hid (apply1_ch HX2.out)
      refine wp_region_held_drew (S := fun W => W.cell? ⟨w.heap.size, 1, none⟩ = some (.int .i64 nn)) (by kernel_rfl) ((HS2.out _ (Below.refl _ _).drew).2.1) (fun hHeld => ?_)
      refine tk 0 40 hHeld ?_
      try simp only [Act.put, p1, p2, p3]
      refine tk 1 41 hHeld ?_
      try simp only [Act.put, p1, p2, p3]
      refine tk 2 42 hHeld ?_
      try simp only [Act.put, p1, p2, p3]
      refine tk 3 43 hHeld ?_
      try simp only [Act.put, p1, p2, p3]
      refine tk 5 45 hHeld ?_
      try simp only [Act.put, p1, p2, p3]
      refine tk 6 46 hHeld ?_
      try simp only [Act.put, p1, p2, p3]
      refine tk 7 47 hHeld ?_
      try simp only [Act.put, p1, p2, p3]
      refine tk 10 50 hHeld ?_
      try simp only [Act.put, p1, p2, p3]
      refine wpAnyH_ready (rs := [4, 8]) (by kernel_rfl) (by simp) ?_
      refine AllReadyH.cons rfl (fun K hK => ?_) (AllReadyH.cons rfl (fun K hK => ?_) (AllReadyH.nil))
      · skip
        have y5 := HL5.out _ (Below.refl _ _).drew
        go_simp
        clear y5
        refine hK.out _ _ ((HS2.out _ (Below.refl _ _).drew).2.1) (fun hHeld => ?_)
        clear hK K
        try simp only [Act.put, p1, p2, p3]
        refine wpAnyH_ready (rs := [8]) (by kernel_rfl) (by simp) ?_
        refine AllReadyH.cons rfl (fun K hK => ?_) (AllReadyH.nil)
        · skip
          have y5 := HL5.out _ (Below.refl _ _).drew
          go_simp
          clear y5
          refine hK.out _ _ ((HS2.out _ (Below.refl _ _).drew).2.1) (fun hHeld => ?_)
          clear hK K
          try simp only [Act.put, p1, p2, p3]
          refine tk 9 49 hHeld ?_
          try simp only [Act.put, p1, p2, p3]
          refine wpAnyH_ready (rs := [11]) (by kernel_rfl) (by simp) ?_
          refine AllReadyH.cons rfl (fun K hK => ?_) (AllReadyH.nil)
          go_simp
          go_wp2_with (go_at_call 28; refine (HGo.out _ (Below.refl _ _).drew _ ag _ cg _ (HAg2.out _ (Below.refl _ _).drew) hgl hgy).mono ?_; rintro r W3 ⟨v3, rfl, ho3, hb3⟩; obtain ⟨a3, n3, c3, rfl⟩ := OwnK.shape ho3; have HO3 := hid ho3; have HB3 := hid (((Below.refl W2.heap.size W2).drew).trans hb3); clear ho3 hb3)
          refine hK.out _ _ ((HS2.out _ HB3.out).2.1) (fun hHeld => ?_)
          clear hK K
          try simp only [Act.put, p1, p2, p3]
          refine tk 12 52 hHeld ?_
          try simp only [Act.put, p1, p2, p3]
          refine tk 13 53 hHeld ?_
          try simp only [Act.put, p1, p2, p3]
          have y5 := HL5.out W3 HB3.out
          have z5 := HL5f.out W3 HB3.out
          refine wpAnyH_ready (rs := [14]) (by kernel_rfl) (by simp) ?_
          refine AllReadyH.cons rfl (fun K hK => ?_) (AllReadyH.nil)
          go_simp
          clear y5 z5
          refine hK.out _ _ ((HSet5.out W3 _ (HS2.out _ HB3.out)).2.1) (fun hHeld => ?_)
          clear hK K
          try simp only [Act.put, p1, p2, p3]
          refine wpAnyH_done (by kernel_rfl) ?_ _
          clear hHeld
          have hO3 := HO3.out
          rw [choose_all _ _ _ (Nat.le_refl _)] at hO3
          have hO3' : OwnK kGn W3 W2.heap.size (.slice a3 n3 c3) _ := hO3.mono (show W2.heap.size ≤ W2.drew.heap.size from Nat.le_refl _)
          have hN2 : N ≤ W2.heap.size := by have := HC2.out.size; have := HNn.out; omega
          obtain ⟨W4, hW4⟩ : ∃ q, W3.setCell ⟨L, 5, none⟩ (.slice a3 n3 c3) = q := ⟨_, rfl⟩
          have HP4 : Hid (LPic0 W4 L t M n N (.slice ar g.rows.length cr) vo (.slice a3 n3 c3) { g with start := nn, gone := g.gone.filter (fun x => decide (nn ≤ x.last)) }) := hid (by rw [← hW4]; exact HP2.out.goneNew HB3.out hO3' hN2)
          have HC4 : Hid (Chg [L] w W4) := hid (by rw [← hW4]; exact ((HC2.out.trans (Chg.of HB3.out) (fun k hk => Or.inl hk))).set (Or.inl (by simp)) _ _)
          have HX4 : Hid (EBox W4 w.heap.size 2 nn k p e q tx ad len cap) := hid (by
            have hc : Chg [L] W3 W4 := by rw [← hW4]; exact (Chg.refl _ _).set (Or.inl (by simp)) _ _
            exact Blk.chg (Blk.later HX2.out HB3.out) hc (by simp; omega))
          have HV3 : Hid (NewB w (.slice ag g.gone.length cg) (.slice a3 n3 c3)) := hid (fun b e => Or.inr (by have := (hO3'.block b e).1; have := HC2.out.size; omega))
          (try rw [hW4])
          clear hO3 hO3' hW4 HO3 HB3 HAg2 HL5 HL5f HS2 HX2 HP2
          have HS4 : Hid (∀ W, Below W4.heap.size W4 W → W.cell? ⟨w.heap.size, 0, none⟩ = some (.int .i64 2) ∧ W.cell? ⟨w.heap.size, 1, none⟩ = some (.int .i64 nn) ∧ W.cell? ⟨w.heap.size, 2, none⟩ = some (.int .i64 k) ∧ W.cell? ⟨w.heap.size, 3, none⟩ = some (.int .i64 p) ∧ W.cell? ⟨w.heap.size, 4, none⟩ = some (.int .i64 e) ∧ W.cell? ⟨w.heap.size, 5, none⟩ = some (.int .i64 q) ∧ W.cell? ⟨w.heap.size, 6, none⟩ = some (.bool tx) ∧ W.cell? ⟨w.heap.size, 7, none⟩ = some (.slice ad len cap)) := hid (fun W hW => by
            have hx := Blk.later HX4.out hW
            exact ⟨Blk.cell hx 0, Blk.cell hx 1, Blk.cell hx 2, Blk.cell hx 3, Blk.cell hx 4, Blk.cell hx 5, Blk.cell hx 6, Blk.cell hx 7⟩)
          have HL3 : Hid (∀ X, Below W4.heap.size W4 X → X.cell? ⟨L, 3, none⟩ = some (.slice ar g.rows.length cr)) := hid (fun X hX => (HP4.out.later hX).c3)
          have HL3f : Hid (∀ X, Below W4.heap.size W4 X → X.frozen? ⟨L, 3, none⟩ = false) := hid (fun X hX => (HP4.out.later hX).box.free 3)
          have HR4 : Hid (∀ X, Below W4.heap.size W4 X → ArgK kRw X g.rows ar g.rows.length cr) := hid (fun X hX => by
            obtain ⟨a, c, e1, h1⟩ := HP4.out.rows.form kRw_ok.tofit
            cases e1
            exact h1.later hX)
          have HSt : Hid (∀ X, Below W4.heap.size W4 X → _) := hid (fun X (_ : Below W4.heap.size W4 X) => staying_ret nn k p e q tx ad len cap X L)
          go_wp2_with fail
          refine wp_region_held_drew (S := fun W => W.cell? ⟨w.heap.size, 0, none⟩ = some (.int .i64 2) ∧ W.cell? ⟨w.heap.size, 1, none⟩ = some (.int .i64 nn) ∧ W.cell? ⟨w.heap.size, 2, none⟩ = some (.int .i64 k) ∧ W.cell? ⟨w.heap.size, 3, none⟩ = some (.int .i64 p) ∧ W.cell? ⟨w.heap.size, 4, none⟩ = some (.int .i64 e) ∧ W.cell? ⟨w.heap.size, 5, none⟩ = some (.int .i64 q) ∧ W.cell? ⟨w.heap.size, 6, none⟩ = some (.bool tx) ∧ W.cell? ⟨w.heap.size, 7, none⟩ = some (.slice ad len cap)) (by kernel_rfl) (HS4.out _ (Below.refl _ _).drew) (fun hHeld => ?_)
          refine tk 0 54 hHeld ?_
          try simp only [Act.put, p1, p2, p3]
          refine tk 1 55 hHeld ?_
          try simp only [Act.put, p1, p2, p3]
          refine tk 2 56 hHeld ?_
          try simp only [Act.put, p1, p2, p3]
          refine tk 3 57 hHeld ?_
          try simp only [Act.put, p1, p2, p3]
          refine tk 5 59 hHeld ?_
          try simp only [Act.put, p1, p2, p3]
          refine tk 6 60 hHeld ?_
          try simp only [Act.put, p1, p2, p3]
          refine tk 7 61 hHeld ?_
          try simp only [Act.put, p1, p2, p3]
          refine tk 10 64 hHeld ?_
          try simp only [Act.put, p1, p2, p3]
          refine tk 11 65 hHeld ?_
          try simp only [Act.put, p1, p2, p3]
          refine wpAnyH_ready (rs := [4, 8, 12]) (by kernel_rfl) (by simp) ?_
          refine AllReadyH.cons rfl (fun K hK => ?_) (AllReadyH.cons rfl (fun K hK => ?_) (AllReadyH.cons rfl (fun K hK => ?_) (AllReadyH.nil)))
          · skip
            have y3 := HL3.out W4.drew (Below.refl W4.heap.size W4).drew
            go_simp
            clear y3
            refine hK.out _ _ (HS4.out _ (Below.refl W4.heap.size W4).drew) (fun hHeld => ?_)
            clear hK K
            try simp only [Act.put, p1, p2, p3]
            refine wpAnyH_ready (rs := [8, 12]) (by kernel_rfl) (by simp) ?_
            refine AllReadyH.cons rfl (fun K hK => ?_) (AllReadyH.cons rfl (fun K hK => ?_) (AllReadyH.nil))
            · skip
              have y3 := HL3.out W4.drew (Below.refl W4.heap.size W4).drew
              go_simp
              clear y3
              refine hK.out _ _ (HS4.out _ (Below.refl W4.heap.size W4).drew) (fun hHeld => ?_)
              clear hK K
              try simp only [Act.put, p1, p2, p3]
              refine tk 9 63 hHeld ?_
              try simp only [Act.put, p1, p2, p3]
              refine wpAnyH_ready (rs := [12]) (by kernel_rfl) (by simp) ?_
              refine AllReadyH.cons rfl (fun K hK => ?_) (AllReadyH.nil)
              · skip
                go_simp
                go_wp2_with (go_at_call 31; refine (HSt.out W4.drew (Below.refl W4.heap.size W4).drew).mono ?_; rintro r W3 ⟨fv, rfl, hch, hb3⟩; have HB3 := hid (((Below.refl W4.heap.size W4).drew).trans (hb3.mono ((Below.refl W4.heap.size W4).drew).size)); have HCh := hid hch; clear hch hb3)
                refine hK.out _ _ (HS4.out _ HB3.out) (fun hHeld => ?_)
                clear hK K
                try simp only [Act.put, p1, p2, p3]
                refine wpAnyH_ready (rs := [13]) (by kernel_rfl) (by simp) ?_
                refine AllReadyH.cons rfl (fun K hK => ?_) (AllReadyH.nil)
                go_simp
                go_wp2_with (go_at_call 30; refine (HCh.out W3 (Below.refl _ _) _ ar _ cr _ (HR4.out _ HB3.out) HKr.out hml hby).mono ?_; rintro r W5 ⟨v5, rfl, ho5, hb5⟩; obtain ⟨a5, n5, c5, rfl⟩ := OwnK.shape ho5; have HO5 := hid ho5; have HB5 := hid ((HB3.out).trans (hb5.mono (HB3.out).size)); clear ho5 hb5)
                refine hK.out _ _ (HS4.out _ HB5.out) (fun hHeld => ?_)
                clear hK K
                try simp only [Act.put, p1, p2, p3]
                refine tk 14 68 hHeld ?_
                try simp only [Act.put, p1, p2, p3]
                refine tk 15 69 hHeld ?_
                try simp only [Act.put, p1, p2, p3]
                have y3 := HL3.out W5 HB5.out
                have z3 := HL3f.out W5 HB5.out
                refine wpAnyH_ready (rs := [16]) (by kernel_rfl) (by simp) ?_
                refine AllReadyH.cons rfl (fun K hK => ?_) (AllReadyH.nil)
                go_simp
                clear y3 z3
                refine hK.out _ _ (HSet.out W5 _ (HS4.out _ HB5.out)) (fun hHeld => ?_)
                clear hK K
                try simp only [Act.put, p1, p2, p3]
                refine wpAnyH_done (by kernel_rfl) ?_ _
                clear hHeld
                go_wp2_with fail
                have hO := HO5.out
                rw [choose_all _ _ _ (Nat.le_refl _)] at hO
                have hO' : OwnK kRw W5 W4.heap.size (.slice a5 n5 c5) _ := hO.mono (by have h3 : W4.heap.size ≤ W4.drew.heap.size := Nat.le_refl _; (try have h4 := HB3.out.size); omega)
                have hs4 := HC4.out.size
                refine bodyPost_ret (results_tmp2 Tryz.results12 _ _ _) rfl ⟨rfl, n, (.slice a5 n5 c5), vo, (.slice a3 n3 c3), by omega, ⟨?_, ?_⟩, ?_, ?_, NewB.refl _ _, HV3.out⟩
                · rw [HGe.out]
                  exact HP4.out.rowsNew HB5.out hO' (by have := HNn.out; omega)
                · rw [HGe.out]; exact HOk.out
                · exact ((HC4.out.trans (Chg.of HB5.out) (fun k hk => Or.inl hk)).set (Or.inl (by simp)) _ _).mono (by intro x hx; simp at hx ⊢; exact Or.inl hx)
                · exact fun b e => Or.inr (by have := (hO'.block b e).1; omega)
            · skip
              go_simp
              go_wp2_with (go_at_call 31; refine (HSt.out W4.drew (Below.refl W4.heap.size W4).drew).mono ?_; rintro r W3 ⟨fv, rfl, hch, hb3⟩; have HB3 := hid (((Below.refl W4.heap.size W4).drew).trans (hb3.mono ((Below.refl W4.heap.size W4).drew).size)); have HCh := hid hch; clear hch hb3)
              refine hK.out _ _ (HS4.out _ HB3.out) (fun hHeld => ?_)
              clear hK K
              try simp only [Act.put, p1, p2, p3]
              refine wpAnyH_ready (rs := [8]) (by kernel_rfl) (by simp) ?_
              refine AllReadyH.cons rfl (fun K hK => ?_) (AllReadyH.nil)
              · skip
                have y3 := HL3.out W3 HB3.out
                go_simp
                clear y3
                refine hK.out _ _ (HS4.out _ HB3.out) (fun hHeld => ?_)
                clear hK K
                try simp only [Act.put, p1, p2, p3]
                refine tk 9 63 hHeld ?_
                try simp only [Act.put, p1, p2, p3]
                refine wpAnyH_ready (rs := [13]) (by kernel_rfl) (by simp) ?_
                refine AllReadyH.cons rfl (fun K hK => ?_) (AllReadyH.nil)
                go_simp
                go_wp2_with (go_at_call 30; refine (HCh.out W3 (Below.refl _ _) _ ar _ cr _ (HR4.out _ HB3.out) HKr.out hml hby).mono ?_; rintro r W5 ⟨v5, rfl, ho5, hb5⟩; obtain ⟨a5, n5, c5, rfl⟩ := OwnK.shape ho5; have HO5 := hid ho5; have HB5 := hid ((HB3.out).trans (hb5.mono (HB3.out).size)); clear ho5 hb5)
                refine hK.out _ _ (HS4.out _ HB5.out) (fun hHeld => ?_)
                clear hK K
                try simp only [Act.put, p1, p2, p3]
                refine tk 14 68 hHeld ?_
                try simp only [Act.put, p1, p2, p3]
                refine tk 15 69 hHeld ?_
                try simp only [Act.put, p1, p2, p3]
                have y3 := HL3.out W5 HB5.out
                have z3 := HL3f.out W5 HB5.out
                refine wpAnyH_ready (rs := [16]) (by kernel_rfl) (by simp) ?_
                refine AllReadyH.cons rfl (fun K hK => ?_) (AllReadyH.nil)
                go_simp
                clear y3 z3
                refine hK.out _ _ (HSet.out W5 _ (HS4.out _ HB5.out)) (fun hHeld => ?_)
                clear hK K
                try simp only [Act.put, p1, p2, p3]
                refine wpAnyH_done (by kernel_rfl) ?_ _
                clear hHeld
                go_wp2_with fail
                have hO := HO5.out
                rw [choose_all _ _ _ (Nat.le_refl _)] at hO
                have hO' : OwnK kRw W5 W4.heap.size (.slice a5 n5 c5) _ := hO.mono (by have h3 : W4.heap.size ≤ W4.drew.heap.size := Nat.le_refl _; (try have h4 := HB3.out.size); omega)
                have hs4 := HC4.out.size
                refine bodyPost_ret (results_tmp2 Tryz.results12 _ _ _) rfl ⟨rfl, n, (.slice a5 n5 c5), vo, (.slice a3 n3 c3), by omega, ⟨?_, ?_⟩, ?_, ?_, NewB.refl _ _, HV3.out⟩
                · rw [HGe.out]
                  exact HP4.out.rowsNew HB5.out hO' (by have := HNn.out; omega)
                · rw [HGe.out]; exact HOk.out
                · exact ((HC4.out.trans (Chg.of HB5.out) (fun k hk => Or.inl hk)).set (Or.inl (by simp)) _ _).mono (by intro x hx; simp at hx ⊢; exact Or.inl hx)
                · exact fun b e => Or.inr (by have := (hO'.block b e).1; omega)
          · skip
            have y3 := HL3.out W4.drew (Below.refl W4.heap.size W4).drew
            go_simp
            clear y3
            refine hK.out _ _ (HS4.out _ (Below.refl W4.heap.size W4).drew) (fun hHeld => ?_)
            clear hK K
            try simp only [Act.put, p1, p2, p3]
            refine tk 9 63 hHeld ?_
            try simp only [Act.put, p1, p2, p3]
            refine wpAnyH_ready (rs := [4, 12]) (by kernel_rfl) (by simp) ?_
            refine AllReadyH.cons rfl (fun K hK => ?_) (AllReadyH.cons rfl (fun K hK => ?_) (AllReadyH.nil))
            · skip
              have y3 := HL3.out W4.drew (Below.refl W4.heap.size W4).drew
              go_simp
              clear y3
              refine hK.out _ _ (HS4.out _ (Below.refl W4.heap.size W4).drew) (fun hHeld => ?_)
              clear hK K
              try simp only [Act.put, p1, p2, p3]
              refine wpAnyH_ready (rs := [12]) (by kernel_rfl) (by simp) ?_
              refine AllReadyH.cons rfl (fun K hK => ?_) (AllReadyH.nil)
              · skip
                go_simp
                go_wp2_with (go_at_call 31; refine (HSt.out W4.drew (Below.refl W4.heap.size W4).drew).mono ?_; rintro r W3 ⟨fv, rfl, hch, hb3⟩; have HB3 := hid (((Below.refl W4.heap.size W4).drew).trans (hb3.mono ((Below.refl W4.heap.size W4).drew).size)); have HCh := hid hch; clear hch hb3)
                refine hK.out _ _ (HS4.out _ HB3.out) (fun hHeld => ?_)
                clear hK K
                try simp only [Act.put, p1, p2, p3]
                refine wpAnyH_ready (rs := [13]) (by kernel_rfl) (by simp) ?_
                refine AllReadyH.cons rfl (fun K hK => ?_) (AllReadyH.nil)
                go_simp
                go_wp2_with (go_at_call 30; refine (HCh.out W3 (Below.refl _ _) _ ar _ cr _ (HR4.out _ HB3.out) HKr.out hml hby).mono ?_; rintro r W5 ⟨v5, rfl, ho5, hb5⟩; obtain ⟨a5, n5, c5, rfl⟩ := OwnK.shape ho5; have HO5 := hid ho5; have HB5 := hid ((HB3.out).trans (hb5.mono (HB3.out).size)); clear ho5 hb5)
                refine hK.out _ _ (HS4.out _ HB5.out) (fun hHeld => ?_)
                clear hK K
                try simp only [Act.put, p1, p2, p3]
                refine tk 14 68 hHeld ?_
                try simp only [Act.put, p1, p2, p3]
                refine tk 15 69 hHeld ?_
                try simp only [Act.put, p1, p2, p3]
                have y3 := HL3.out W5 HB5.out
                have z3 := HL3f.out W5 HB5.out
                refine wpAnyH_ready (rs := [16]) (by kernel_rfl) (by simp) ?_
                refine AllReadyH.cons rfl (fun K hK => ?_) (AllReadyH.nil)
                go_simp
                clear y3 z3
                refine hK.out _ _ (HSet.out W5 _ (HS4.out _ HB5.out)) (fun hHeld => ?_)
                clear hK K
                try simp only [Act.put, p1, p2, p3]
                refine wpAnyH_done (by kernel_rfl) ?_ _
                clear hHeld
                go_wp2_with fail
                have hO := HO5.out
                rw [choose_all _ _ _ (Nat.le_refl _)] at hO
                have hO' : OwnK kRw W5 W4.heap.size (.slice a5 n5 c5) _ := hO.mono (by have h3 : W4.heap.size ≤ W4.drew.heap.size := Nat.le_refl _; (try have h4 := HB3.out.size); omega)
                have hs4 := HC4.out.size
                refine bodyPost_ret (results_tmp2 Tryz.results12 _ _ _) rfl ⟨rfl, n, (.slice a5 n5 c5), vo, (.slice a3 n3 c3), by omega, ⟨?_, ?_⟩, ?_, ?_, NewB.refl _ _, HV3.out⟩
                · rw [HGe.out]
                  exact HP4.out.rowsNew HB5.out hO' (by have := HNn.out; omega)
                · rw [HGe.out]; exact HOk.out
                · exact ((HC4.out.trans (Chg.of HB5.out) (fun k hk => Or.inl hk)).set (Or.inl (by simp)) _ _).mono (by intro x hx; simp at hx ⊢; exact Or.inl hx)
                · exact fun b e => Or.inr (by have := (hO'.block b e).1; omega)
            · skip
              go_simp
              go_wp2_with (go_at_call 31; refine (HSt.out W4.drew (Below.refl W4.heap.size W4).drew).mono ?_; rintro r W3 ⟨fv, rfl, hch, hb3⟩; have HB3 := hid (((Below.refl W4.heap.size W4).drew).trans (hb3.mono ((Below.refl W4.heap.size W4).drew).size)); have HCh := hid hch; clear hch hb3)
              refine hK.out _ _ (HS4.out _ HB3.out) (fun hHeld => ?_)
              clear hK K
              try simp only [Act.put, p1, p2, p3]
              refine wpAnyH_ready (rs := [4]) (by kernel_rfl) (by simp) ?_
              refine AllReadyH.cons rfl (fun K hK => ?_) (AllReadyH.nil)
              · skip
                have y3 := HL3.out W3 HB3.out
                go_simp
                clear y3
                refine hK.out _ _ (HS4.out _ HB3.out) (fun hHeld => ?_)
                clear hK K
                try simp only [Act.put, p1, p2, p3]
                refine wpAnyH_ready (rs := [13]) (by kernel_rfl) (by simp) ?_
                refine AllReadyH.cons rfl (fun K hK => ?_) (AllReadyH.nil)
                go_simp
                go_wp2_with (go_at_call 30; refine (HCh.out W3 (Below.refl _ _) _ ar _ cr _ (HR4.out _ HB3.out) HKr.out hml hby).mono ?_; rintro r W5 ⟨v5, rfl, ho5, hb5⟩; obtain ⟨a5, n5, c5, rfl⟩ := OwnK.shape ho5; have HO5 := hid ho5; have HB5 := hid ((HB3.out).trans (hb5.mono (HB3.out).size)); clear ho5 hb5)
                refine hK.out _ _ (HS4.out _ HB5.out) (fun hHeld => ?_)
                clear hK K
                try simp only [Act.put, p1, p2, p3]
                refine tk 14 68 hHeld ?_
                try simp only [Act.put, p1, p2, p3]
                refine tk 15 69 hHeld ?_
                try simp only [Act.put, p1, p2, p3]
                have y3 := HL3.out W5 HB5.out
                have z3 := HL3f.out W5 HB5.out
                refine wpAnyH_ready (rs := [16]) (by kernel_rfl) (by simp) ?_
                refine AllReadyH.cons rfl (fun K hK => ?_) (AllReadyH.nil)
                go_simp
                clear y3 z3
                refine hK.out _ _ (HSet.out W5 _ (HS4.out _ HB5.out)) (fun hHeld => ?_)
                clear hK K
                try simp only [Act.put, p1, p2, p3]
                refine wpAnyH_done (by kernel_rfl) ?_ _
                clear hHeld
                go_wp2_with fail
                have hO := HO5.out
                rw [choose_all _ _ _ (Nat.le_refl _)] at hO
                have hO' : OwnK kRw W5 W4.heap.size (.slice a5 n5 c5) _ := hO.mono (by have h3 : W4.heap.size ≤ W4.drew.heap.size := Nat.le_refl _; (try have h4 := HB3.out.size); omega)
                have hs4 := HC4.out.size
                refine bodyPost_ret (results_tmp2 Tryz.results12 _ _ _) rfl ⟨rfl, n, (.slice a5 n5 c5), vo, (.slice a3 n3 c3), by omega, ⟨?_, ?_⟩, ?_, ?_, NewB.refl _ _, HV3.out⟩
                · rw [HGe.out]
                  exact HP4.out.rowsNew HB5.out hO' (by have := HNn.out; omega)
                · rw [HGe.out]; exact HOk.out
                · exact ((HC4.out.trans (Chg.of HB5.out) (fun k hk => Or.inl hk)).set (Or.inl (by simp)) _ _).mono (by intro x hx; simp at hx ⊢; exact Or.inl hx)
                · exact fun b e => Or.inr (by have := (hO'.block b e).1; omega)
          · skip
            go_simp
            go_wp2_with (go_at_call 31; refine (HSt.out W4.drew (Below.refl W4.heap.size W4).drew).mono ?_; rintro r W3 ⟨fv, rfl, hch, hb3⟩; have HB3 := hid (((Below.refl W4.heap.size W4).drew).trans (hb3.mono ((Below.refl W4.heap.size W4).drew).size)); have HCh := hid hch; clear hch hb3)
            refine hK.out _ _ (HS4.out _ HB3.out) (fun hHeld => ?_)
            clear hK K
            try simp only [Act.put, p1, p2, p3]
            refine wpAnyH_ready (rs := [4, 8]) (by kernel_rfl) (by simp) ?_
            refine AllReadyH.cons rfl (fun K hK => ?_) (AllReadyH.cons rfl (fun K hK => ?_) (AllReadyH.nil))
            · skip
              have y3 := HL3.out W3 HB3.out
              go_simp
              clear y3
              refine hK.out _ _ (HS4.out _ HB3.out) (fun hHeld => ?_)
              clear hK K
              try simp only [Act.put, p1, p2, p3]
              refine wpAnyH_ready (rs := [8]) (by kernel_rfl) (by simp) ?_
              refine AllReadyH.cons rfl (fun K hK => ?_) (AllReadyH.nil)
              · skip
                have y3 := HL3.out W3 HB3.out
                go_simp
                clear y3
                refine hK.out _ _ (HS4.out _ HB3.out) (fun hHeld => ?_)
                clear hK K
                try simp only [Act.put, p1, p2, p3]
                refine tk 9 63 hHeld ?_
                try simp only [Act.put, p1, p2, p3]
                refine wpAnyH_ready (rs := [13]) (by kernel_rfl) (by simp) ?_
                refine AllReadyH.cons rfl (fun K hK => ?_) (AllReadyH.nil)
                go_simp
                go_wp2_with (go_at_call 30; refine (HCh.out W3 (Below.refl _ _) _ ar _ cr _ (HR4.out _ HB3.out) HKr.out hml hby).mono ?_; rintro r W5 ⟨v5, rfl, ho5, hb5⟩; obtain ⟨a5, n5, c5, rfl⟩ := OwnK.shape ho5; have HO5 := hid ho5; have HB5 := hid ((HB3.out).trans (hb5.mono (HB3.out).size)); clear ho5 hb5)
                refine hK.out _ _ (HS4.out _ HB5.out) (fun hHeld => ?_)
                clear hK K
                try simp only [Act.put, p1, p2, p3]
                refine tk 14 68 hHeld ?_
                try simp only [Act.put, p1, p2, p3]
                refine tk 15 69 hHeld ?_
                try simp only [Act.put, p1, p2, p3]
                have y3 := HL3.out W5 HB5.out
                have z3 := HL3f.out W5 HB5.out
                refine wpAnyH_ready (rs := [16]) (by kernel_rfl) (by simp) ?_
                refine AllReadyH.cons rfl (fun K hK => ?_) (AllReadyH.nil)
                go_simp
                clear y3 z3
                refine hK.out _ _ (HSet.out W5 _ (HS4.out _ HB5.out)) (fun hHeld => ?_)
                clear hK K
                try simp only [Act.put, p1, p2, p3]
                refine wpAnyH_done (by kernel_rfl) ?_ _
                clear hHeld
                go_wp2_with fail
                have hO := HO5.out
                rw [choose_all _ _ _ (Nat.le_refl _)] at hO
                have hO' : OwnK kRw W5 W4.heap.size (.slice a5 n5 c5) _ := hO.mono (by have h3 : W4.heap.size ≤ W4.drew.heap.size := Nat.le_refl _; (try have h4 := HB3.out.size); omega)
                have hs4 := HC4.out.size
                refine bodyPost_ret (results_tmp2 Tryz.results12 _ _ _) rfl ⟨rfl, n, (.slice a5 n5 c5), vo, (.slice a3 n3 c3), by omega, ⟨?_, ?_⟩, ?_, ?_, NewB.refl _ _, HV3.out⟩
                · rw [HGe.out]
                  exact HP4.out.rowsNew HB5.out hO' (by have := HNn.out; omega)
                · rw [HGe.out]; exact HOk.out
                · exact ((HC4.out.trans (Chg.of HB5.out) (fun k hk => Or.inl hk)).set (Or.inl (by simp)) _ _).mono (by intro x hx; simp at hx ⊢; exact Or.inl hx)
                · exact fun b e => Or.inr (by have := (hO'.block b e).1; omega)
            · skip
              have y3 := HL3.out W3 HB3.out
              go_simp
              clear y3
              refine hK.out _ _ (HS4.out _ HB3.out) (fun hHeld => ?_)
              clear hK K
              try simp only [Act.put, p1, p2, p3]
              refine tk 9 63 hHeld ?_
              try simp only [Act.put, p1, p2, p3]
              refine wpAnyH_ready (rs := [4]) (by kernel_rfl) (by simp) ?_
              refine AllReadyH.cons rfl (fun K hK => ?_) (AllReadyH.nil)
              · skip
                have y3 := HL3.out W3 HB3.out
                go_simp
                clear y3
                refine hK.out _ _ (HS4.out _ HB3.out) (fun hHeld => ?_)
                clear hK K
                try simp only [Act.put, p1, p2, p3]
                refine wpAnyH_ready (rs := [13]) (by kernel_rfl) (by simp) ?_
                refine AllReadyH.cons rfl (fun K hK => ?_) (AllReadyH.nil)
                go_simp
                go_wp2_with (go_at_call 30; refine (HCh.out W3 (Below.refl _ _) _ ar _ cr _ (HR4.out _ HB3.out) HKr.out hml hby).mono ?_; rintro r W5 ⟨v5, rfl, ho5, hb5⟩; obtain ⟨a5, n5, c5, rfl⟩ := OwnK.shape ho5; have HO5 := hid ho5; have HB5 := hid ((HB3.out).trans (hb5.mono (HB3.out).size)); clear ho5 hb5)
                refine hK.out _ _ (HS4.out _ HB5.out) (fun hHeld => ?_)
                clear hK K
                try simp only [Act.put, p1, p2, p3]
                refine tk 14 68 hHeld ?_
                try simp only [Act.put, p1, p2, p3]
                refine tk 15 69 hHeld ?_
                try simp only [Act.put, p1, p2, p3]
                have y3 := HL3.out W5 HB5.out
                have z3 := HL3f.out W5 HB5.out
                refine wpAnyH_ready (rs := [16]) (by kernel_rfl) (by simp) ?_
                refine AllReadyH.cons rfl (fun K hK => ?_) (AllReadyH.nil)
                go_simp
                clear y3 z3
                refine hK.out _ _ (HSet.out W5 _ (HS4.out _ HB5.out)) (fun hHeld => ?_)
                clear hK K
                try simp only [Act.put, p1, p2, p3]
                refine wpAnyH_done (by kernel_rfl) ?_ _
                clear hHeld
                go_wp2_with fail
                have hO := HO5.out
                rw [choose_all _ _ _ (Nat.le_refl _)] at hO
                have hO' : OwnK kRw W5 W4.heap.size (.slice a5 n5 c5) _ := hO.mono (by have h3 : W4.heap.size ≤ W4.drew.heap.size := Nat.le_refl _; (try have h4 := HB3.out.size); omega)
                have hs4 := HC4.out.size
                refine bodyPost_ret (results_tmp2 Tryz.results12 _ _ _) rfl ⟨rfl, n, (.slice a5 n5 c5), vo, (.slice a3 n3 c3), by omega, ⟨?_, ?_⟩, ?_, ?_, NewB.refl _ _, HV3.out⟩
                · rw [HGe.out]
                  exact HP4.out.rowsNew HB5.out hO' (by have := HNn.out; omega)
                · rw [HGe.out]; exact HOk.out
                · exact ((HC4.out.trans (Chg.of HB5.out) (fun k hk => Or.inl hk)).set (Or.inl (by simp)) _ _).mono (by intro x hx; simp at hx ⊢; exact Or.inl hx)
                · exact fun b e => Or.inr (by have := (hO'.block b e).1; omega)
      · skip
        have y5 := HL5.out _ (Below.refl _ _).drew
        go_simp
        clear y5
        refine hK.out _ _ ((HS2.out _ (Below.refl _ _).drew).2.1) (fun hHeld => ?_)
        clear hK K
        try simp only [Act.put, p1, p2, p3]
        refine tk 9 49 hHeld ?_
        try simp only [Act.put, p1, p2, p3]
        refine wpAnyH_ready (rs := [4]) (by kernel_rfl) (by simp) ?_
        refine AllReadyH.cons rfl (fun K hK => ?_) (AllReadyH.nil)
        · skip
          have y5 := HL5.out _ (Below.refl _ _).drew
          go_simp
          clear y5
          refine hK.out _ _ ((HS2.out _ (Below.refl _ _).drew).2.1) (fun hHeld => ?_)
          clear hK K
          try simp only [Act.put, p1, p2, p3]
          refine wpAnyH_ready (rs := [11]) (by kernel_rfl) (by simp) ?_
          refine AllReadyH.cons rfl (fun K hK => ?_) (AllReadyH.nil)
          go_simp
          go_wp2_with (go_at_call 28; refine (HGo.out _ (Below.refl _ _).drew _ ag _ cg _ (HAg2.out _ (Below.refl _ _).drew) hgl hgy).mono ?_; rintro r W3 ⟨v3, rfl, ho3, hb3⟩; obtain ⟨a3, n3, c3, rfl⟩ := OwnK.shape ho3; have HO3 := hid ho3; have HB3 := hid (((Below.refl W2.heap.size W2).drew).trans hb3); clear ho3 hb3)
          refine hK.out _ _ ((HS2.out _ HB3.out).2.1) (fun hHeld => ?_)
          clear hK K
          try simp only [Act.put, p1, p2, p3]
          refine tk 12 52 hHeld ?_
          try simp only [Act.put, p1, p2, p3]
          refine tk 13 53 hHeld ?_
          try simp only [Act.put, p1, p2, p3]
          have y5 := HL5.out W3 HB3.out
          have z5 := HL5f.out W3 HB3.out
          refine wpAnyH_ready (rs := [14]) (by kernel_rfl) (by simp) ?_
          refine AllReadyH.cons rfl (fun K hK => ?_) (AllReadyH.nil)
          go_simp
          clear y5 z5
          refine hK.out _ _ ((HSet5.out W3 _ (HS2.out _ HB3.out)).2.1) (fun hHeld => ?_)
          clear hK K
          try simp only [Act.put, p1, p2, p3]
          refine wpAnyH_done (by kernel_rfl) ?_ _
          clear hHeld
          have hO3 := HO3.out
          rw [choose_all _ _ _ (Nat.le_refl _)] at hO3
          have hO3' : OwnK kGn W3 W2.heap.size (.slice a3 n3 c3) _ := hO3.mono (show W2.heap.size ≤ W2.drew.heap.size from Nat.le_refl _)
          have hN2 : N ≤ W2.heap.size := by have := HC2.out.size; have := HNn.out; omega
          obtain ⟨W4, hW4⟩ : ∃ q, W3.setCell ⟨L, 5, none⟩ (.slice a3 n3 c3) = q := ⟨_, rfl⟩
          have HP4 : Hid (LPic0 W4 L t M n N (.slice ar g.rows.length cr) vo (.slice a3 n3 c3) { g with start := nn, gone := g.gone.filter (fun x => decide (nn ≤ x.last)) }) := hid (by rw [← hW4]; exact HP2.out.goneNew HB3.out hO3' hN2)
          have HC4 : Hid (Chg [L] w W4) := hid (by rw [← hW4]; exact ((HC2.out.trans (Chg.of HB3.out) (fun k hk => Or.inl hk))).set (Or.inl (by simp)) _ _)
          have HX4 : Hid (EBox W4 w.heap.size 2 nn k p e q tx ad len cap) := hid (by
            have hc : Chg [L] W3 W4 := by rw [← hW4]; exact (Chg.refl _ _).set (Or.inl (by simp)) _ _
            exact Blk.chg (Blk.later HX2.out HB3.out) hc (by simp; omega))
          have HV3 : Hid (NewB w (.slice ag g.gone.length cg) (.slice a3 n3 c3)) := hid (fun b e => Or.inr (by have := (hO3'.block b e).1; have := HC2.out.size; omega))
          (try rw [hW4])
          clear hO3 hO3' hW4 HO3 HB3 HAg2 HL5 HL5f HS2 HX2 HP2
          have HS4 : Hid (∀ W, Below W4.heap.size W4 W → W.cell? ⟨w.heap.size, 0, none⟩ = some (.int .i64 2) ∧ W.cell? ⟨w.heap.size, 1, none⟩ = some (.int .i64 nn) ∧ W.cell? ⟨w.heap.size, 2, none⟩ = some (.int .i64 k) ∧ W.cell? ⟨w.heap.size, 3, none⟩ = some (.int .i64 p) ∧ W.cell? ⟨w.heap.size, 4, none⟩ = some (.int .i64 e) ∧ W.cell? ⟨w.heap.size, 5, none⟩ = some (.int .i64 q) ∧ W.cell? ⟨w.heap.size, 6, none⟩ = some (.bool tx) ∧ W.cell? ⟨w.heap.size, 7, none⟩ = some (.slice ad len cap)) := hid (fun W hW => by
            have hx := Blk.later HX4.out hW
            exact ⟨Blk.cell hx 0, Blk.cell hx 1, Blk.cell hx 2, Blk.cell hx 3, Blk.cell hx 4, Blk.cell hx 5, Blk.cell hx 6, Blk.cell hx 7⟩)
          have HL3 : Hid (∀ X, Below W4.heap.size W4 X → X.cell? ⟨L, 3, none⟩ = some (.slice ar g.rows.length cr)) := hid (fun X hX => (HP4.out.later hX).c3)
          have HL3f : Hid (∀ X, Below W4.heap.size W4 X → X.frozen? ⟨L, 3, none⟩ = false) := hid (fun X hX => (HP4.out.later hX).box.free 3)
          have HR4 : Hid (∀ X, Below W4.heap.size W4 X → ArgK kRw X g.rows ar g.rows.length cr) := hid (fun X hX => by
            obtain ⟨a, c, e1, h1⟩ := HP4.out.rows.form kRw_ok.tofit
            cases e1
            exact h1.later hX)
          have HSt : Hid (∀ X, Below W4.heap.size W4 X → _) := hid (fun X (_ : Below W4.heap.size W4 X) => staying_ret nn k p e q tx ad len cap X L)
          go_wp2_with fail
          refine wp_region_held_drew (S := fun W => W.cell? ⟨w.heap.size, 0, none⟩ = some (.int .i64 2) ∧ W.cell? ⟨w.heap.size, 1, none⟩ = some (.int .i64 nn) ∧ W.cell? ⟨w.heap.size, 2, none⟩ = some (.int .i64 k) ∧ W.cell? ⟨w.heap.size, 3, none⟩ = some (.int .i64 p) ∧ W.cell? ⟨w.heap.size, 4, none⟩ = some (.int .i64 e) ∧ W.cell? ⟨w.heap.size, 5, none⟩ = some (.int .i64 q) ∧ W.cell? ⟨w.heap.size, 6, none⟩ = some (.bool tx) ∧ W.cell? ⟨w.heap.size, 7, none⟩ = some (.slice ad len cap)) (by kernel_rfl) (HS4.out _ (Below.refl _ _).drew) (fun hHeld => ?_)
          refine tk 0 54 hHeld ?_
          try simp only [Act.put, p1, p2, p3]
          refine tk 1 55 hHeld ?_
          try simp only [Act.put, p1, p2, p3]
          refine tk 2 56 hHeld ?_
          try simp only [Act.put, p1, p2, p3]
          refine tk 3 57 hHeld ?_
          try simp only [Act.put, p1, p2, p3]
          refine tk 5 59 hHeld ?_
          try simp only [Act.put, p1, p2, p3]
          refine tk 6 60 hHeld ?_
          try simp only [Act.put, p1, p2, p3]
          refine tk 7 61 hHeld ?_
          try simp only [Act.put, p1, p2, p3]
          refine tk 10 64 hHeld ?_
          try simp only [Act.put, p1, p2, p3]
          refine tk 11 65 hHeld ?_
          try simp only [Act.put, p1, p2, p3]
          refine wpAnyH_ready (rs := [4, 8, 12]) (by kernel_rfl) (by simp) ?_
          refine AllReadyH.cons rfl (fun K hK => ?_) (AllReadyH.cons rfl (fun K hK => ?_) (AllReadyH.cons rfl (fun K hK => ?_) (AllReadyH.nil)))
          · skip
            have y3 := HL3.out W4.drew (Below.refl W4.heap.size W4).drew
            go_simp
            clear y3
            refine hK.out _ _ (HS4.out _ (Below.refl W4.heap.size W4).drew) (fun hHeld => ?_)
            clear hK K
            try simp only [Act.put, p1, p2, p3]
            refine wpAnyH_ready (rs := [8, 12]) (by kernel_rfl) (by simp) ?_
            refine AllReadyH.cons rfl (fun K hK => ?_) (AllReadyH.cons rfl (fun K hK => ?_) (AllReadyH.nil))
            · skip
              have y3 := HL3.out W4.drew (Below.refl W4.heap.size W4).drew
              go_simp
              clear y3
              refine hK.out _ _ (HS4.out _ (Below.refl W4.heap.size W4).drew) (fun hHeld => ?_)
              clear hK K
              try simp only [Act.put, p1, p2, p3]
              refine tk 9 63 hHeld ?_
              try simp only [Act.put, p1, p2, p3]
              refine wpAnyH_ready (rs := [12]) (by kernel_rfl) (by simp) ?_
              refine AllReadyH.cons rfl (fun K hK => ?_) (AllReadyH.nil)
              · skip
                go_simp
                go_wp2_with (go_at_call 31; refine (HSt.out W4.drew (Below.refl W4.heap.size W4).drew).mono ?_; rintro r W3 ⟨fv, rfl, hch, hb3⟩; have HB3 := hid (((Below.refl W4.heap.size W4).drew).trans (hb3.mono ((Below.refl W4.heap.size W4).drew).size)); have HCh := hid hch; clear hch hb3)
                refine hK.out _ _ (HS4.out _ HB3.out) (fun hHeld => ?_)
                clear hK K
                try simp only [Act.put, p1, p2, p3]
                refine wpAnyH_ready (rs := [13]) (by kernel_rfl) (by simp) ?_
                refine AllReadyH.cons rfl (fun K hK => ?_) (AllReadyH.nil)
                go_simp
                go_wp2_with (go_at_call 30; refine (HCh.out W3 (Below.refl _ _) _ ar _ cr _ (HR4.out _ HB3.out) HKr.out hml hby).mono ?_; rintro r W5 ⟨v5, rfl, ho5, hb5⟩; obtain ⟨a5, n5, c5, rfl⟩ := OwnK.shape ho5; have HO5 := hid ho5; have HB5 := hid ((HB3.out).trans (hb5.mono (HB3.out).size)); clear ho5 hb5)
                refine hK.out _ _ (HS4.out _ HB5.out) (fun hHeld => ?_)
                clear hK K
                try simp only [Act.put, p1, p2, p3]
                refine tk 14 68 hHeld ?_
                try simp only [Act.put, p1, p2, p3]
                refine tk 15 69 hHeld ?_
                try simp only [Act.put, p1, p2, p3]
                have y3 := HL3.out W5 HB5.out
                have z3 := HL3f.out W5 HB5.out
                refine wpAnyH_ready (rs := [16]) (by kernel_rfl) (by simp) ?_
                refine AllReadyH.cons rfl (fun K hK => ?_) (AllReadyH.nil)
                go_simp
                clear y3 z3
                refine hK.out _ _ (HSet.out W5 _ (HS4.out _ HB5.out)) (fun hHeld => ?_)
                clear hK K
                try simp only [Act.put, p1, p2, p3]
                refine wpAnyH_done (by kernel_rfl) ?_ _
                clear hHeld
                go_wp2_with fail
                have hO := HO5.out
                rw [choose_all _ _ _ (Nat.le_refl _)] at hO
                have hO' : OwnK kRw W5 W4.heap.size (.slice a5 n5 c5) _ := hO.mono (by have h3 : W4.heap.size ≤ W4.drew.heap.size := Nat.le_refl _; (try have h4 := HB3.out.size); omega)
                have hs4 := HC4.out.size
                refine bodyPost_ret (results_tmp2 Tryz.results12 _ _ _) rfl ⟨rfl, n, (.slice a5 n5 c5), vo, (.slice a3 n3 c3), by omega, ⟨?_, ?_⟩, ?_, ?_, NewB.refl _ _, HV3.out⟩
                · rw [HGe.out]
                  exact HP4.out.rowsNew HB5.out hO' (by have := HNn.out; omega)
                · rw [HGe.out]; exact HOk.out
                · exact ((HC4.out.trans (Chg.of HB5.out) (fun k hk => Or.inl hk)).set (Or.inl (by simp)) _ _).mono (by intro x hx; simp at hx ⊢; exact Or.inl hx)
                · exact fun b e => Or.inr (by have := (hO'.block b e).1; omega)
            · skip
              go_simp
              go_wp2_with (go_at_call 31; refine (HSt.out W4.drew (Below.refl W4.heap.size W4).drew).mono ?_; rintro r W3 ⟨fv, rfl, hch, hb3⟩; have HB3 := hid (((Below.refl W4.heap.size W4).drew).trans (hb3.mono ((Below.refl W4.heap.size W4).drew).size)); have HCh := hid hch; clear hch hb3)
              refine hK.out _ _ (HS4.out _ HB3.out) (fun hHeld => ?_)
              clear hK K
              try simp only [Act.put, p1, p2, p3]
              refine wpAnyH_ready (rs := [8]) (by kernel_rfl) (by simp) ?_
              refine AllReadyH.cons rfl (fun K hK => ?_) (AllReadyH.nil)
              · skip
                have y3 := HL3.out W3 HB3.out
                go_simp
                clear y3
                refine hK.out _ _ (HS4.out _ HB3.out) (fun hHeld => ?_)
                clear hK K
                try simp only [Act.put, p1, p2, p3]
                refine tk 9 63 hHeld ?_
                try simp only [Act.put, p1, p2, p3]
                refine wpAnyH_ready (rs := [13]) (by kernel_rfl) (by simp) ?_
                refine AllReadyH.cons rfl (fun K hK => ?_) (AllReadyH.nil)
                go_simp
                go_wp2_with (go_at_call 30; refine (HCh.out W3 (Below.refl _ _) _ ar _ cr _ (HR4.out _ HB3.out) HKr.out hml hby).mono ?_; rintro r W5 ⟨v5, rfl, ho5, hb5⟩; obtain ⟨a5, n5, c5, rfl⟩ := OwnK.shape ho5; have HO5 := hid ho5; have HB5 := hid ((HB3.out).trans (hb5.mono (HB3.out).size)); clear ho5 hb5)
                refine hK.out _ _ (HS4.out _ HB5.out) (fun hHeld => ?_)
                clear hK K
                try simp only [Act.put, p1, p2, p3]
                refine tk 14 68 hHeld ?_
                try simp only [Act.put, p1, p2, p3]
                refine tk 15 69 hHeld ?_
                try simp only [Act.put, p1, p2, p3]
                have y3 := HL3.out W5 HB5.out
                have z3 := HL3f.out W5 HB5.out
                refine wpAnyH_ready (rs := [16]) (by kernel_rfl) (by simp) ?_
                refine AllReadyH.cons rfl (fun K hK => ?_) (AllReadyH.nil)
                go_simp
                clear y3 z3
                refine hK.out _ _ (HSet.out W5 _ (HS4.out _ HB5.out)) (fun hHeld => ?_)
                clear hK K
                try simp only [Act.put, p1, p2, p3]
                refine wpAnyH_done (by kernel_rfl) ?_ _
                clear hHeld
                go_wp2_with fail
                have hO := HO5.out
                rw [choose_all _ _ _ (Nat.le_refl _)] at hO
                have hO' : OwnK kRw W5 W4.heap.size (.slice a5 n5 c5) _ := hO.mono (by have h3 : W4.heap.size ≤ W4.drew.heap.size := Nat.le_refl _; (try have h4 := HB3.out.size); omega)
                have hs4 := HC4.out.size
                refine bodyPost_ret (results_tmp2 Tryz.results12 _ _ _) rfl ⟨rfl, n, (.slice a5 n5 c5), vo, (.slice a3 n3 c3), by omega, ⟨?_, ?_⟩, ?_, ?_, NewB.refl _ _, HV3.out⟩
                · rw [HGe.out]
                  exact HP4.out.rowsNew HB5.out hO' (by have := HNn.out; omega)
                · rw [HGe.out]; exact HOk.out
                · exact ((HC4.out.trans (Chg.of HB5.out) (fun k hk => Or.inl hk)).set (Or.inl (by simp)) _ _).mono (by intro x hx; simp at hx ⊢; exact Or.inl hx)
                · exact fun b e => Or.inr (by have := (hO'.block b e).1; omega)
          · skip
            have y3 := HL3.out W4.drew (Below.refl W4.heap.size W4).drew
            go_simp
            clear y3
            refine hK.out _ _ (HS4.out _ (Below.refl W4.heap.size W4).drew) (fun hHeld => ?_)
            clear hK K
            try simp only [Act.put, p1, p2, p3]
            refine tk 9 63 hHeld ?_
            try simp only [Act.put, p1, p2, p3]
            refine wpAnyH_ready (rs := [4, 12]) (by kernel_rfl) (by simp) ?_
            refine AllReadyH.cons rfl (fun K hK => ?_) (AllReadyH.cons rfl (fun K hK => ?_) (AllReadyH.nil))
            · skip
              have y3 := HL3.out W4.drew (Below.refl W4.heap.size W4).drew
              go_simp
              clear y3
              refine hK.out _ _ (HS4.out _ (Below.refl W4.heap.size W4).drew) (fun hHeld => ?_)
              clear hK K
              try simp only [Act.put, p1, p2, p3]
              refine wpAnyH_ready (rs := [12]) (by kernel_rfl) (by simp) ?_
              refine AllReadyH.cons rfl (fun K hK => ?_) (AllReadyH.nil)
              · skip
                go_simp
                go_wp2_with (go_at_call 31; refine (HSt.out W4.drew (Below.refl W4.heap.size W4).drew).mono ?_; rintro r W3 ⟨fv, rfl, hch, hb3⟩; have HB3 := hid (((Below.refl W4.heap.size W4).drew).trans (hb3.mono ((Below.refl W4.heap.size W4).drew).size)); have HCh := hid hch; clear hch hb3)
                refine hK.out _ _ (HS4.out _ HB3.out) (fun hHeld => ?_)
                clear hK K
                try simp only [Act.put, p1, p2, p3]
                refine wpAnyH_ready (rs := [13]) (by kernel_rfl) (by simp) ?_
                refine AllReadyH.cons rfl (fun K hK => ?_) (AllReadyH.nil)
                go_simp
                go_wp2_with (go_at_call 30; refine (HCh.out W3 (Below.refl _ _) _ ar _ cr _ (HR4.out _ HB3.out) HKr.out hml hby).mono ?_; rintro r W5 ⟨v5, rfl, ho5, hb5⟩; obtain ⟨a5, n5, c5, rfl⟩ := OwnK.shape ho5; have HO5 := hid ho5; have HB5 := hid ((HB3.out).trans (hb5.mono (HB3.out).size)); clear ho5 hb5)
                refine hK.out _ _ (HS4.out _ HB5.out) (fun hHeld => ?_)
                clear hK K
                try simp only [Act.put, p1, p2, p3]
                refine tk 14 68 hHeld ?_
                try simp only [Act.put, p1, p2, p3]
                refine tk 15 69 hHeld ?_
                try simp only [Act.put, p1, p2, p3]
                have y3 := HL3.out W5 HB5.out
                have z3 := HL3f.out W5 HB5.out
                refine wpAnyH_ready (rs := [16]) (by kernel_rfl) (by simp) ?_
                refine AllReadyH.cons rfl (fun K hK => ?_) (AllReadyH.nil)
                go_simp
                clear y3 z3
                refine hK.out _ _ (HSet.out W5 _ (HS4.out _ HB5.out)) (fun hHeld => ?_)
                clear hK K
                try simp only [Act.put, p1, p2, p3]
                refine wpAnyH_done (by kernel_rfl) ?_ _
                clear hHeld
                go_wp2_with fail
                have hO := HO5.out
                rw [choose_all _ _ _ (Nat.le_refl _)] at hO
                have hO' : OwnK kRw W5 W4.heap.size (.slice a5 n5 c5) _ := hO.mono (by have h3 : W4.heap.size ≤ W4.drew.heap.size := Nat.le_refl _; (try have h4 := HB3.out.size); omega)
                have hs4 := HC4.out.size
                refine bodyPost_ret (results_tmp2 Tryz.results12 _ _ _) rfl ⟨rfl, n, (.slice a5 n5 c5), vo, (.slice a3 n3 c3), by omega, ⟨?_, ?_⟩, ?_, ?_, NewB.refl _ _, HV3.out⟩
                · rw [HGe.out]
                  exact HP4.out.rowsNew HB5.out hO' (by have := HNn.out; omega)
                · rw [HGe.out]; exact HOk.out
                · exact ((HC4.out.trans (Chg.of HB5.out) (fun k hk => Or.inl hk)).set (Or.inl (by simp)) _ _).mono (by intro x hx; simp at hx ⊢; exact Or.inl hx)
                · exact fun b e => Or.inr (by have := (hO'.block b e).1; omega)
            · skip
              go_simp
              go_wp2_with (go_at_call 31; refine (HSt.out W4.drew (Below.refl W4.heap.size W4).drew).mono ?_; rintro r W3 ⟨fv, rfl, hch, hb3⟩; have HB3 := hid (((Below.refl W4.heap.size W4).drew).trans (hb3.mono ((Below.refl W4.heap.size W4).drew).size)); have HCh := hid hch; clear hch hb3)
              refine hK.out _ _ (HS4.out _ HB3.out) (fun hHeld => ?_)
              clear hK K
              try simp only [Act.put, p1, p2, p3]
              refine wpAnyH_ready (rs := [4]) (by kernel_rfl) (by simp) ?_
              refine AllReadyH.cons rfl (fun K hK => ?_) (AllReadyH.nil)
              · skip
                have y3 := HL3.out W3 HB3.out
                go_simp
                clear y3
                refine hK.out _ _ (HS4.out _ HB3.out) (fun hHeld => ?_)
                clear hK K
                try simp only [Act.put, p1, p2, p3]
                refine wpAnyH_ready (rs := [13]) (by kernel_rfl) (by simp) ?_
                refine AllReadyH.cons rfl (fun K hK => ?_) (AllReadyH.nil)
                go_simp
                go_wp2_with (go_at_call 30; refine (HCh.out W3 (Below.refl _ _) _ ar _ cr _ (HR4.out _ HB3.out) HKr.out hml hby).mono ?_; rintro r W5 ⟨v5, rfl, ho5, hb5⟩; obtain ⟨a5, n5, c5, rfl⟩ := OwnK.shape ho5; have HO5 := hid ho5; have HB5 := hid ((HB3.out).trans (hb5.mono (HB3.out).size)); clear ho5 hb5)
                refine hK.out _ _ (HS4.out _ HB5.out) (fun hHeld => ?_)
                clear hK K
                try simp only [Act.put, p1, p2, p3]
                refine tk 14 68 hHeld ?_
                try simp only [Act.put, p1, p2, p3]
                refine tk 15 69 hHeld ?_
                try simp only [Act.put, p1, p2, p3]
                have y3 := HL3.out W5 HB5.out
                have z3 := HL3f.out W5 HB5.out
                refine wpAnyH_ready (rs := [16]) (by kernel_rfl) (by simp) ?_
                refine AllReadyH.cons rfl (fun K hK => ?_) (AllReadyH.nil)
                go_simp
                clear y3 z3
                refine hK.out _ _ (HSet.out W5 _ (HS4.out _ HB5.out)) (fun hHeld => ?_)
                clear hK K
                try simp only [Act.put, p1, p2, p3]
                refine wpAnyH_done (by kernel_rfl) ?_ _
                clear hHeld
                go_wp2_with fail
                have hO := HO5.out
                rw [choose_all _ _ _ (Nat.le_refl _)] at hO
                have hO' : OwnK kRw W5 W4.heap.size (.slice a5 n5 c5) _ := hO.mono (by have h3 : W4.heap.size ≤ W4.drew.heap.size := Nat.le_refl _; (try have h4 := HB3.out.size); omega)
                have hs4 := HC4.out.size
                refine bodyPost_ret (results_tmp2 Tryz.results12 _ _ _) rfl ⟨rfl, n, (.slice a5 n5 c5), vo, (.slice a3 n3 c3), by omega, ⟨?_, ?_⟩, ?_, ?_, NewB.refl _ _, HV3.out⟩
                · rw [HGe.out]
                  exact HP4.out.rowsNew HB5.out hO' (by have := HNn.out; omega)
                · rw [HGe.out]; exact HOk.out
                · exact ((HC4.out.trans (Chg.of HB5.out) (fun k hk => Or.inl hk)).set (Or.inl (by simp)) _ _).mono (by intro x hx; simp at hx ⊢; exact Or.inl hx)
                · exact fun b e => Or.inr (by have := (hO'.block b e).1; omega)
          · skip
            go_simp
            go_wp2_with (go_at_call 31; refine (HSt.out W4.drew (Below.refl W4.heap.size W4).drew).mono ?_; rintro r W3 ⟨fv, rfl, hch, hb3⟩; have HB3 := hid (((Below.refl W4.heap.size W4).drew).trans (hb3.mono ((Below.refl W4.heap.size W4).drew).size)); have HCh := hid hch; clear hch hb3)
            refine hK.out _ _ (HS4.out _ HB3.out) (fun hHeld => ?_)
            clear hK K
            try simp only [Act.put, p1, p2, p3]
            refine wpAnyH_ready (rs := [4, 8]) (by kernel_rfl) (by simp) ?_
            refine AllReadyH.cons rfl (fun K hK => ?_) (AllReadyH.cons rfl (fun K hK => ?_) (AllReadyH.nil))
            · skip
              have y3 := HL3.out W3 HB3.out
              go_simp
              clear y3
              refine hK.out _ _ (HS4.out _ HB3.out) (fun hHeld => ?_)
              clear hK K
              try simp only [Act.put, p1, p2, p3]
              refine wpAnyH_ready (rs := [8]) (by kernel_rfl) (by simp) ?_
              refine AllReadyH.cons rfl (fun K hK => ?_) (AllReadyH.nil)
              · skip
                have y3 := HL3.out W3 HB3.out
                go_simp
                clear y3
                refine hK.out _ _ (HS4.out _ HB3.out) (fun hHeld => ?_)
                clear hK K
                try simp only [Act.put, p1, p2, p3]
                refine tk 9 63 hHeld ?_
                try simp only [Act.put, p1, p2, p3]
                refine wpAnyH_ready (rs := [13]) (by kernel_rfl) (by simp) ?_
                refine AllReadyH.cons rfl (fun K hK => ?_) (AllReadyH.nil)
                go_simp
                go_wp2_with (go_at_call 30; refine (HCh.out W3 (Below.refl _ _) _ ar _ cr _ (HR4.out _ HB3.out) HKr.out hml hby).mono ?_; rintro r W5 ⟨v5, rfl, ho5, hb5⟩; obtain ⟨a5, n5, c5, rfl⟩ := OwnK.shape ho5; have HO5 := hid ho5; have HB5 := hid ((HB3.out).trans (hb5.mono (HB3.out).size)); clear ho5 hb5)
                refine hK.out _ _ (HS4.out _ HB5.out) (fun hHeld => ?_)
                clear hK K
                try simp only [Act.put, p1, p2, p3]
                refine tk 14 68 hHeld ?_
                try simp only [Act.put, p1, p2, p3]
                refine tk 15 69 hHeld ?_
                try simp only [Act.put, p1, p2, p3]
                have y3 := HL3.out W5 HB5.out
                have z3 := HL3f.out W5 HB5.out
                refine wpAnyH_ready (rs := [16]) (by kernel_rfl) (by simp) ?_
                refine AllReadyH.cons rfl (fun K hK => ?_) (AllReadyH.nil)
                go_simp
                clear y3 z3
                refine hK.out _ _ (HSet.out W5 _ (HS4.out _ HB5.out)) (fun hHeld => ?_)
                clear hK K
                try simp only [Act.put, p1, p2, p3]
                refine wpAnyH_done (by kernel_rfl) ?_ _
                clear hHeld
                go_wp2_with fail
                have hO := HO5.out
                rw [choose_all _ _ _ (Nat.le_refl _)] at hO
                have hO' : OwnK kRw W5 W4.heap.size (.slice a5 n5 c5) _ := hO.mono (by have h3 : W4.heap.size ≤ W4.drew.heap.size := Nat.le_refl _; (try have h4 := HB3.out.size); omega)
                have hs4 := HC4.out.size
                refine bodyPost_ret (results_tmp2 Tryz.results12 _ _ _) rfl ⟨rfl, n, (.slice a5 n5 c5), vo, (.slice a3 n3 c3), by omega, ⟨?_, ?_⟩, ?_, ?_, NewB.refl _ _, HV3.out⟩
                · rw [HGe.out]
                  exact HP4.out.rowsNew HB5.out hO' (by have := HNn.out; omega)
                · rw [HGe.out]; exact HOk.out
                · exact ((HC4.out.trans (Chg.of HB5.out) (fun k hk => Or.inl hk)).set (Or.inl (by simp)) _ _).mono (by intro x hx; simp at hx ⊢; exact Or.inl hx)
                · exact fun b e => Or.inr (by have := (hO'.block b e).1; omega)
            · skip
              have y3 := HL3.out W3 HB3.out
              go_simp
              clear y3
              refine hK.out _ _ (HS4.out _ HB3.out) (fun hHeld => ?_)
              clear hK K
              try simp only [Act.put, p1, p2, p3]
              refine tk 9 63 hHeld ?_
              try simp only [Act.put, p1, p2, p3]
              refine wpAnyH_ready (rs := [4]) (by kernel_rfl) (by simp) ?_
              refine AllReadyH.cons rfl (fun K hK => ?_) (AllReadyH.nil)
              · skip
                have y3 := HL3.out W3 HB3.out
                go_simp
                clear y3
                refine hK.out _ _ (HS4.out _ HB3.out) (fun hHeld => ?_)
                clear hK K
                try simp only [Act.put, p1, p2, p3]
                refine wpAnyH_ready (rs := [13]) (by kernel_rfl) (by simp) ?_
                refine AllReadyH.cons rfl (fun K hK => ?_) (AllReadyH.nil)
                go_simp
                go_wp2_with (go_at_call 30; refine (HCh.out W3 (Below.refl _ _) _ ar _ cr _ (HR4.out _ HB3.out) HKr.out hml hby).mono ?_; rintro r W5 ⟨v5, rfl, ho5, hb5⟩; obtain ⟨a5, n5, c5, rfl⟩ := OwnK.shape ho5; have HO5 := hid ho5; have HB5 := hid ((HB3.out).trans (hb5.mono (HB3.out).size)); clear ho5 hb5)
                refine hK.out _ _ (HS4.out _ HB5.out) (fun hHeld => ?_)
                clear hK K
                try simp only [Act.put, p1, p2, p3]
                refine tk 14 68 hHeld ?_
                try simp only [Act.put, p1, p2, p3]
                refine tk 15 69 hHeld ?_
                try simp only [Act.put, p1, p2, p3]
                have y3 := HL3.out W5 HB5.out
                have z3 := HL3f.out W5 HB5.out
                refine wpAnyH_ready (rs := [16]) (by kernel_rfl) (by simp) ?_
                refine AllReadyH.cons rfl (fun K hK => ?_) (AllReadyH.nil)
                go_simp
                clear y3 z3
                refine hK.out _ _ (HSet.out W5 _ (HS4.out _ HB5.out)) (fun hHeld => ?_)
                clear hK K
                try simp only [Act.put, p1, p2, p3]
                refine wpAnyH_done (by kernel_rfl) ?_ _
                clear hHeld
                go_wp2_with fail
                have hO := HO5.out
                rw [choose_all _ _ _ (Nat.le_refl _)] at hO
                have hO' : OwnK kRw W5 W4.heap.size (.slice a5 n5 c5) _ := hO.mono (by have h3 : W4.heap.size ≤ W4.drew.heap.size := Nat.le_refl _; (try have h4 := HB3.out.size); omega)
                have hs4 := HC4.out.size
                refine bodyPost_ret (results_tmp2 Tryz.results12 _ _ _) rfl ⟨rfl, n, (.slice a5 n5 c5), vo, (.slice a3 n3 c3), by omega, ⟨?_, ?_⟩, ?_, ?_, NewB.refl _ _, HV3.out⟩
                · rw [HGe.out]
                  exact HP4.out.rowsNew HB5.out hO' (by have := HNn.out; omega)
                · rw [HGe.out]; exact HOk.out
                · exact ((HC4.out.trans (Chg.of HB5.out) (fun k hk => Or.inl hk)).set (Or.inl (by simp)) _ _).mono (by intro x hx; simp at hx ⊢; exact Or.inl hx)
                · exact fun b e => Or.inr (by have := (hO'.block b e).1; omega)
end Go.Proofs.YtfgamkcnnijloaaGreat
