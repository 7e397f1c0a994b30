/- decideBatch and, of a batch, Decide of a ledger. Apply of a ledger, of an entry that is a batch or may not be. -/
import Derived.Test.YtfgamkcnnijloaaGreatPZD1
import Derived.Test.YtfgamkcnnijloaaGreatPZD2
import Derived.Test.YtfgamkcnnijloaaGreatPZD3
import Derived.Test.YtfgamkcnnijloaaGreatLTake1
import Derived.Test.YtfgamkcnnijloaaGreatLTake2
import Derived.Test.YtfgamkcnnijloaaGreatLTake3
import Derived.Test.YtfgamkcnnijloaaGreatPZTk
namespace Go.Proofs.YtfgamkcnnijloaaGreat
open Go.RowKit Go.Shelf
variable {w w' : World} {L t M n N : Nat} {vr vo va : Value} {g : Lg}

theorem decideBatch_any (h : LPic w L t M n N vr vo va g) (hn : n + 1 ≤ 4000000000000) (k p e q : Int) (tx : Bool) (rs : List Rec) (ad : Option Addr) (len cap : Nat) (hB : BArg w ⟨k, p, e, q, tx, rs⟩ ad len cap) :
    Calls Tryz.prog 25 #[.pointer (some ⟨L, 0, none⟩), .agg #[.int .i64 k, .int .i64 p, .int .i64 e, .int .i64 q, .bool tx, .slice ad len cap]] w fun x w' => x = .returned (decV (decB g ⟨k, p, e, q, tx, rs⟩)) ∧ Below w.heap.size w w' := by
  obtain ⟨o, dup, er, hd⟩ : ∃ o dup er, decN g.tb ⟨k, p, e, q, tx, rs⟩ = (o, dup, er) := ⟨_, _, _, rfl⟩
  by_cases her : er = 0
  rotate_left
  · have hb : decB g ⟨k, p, e, q, tx, rs⟩ = (o, dup, er) := by unfold decB; rw [hd, if_pos (Or.inl her)]
    rw [hb]
    exact decB7 h k p e q tx rs ad len cap hB o dup er hd her
  subst her
  cases dup with
  | true =>
    have hb : decB g ⟨k, p, e, q, tx, rs⟩ = (o, true, 0) := by unfold decB; rw [hd, if_pos (Or.inr rfl)]
    rw [hb]
    exact decB8 h k p e q tx rs ad len cap hB o hd
  | false =>
  have h0 : ¬ ((decN g.tb ⟨k, p, e, q, tx, rs⟩).2.2 ≠ 0 ∨ (decN g.tb ⟨k, p, e, q, tx, rs⟩).2.1 = true) := by rw [hd]; simp
  have hn53 : ∀ (c1 : ¬ (k ≠ 1 ∧ opAt p g.opn = none ∧ knownT g.tb p e = true)) (c2 : ¬ (k = 1 ∧ (opAt p g.opn).isSome = true ∧ tx = false)), decB g ⟨k, p, e, q, tx, rs⟩ = if 281474976710656 < g.fin + lenN ⟨k, p, e, q, tx, rs⟩ then (0, false, 53) else (g.fin, false, 0) := fun c1 c2 => by
    unfold decB
    rw [if_neg h0, if_neg c1, if_neg c2]
  rcases opI_of p g.opn with ⟨e1, e2⟩ | ⟨i, e1, e2, e3⟩
  · have hz : decide (0 ≤ opI p g.opn) = false := by rw [e2]; rfl
    by_cases hk : k = 1
    · subst hk
      exact decB6 h p e q tx rs ad len cap hB o hd hz _ (hn53 (by simp) (by rw [e1]; simp))
    · cases hkn : knownT g.tb p e with
      | true => exact decB1 h hn k p e q tx rs ad len cap hB o hd hk hz hkn _ (by unfold decB; rw [if_neg h0, if_pos ⟨hk, e1, hkn⟩])
      | false => exact decB2 h hn k p e q tx rs ad len cap hB o hd hk hz hkn _ (hn53 (by rw [hkn]; simp) (by simp [hk]))
  · have hz : decide (0 ≤ opI p g.opn) = true := by rw [e2]; simp
    by_cases hk : k = 1
    · subst hk
      cases tx with
      | true => exact decB5 h p e q rs ad len cap hB o hd hz _ (hn53 (by simp) (by simp))
      | false => exact decB4 h p e q rs ad len cap hB o hd hz _ (by unfold decB; rw [if_neg h0, if_neg (by simp), if_pos ⟨rfl, by rw [e1]; rfl, rfl⟩])
    · exact decB3 h k p e q tx rs ad len cap hB o hd hk hz _ (hn53 (by rw [e1]; simp) (by simp [hk]))
/-- Decide of an entry that is a batch, or may not be. -/
theorem DecideL_batch (h : LPic w L t M n N vr vo va g) (hn : n + 1 ≤ 4000000000000) (kd nn k p e q : Int) (tx : Bool) (rs : List Rec) (ad : Option Addr) (len cap : Nat) (hB : BArg w ⟨k, p, e, q, tx, rs⟩ ad len cap) (hk : kd = 1 ∨ mayE ⟨kd, nn, ⟨k, p, e, q, tx, rs⟩⟩ = false) :
    Calls Tryz.prog 11 #[.pointer (some ⟨L, 0, none⟩), .agg #[.int .i64 kd, .int .i64 nn, .int .i64 k, .int .i64 p, .int .i64 e, .int .i64 q, .bool tx, .slice ad len cap]] w fun x w' => x = .returned (decV (decE g ⟨kd, nn, ⟨k, p, e, q, tx, rs⟩⟩)) ∧ Below w.heap.size w w' := by
  obtain ⟨W0, hW0⟩ : ∃ W0, w.alloc (.cells #[.int .i64 kd, .int .i64 nn, .int .i64 k, .int .i64 p, .int .i64 e, .int .i64 q, .bool tx, .slice ad len cap] 32) = W0 := ⟨_, rfl⟩
  have b0 : Below w.heap.size w W0 := by rw [← hW0]; exact (Below.refl _ _).alloc (Nat.le_refl _) _
  have X0 : Blk W0 w.heap.size #[.int .i64 kd, .int .i64 nn, .int .i64 k, .int .i64 p, .int .i64 e, .int .i64 q, .bool tx, .slice ad len cap] 32 := by rw [← hW0]; exact heap_alloc_new w _
  have HM0 := hid (madeL_any (h.later b0).c0)
  have HMy := hid (mayBe13_any kd nn k p e q tx rs ad len cap W0 (hB.later b0))
  have HB0 := hid b0
  have HP := hid (h.later b0)
  have HBa := hid (hB.later b0)
  have HX := hid X0
  have c0 := X0.cell 0
  have c1 := X0.cell 1
  have c2 := X0.cell 2
  have c3 := X0.cell 3
  have c4 := X0.cell 4
  have c5 := X0.cell 5
  have c6 := X0.cell 6
  have c7 := X0.cell 7
  have lx := X0.lt
  simp only [List.getElem?_toArray, List.getElem?_cons_zero, List.getElem?_cons_succ] at c0 c1 c2 c3 c4 c5 c6 c7
  clear h hB b0 X0
  cases hm : mayE ⟨kd, nn, ⟨k, p, e, q, tx, rs⟩⟩ with
  | false =>
    have HR : Hid (decE g ⟨kd, nn, ⟨k, p, e, q, tx, rs⟩⟩ = (0, false, 1)) := by unfold decE; rw [if_pos hm]; exact rfl
    rw [hm] at HMy
    clear hm hk
    go_enter Tryz.func11, Tryz.ntmps11
    go_wp2_with (first
      | (go_at_call 23; (with_reducible_and_instances (refine HM0.out.mono ?_)); rintro x w1 ⟨rfl, hw1⟩; obtain rfl := hw1.symm)
      | (go_at_call 24; (with_reducible_and_instances (refine HMy.out.mono ?_)); rintro x w2 ⟨rfl, hb2⟩; have HB2 := hid (HB0.out.trans (hb2.mono HB0.out.size)); clear hb2))
    refine bodyPost_ret (results_tmp3 Tryz.results11 _ _ _) rfl ⟨by rw [HR.out]; rfl, HB2.out⟩
  | true =>
    obtain rfl : kd = 1 := by rcases hk with hk | hk; exact hk; rw [hm] at hk; cases hk
    have HR : Hid (decE g ⟨1, nn, ⟨k, p, e, q, tx, rs⟩⟩ = decB g ⟨k, p, e, q, tx, rs⟩) := by unfold decE; rw [if_neg (by rw [hm]; simp), if_pos rfl]; exact rfl
    rw [hm] at HMy
    clear hm hk
    have HDb : Hid (∀ W, Below W0.heap.size W0 W → Calls Tryz.prog 25 #[.pointer (some ⟨L, 0, none⟩), .agg #[.int .i64 k, .int .i64 p, .int .i64 e, .int .i64 q, .bool tx, .slice ad len cap]] W fun x w' => x = .returned (decV (decB g ⟨k, p, e, q, tx, rs⟩)) ∧ Below W.heap.size W w') := fun W hW => decideBatch_any (HP.out.later hW) hn k p e q tx rs ad len cap (HBa.out.later hW)
    generalize decB g ⟨k, p, e, q, tx, rs⟩ = d at *
    obtain ⟨o, dd, er⟩ := d
    go_enter Tryz.func11, Tryz.ntmps11
    go_wp2_with (first
      | (go_at_call 23; (with_reducible_and_instances (refine HM0.out.mono ?_)); rintro x w1 ⟨rfl, hw1⟩; obtain rfl := hw1.symm)
      | (go_at_call 24; (with_reducible_and_instances (refine HMy.out.mono ?_)); rintro x w2 ⟨rfl, hb2⟩; have HB2 := hid hb2; clear hb2; have hx := HX.out.later HB2.out; have d0 := hx.cell 0; have d2 := hx.cell 2; have d3 := hx.cell 3; have d4 := hx.cell 4; have d5 := hx.cell 5; have d6 := hx.cell 6; have d7 := hx.cell 7; simp only [List.getElem?_toArray, List.getElem?_cons_zero, List.getElem?_cons_succ] at d0 d2 d3 d4 d5 d6 d7; clear hx; have HD2 := hid (HDb.out _ HB2.out); unfold decV at HD2; dsimp only at HD2)
      | (go_at_call 25; (with_reducible_and_instances (refine HD2.out.mono ?_)); rintro x w3 ⟨rfl, hb3⟩; have HB3 := hid (HB0.out.trans ((HB2.out.trans (hb3.mono HB2.out.size)).mono HB0.out.size)); clear hb3))
    refine bodyPost_ret (results_tmp3 Tryz.results11 _ _ _) rfl ⟨by rw [HR.out]; rfl, HB3.out⟩
end Go.Proofs.YtfgamkcnnijloaaGreat
namespace Go.Proofs.YtfgamkcnnijloaaGreat
open Go.RowKit Go.Shelf
variable {w w' : World} {L t M n N : Nat} {vr vo va : Value} {g : Lg}

theorem take_any (h : LPic0 w L t M n N vr vo va g) (hN : N ≤ w.heap.size) (hn : n < maxLen) (k p e q : Int) (tx : Bool) (rs : List Rec) (ad : Option Addr) (len cap : Nat) (hB : BArg w ⟨k, p, e, q, tx, rs⟩ ad len cap) (hT : RTyp w ad len) (hck : checkN ⟨k, p, e, q, tx, rs⟩ = 0) (hf0 : 0 ≤ g.fin ∧ g.fin ≤ 281474976710656) (hrb : (g.rows.length + 64) * 64 ≤ 140737488355328) (hob : g.opn.length + 1 ≤ maxLen ∧ (g.opn.length + 1) * 16 ≤ 140737488355328) (hgb : g.gone.length + 1 ≤ maxLen ∧ (g.gone.length + 1) * 24 ≤ 140737488355328) (G : Lg) (hG : G = takeB g ⟨k, p, e, q, tx, rs⟩) :
    Calls Tryz.prog 27 #[.pointer (some ⟨L, 0, none⟩), .agg #[.int .i64 k, .int .i64 p, .int .i64 e, .int .i64 q, .bool tx, .slice ad len cap]] w fun x w' => x = .returned (.tuple #[]) ∧ ∃ vr' vo' va', LPic0 w' L t M (n + 1) N vr' vo' va' G ∧ Chg (L :: M :: (vr.ownBlock.toList ++ (vo.ownBlock.toList ++ va.ownBlock.toList))) w w' ∧ NewB w vr vr' ∧ NewB w vo vo' ∧ NewB w va va' := by
  by_cases hk : k = 1
  · subst hk
    cases tx with
    | false => exact take_n h hN hn 1 p e q false rs ad len cap hB hT hck hf0 hrb ⟨fun h => absurd rfl h, fun h => by cases h⟩ (fun h => absurd rfl h) G hG
    | true =>
      cases hop : opAt p g.opn with
      | none => exact take_o h hN hn p e q rs ad len cap hB hT hck hf0 hrb hob hop G hG
      | some i => exact take_n h hN hn 1 p e q true rs ad len cap hB hT hck hf0 hrb ⟨fun h => absurd rfl h, fun _ => by rw [hop]; rfl⟩ (fun h => absurd rfl h) G hG
  · have htx : tx = false := check_mark (b := ⟨k, p, e, q, tx, rs⟩) hck hk
    cases hop : opAt p g.opn with
    | none => exact take_n h hN hn k p e q tx rs ad len cap hB hT hck hf0 hrb ⟨fun _ => hop, fun h => by rw [htx] at h; cases h⟩ (fun _ => htx) G hG
    | some i => exact take_m h hN hn k p e q tx rs ad len cap hB hT hck hf0 hrb hgb hk i hop G hG
/-- What a call leaves of a ledger. -/
def LMv (w w' : World) (L t M n N : Nat) (vr vo va : Value) (G : Lg) : Prop :=
  ∃ n' vr' vo' va', n' ≤ n + 1 ∧ LPic w' L t M n' N vr' vo' va' G ∧ Chg (L :: M :: (vr.ownBlock.toList ++ (vo.ownBlock.toList ++ va.ownBlock.toList))) w w' ∧ NewB w vr vr' ∧ NewB w vo vo' ∧ NewB w va va'
theorem LMv.same (h : LPic w L t M n N vr vo va g) (hb : Below w.heap.size w w') : LMv w w' L t M n N vr vo va g := ⟨n, vr, vo, va, by omega, h.later hb, Chg.of hb, NewB.refl _ _, NewB.refl _ _, NewB.refl _ _⟩
/-- How much room a ledger leaves. -/
structure LRoom (g : Lg) : Prop where
  rows : (g.rows.length + 64) * 64 ≤ 140737488355328
  opn : g.opn.length + 1 ≤ maxLen ∧ (g.opn.length + 1) * 16 ≤ 140737488355328
  gone : g.gone.length + 1 ≤ maxLen ∧ (g.gone.length + 1) * 24 ≤ 140737488355328
set_option maxHeartbeats 1000000 in
theorem ApplyL_batch (h : LPic w L t M n N vr vo va g) (hN : N ≤ w.heap.size) (hn : n + 1 ≤ 4000000000000) (hr : LRoom g) (kd nn k p e q : Int) (tx : Bool) (rs : List Rec) (ad : Option Addr) (len cap : Nat) (hB : BArg w ⟨k, p, e, q, tx, rs⟩ ad len cap) (hT : RTyp w ad len) (hk : kd = 1 ∨ mayE ⟨kd, nn, ⟨k, p, e, q, tx, rs⟩⟩ = false) (o : Int) (dd : Bool) (er : Int) (hd : decE g ⟨kd, nn, ⟨k, p, e, q, tx, rs⟩⟩ = (o, dd, er)) (G : Lg) (hG : G = appG g ⟨kd, nn, ⟨k, p, e, q, tx, rs⟩⟩) :
    Calls Tryz.prog 12 #[.pointer (some ⟨L, 0, none⟩), .agg #[.int .i64 kd, .int .i64 nn, .int .i64 k, .int .i64 p, .int .i64 e, .int .i64 q, .bool tx, .slice ad len cap]] w fun x w' => x = .returned (.tuple #[.int .i64 o, .int .i64 er]) ∧ LMv w w' L t M n N vr vo va G := by
  obtain ⟨W0, hW0⟩ : ∃ W0, w.alloc (.cells #[.int .i64 kd, .int .i64 nn, .int .i64 k, .int .i64 p, .int .i64 e, .int .i64 q, .bool tx, .slice ad len cap] 32) = W0 := ⟨_, rfl⟩
  have b0 : Below w.heap.size w W0 := by rw [← hW0]; exact (Below.refl _ _).alloc (Nat.le_refl _) _
  have X0 : Blk W0 w.heap.size #[.int .i64 kd, .int .i64 nn, .int .i64 k, .int .i64 p, .int .i64 e, .int .i64 q, .bool tx, .slice ad len cap] 32 := by rw [← hW0]; exact heap_alloc_new w _
  have HD := hid (DecideL_batch (h.later b0) hn kd nn k p e q tx rs ad len cap (hB.later b0) hk)
  rw [hd] at HD
  unfold decV at HD
  dsimp only at HD
  have HB0 := hid b0
  have HP := hid h
  have HBa := hid hB
  have HX := hid X0
  have HTy := hid hT
  have HGG := hid hG
  have HDd := hid hd
  have c0 := X0.cell 0
  have c1 := X0.cell 1
  have c2 := X0.cell 2
  have c3 := X0.cell 3
  have c4 := X0.cell 4
  have c5 := X0.cell 5
  have c6 := X0.cell 6
  have c7 := X0.cell 7
  have lx := X0.lt
  simp only [List.getElem?_toArray, List.getElem?_cons_zero, List.getElem?_cons_succ] at c0 c1 c2 c3 c4 c5 c6 c7
  have HSame : Hid ((er ≠ 0 ∨ dd = true) → G = g) := fun hh => by rw [hG]; unfold appG; rw [hd, if_pos hh]
  clear hB b0 X0 hT hG hd
  by_cases her : er = 0
  rotate_left
  · have her' : (er == 0) = false := by simpa using her
    have HGs := hid (HSame.out (Or.inl her))
    clear hk h
    go_enter Tryz.func12, Tryz.ntmps12
    go_wp2_with (go_at_call 11; (with_reducible_and_instances (refine HD.out.mono ?_)); rintro x w1 ⟨rfl, hb1⟩; have HB1 := hid (HB0.out.trans (hb1.mono HB0.out.size)); clear hb1)
    refine bodyPost_ret (results_tmp2 Tryz.results12 _ _ _) rfl ⟨rfl, ?_⟩
    rw [HGs.out]
    exact LMv.same HP.out HB1.out
  subst her
  cases dd with
  | true =>
    have HGs := hid (HSame.out (Or.inr rfl))
    clear hk h
    go_enter Tryz.func12, Tryz.ntmps12
    go_wp2_with (go_at_call 11; (with_reducible_and_instances (refine HD.out.mono ?_)); rintro x w1 ⟨rfl, hb1⟩; have HB1 := hid (HB0.out.trans (hb1.mono HB0.out.size)); clear hb1)
    refine bodyPost_ret (results_tmp2 Tryz.results12 _ _ _) rfl ⟨rfl, ?_⟩
    rw [HGs.out]
    exact LMv.same HP.out HB1.out
  | false =>
    have hm : mayE ⟨kd, nn, ⟨k, p, e, q, tx, rs⟩⟩ = true := by
      cases hm : mayE ⟨kd, nn, ⟨k, p, e, q, tx, rs⟩⟩ with
      | true => rfl
      | false => have h1 := HDd.out; unfold decE at h1; rw [if_pos hm] at h1; cases h1
    obtain rfl : kd = 1 := by rcases hk with hk | hk; exact hk; rw [hm] at hk; cases hk
    have hdb : decB g ⟨k, p, e, q, tx, rs⟩ = (o, false, 0) := by have h1 := HDd.out; unfold decE at h1; rw [if_neg (by rw [hm]; simp), if_pos rfl] at h1; exact h1
    obtain ⟨hck, hfl, -, -⟩ := decB_take hdb
    have HGt : Hid (G = takeB g ⟨k, p, e, q, tx, rs⟩) := by rw [HGG.out]; unfold appG; rw [HDd.out, if_neg (by simp), if_pos rfl]; exact rfl
    have HOk := hid (takeB_ok h.ok hck hfl)
    have hfs := h.ok.start
    have hff := h.ok.fin
    have HTa : Hid (∀ W, Below w.heap.size w W → Calls Tryz.prog 27 #[.pointer (some ⟨L, 0, none⟩), .agg #[.int .i64 k, .int .i64 p, .int .i64 e, .int .i64 q, .bool tx, .slice ad len cap]] W fun x w' => x = .returned (.tuple #[]) ∧ LMv w w' L t M n N vr vo va G) := fun W hW => by
      refine (take_any (h.later hW).toLPic0 (Nat.le_trans hN hW.size) (by unfold maxLen; omega) k p e q tx rs ad len cap (HBa.out.later hW) (HTy.out.keep (fun b cur hc => hW.block b (Array.getElem?_eq_some_iff.1 hc).1)) hck ⟨by omega, hff⟩ hr.rows hr.opn hr.gone G HGt.out).mono ?_
      rintro x w' ⟨rfl, vr', vo', va', h1, h2, h3, h4, h5⟩
      refine ⟨rfl, n + 1, vr', vo', va', Nat.le_refl _, ⟨h1, by rw [HGt.out]; exact HOk.out⟩, (Chg.of hW).trans h2 (fun k hk => Or.inl hk), ?_, ?_, ?_⟩
      · exact (NewB.refl w vr).trans h3 hW.size
      · exact (NewB.refl w vo).trans h4 hW.size
      · exact (NewB.refl w va).trans h5 hW.size
    clear hk h hm hdb hck hfl hfs hff
    go_enter Tryz.func12, Tryz.ntmps12
    go_wp2_with (first
      | (go_at_call 11; (with_reducible_and_instances (refine HD.out.mono ?_)); rintro x w1 ⟨rfl, hb1⟩; have hx := HX.out.later hb1; have d0 := hx.cell 0; have d2 := hx.cell 2; have d3 := hx.cell 3; have d4 := hx.cell 4; have d5 := hx.cell 5; have d6 := hx.cell 6; have d7 := hx.cell 7; simp only [List.getElem?_toArray, List.getElem?_cons_zero, List.getElem?_cons_succ] at d0 d2 d3 d4 d5 d6 d7; have HT1 := hid (HTa.out _ (HB0.out.trans (hb1.mono HB0.out.size))); clear hx hb1)
      | (go_at_call 27; (with_reducible_and_instances (refine HT1.out.mono ?_)); rintro x w2 ⟨rfl, hm2⟩; have HM2 := hid hm2; clear hm2))
    refine bodyPost_ret (results_tmp2 Tryz.results12 _ _ _) rfl ⟨rfl, HM2.out⟩
end Go.Proofs.YtfgamkcnnijloaaGreat
