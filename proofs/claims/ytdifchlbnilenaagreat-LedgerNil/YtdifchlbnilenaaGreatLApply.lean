/- Apply of a ledger, of an entry that is a batch or may not be. -/
import Derived.Test.YtdifchlbnilenaaGreatLTake1
import Derived.Test.YtdifchlbnilenaaGreatLTake2
import Derived.Test.YtdifchlbnilenaaGreatLTake3
import Derived.Test.YtdifchlbnilenaaGreatLOkM
import Derived.Test.YtdifchlbnilenaaGreatLDec
namespace Go.Proofs.YtdifchlbnilenaaGreat
open Go.RowKit Go.Shelf
variable {w w' : World} {L t M n N : Nat} {vr vo va : Value} {g : Lg}

theorem take_any (h : LPic0 w L t M n N vr vo va g) (hN : N ≤ w.heap.size) (hn : n < maxLen) (k p e q : Int) (tx : Bool) (rs : List Rec) (ad : Option Addr) (len cap : Nat) (hB : BArg w ⟨k, p, e, q, tx, rs⟩ ad len cap) (hT : RTyp w ad len) (hck : checkN ⟨k, p, e, q, tx, rs⟩ = 0) (hf0 : 0 ≤ g.fin ∧ g.fin ≤ 281474976710656) (hrb : (g.rows.length + 64) * 64 ≤ 140737488355328) (hob : g.opn.length + 1 ≤ maxLen ∧ (g.opn.length + 1) * 16 ≤ 140737488355328) (hgb : g.gone.length + 1 ≤ maxLen ∧ (g.gone.length + 1) * 24 ≤ 140737488355328) (G : Lg) (hG : G = takeB g ⟨k, p, e, q, tx, rs⟩) :
    Calls Tryz.prog 62 #[.pointer (some ⟨L, 0, none⟩), .agg #[.int .i64 k, .int .i64 p, .int .i64 e, .int .i64 q, .bool tx, .slice ad len cap]] w fun x w' => x = .returned (.tuple #[]) ∧ ∃ vr' vo' va', LPic0 w' L t M (n + 1) N vr' vo' va' G ∧ Chg (L :: M :: (vr.ownBlock.toList ++ (vo.ownBlock.toList ++ va.ownBlock.toList))) w w' ∧ NewB w vr vr' ∧ NewB w vo vo' ∧ NewB w va va' := by
  by_cases hk : k = 1
  · subst hk
    cases tx with
    | false => exact take_n h hN hn 1 p e q false rs ad len cap hB hT hck hf0 hrb ⟨fun h => absurd rfl h, fun h => by cases h⟩ (fun h => absurd rfl h) G hG
    | true =>
      cases hop : opAt p g.opn with
      | none => exact take_o h hN hn p e q rs ad len cap hB hT hck hf0 hrb hob hop G hG
      | some i => exact take_n h hN hn 1 p e q true rs ad len cap hB hT hck hf0 hrb ⟨fun h => absurd rfl h, fun _ => by rw [hop]; rfl⟩ (fun h => absurd rfl h) G hG
  · have htx : tx = false := check_mark (b := ⟨k, p, e, q, tx, rs⟩) hck hk
    cases hop : opAt p g.opn with
    | none => exact take_n h hN hn k p e q tx rs ad len cap hB hT hck hf0 hrb ⟨fun _ => hop, fun h => by rw [htx] at h; cases h⟩ (fun _ => htx) G hG
    | some i => exact take_m h hN hn k p e q tx rs ad len cap hB hT hck hf0 hrb hgb hk i hop G hG
/-- What a call leaves of a ledger. -/
def LMv (w w' : World) (L t M n N : Nat) (vr vo va : Value) (G : Lg) : Prop :=
  ∃ n' vr' vo' va', n' ≤ n + 1 ∧ LPic w' L t M n' N vr' vo' va' G ∧ Chg (L :: M :: (vr.ownBlock.toList ++ (vo.ownBlock.toList ++ va.ownBlock.toList))) w w' ∧ NewB w vr vr' ∧ NewB w vo vo' ∧ NewB w va va'
theorem LMv.same (h : LPic w L t M n N vr vo va g) (hb : Below w.heap.size w w') : LMv w w' L t M n N vr vo va g := ⟨n, vr, vo, va, by omega, h.later hb, Chg.of hb, NewB.refl _ _, NewB.refl _ _, NewB.refl _ _⟩
/-- How much room a ledger leaves. -/
structure LRoom (g : Lg) : Prop where
  rows : (g.rows.length + 64) * 64 ≤ 140737488355328
  opn : g.opn.length + 1 ≤ maxLen ∧ (g.opn.length + 1) * 16 ≤ 140737488355328
  gone : g.gone.length + 1 ≤ maxLen ∧ (g.gone.length + 1) * 24 ≤ 140737488355328
set_option maxHeartbeats 1000000 in
theorem ApplyL_batch (h : LPic w L t M n N vr vo va g) (hN : N ≤ w.heap.size) (hn : n + 1 ≤ 4000000000000) (hr : LRoom g) (kd nn k p e q : Int) (tx : Bool) (rs : List Rec) (ad : Option Addr) (len cap : Nat) (hB : BArg w ⟨k, p, e, q, tx, rs⟩ ad len cap) (hT : RTyp w ad len) (hk : kd = 1 ∨ mayE ⟨kd, nn, ⟨k, p, e, q, tx, rs⟩⟩ = false) (o : Int) (dd : Bool) (er : Int) (hd : decE g ⟨kd, nn, ⟨k, p, e, q, tx, rs⟩⟩ = (o, dd, er)) (G : Lg) (hG : G = appG g ⟨kd, nn, ⟨k, p, e, q, tx, rs⟩⟩) :
    Calls Tryz.prog 25 #[.pointer (some ⟨L, 0, none⟩), .agg #[.int .i64 kd, .int .i64 nn, .int .i64 k, .int .i64 p, .int .i64 e, .int .i64 q, .bool tx, .slice ad len cap]] w fun x w' => x = .returned (.tuple #[.int .i64 o, .int .i64 er]) ∧ LMv w w' L t M n N vr vo va G := by
  obtain ⟨W0, hW0⟩ : ∃ W0, w.alloc (.cells #[.int .i64 kd, .int .i64 nn, .int .i64 k, .int .i64 p, .int .i64 e, .int .i64 q, .bool tx, .slice ad len cap] 32) = W0 := ⟨_, rfl⟩
  have b0 : Below w.heap.size w W0 := by rw [← hW0]; exact (Below.refl _ _).alloc (Nat.le_refl _) _
  have X0 : Blk W0 w.heap.size #[.int .i64 kd, .int .i64 nn, .int .i64 k, .int .i64 p, .int .i64 e, .int .i64 q, .bool tx, .slice ad len cap] 32 := by rw [← hW0]; exact heap_alloc_new w _
  have HD := hid (DecideL_batch (h.later b0) hn kd nn k p e q tx rs ad len cap (hB.later b0) hk)
  rw [hd] at HD
  unfold decV at HD
  dsimp only at HD
  have HB0 := hid b0
  have HP := hid h
  have HBa := hid hB
  have HX := hid X0
  have HTy := hid hT
  have HGG := hid hG
  have HDd := hid hd
  have c0 := X0.cell 0
  have c1 := X0.cell 1
  have c2 := X0.cell 2
  have c3 := X0.cell 3
  have c4 := X0.cell 4
  have c5 := X0.cell 5
  have c6 := X0.cell 6
  have c7 := X0.cell 7
  have lx := X0.lt
  simp only [List.getElem?_toArray, List.getElem?_cons_zero, List.getElem?_cons_succ] at c0 c1 c2 c3 c4 c5 c6 c7
  have HSame : Hid ((er ≠ 0 ∨ dd = true) → G = g) := fun hh => by rw [hG]; unfold appG; rw [hd, if_pos hh]
  clear hB b0 X0 hT hG hd
  by_cases her : er = 0
  rotate_left
  · have her' : (er == 0) = false := by simpa using her
    have HGs := hid (HSame.out (Or.inl her))
    clear hk h
    go_enter Tryz.func25, Tryz.ntmps25
    go_wp2_with (go_at_call 24; (with_reducible_and_instances (refine HD.out.mono ?_)); rintro x w1 ⟨rfl, hb1⟩; have HB1 := hid (HB0.out.trans (hb1.mono HB0.out.size)); clear hb1)
    refine bodyPost_ret (results_tmp2 Tryz.results25 _ _ _) rfl ⟨rfl, ?_⟩
    rw [HGs.out]
    exact LMv.same HP.out HB1.out
  subst her
  cases dd with
  | true =>
    have HGs := hid (HSame.out (Or.inr rfl))
    clear hk h
    go_enter Tryz.func25, Tryz.ntmps25
    go_wp2_with (go_at_call 24; (with_reducible_and_instances (refine HD.out.mono ?_)); rintro x w1 ⟨rfl, hb1⟩; have HB1 := hid (HB0.out.trans (hb1.mono HB0.out.size)); clear hb1)
    refine bodyPost_ret (results_tmp2 Tryz.results25 _ _ _) rfl ⟨rfl, ?_⟩
    rw [HGs.out]
    exact LMv.same HP.out HB1.out
  | false =>
    have hm : mayE ⟨kd, nn, ⟨k, p, e, q, tx, rs⟩⟩ = true := by
      cases hm : mayE ⟨kd, nn, ⟨k, p, e, q, tx, rs⟩⟩ with
      | true => rfl
      | false => have h1 := HDd.out; unfold decE at h1; rw [if_pos hm] at h1; cases h1
    obtain rfl : kd = 1 := by rcases hk with hk | hk; exact hk; rw [hm] at hk; cases hk
    have hdb : decB g ⟨k, p, e, q, tx, rs⟩ = (o, false, 0) := by have h1 := HDd.out; unfold decE at h1; rw [if_neg (by rw [hm]; simp), if_pos rfl] at h1; exact h1
    obtain ⟨hck, hfl, -, -⟩ := decB_take hdb
    have HGt : Hid (G = takeB g ⟨k, p, e, q, tx, rs⟩) := by rw [HGG.out]; unfold appG; rw [HDd.out, if_neg (by simp), if_pos rfl]; exact rfl
    have HOk := hid (takeB_ok h.ok hck hfl)
    have hfs := h.ok.start
    have hff := h.ok.fin
    have HTa : Hid (∀ W, Below w.heap.size w W → Calls Tryz.prog 62 #[.pointer (some ⟨L, 0, none⟩), .agg #[.int .i64 k, .int .i64 p, .int .i64 e, .int .i64 q, .bool tx, .slice ad len cap]] W fun x w' => x = .returned (.tuple #[]) ∧ LMv w w' L t M n N vr vo va G) := fun W hW => by
      refine (take_any (h.later hW).toLPic0 (Nat.le_trans hN hW.size) (by unfold maxLen; omega) k p e q tx rs ad len cap (HBa.out.later hW) (HTy.out.keep (fun b cur hc => hW.block b (Array.getElem?_eq_some_iff.1 hc).1)) hck ⟨by omega, hff⟩ hr.rows hr.opn hr.gone G HGt.out).mono ?_
      rintro x w' ⟨rfl, vr', vo', va', h1, h2, h3, h4, h5⟩
      refine ⟨rfl, n + 1, vr', vo', va', Nat.le_refl _, ⟨h1, by rw [HGt.out]; exact HOk.out⟩, (Chg.of hW).trans h2 (fun k hk => Or.inl hk), ?_, ?_, ?_⟩
      · exact (NewB.refl w vr).trans h3 hW.size
      · exact (NewB.refl w vo).trans h4 hW.size
      · exact (NewB.refl w va).trans h5 hW.size
    clear hk h hm hdb hck hfl hfs hff
    go_enter Tryz.func25, Tryz.ntmps25
    go_wp2_with (first
      | (go_at_call 24; (with_reducible_and_instances (refine HD.out.mono ?_)); rintro x w1 ⟨rfl, hb1⟩; have hx := HX.out.later hb1; have d0 := hx.cell 0; have d2 := hx.cell 2; have d3 := hx.cell 3; have d4 := hx.cell 4; have d5 := hx.cell 5; have d6 := hx.cell 6; have d7 := hx.cell 7; simp only [List.getElem?_toArray, List.getElem?_cons_zero, List.getElem?_cons_succ] at d0 d2 d3 d4 d5 d6 d7; have HT1 := hid (HTa.out _ (HB0.out.trans (hb1.mono HB0.out.size))); clear hx hb1)
      | (go_at_call 62; (with_reducible_and_instances (refine HT1.out.mono ?_)); rintro x w2 ⟨rfl, hm2⟩; have HM2 := hid hm2; clear hm2))
    refine bodyPost_ret (results_tmp2 Tryz.results25 _ _ _) rfl ⟨rfl, HM2.out⟩
end Go.Proofs.YtdifchlbnilenaaGreat
