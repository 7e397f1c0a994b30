/- The walk of the statement NodeTwice: it returns true at every input, and writes nothing that was there. -/
import Derived.Test.YtjldflfoncfndaaGreatNTwiceL
import Derived.Test.YtjldflfoncfndaaGreatOpenReqs
import Derived.Deep.DeepCutAuto
namespace Go.Proofs.YtjldflfoncfndaaGreat
open Go.RowKit Go.Shelf Crcm

set_option maxRecDepth 100000 in
set_option maxHeartbeats 16000000 in
theorem twice_walk (rq : Nat → Rq) (adl : Option Addr) (n capl : Nat) (k g p : Int) (ad : Option Addr) (len cap : Nat) (l : List Nat) (ad3 : Option Addr) (len3 cap3 : Nat) (l3 : List Nat) (w : World) (hlcl : n ≤ capl) (hcl : capl ≤ maxLen)
    (hrow : n = 0 ∨ ∃ b off, adl = some ⟨b, off, none⟩ ∧ b < w.heap.size ∧ ∀ i, i < n → (rq i).at w b (off + i * 4) ∧ (rq i).ok w)
    (h1 : Part.ok w ⟨ad, len, cap, l⟩) (h3 : Part.ok w ⟨ad3, len3, cap3, l3⟩) (hlc1 : len ≤ cap) (hc1 : cap ≤ 140737488351232) (hlc3 : len3 ≤ cap3) (hc3 : cap3 ≤ 140737488351232) :
    Calls Tryz.prog 7 #[.slice adl n capl, .agg #[.int .i64 k, .int .i64 g, .int .i64 p, .slice ad len cap], .slice ad3 len3 cap3] w fun r w' => r = .returned (.bool true) ∧ Below w.heap.size w w' := by
  obtain ⟨z1, b1, hr1⟩ : ∃ z b, putReqN k g p l = (z, b) := ⟨_, _, rfl⟩
  have hl3 : l3.length = len3 := h3.1
  have hb1 : b1.length ≤ 1000000000000000 := by have := putReqN_len k g p l; rw [hr1] at this; simp only at this; omega
  have HR : Hid (putReqN k g p l = (z1, b1) ∧ b1.length ≤ 1000000000000000 ∧ l3.length ≤ 1000000000000000) := (show Hid _ from ⟨hr1, hb1, by omega⟩)
  have HA : Hid (Part.ok w ⟨ad, len, cap, l⟩ ∧ Part.ok w ⟨ad3, len3, cap3, l3⟩) := (show Hid _ from ⟨h1, h3⟩)
  have HROW : Hid (n = 0 ∨ ∃ b off, adl = some ⟨b, off, none⟩ ∧ b < w.heap.size ∧ ∀ i, i < n → (rq i).at w b (off + i * 4) ∧ (rq i).ok w) := hrow
  obtain ⟨W0, hW0⟩ : ∃ W0, w.alloc (.cells #[.int .i64 k, .int .i64 g, .int .i64 p, .slice ad len cap] 24) = W0 := ⟨_, rfl⟩
  have B0 : Hid (Below w.heap.size w W0) := (show Hid _ from (by rw [← hW0]; exact (Below.refl _ _).alloc (Nat.le_refl _) _))
  have X0 : Hid (Blk W0 w.heap.size #[.int .i64 k, .int .i64 g, .int .i64 p, .slice ad len cap] 24) := (show Hid _ from (by rw [← hW0]; exact heap_alloc_last w _))
  have HW : Hid (∀ W, Below W0.heap.size W0 W → Below w.heap.size w W) := (show Hid _ from fun W hW => B0.out.trans (hW.mono B0.out.size))
  have HNEW := new_up 60 W0 (by omega) (by omega)
  have HN : Hid (∀ x w1, NewPost (sst0 (newD (60 : Int).toNat)) W0 x w1 → ∃ B, x = .returned (.tuple #[.pointer (some ⟨B, 0, none⟩), .int .i64 0]) ∧ Hid (KX W0 w1 B (sst0 (newD 60)) [])) := (show Hid _ from fun x w1 hx => by
    obtain ⟨F, B, rfl, hu, hF, hb⟩ := hx
    exact ⟨B, rfl, (show Hid _ from ⟨⟨F, hu, hF, fun b i hi => (by cases hi)⟩, fun i hi => (by cases hi), hb⟩)⟩)
  clear hr1 hb1 h1 h3 hrow
  unfold maxLen at hcl
  go_enter Tryz.func7, Tryz.ntmps7
  go_wp2_with (first
    | (go_at_call 24; (with_reducible_and_instances (refine HNEW.mono ?_)); intro x w1 hx; obtain ⟨B, rfl, K1⟩ := HN.out _ _ hx; clear hx HN HNEW)
    | (go_at_call 19; refine (num5_any _ _).mono ?_; rintro x w' ⟨rfl, hw'⟩; obtain rfl := hw'.symm)
    | (go_at_call 23; (with_reducible_and_instances (refine (knows5 w1).mono ?_)); rintro x w2 ⟨rfl, b2⟩; have K2 : Hid (KX W0 w2 B (sst0 (newD 60)) [] ∧ Good (sst0 (newD 60))) := (show Hid _ from ⟨(K1.out.later b2).drop, good_new 60⟩); clear b2 K1))
  go_loopw [9] (fun iv wr => ∃ (i : Nat) (st : SSt), i ≤ n ∧ iv = .int .i64 (i : Int) ∧ Hid (KX W0 wr B st [] ∧ Good st)) (fun iv _ => n - (Go.RowKit.intOf iv).toNat)
  case atStart => exact ⟨0, _, Nat.zero_le _, rfl, K2⟩
  case round =>
    obtain ⟨i, st, hi, rfl, K⟩ := hrel
    by_cases hlt : i < n
    · have hrw : ∃ b off, adl = some ⟨b, off, none⟩ ∧ b < w.heap.size ∧ ∀ i, i < n → (rq i).at w b (off + i * 4) ∧ (rq i).ok w := HROW.out.resolve_left (by omega)
      obtain ⟨b, off, rfl, hb, hat⟩ := hrw
      obtain ⟨hat1, hok1⟩ := hat i hlt
      have BR : Hid (Below w.heap.size w wr) := (show Hid _ from HW.out _ K.out.1.below)
      have d0 : wr.cell? ⟨b, off + i * 4, none⟩ = some (.int .i64 (rq i).k) := (BR.out.cell (p := ⟨b, off + i * 4, none⟩) hb).trans hat1.1
      have d1 : wr.cell? ⟨b, off + i * 4 + 1, none⟩ = some (.int .i64 (rq i).g) := (BR.out.cell (p := ⟨b, off + i * 4 + 1, none⟩) hb).trans hat1.2.1
      have d2 : wr.cell? ⟨b, off + i * 4 + 2, none⟩ = some (.int .i64 (rq i).p) := (BR.out.cell (p := ⟨b, off + i * 4 + 2, none⟩) hb).trans hat1.2.2.1
      have d3 : wr.cell? ⟨b, off + i * 4 + 3, none⟩ = some (.slice (rq i).P.ad (rq i).P.len (rq i).P.cap) := (BR.out.cell (p := ⟨b, off + i * 4 + 3, none⟩) hb).trans hat1.2.2.2
      obtain ⟨zi, bi, hri⟩ : ∃ z b, putReqN (rq i).k (rq i).g (rq i).p (rq i).P.l = (z, b) := ⟨_, _, rfl⟩
      have HRI : Hid (putReqN (rq i).k (rq i).g (rq i).p (rq i).P.l = (zi, bi) ∧ bi.length ≤ 1000000000000000) := (show Hid _ from ⟨hri, by have := putReqN_len (rq i).k (rq i).g (rq i).p (rq i).P.l; rw [hri] at this; simp only at this; omega⟩)
      have HCP := copyRequest_at (rq i).k (rq i).g (rq i).p (rq i).P.ad (rq i).P.len (rq i).P.cap (rq i).P.l wr (hok1.1.later BR.out) (Nat.le_trans hok1.2.1 hok1.2.2)
      have iz : (0 : Int) ≤ (i : Int) := by omega
      have il : (i : Int) < (n : Int) := by omega
      clear hat hat1 hok1 hri
      generalize (rq i).k = ki at *
      generalize (rq i).g = gi at *
      generalize (rq i).p = pi at *
      generalize (rq i).P = Pi at *
      go_wp2_with (first
        | (go_at_call 9; (with_reducible_and_instances (refine HCP.mono ?_)); rintro x wa ⟨qa, rfl, Qa, ba⟩; have KA : Hid (KX W0 wa B st []) := (show Hid _ from (K.out.1.later ba).drop); clear ba HCP d0 d1 d2 d3)
        | (go_at_call 10; (with_reducible_and_instances (refine (putRequest_new HRI.out.1 wa qa Qa.out).mono ?_)); rintro x wb ⟨qb, rfl, Qb, bb⟩; have KB : Hid (KX W0 wb B st []) := (show Hid _ from (KA.out.later bb).drop); clear bb KA Qa)
        | (go_at_call 29; (with_reducible_and_instances (refine (KB.out.ask (q := qb) K.out.2 Qb.out.1 Qb.out.2.1 HRI.out.2).mono ?_)); rintro x wd ⟨r, rfl, R, KD, CD⟩; clear KB Qb R CD))
      go_roundw
      case rel => exact ⟨i + 1, _, by omega, by go_num, (show Hid _ from ⟨KD.out, K.out.2.ask _⟩)⟩
      case measure => simp [Go.RowKit.intOf]; omega
    · have BR : Hid (Below W0.heap.size W0 wr) := (show Hid _ from K.out.1.below)
      obtain ⟨c0, c1, c2, c3⟩ := (X0.out.later BR.out).four
      have ilt : ¬ (i : Int) < (n : Int) := by omega
      go_upto_if 63 with (first
        | (go_at_call 9; (with_reducible_and_instances (refine (copyRequest_at k g p ad len cap l wr (HA.out.1.later (HW.out _ BR.out)) (by omega)).mono ?_)); rintro x wa ⟨qa, rfl, Qa, ba⟩; have KA : Hid (KX W0 wa B st []) := (show Hid _ from (K.out.1.later ba).drop); clear ba c0 c1 c2 c3)
        | (go_at_call 10; (with_reducible_and_instances (refine (putRequest_new HR.out.1 wa qa Qa.out).mono ?_)); rintro x wb ⟨qb, rfl, Qb, bb⟩; have KB : Hid (KX W0 wb B st [(wa.heap.size, wb.heap.size)]) := (show Hid _ from KA.out.later bb); clear bb KA Qa)
        | (go_at_call 19; refine (num5_any _ _).mono ?_; rintro x w' ⟨rfl, hw'⟩; obtain rfl := hw'.symm))
      go_cut [14, 15, 16, 17, 18, 19] (fun _ _ _ _ _ _ wx => ∃ st' : SSt, Hid (KX W0 wx B st' [] ∧ Good st'))
      case first =>
        by_cases hz : z1 = 0
        · subst hz
          obtain ⟨st1, hst1⟩ : ∃ st1, (askN st b1).2 = st1 := ⟨_, rfl⟩
          have GS : Hid (Good st1) := (show Hid _ from (by rw [← hst1]; exact K.out.2.ask b1))
          have HAS := KB.out.ask (q := qb) K.out.2 Qb.out.1 Qb.out.2.1 HR.out.2.1
          have HA2 : Hid (∀ (W : World) (L : List (Nat × Nat)) (q : Part), KX W0 W B st1 L → (q.l = b1 ∧ q.ok W) → q.len ≤ q.cap → Calls Tryz.prog 29 #[.pointer (some ⟨B, 0, none⟩), .slice q.ad q.len q.cap] W fun x w' => ∃ r : Part, x = .returned (.slice r.ad r.len r.cap) ∧ Hid (r.l = (askN st b1).1 ∧ r.ok w' ∧ r.len ≤ r.cap) ∧ Hid (KX W0 w' B st1 L) ∧ Hid (w'.cell? ⟨B, 1, none⟩ = W.cell? ⟨B, 1, none⟩ ∧ W.heap.size ≤ w'.heap.size ∧ ∀ b i, i ∈ L → i.1 ≤ b → b < i.2 → w'.heap[b]? = W.heap[b]?)) := (show Hid _ from fun W X q hK hq hlc => by
            have r := hK.ask GS.out hq hlc HR.out.2.1
            have e := K.out.2.ask2 b1
            rw [hst1] at e
            rw [e, hst1] at r
            exact r)
          have HRP : Hid (∀ W L, KX W0 W B st1 L → ∃ (e t : Nat) (sl : Bool) (dl : List Nat), (askN st b1).1 = frameBs 2 (replyN e t sl.toNat dl) ∧ e ≤ 255 ∧ t ≤ 4096 ∧ dl.length ≤ 65504) := (show Hid _ from fun W X hK => ask_reply K.out.2 b1 (by rw [hst1]; exact hK.ok))
          rw [hst1] at HAS
          generalize (askN st b1).1 = rep at *
          clear hst1
          have QB : Hid (∀ W, wb.heap.size ≤ W.heap.size → (∀ b i, i ∈ [(wa.heap.size, wb.heap.size)] → i.1 ≤ b → b < i.2 → W.heap[b]? = wb.heap[b]?) → qb.l = b1 ∧ qb.ok W) := (show Hid _ from fun W hs hk => ⟨Qb.out.1.1, part_keep Qb.out.1.2 hs (fun b off e h0 => hk b (wa.heap.size, wb.heap.size) (by simp) (Qb.out.2.2 b (by rw [e]; simp [dB])).1 (Qb.out.2.2 b (by rw [e]; simp [dB])).2)⟩)
          go_wp2_with (first
            | (go_at_call 29; (with_reducible_and_instances (refine HAS.mono ?_)); rintro x wc1 ⟨r1, rfl, R1, KC, CC⟩; obtain ⟨e, t, sl, dl, hrp, he, ht, hdl⟩ := HRP.out _ _ KC.out; have HP : Hid (rep = frameBs 2 (replyN e t sl.toNat dl)) := hrp; have Q1 : Hid (qb.l = b1 ∧ qb.ok wc1) := (show Hid _ from QB.out wc1 CC.out.2.1 CC.out.2.2); clear HAS CC hrp)
            | (go_at_call 17; (with_reducible_and_instances (refine (getRep_new r1 e t sl dl wc1 (R1.out.1.trans HP.out) R1.out.2.1 R1.out.2.2 he ht hdl).mono ?_)); rintro x wd1 ⟨g1, o1, n1, c1, rfl, P1, bd⟩; obtain ⟨U1, hU1⟩ : ∃ U, wd1.alloc (.cells #[.int .i64 (e : Int), .int .i64 (t : Int), .bool sl, .slice (some ⟨g1, o1, none⟩) n1 c1] 31) = U := ⟨_, rfl⟩; have D1 : Hid (Below wd1.heap.size wd1 U1 ∧ U1.heap.size = wd1.heap.size + 1) := (show Hid _ from (by rw [← hU1]; exact ⟨(Below.refl _ _).alloc (Nat.le_refl _) _, by simp⟩)); have X1 : Hid (Blk U1 wd1.heap.size #[.int .i64 (e : Int), .int .i64 (t : Int), .bool sl, .slice (some ⟨g1, o1, none⟩) n1 c1] 31) := (show Hid _ from (by rw [← hU1]; exact heap_alloc_last wd1 _)); have BU : Hid (Below wc1.heap.size wc1 U1) := (show Hid _ from bd.trans (D1.out.1.mono bd.size)); have KU : Hid (KX W0 U1 B st1 [(wc1.heap.size, U1.heap.size)]) := (show Hid _ from KC.out.drop.later BU.out); have PU : Hid (Part.ok U1 ⟨some ⟨g1, o1, none⟩, n1, c1, dl⟩ ∧ wc1.heap.size ≤ g1 ∧ wc1.heap.size ≤ wd1.heap.size) := (show Hid _ from ⟨P1.out.1.later D1.out.1, P1.out.2, bd.size⟩); obtain ⟨S1, hS1⟩ := KU.out.ptr; have HS1 : Hid (U1.cell? ⟨B, 1, none⟩ = some (.pointer (some ⟨S1, 0, none⟩))) := hS1; have Q2 : Hid (qb.l = b1 ∧ qb.ok U1) := (show Hid _ from part_la Q1.out BU.out); clear bd P1 hS1 KC R1)
            | (go_at_call 32; (with_reducible_and_instances (refine (KU.out.storeC HS1.out).mono ?_)); rintro x w' ⟨rfl, hw'⟩; obtain rfl := hw'.symm)
            | (go_at_call 19; refine (num5_any _ _).mono ?_; rintro x w' ⟨rfl, hw'⟩; obtain rfl := hw'.symm)
            | (go_at_call 33; (with_reducible_and_instances (refine (KU.out.freeC HS1.out).mono ?_)); rintro x we1 ⟨rfl, be⟩; have KE : Hid (KX W0 we1 B st1 [(U1.heap.size, we1.heap.size), (wc1.heap.size, U1.heap.size)]) := (show Hid _ from KU.out.later be); have CE : Hid (we1.cell? ⟨B, 1, none⟩ = some (.pointer (some ⟨S1, 0, none⟩))) := (show Hid _ from (be.cell (p := ⟨B, 1, none⟩) KU.out.ltB).trans HS1.out); have QE : Hid (qb.l = b1 ∧ qb.ok we1) := (show Hid _ from part_la Q2.out be); have XE : Hid (Blk we1 wd1.heap.size #[.int .i64 (e : Int), .int .i64 (t : Int), .bool sl, .slice (some ⟨g1, o1, none⟩) n1 c1] 31) := (show Hid _ from X1.out.later be); have PE : Hid (Part.ok we1 ⟨some ⟨g1, o1, none⟩, n1, c1, dl⟩) := (show Hid _ from PU.out.1.later be); have SE : Hid (U1.heap.size ≤ we1.heap.size) := (show Hid _ from be.size); clear be)
            | (go_at_call 29; (with_reducible_and_instances (refine (HA2.out we1 _ qb KE.out QE.out Qb.out.2.1).mono ?_)); rintro x wf1 ⟨r2, rfl, R2, KF, CF⟩; have XF : Hid (Blk wf1 wd1.heap.size #[.int .i64 (e : Int), .int .i64 (t : Int), .bool sl, .slice (some ⟨g1, o1, none⟩) n1 c1] 31) := (show Hid _ from (CF.out.2.2 wd1.heap.size (wc1.heap.size, U1.heap.size) (by simp) PU.out.2.2 (by have := D1.out.2; simp only; omega)).trans XE.out); have PF : Hid (Part.ok wf1 ⟨some ⟨g1, o1, none⟩, n1, c1, dl⟩) := (show Hid _ from part_keep PE.out CF.out.2.1 (fun b off e h0 => by cases e; exact CF.out.2.2 g1 (wc1.heap.size, U1.heap.size) (by simp) PU.out.2.1 (part_lt PU.out.1 h0))))
            | (go_at_call 17; (with_reducible_and_instances (refine (getRep_new r2 e t sl dl wf1 (R2.out.1.trans HP.out) R2.out.2.1 R2.out.2.2 he ht hdl).mono ?_)); rintro x wg1 ⟨g2, o2, n2, c2, rfl, P2, bg⟩; obtain ⟨U2, hU2⟩ : ∃ U, wg1.alloc (.cells #[.int .i64 (e : Int), .int .i64 (t : Int), .bool sl, .slice (some ⟨g2, o2, none⟩) n2 c2] 31) = U := ⟨_, rfl⟩; have D2 : Hid (Below wg1.heap.size wg1 U2 ∧ U2.heap.size = wg1.heap.size + 1) := (show Hid _ from (by rw [← hU2]; exact ⟨(Below.refl _ _).alloc (Nat.le_refl _) _, by simp⟩)); have X2 : Hid (Blk U2 wg1.heap.size #[.int .i64 (e : Int), .int .i64 (t : Int), .bool sl, .slice (some ⟨g2, o2, none⟩) n2 c2] 31) := (show Hid _ from (by rw [← hU2]; exact heap_alloc_last wg1 _)); have BV : Hid (Below wf1.heap.size wf1 U2) := (show Hid _ from bg.trans (D2.out.1.mono bg.size)); have KV : Hid (KX W0 U2 B st1 []) := (show Hid _ from (KF.out.later BV.out).drop); have CV : Hid (U2.cell? ⟨B, 1, none⟩ = some (.pointer (some ⟨S1, 0, none⟩))) := (show Hid _ from (BV.out.cell (p := ⟨B, 1, none⟩) KF.out.ltB).trans (CF.out.1.trans CE.out)); have XV : Hid (Blk U2 wd1.heap.size #[.int .i64 (e : Int), .int .i64 (t : Int), .bool sl, .slice (some ⟨g1, o1, none⟩) n1 c1] 31) := (show Hid _ from XF.out.later BV.out); obtain ⟨m0, m1, m2, m3⟩ := X2.out.four; obtain ⟨j0, j1, j2, j3⟩ := XV.out.four; have k2 := conv_any (P2.out.1.later D2.out.1).2.2 n2 c2 P2.out.1.1; have k1 := conv_any (PF.out.later BV.out).2.2 n1 c1 PF.out.1; simp only at k1 k2; generalize bstr dl = tx at *; clear bg P2)
            | (go_at_call 33; (with_reducible_and_instances (refine (KV.out.freeC CV.out).mono ?_)); rintro x wh1 ⟨rfl, bh⟩; have KH : Hid (KX W0 wh1 B st1 []) := (show Hid _ from (KV.out.later bh).drop); obtain ⟨m0', -, -, -⟩ := (X2.out.later bh).four; obtain ⟨j0', -, -, -⟩ := (XV.out.later bh).four; clear bh))
          go_meet
          exact ⟨st1, (show Hid _ from ⟨KH.out, GS.out⟩)⟩
        · have hz' : (z1 == 0) = false := by simpa using hz
          go_wp2_with fail
          go_meet
          exact ⟨st, (show Hid _ from ⟨KB.out.drop, K.out.2⟩)⟩
      case rest =>
      obtain ⟨st', KX'⟩ := hcut
      have HPC : Hid (Part.ok wc ⟨ad3, len3, cap3, l3⟩) := (show Hid _ from HA.out.2.later (HW.out _ KX'.out.1.below))
      have HAS := KX'.out.1.ask (q := ⟨ad3, len3, cap3, l3⟩) KX'.out.2 ⟨rfl, HPC.out⟩ hlc3 HR.out.2.2
      have HRP : Hid (∀ W, KX W0 W B (askN st' l3).2 [] → ∃ (e t : Nat) (sl : Bool) (dl : List Nat), (askN st' l3).1 = frameBs 2 (replyN e t sl.toNat dl) ∧ e ≤ 255 ∧ t ≤ 4096 ∧ dl.length ≤ 65504) := (show Hid _ from fun W hK => ask_reply KX'.out.2 l3 hK.ok)
      generalize (askN st' l3).1 = rep at *
      generalize (askN st' l3).2 = st2 at *
      simp only at HAS
      go_wp2_with (first
        | (go_at_call 29; (with_reducible_and_instances (refine HAS.mono ?_)); rintro x wc1 ⟨r1, rfl, R1, KC, CC⟩; obtain ⟨e, t, sl, dl, hrp, he, ht, hdl⟩ := HRP.out _ KC.out; have HP : Hid (rep = frameBs 2 (replyN e t sl.toNat dl)) := hrp; clear HAS CC hrp)
        | (go_at_call 17; (with_reducible_and_instances (refine (getRep_new r1 e t sl dl wc1 (R1.out.1.trans HP.out) R1.out.2.1 R1.out.2.2 he ht hdl).mono ?_)); rintro x wd1 ⟨g1, o1, n1, c1, rfl, P1, bd⟩; obtain ⟨U1, hU1⟩ : ∃ U, wd1.alloc (.cells #[.int .i64 (e : Int), .int .i64 (t : Int), .bool sl, .slice (some ⟨g1, o1, none⟩) n1 c1] 31) = U := ⟨_, rfl⟩; have D1 : Hid (Below wd1.heap.size wd1 U1 ∧ U1.heap.size = wd1.heap.size + 1) := (show Hid _ from (by rw [← hU1]; exact ⟨(Below.refl _ _).alloc (Nat.le_refl _) _, by simp⟩)); have X1 : Hid (Blk U1 wd1.heap.size #[.int .i64 (e : Int), .int .i64 (t : Int), .bool sl, .slice (some ⟨g1, o1, none⟩) n1 c1] 31) := (show Hid _ from (by rw [← hU1]; exact heap_alloc_last wd1 _)); have KU : Hid (KX W0 U1 B st2 []) := (show Hid _ from (KC.out.later (bd.trans (D1.out.1.mono bd.size))).drop); clear bd P1 KC R1)
        | (go_at_call 19; refine (num5_any _ _).mono ?_; rintro x w' ⟨rfl, hw'⟩; obtain rfl := hw'.symm)
        | (go_at_call 31; (with_reducible_and_instances (refine KU.out.upC.mono ?_)); rintro x w' ⟨rfl, hw'⟩; obtain rfl := hw'.symm))
      go_ret
      exact ⟨rfl, HW.out _ KU.out.below⟩
end Go.Proofs.YtjldflfoncfndaaGreat
