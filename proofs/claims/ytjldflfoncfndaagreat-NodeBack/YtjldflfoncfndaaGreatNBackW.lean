/- The walk of the statement NodeBack: it returns true at every input, and writes nothing that was there. -/
import Derived.Test.YtjldflfoncfndaaGreatNBackN
import Derived.Test.YtjldflfoncfndaaGreatReqWalk
namespace Go.Proofs.YtjldflfoncfndaaGreat
open Go.RowKit Crcm

set_option maxRecDepth 100000 in
set_option maxHeartbeats 8000000 in
theorem back_walk (k g p : Int) (ad : Option Addr) (len cap : Nat) (l : List Nat) (e t : Int) (s : Bool) (ad2 : Option Addr) (len2 cap2 : Nat) (l2 : List Nat) (ad3 : Option Addr) (len3 cap3 : Nat) (l3 : List Nat) (w : World) (h1 : Part.ok w ⟨ad, len, cap, l⟩) (h2 : Part.ok w ⟨ad2, len2, cap2, l2⟩) (h3 : Part.ok w ⟨ad3, len3, cap3, l3⟩) (hlc1 : len ≤ cap) (hc1 : cap ≤ 140737488351232) (hlc2 : len2 ≤ cap2) (hc2 : cap2 ≤ 140737488351232) (hlc3 : len3 ≤ cap3) (hc3 : cap3 ≤ 140737488351232) :
    Calls Tryz.prog 6 #[.agg #[.int .i64 k, .int .i64 g, .int .i64 p, .slice ad len cap], .agg #[.int .i64 e, .int .i64 t, .bool s, .slice ad2 len2 cap2], .slice ad3 len3 cap3] w fun r w' => r = .returned (.bool true) ∧ Below w.heap.size w w' := by
  obtain ⟨z1, b1, hr1⟩ : ∃ z b, putReqN k g p l = (z, b) := ⟨_, _, rfl⟩
  obtain ⟨z2, b2, hr2⟩ : ∃ z b, putRepN e t s l2 = (z, b) := ⟨_, _, rfl⟩
  obtain ⟨z3, rk, rg, rp, rd, hr3⟩ : ∃ re rk rg rp rd, getReqN l3 = ⟨re, rk, rg, rp, rd⟩ := ⟨_, _, _, _, _, rfl⟩
  obtain ⟨z4, re, rt, rs, rf, hr4⟩ : ∃ rz re rt rs rd, getRepN l3 = ⟨rz, re, rt, rs, rd⟩ := ⟨_, _, _, _, _, rfl⟩
  have hl3 : l3.length = len3 := h3.1
  have HR : Hid (putReqN k g p l = (z1, b1) ∧ putRepN e t s l2 = (z2, b2) ∧ getReqN l3 = ⟨z3, rk, rg, rp, rd⟩ ∧ getRepN l3 = ⟨z4, re, rt, rs, rf⟩ ∧ l3.length ≤ 1000000000000000) := (show Hid _ from ⟨hr1, hr2, hr3, hr4, by omega⟩)
  have HZ1 : Hid (z1 = 0 → getReqN b1 = ⟨0, k, g, p, l⟩ ∧ b1.length ≤ 65545) := (show Hid _ from fun hz => back_req (hz ▸ hr1))
  have HZ2 : Hid (z2 = 0 → getRepN b2 = ⟨0, e, t, s, l2⟩ ∧ b2.length ≤ 65545) := (show Hid _ from fun hz => back_rep (hz ▸ hr2))
  have HZ3 : Hid (z3 = 0 → putReqN rk rg rp rd = (0, l3)) := (show Hid _ from fun hz => forth_req h3.2.2.1 (hz ▸ hr3))
  have HZ4 : Hid (z4 = 0 → putRepN re rt rs rf = (0, l3)) := (show Hid _ from fun hz => forth_rep h3.2.2.1 (hz ▸ hr4))
  have HA : Hid (Part.ok w ⟨ad, len, cap, l⟩ ∧ Part.ok w ⟨ad2, len2, cap2, l2⟩ ∧ Part.ok w ⟨ad3, len3, cap3, l3⟩) := (show Hid _ from ⟨h1, h2, h3⟩)
  obtain ⟨W0, hW0⟩ : ∃ W0, (w.alloc (.cells #[.int .i64 k, .int .i64 g, .int .i64 p, .slice ad len cap] 24)).alloc (.cells #[.int .i64 e, .int .i64 t, .bool s, .slice ad2 len2 cap2] 26) = W0 := ⟨_, rfl⟩
  have sz : W0.heap.size = w.heap.size + 2 := by rw [← hW0]; simp
  have B0 : Hid (Below w.heap.size w W0) := (show Hid _ from (by rw [← hW0]; exact ((Below.refl _ _).alloc (Nat.le_refl _) _).alloc (by simp) _))
  have X0 : Hid (Blk W0 w.heap.size #[.int .i64 k, .int .i64 g, .int .i64 p, .slice ad len cap] 24) := (show Hid _ from (by rw [← hW0]; exact Blk.later (heap_alloc_last w _) ((Below.refl _ _).alloc (Nat.le_refl _) _)))
  have y0 : Blk W0 (w.heap.size + 1) #[.int .i64 e, .int .i64 t, .bool s, .slice ad2 len2 cap2] 26 := by
    rw [← hW0]
    have h : Blk ((w.alloc (.cells #[.int .i64 k, .int .i64 g, .int .i64 p, .slice ad len cap] 24)).alloc (.cells #[.int .i64 e, .int .i64 t, .bool s, .slice ad2 len2 cap2] 26)) (w.alloc (.cells #[.int .i64 k, .int .i64 g, .int .i64 p, .slice ad len cap] 24)).heap.size #[.int .i64 e, .int .i64 t, .bool s, .slice ad2 len2 cap2] 26 := heap_alloc_last _ _
    simpa using h
  have Y0 : Hid (Blk W0 (w.heap.size + 1) #[.int .i64 e, .int .i64 t, .bool s, .slice ad2 len2 cap2] 26) := y0
  obtain ⟨c0, c1, c2, c3⟩ := X0.out.four
  clear hr1 hr2 hr3 hr4 h1 h2 h3 y0
  go_enter Tryz.func6, Tryz.ntmps6
  go_wp2_with (first
    | (go_at_call 9; (with_reducible_and_instances (refine (copyRequest_at k g p ad len cap l W0 (HA.out.1.later B0.out) (by omega)).mono ?_)); rintro x wa ⟨qa, rfl, Qa, ba⟩; have E1 : Hid (Below W0.heap.size W0 wa) := ba; clear ba c0 c1 c2 c3)
    | (go_at_call 10; (with_reducible_and_instances (refine (putRequest_at HR.out.1 wa qa Qa.out).mono ?_)); rintro x w1 ⟨q1, rfl, Q1, ba⟩; have E2 : Hid (Below W0.heap.size W0 w1) := (show Hid _ from E1.out.trans (ba.mono E1.out.size)); clear ba E1 Qa))
  have T1 : Hid (w.heap.size + 2 ≤ w1.heap.size) := (show Hid _ from Nat.le_trans (Nat.le_of_eq sz.symm) E2.out.size)
  have HS : Hid (∀ W : World, Below w1.heap.size w1 W → W.cell? ⟨w.heap.size + 1, 0, none⟩ = some (.int .i64 e) ∧ W.cell? ⟨w.heap.size + 1, 1, none⟩ = some (.int .i64 t) ∧ W.cell? ⟨w.heap.size + 1, 2, none⟩ = some (.bool s) ∧ W.cell? ⟨w.heap.size + 1, 3, none⟩ = some (.slice ad2 len2 cap2)) := (show Hid _ from fun W hW => ((Y0.out.later E2.out).later hW).four)
  have C0 : Hid (Below w1.heap.size w1 w1.drew) := (show Hid _ from (Below.refl _ _).drew)
  have CA : Hid (Below w1.heap.size w1 (w1.alloc (.cells #[] 5)).drew) := (show Hid _ from alloc_drew (Below.refl _ _) (Nat.le_refl _) _)
  have OE : Hid ((w1.alloc (.cells #[] 5)).drew.ownsRow w1.heap.size 5 1 (.slice (some ⟨w1.heap.size, 0, none⟩) 0 0) 0 (([] : List Nat).map bv)) := (show Hid _ from own_kept (empty_own w1 w1.heap.size (Nat.le_refl _)) (Below.refl _ _).drew)
  have HW : Hid (∀ W : World, Below w1.heap.size w1 W → Below w.heap.size w W) := (show Hid _ from fun W hW => (B0.out.trans (E2.out.mono B0.out.size)).trans (hW.mono (B0.out.trans (E2.out.mono B0.out.size)).size))
  have SZ : Hid (w1.heap.size ≤ (w1.alloc (.cells #[] 5)).drew.heap.size) := (show Hid _ from CA.out.size)
  go_region_held3 (fun W => W.cell? ⟨w.heap.size + 1, 0, none⟩ = some (.int .i64 e) ∧ W.cell? ⟨w.heap.size + 1, 1, none⟩ = some (.int .i64 t) ∧ W.cell? ⟨w.heap.size + 1, 2, none⟩ = some (.bool s) ∧ W.cell? ⟨w.heap.size + 1, 3, none⟩ = some (.slice ad2 len2 cap2))
    (first | exact HS.out _ C0.out | exact HS.out _ CA.out | exact HS.out _ C1.out | exact HS.out _ C2.out)
    (first
      | (refine step_app_any (by rfl) _ _ (by rfl) w1.heap.size (.slice (some ⟨w1.heap.size, 0, none⟩) 0 0) 0 [] (by rfl) OE.out ad2 len2 cap2 l2 (by rfl) HA.out.2.1.1 HA.out.2.1.2.1 (HA.out.2.1.later (HW.out _ CA.out)).2.2 (by omega) SZ.out ?_; intro v2 wb hown2 hg2; obtain ⟨qb, rfl, hqb, hcb⟩ := own_partc (L := l2) (n := len2) (by simpa using hown2) HA.out.2.1.2.2.1 HA.out.2.1.1; have Qb : Hid (qb.l = l2 ∧ qb.ok wb) := hqb; have C1 : Hid (Below w1.heap.size w1 wb) := (show Hid _ from grown_below CA.out OE.out hg2 SZ.out); clear hown2 hg2 hqb hcb)
      | (go_at_call 12; (with_reducible_and_instances (refine (putReply_at HR.out.2.1 wb qb Qb.out).mono ?_)); rintro x w2 ⟨q2, rfl, Q2, bb⟩; have C2 : Hid (Below w1.heap.size w1 w2) := (show Hid _ from C1.out.trans (bb.mono C1.out.size)); clear bb))
  have B2 : Hid (Below w.heap.size w w2) := (show Hid _ from HW.out _ C2.out)
  have X2 : Hid (Blk w2 w.heap.size #[.int .i64 k, .int .i64 g, .int .i64 p, .slice ad len cap] 24) := (show Hid _ from (X0.out.later E2.out).later C2.out)
  have Y2 : Hid (Blk w2 (w.heap.size + 1) #[.int .i64 e, .int .i64 t, .bool s, .slice ad2 len2 cap2] 26) := (show Hid _ from (Y0.out.later E2.out).later C2.out)
  have QQ : Hid ((q1.l = b1 ∧ q1.ok w2) ∧ (q2.l = b2 ∧ q2.ok w2) ∧ q1.len ≤ q1.cap ∧ q2.len ≤ q2.cap) := (show Hid _ from ⟨part_la ⟨Q1.out.1, Q1.out.2.1⟩ C2.out, ⟨Q2.out.1, Q2.out.2.1⟩, Q1.out.2.2, Q2.out.2.2⟩)
  clear OE CA C0 C1 SZ Qb C2 HS HW E2 T1 X0 Y0 B0 Q1 Q2
  -- the first question
  go_upto_if 45 with (go_at_call 19; refine (num5_any _ _).mono ?_; rintro x w' ⟨rfl, hw'⟩; obtain rfl := hw'.symm)
  go_cut [11, 12] (fun _ _ wx => Hid (Below w2.heap.size w2 wx))
  case first =>
    by_cases hz : z1 = 0
    · subst hz
      obtain ⟨hg, hgl⟩ := HZ1.out rfl
      have HG := getRequest_at hg (by omega) w2 q1 QQ.out.1 QQ.out.2.2.1
      clear hg
      go_wp2_with (first
        | (go_at_call 15; refine HG.mono ?_; rintro x w3 ⟨q3, rfl, Q3, b3⟩; obtain ⟨W3, hW3⟩ : ∃ W3, w3.alloc (.cells #[.int .i64 k, .int .i64 g, .int .i64 p, .slice q3.ad q3.len q3.cap] 27) = W3 := ⟨_, rfl⟩; have D3 : Hid (Below w3.heap.size w3 W3) := (show Hid _ from (by rw [← hW3]; exact (Below.refl _ _).alloc (Nat.le_refl _) _)); have X3 : Hid (Blk W3 w3.heap.size #[.int .i64 k, .int .i64 g, .int .i64 p, .slice q3.ad q3.len q3.cap] 27) := (show Hid _ from (by rw [← hW3]; exact heap_alloc_last w3 _)); have F3 : Hid (Below w2.heap.size w2 W3) := (show Hid _ from b3.trans (D3.out.mono b3.size)); have Q3b : Hid (q3.l = l ∧ q3.ok W3) := (show Hid _ from part_la Q3.out D3.out); have Xr : Hid (Blk W3 w.heap.size #[.int .i64 k, .int .i64 g, .int .i64 p, .slice ad len cap] 24) := (show Hid _ from X2.out.later F3.out); obtain ⟨u0, u1, u2, u3⟩ := X3.out.four; obtain ⟨v0, v1, v2, v3⟩ := Xr.out.four; clear b3 Q3 HG)
        | (go_at_call 19; refine (num5_any _ _).mono ?_; rintro x w' ⟨rfl, hw'⟩; obtain rfl := hw'.symm)
        | (go_at_call 20; (with_reducible_and_instances (refine (sameRequest_at k g p q3 ⟨ad, len, cap, l⟩ l W3 Q3b.out ⟨rfl, HA.out.1.later (B2.out.trans (F3.out.mono B2.out.size))⟩).mono ?_)); rintro x w4 ⟨rfl, b4⟩; have F4 : Hid (Below w2.heap.size w2 w4) := (show Hid _ from F3.out.trans (b4.mono F3.out.size)); clear b4))
      go_meet
      exact F4
    · have hz' : (z1 == 0) = false := by simpa using hz
      go_wp2_with fail
      go_meet
      exact (show Hid _ from Below.refl _ _)
  case rest =>
  generalize wc = wd at *
  have F5 : Hid (Below w2.heap.size w2 wd) := hcut
  clear hcut HZ1
  -- the second question
  go_upto_if 62 with (go_at_call 19; refine (num5_any _ _).mono ?_; rintro x w' ⟨rfl, hw'⟩; obtain rfl := hw'.symm)
  go_cut [13, 14] (fun _ _ wx => Hid (Below w2.heap.size w2 wx))
  case first =>
    by_cases hz : z2 = 0
    · subst hz
      obtain ⟨hg, hgl⟩ := HZ2.out rfl
      have HG := getReply_at hg (by omega) wd q2 (part_la QQ.out.2.1 F5.out) QQ.out.2.2.2
      clear hg
      go_wp2_with (first
        | (go_at_call 17; refine HG.mono ?_; rintro x w3 ⟨q3, rfl, Q3, b3⟩; obtain ⟨W3, hW3⟩ : ∃ W3, w3.alloc (.cells #[.int .i64 e, .int .i64 t, .bool s, .slice q3.ad q3.len q3.cap] 31) = W3 := ⟨_, rfl⟩; have D3 : Hid (Below w3.heap.size w3 W3) := (show Hid _ from (by rw [← hW3]; exact (Below.refl _ _).alloc (Nat.le_refl _) _)); have X3 : Hid (Blk W3 w3.heap.size #[.int .i64 e, .int .i64 t, .bool s, .slice q3.ad q3.len q3.cap] 31) := (show Hid _ from (by rw [← hW3]; exact heap_alloc_last w3 _)); have F3 : Hid (Below w2.heap.size w2 W3) := (show Hid _ from F5.out.trans ((b3.trans (D3.out.mono b3.size)).mono F5.out.size)); have Q3b : Hid (q3.l = l2 ∧ q3.ok W3) := (show Hid _ from part_la Q3.out D3.out); have Xr : Hid (Blk W3 (w.heap.size + 1) #[.int .i64 e, .int .i64 t, .bool s, .slice ad2 len2 cap2] 26) := (show Hid _ from Y2.out.later F3.out); obtain ⟨u0, u1, u2, u3⟩ := X3.out.four; obtain ⟨v0, v1, v2, v3⟩ := Xr.out.four; clear b3 Q3 HG)
        | (go_at_call 19; refine (num5_any _ _).mono ?_; rintro x w' ⟨rfl, hw'⟩; obtain rfl := hw'.symm)
        | (go_at_call 21; (with_reducible_and_instances (refine (sameReply_at e t s q3 ⟨ad2, len2, cap2, l2⟩ l2 W3 Q3b.out ⟨rfl, HA.out.2.1.later (B2.out.trans (F3.out.mono B2.out.size))⟩).mono ?_)); rintro x w4 ⟨rfl, b4⟩; have F4 : Hid (Below w2.heap.size w2 w4) := (show Hid _ from F3.out.trans (b4.mono F3.out.size)); clear b4))
      go_meet
      exact F4
    · have hz' : (z2 == 0) = false := by simpa using hz
      go_wp2_with fail
      go_meet
      exact F5
  case rest =>
  generalize wc = we at *
  have F6 : Hid (Below w2.heap.size w2 we) := hcut
  clear hcut
  -- the next question
  go_upto_if 84 with (first
    | (go_at_call 15; (with_reducible_and_instances (refine (getRequest_at HR.out.2.2.1 HR.out.2.2.2.2 we ⟨ad3, len3, cap3, l3⟩ ⟨rfl, HA.out.2.2.later (B2.out.trans (F6.out.mono B2.out.size))⟩ hlc3).mono ?_)); rintro x v6w ⟨q6, rfl, Q6, b6⟩; obtain ⟨V6, hV6⟩ : ∃ V, v6w.alloc (.cells #[.int .i64 rk, .int .i64 rg, .int .i64 rp, .slice q6.ad q6.len q6.cap] 27) = V := ⟨_, rfl⟩; have D6 : Hid (Below v6w.heap.size v6w V6) := (show Hid _ from (by rw [← hV6]; exact (Below.refl _ _).alloc (Nat.le_refl _) _)); have X6 : Hid (Blk V6 v6w.heap.size #[.int .i64 rk, .int .i64 rg, .int .i64 rp, .slice q6.ad q6.len q6.cap] 27) := (show Hid _ from (by rw [← hV6]; exact heap_alloc_last v6w _)); have G6 : Hid (Below w2.heap.size w2 V6) := (show Hid _ from F6.out.trans ((b6.trans (D6.out.mono b6.size)).mono F6.out.size)); have P6 : Hid (q6.l = rd ∧ q6.ok V6) := (show Hid _ from part_la Q6.out D6.out); clear b6 Q6 D6)
    | (go_at_call 19; refine (num5_any _ _).mono ?_; rintro x w' ⟨rfl, hw'⟩; obtain rfl := hw'.symm))
  go_cut [17, 18] (fun _ _ wx => Hid (Below w2.heap.size w2 wx))
  case first =>
    by_cases hz : z3 = 0
    · subst hz
      have HG := putRequest_at (HZ3.out rfl) V6 q6 P6.out
      obtain ⟨u0, u1, u2, u3⟩ := X6.out.four
      go_wp2_with (first
        | (go_at_call 10; refine HG.mono ?_; rintro x w4 ⟨q4, rfl, Q4, b4⟩; have F4 : Hid (Below w2.heap.size w2 w4) := (show Hid _ from G6.out.trans (b4.mono G6.out.size)); have ky := conv_part ⟨Q4.out.1, Q4.out.2.1⟩; have kb := conv_any (HA.out.2.2.later (B2.out.trans (F4.out.mono B2.out.size))).2.2 len3 cap3 HA.out.2.2.1; simp only at kb; generalize bstr l3 = tx at *; clear b4 HG)
        | (go_at_call 19; refine (num5_any _ _).mono ?_; rintro x w' ⟨rfl, hw'⟩; obtain rfl := hw'.symm))
      go_meet
      exact F4
    · have hz' : (z3 == 0) = false := by simpa using hz
      go_wp2_with fail
      go_meet
      exact G6
  case rest =>
  generalize wc = wf at *
  have F7 : Hid (Below w2.heap.size w2 wf) := hcut
  clear hcut
  -- the next question
  go_upto_if 107 with (first
    | (go_at_call 17; (with_reducible_and_instances (refine (getReply_at HR.out.2.2.2.1 HR.out.2.2.2.2 wf ⟨ad3, len3, cap3, l3⟩ ⟨rfl, HA.out.2.2.later (B2.out.trans (F7.out.mono B2.out.size))⟩ hlc3).mono ?_)); rintro x v7w ⟨q7, rfl, Q7, b7⟩; obtain ⟨V7, hV7⟩ : ∃ V, v7w.alloc (.cells #[.int .i64 re, .int .i64 rt, .bool rs, .slice q7.ad q7.len q7.cap] 31) = V := ⟨_, rfl⟩; have D7 : Hid (Below v7w.heap.size v7w V7) := (show Hid _ from (by rw [← hV7]; exact (Below.refl _ _).alloc (Nat.le_refl _) _)); have X7 : Hid (Blk V7 v7w.heap.size #[.int .i64 re, .int .i64 rt, .bool rs, .slice q7.ad q7.len q7.cap] 31) := (show Hid _ from (by rw [← hV7]; exact heap_alloc_last v7w _)); have G7 : Hid (Below w2.heap.size w2 V7) := (show Hid _ from F7.out.trans ((b7.trans (D7.out.mono b7.size)).mono F7.out.size)); have P7 : Hid (q7.l = rf ∧ q7.ok V7) := (show Hid _ from part_la Q7.out D7.out); clear b7 Q7 D7)
    | (go_at_call 19; refine (num5_any _ _).mono ?_; rintro x w' ⟨rfl, hw'⟩; obtain rfl := hw'.symm))
  go_cut [20, 21] (fun _ _ wx => Hid (Below w2.heap.size w2 wx))
  case first =>
    by_cases hz : z4 = 0
    · subst hz
      have HG := putReply_at (HZ4.out rfl) V7 q7 P7.out
      obtain ⟨u0, u1, u2, u3⟩ := X7.out.four
      go_wp2_with (first
        | (go_at_call 12; refine HG.mono ?_; rintro x w4 ⟨q4, rfl, Q4, b4⟩; have F4 : Hid (Below w2.heap.size w2 w4) := (show Hid _ from G7.out.trans (b4.mono G7.out.size)); have ky := conv_part ⟨Q4.out.1, Q4.out.2.1⟩; have kb := conv_any (HA.out.2.2.later (B2.out.trans (F4.out.mono B2.out.size))).2.2 len3 cap3 HA.out.2.2.1; simp only at kb; generalize bstr l3 = tx at *; clear b4 HG)
        | (go_at_call 19; refine (num5_any _ _).mono ?_; rintro x w' ⟨rfl, hw'⟩; obtain rfl := hw'.symm))
      go_meet
      exact F4
    · have hz' : (z4 == 0) = false := by simpa using hz
      go_wp2_with fail
      go_meet
      exact G7
  case rest =>
  generalize wc = wg at *
  have F8 : Hid (Below w2.heap.size w2 wg) := hcut
  clear hcut
  go_wp2_with (go_at_call 23; refine (knows5 wg).mono ?_; rintro x w9 ⟨rfl, b9⟩)
  go_ret
  exact ⟨rfl, B2.out.trans ((F8.out.trans (b9.mono F8.out.size)).mono B2.out.size)⟩
end Go.Proofs.YtjldflfoncfndaaGreat
