/- The walk of ProducerOnce (by genponce.py). -/
import Derived.Test.YtobaeiicacpbnaaPOnceM
import Derived.Test.YtobaeiicacpbnaaPOps
import Derived.Test.YtobaeiicacpbnaaPKnows
import Derived.Test.YtobaeiicacpbnaaCopied
namespace Go.Proofs.Ytobaeiicacpbnaa
open Go.RowKit Go.Shelf

theorem check_few {b : Bat} (h : checkN b = 0) : b.recs.length ≤ 64 := by
  unfold checkN at h
  split at h
  · split at h
    · rename_i hm
      simp only [Bool.and_eq_true] at hm
      have h1 := hm.1
      unfold manyOk at h1
      split at h1
      · have : b.recs.length = 0 := by simpa using h1
        omega
      · simp only [Bool.and_eq_true, decide_eq_true_eq] at h1
        exact h1.2
    · cases h
  · cases h
/-- A table beside the two maps of ProducerOnce. -/
structure OW (w : World) (t M M1 M2 n : Nat) (T : Tb) (P : Int → Int) (N : Int → Int → Int) (W : World) : Prop where
  tab : TPic W t M n T
  top : MapP W M1 n P
  nxt : MapN W M2 n N
  inv : OnI T P N
  below : Below w.heap.size w W
  apart : M ≠ M1 ∧ M ≠ M2 ∧ M1 ≠ M2 ∧ t ≠ M1 ∧ t ≠ M2 ∧ w.heap.size ≤ M ∧ w.heap.size ≤ M1 ∧ w.heap.size ≤ M2
variable {w W W' : World} {t M M1 M2 n : Nat} {T : Tb} {P : Int → Int} {N : Int → Int → Int}
theorem OW.later (h : OW w t M M1 M2 n T P N W) (hb : Below W.heap.size W W') : OW w t M M1 M2 n T P N W' := ⟨h.tab.later hb, h.top.keep (hb.block _ h.top.lt), h.nxt.keep (hb.block _ h.nxt.lt), h.inv, h.below.trans (hb.mono h.below.size), h.apart⟩
theorem OW.mono (h : OW w t M M1 M2 n T P N W) {m : Nat} (hm : n ≤ m) : OW w t M M1 M2 m T P N W := ⟨h.tab.mono hm, h.top.mono hm, h.nxt.mono hm, h.inv, h.below, h.apart⟩
set_option maxRecDepth 20000 in
set_option maxHeartbeats 4000000 in
theorem once_walk (ad : Option Addr) (len cap : Nat) (f : Nat → OpP) (w : World) (ho : OpsP w f ad len) (hm : len * 80 ≤ 140737488351232) :
    Calls Try.prog 5 #[.slice ad len cap] w fun x w' => x = .returned (.bool true) ∧ Below w.heap.size w w' := by
  have HO := hid ho
  have hmm : ∀ (t : TypeId) (w : World), (Instr.makeMap t none).run Try.prog w = .ok (.map (some w.heap.size)) (w.alloc (.map #[] 0)) := fun t w => run_makeMap _ w
  clear ho
  go_enter Try.func5, Try.ntmps5
  go_wp2_with (first
    | (go_at_call 9; refine (New_any _).mono ?_; rintro x w1 ⟨rfl, hp1, hb1⟩)
    | (go_at_call 10; refine (knows12 _).mono ?_; rintro x w0 ⟨rfl, hb0⟩; have HP0 := hid (hp1.later hb0); have HB0 := hid (hb1.trans (hb0.mono hb1.size)); have hs0 : w.heap.size + 2 ≤ w0.heap.size := (by have := (hp1.later hb0).lt.1; omega); clear hp1 hb1 hb0))
  have hN0 : MapN (w0.alloc (.map #[] 0)) w0.heap.size 0 (fun _ _ => 0) := ⟨_, MapF.empty (heap_alloc_new w0 (.map #[] 0)), fun p e _ _ => rfl⟩
  have hb01 : Below w0.heap.size w0 (w0.alloc (.map #[] 0)) := (Below.refl _ _).alloc (Nat.le_refl _) _
  have hb02 : Below (w0.alloc (.map #[] 0)).heap.size (w0.alloc (.map #[] 0)) ((w0.alloc (.map #[] 0)).alloc (.map #[] 0)) := (Below.refl _ _).alloc (Nat.le_refl _) _
  have hP0 : MapP ((w0.alloc (.map #[] 0)).alloc (.map #[] 0)) (w0.heap.size + 1) 0 (fun _ => 0) := ⟨_, MapF.empty (by have h := heap_alloc_new (w0.alloc (.map #[] 0)) (.map #[] 0); rw [show (w0.alloc (.map #[] 0)).heap.size = w0.heap.size + 1 by simp] at h; exact h), fun p _ => rfl⟩
  have HW0 : Hid (OW w (w.heap.size + 1) w.heap.size (w0.heap.size + 1) w0.heap.size 0 tb0 (fun _ => 0) (fun _ _ => 0) ((w0.alloc (.map #[] 0)).alloc (.map #[] 0))) := by
    refine ⟨(HP0.out.later hb01).later hb02, hP0, hN0.keep (hb02.block _ (by simp)), onI0, (HB0.out.trans (hb01.mono HB0.out.size)).trans (hb02.mono (Nat.le_trans HB0.out.size hb01.size)), by omega, by omega, by omega, by omega, by omega, by omega, by omega, by omega⟩
  clear hN0 hb01 hb02 hP0 HP0 HB0
  generalize (w0.alloc (.map #[] 0)).alloc (.map #[] 0) = WS at *
  generalize hM1 : w0.heap.size + 1 = M1 at *
  generalize hM2 : w0.heap.size = M2 at *
  generalize ht : w.heap.size + 1 = t at *
  obtain ⟨M, hM⟩ : ∃ M, w.heap.size = M := ⟨_, rfl⟩
  have HW1 : Hid (OW w t M M1 M2 0 tb0 (fun _ => 0) (fun _ _ => 0) WS) := by rw [← hM]; exact HW0.out
  clear HW0 hM1 hM2 ht hM hs0
  go_loopw [6, 7] (fun o i wr => ∃ (j : Nat) (T : Tb) (P : Int → Int) (N : Int → Int → Int) (x : Nat), j ≤ len ∧ i = .int .i64 (j : Int) ∧ o = .int .i64 (x : Int) ∧ x ≤ 64 * j ∧ Hid (OW w t M M1 M2 j T P N wr)) (fun _ i _ => len - (intOf i).toNat)
  case atStart => exact ⟨0, _, _, _, 0, by omega, rfl, rfl, by omega, HW1⟩
  case round =>
    obtain ⟨j, T, P, N, x, hj, rfl, rfl, hx, HE0⟩ := hrel
    clear HW1
    by_cases hjl : j < len
    · obtain ⟨b, off, rfl, hbl, hc⟩ := HO.out.resolve_left (by omega)
      obtain ⟨hcell, hok⟩ := hc j hjl
      clear hc
      have hop : ∀ i, i < 8 → wr.cell? ⟨b, off + j * 8 + i, none⟩ = (opP (f j))[i]? := fun i hi => by rw [HE0.out.below.cell (p := ⟨b, off + j * 8 + i, none⟩) hbl]; exact hcell i hi
      have hoB : OpP.ok (f j) wr := ⟨⟨hok.arg.1, hok.arg.2, hok.arg.3, hok.arg.4, ?_, hok.arg.6⟩, hok.size⟩
      rotate_left
      · rcases hok.arg.row with h0 | ⟨g, o2, e2, hg, hcc⟩
        · exact Or.inl h0
        · refine Or.inr ⟨g, o2, e2, Nat.lt_of_lt_of_le hg HE0.out.below.size, fun i hi => ?_⟩
          rw [HE0.out.below.cell (p := ⟨g, o2 + i * 3, none⟩) hg, HE0.out.below.cell (p := ⟨g, o2 + i * 3 + 1, none⟩) hg, HE0.out.below.cell (p := ⟨g, o2 + i * 3 + 2, none⟩) hg]
          exact hcc i hi
      generalize f j = z at *
      obtain ⟨nt, k, p, e, q, tx, rs, adr, lenr, capr, ofs⟩ := z
      have c0 : wr.cell? ⟨b, off + j * 8 + 1, none⟩ = some (.int .i64 k) := hop 1 (by omega)
      have c1 : wr.cell? ⟨b, off + j * 8 + 1 + 1, none⟩ = some (.int .i64 p) := hop 2 (by omega)
      have c2 : wr.cell? ⟨b, off + j * 8 + 1 + 2, none⟩ = some (.int .i64 e) := hop 3 (by omega)
      have c3 : wr.cell? ⟨b, off + j * 8 + 1 + 3, none⟩ = some (.int .i64 q) := hop 4 (by omega)
      have c4 : wr.cell? ⟨b, off + j * 8 + 1 + 4, none⟩ = some (.bool tx) := hop 5 (by omega)
      have c5 : wr.cell? ⟨b, off + j * 8 + 1 + 5, none⟩ = some (.slice adr lenr capr) := hop 6 (by omega)
      have HCo := hid (copied_any k p e q tx rs adr lenr capr wr hoB.arg hoB.size)
      have HL : Hid (rs.length = lenr) := hoB.arg.len_eq
      clear hcell hop hok hoB hbl
      go_wp2_with (first
        | (go_at_call 21; (with_reducible_and_instances (refine HCo.out.mono ?_)); rintro y w2 ⟨ad2, cap2, rfl, hba2, hb2⟩; have HA2 := hid hba2; have HE2 := hid (HE0.out.later hb2); have hwr2 := hb2.size; clear hba2 hb2))
      obtain ⟨W3, hW3⟩ : ∃ W3, w2.alloc (.cells #[.int .i64 k, .int .i64 p, .int .i64 e, .int .i64 q, .bool tx, .slice ad2 lenr cap2] 33) = W3 := ⟨_, rfl⟩
      have b3 : Below w2.heap.size w2 W3 := by rw [← hW3]; exact (Below.refl _ _).alloc (Nat.le_refl _) _
      have HX3 : Hid (BBox W3 w2.heap.size k p e q tx (.slice ad2 lenr cap2)) := by rw [← hW3]; exact BBox.new w2 k p e q tx _
      have HA3 := hid (HA2.out.later b3)
      have HE3 := hid (HE2.out.later b3)
      obtain ⟨x0, d0, e0, hd⟩ : ∃ x0 d0 e0, decN T ⟨k, p, e, q, tx, rs⟩ = (x0, d0, e0) := ⟨_, _, _, rfl⟩
      have hD := hid (Decide_any HE3.out.tab k p e q tx rs ad2 lenr cap2 HA3.out)
      rw [hd] at hD
      unfold decV at hD
      have hl2 : w2.heap.size < W3.heap.size := HX3.out.lt
      rw [hW3]
      clear b3 hW3 HE2 HA2 HCo c0 c1 c2 c3 c4 c5
      by_cases he : e0 = 0
      rotate_left
      · have he2 : (e0 == 0) = false := by simpa using he
        clear hd
        go_wp2_with (first
          | (go_at_call 17; (with_reducible_and_instances (refine hD.out.mono ?_)); rintro y w4 ⟨rfl, hb4⟩; have HE4 := hid (HE3.out.later hb4); clear hb4)
          | (go_at_call 15; refine (num12_any _ _).mono ?_; rintro y w9 ⟨rfl, hw9⟩; obtain rfl := hw9.symm))
        go_roundw
        case rel => exact ⟨j + 1, T, P, N, x, by omega, by go_num, rfl, by omega, hid (HE4.out.mono (by omega))⟩
        case measure => simp [intOf]; omega
      subst he
      cases d0 with
      | true =>
        clear hd
        go_wp2_with (first
          | (go_at_call 17; (with_reducible_and_instances (refine hD.out.mono ?_)); rintro y w4 ⟨rfl, hb4⟩; have HE4 := hid (HE3.out.later hb4); clear hb4)
          | (go_at_call 15; refine (num12_any _ _).mono ?_; rintro y w9 ⟨rfl, hw9⟩; obtain rfl := hw9.symm))
        go_roundw
        case rel => exact ⟨j + 1, T, P, N, x, by omega, by go_num, rfl, by omega, hid (HE4.out.mono (by omega))⟩
        case measure => simp [intOf]; omega
      | false =>
      by_cases hpn : p < 0
      · have hpn2 : decide (p < 0) = true := by simpa using hpn
        clear hd
        go_wp2_with (first
          | (go_at_call 17; (with_reducible_and_instances (refine hD.out.mono ?_)); rintro y w4 ⟨rfl, hb4⟩; have HE4 := hid (HE3.out.later hb4); have g1 := (HX3.out.later hb4).c1; clear hb4)
          | (go_at_call 15; refine (num12_any _ _).mono ?_; rintro y w9 ⟨rfl, hw9⟩; obtain rfl := hw9.symm))
        go_roundw
        case rel => exact ⟨j + 1, T, P, N, x, by omega, by go_num, rfl, by omega, hid (HE4.out.mono (by omega))⟩
        case measure => simp [intOf]; omega
      have hpn2 : decide (p < 0) = false := by simpa using hpn
      have hm1 : p ≠ -1 := by omega
      have hck := dec_check hd
      have hpr := check_prod hck
      have hep := check_epoch hck hm1
      have hfew := check_few hck
      have hsq := check_seq hck
      simp only at hpr hep hfew hsq
      rw [HL.out] at hfew
      have hInP : In64 p := ⟨by omega, by omega⟩
      have hInE : In64 e := ⟨by omega, by omega⟩
      have hfe := dec_fence hd hm1
      simp only at hfe
      have hno := note_ok (o := (x : Int)) hd hm1 (by omega) (by omega)
      have hPp : P p = (T.get p).epoch := HE0.out.inv.top p
      have hfe2 : decide (e < P p) = false := by simp; omega
      have HSeq := hid (fun hk => HE0.out.inv.seq hd hm1 hk)
      have HRec := hid (fun hk => HE0.out.inv.records (o := (x : Int)) hd hm1 hk)
      have HMar := hid (fun hk => HE0.out.inv.marker (b := ⟨k, p, e, q, tx, rs⟩) (o := (x : Int)) hfe hk)
      have hjm : j < maxLen := by unfold maxLen; omega
      have HHp := hid hInP
      have HHe := hid hInE
      have HNo := hid hno
      clear hd hm1 hck hpr hep hpn hfe hno hPp hInP hInE
      go_wp2_with (first
        | (go_at_call 17; (with_reducible_and_instances (refine hD.out.mono ?_)); rintro y w4 ⟨rfl, hb4⟩; have HE4 := hid (HE3.out.later hb4); have HA4 := hid (HA3.out.later hb4); have HX4 := hid (HX3.out.later hb4); have g0 := HX4.out.c0; have g1 := HX4.out.c1; have g2 := HX4.out.c2; have g3 := HX4.out.c3; have g4 := HX4.out.c4; have g5 := HX4.out.c5; have hlk := HE4.out.top.look HHp.out; have hl4 := HX4.out.lt; clear hb4)
        | (go_at_call 15; refine (num12_any _ _).mono ?_; rintro y w9 ⟨rfl, hw9⟩; obtain rfl := hw9.symm))
      have hNt := hid (Note_any HE4.out.tab hjm k p e q tx rs ad2 lenr cap2 (x : Int) HA4.out)
      rw [HNo.out] at hNt
      obtain ⟨T', hT'⟩ : ∃ T', T.set p (notS (T.get p) ⟨k, p, e, q, tx, rs⟩ (x : Int)) = T' := ⟨_, rfl⟩
      have hNt2 : Hid (Calls Try.prog 19 #[.pointer (some ⟨t, 0, none⟩), .agg #[.int .i64 k, .int .i64 p, .int .i64 e, .int .i64 q, .bool tx, .slice ad2 lenr cap2], .int .i64 (x : Int)] w4 fun y w' => y = .returned (.int .i64 0) ∧ TPic w' t M (j + 1) T' ∧ Chg [M] w4 w') := by rw [← hT']; exact hNt.out
      have HMar2 : Hid (k ≠ 1 → OnI T' (updP P p e) N) := fun hk => hT' ▸ HMar.out hk
      have HRec2 : Hid (k = 1 → OnI T' (updP P p e) (updN N p e (q + (lenr : Int)))) := fun hk => by have h := HRec.out hk; simp only [HL.out] at h; exact hT' ▸ h
      have HSq2 : Hid (k = 1 → N p e = q) := fun hk => (HSeq.out hk).symm
      have HLn : Hid (k = 1 → q + (lenr : Int) ≤ 2147483648 ∧ 0 ≤ q) := fun hk => by
        have h := plain_len (b := ⟨k, p, e, q, tx, rs⟩) hk
        rw [h] at hsq
        simp only [HL.out] at hsq
        omega
      have hM4 := HE4.out.tab.lt.2
      have hM14 := HE4.out.top.lt
      have hM24 := HE4.out.nxt.lt
      obtain ⟨q1, q2, q3, q4, q5, q6, q7, q8⟩ := HE4.out.apart
      have HSt : Hid (∀ w5, TPic w5 t M (j + 1) T' → Chg [M] w4 w5 → ∃ W6, (Instr.mapUpdate 55 (.map (some M1)) (.int .i64 p) (.int .i64 e)).run Try.prog w5 = .ok () W6 ∧ TPic W6 t M (j + 1) T' ∧ MapP W6 M1 (j + 1) (updP P p e) ∧ MapN W6 M2 j N ∧ Chg [M, M1] w4 W6) := fun w5 ht5 hc5 => by
        obtain ⟨W6, hr, hP6, hc6⟩ := (HE4.out.top.keep (hc5.block M1 hM14 (by simp; omega))).store hjm HHp.out e
        have hc56 : Chg [M, M1] w4 W6 := (hc5.mono (G := [M, M1]) (by simp)).trans hc6 (fun k hk => Or.inl (by simp at hk; simp [hk]))
        exact ⟨W6, hr, ht5.chg hc6 (by simp; omega) (by simp; omega), hP6, HE4.out.nxt.keep (hc56.block M2 hM24 (by simp; omega)), hc56⟩
      have HBl : Hid (w2.heap.size ≠ M ∧ w2.heap.size ≠ M1) := by
        have h1 := HE0.out.tab.lt.2
        have h2 := HE0.out.top.lt
        have h3 : wr.heap.size ≤ w2.heap.size := hwr2
        exact ⟨by omega, by omega⟩
      have HB2 : Hid (w2.heap.size ≠ M2) := by have h1 := HE0.out.nxt.lt; have h3 : wr.heap.size ≤ w2.heap.size := hwr2; exact (show w2.heap.size ≠ M2 by omega)
      have hBel4 := hid HE4.out.below
      clear hNt hT' hlk HE3 HA3 HX3 hD
      by_cases hk : k = 1
      rotate_left
      · have hk2 : (k == 1) = false := by simpa using hk
        have HI := hid (HMar2.out hk)
        clear hk HSeq HRec HMar HMar2 HRec2 HSq2
        go_wp2_with (first
          | (go_at_call 19; (with_reducible_and_instances (refine hNt2.out.mono ?_)); rintro y w5 ⟨rfl, ht5, hc5⟩; have HX5 := hid (HX4.out.chg hc5 (by simp; exact HBl.out.1)); have g0 := HX5.out.c0; have g1 := HX5.out.c1; have g2 := HX5.out.c2; obtain ⟨W6, hup, ht6, hP6, hN6, hc6⟩ := HSt.out w5 ht5 hc5; have HX6 := hid (HX4.out.chg hc6 (by simp; exact HBl.out)); have y0 := HX6.out.c0; have y1 := HX6.out.c1; have y2 := HX6.out.c2; have HT6 := hid ht6; have HP6 := hid hP6; have HN6 := hid hN6; have HC6 := hid hc6; clear ht5 hc5 ht6 hP6 hN6 hc6)
          | (go_at_call 15; refine (num12_any _ _).mono ?_; rintro y w9 ⟨rfl, hw9⟩; obtain rfl := hw9.symm))
        exact ⟨⟨j + 1, T', updP P p e, N, x, by omega, by go_num, rfl, by omega, hid ⟨HT6.out, HP6.out, HN6.out.mono (by omega), HI.out, hBel4.out.trans (HC6.out.below (N := w.heap.size) (fun g hg => by simp at hg; omega) hBel4.out.size), q1, q2, q3, q4, q5, q6, q7, q8⟩⟩, by simp [intOf]; omega⟩
      subst hk
      have HI := hid (HRec2.out rfl)
      have hNq := HSq2.out rfl
      obtain ⟨hov, hq0⟩ := HLn.out rfl
      clear HSeq HRec HMar HMar2 HRec2 HSq2 HLn hsq
      go_wp2_with (first
        | (go_at_call 19; (with_reducible_and_instances (refine hNt2.out.mono ?_)); rintro y w5 ⟨rfl, ht5, hc5⟩; have HX5 := hid (HX4.out.chg hc5 (by simp; exact HBl.out.1)); have g0 := HX5.out.c0; have g1 := HX5.out.c1; have g2 := HX5.out.c2; obtain ⟨W6, hup, ht6, hP6, hN6, hc6⟩ := HSt.out w5 ht5 hc5; have HX6 := hid (HX4.out.chg hc6 (by simp; exact HBl.out)); have y0 := HX6.out.c0; have y1 := HX6.out.c1; have y2 := HX6.out.c2; have HT6 := hid ht6; have HP6 := hid hP6; have HN6 := hid hN6; have HC6 := hid hc6; clear ht5 hc5 ht6 hP6 hN6 hc6)
        | (go_at_call 15; refine (num12_any _ _).mono ?_; rintro y w9 ⟨rfl, hw9⟩; obtain rfl := hw9.symm))
      have hM6l := HT6.out.lt.2
      have hM26 := HN6.out.lt
      have hw6 : w4.heap.size ≤ W6.heap.size := HC6.out.size
      obtain ⟨W7, hW7⟩ : ∃ W7, W6.alloc (.cells #[.int .i64 p, .int .i64 e] TA2) = W7 := ⟨_, rfl⟩
      have b7 : Below W6.heap.size W6 W7 := by rw [← hW7]; exact (Below.refl _ _).alloc (Nat.le_refl _) _
      have HK7 : Hid (Blk W7 W6.heap.size #[.int .i64 p, .int .i64 e] TA2) := by rw [← hW7]; exact heap_alloc_new W6 _
      have HX7 := hid (HX6.out.later b7)
      have HN7 := hid (HN6.out.keep (b7.block _ hM26))
      have HS20 : Hid (∀ W, Below W7.heap.size W7 W → (W.cell? ⟨w2.heap.size, 3, none⟩ = some (.int .i64 q)) ∧ W.cell? ⟨W6.heap.size, 0, none⟩ = some (.int .i64 p) ∧ W.cell? ⟨W6.heap.size, 1, none⟩ = some (.int .i64 e) ∧ (Instr.lookup 54 (.map (some M2)) (.agg #[.int .i64 p, .int .i64 e]) false).run Try.prog W = .ok (.int .i64 q) W) := fun W hW => by
        refine ⟨(HX7.out.later hW).c3, (HK7.out.later hW).cell 0, (HK7.out.later hW).cell 1, ?_⟩
        have h := (HN7.out.keep (hW.block _ HN7.out.lt)).look HHp.out HHe.out
        rw [hNq] at h
        exact h
      rw [hW7]
      have HB7 := hid b7
      have lk7 : W6.heap.size < W7.heap.size := HK7.out.lt
      clear hW7 b7 y0 y1 y2 hup g0 g1 g2
      refine wp_region_held_drew (S := fun W => (W.cell? ⟨w2.heap.size, 3, none⟩ = some (.int .i64 q)) ∧ W.cell? ⟨W6.heap.size, 0, none⟩ = some (.int .i64 p) ∧ W.cell? ⟨W6.heap.size, 1, none⟩ = some (.int .i64 e) ∧ (Instr.lookup 54 (.map (some M2)) (.agg #[.int .i64 p, .int .i64 e]) false).run Try.prog W = .ok (.int .i64 q) W) (by kernel_rfl) (HS20.out _ (Below.refl _ _).drew) (fun hHeld => ?_)
      refine wpAnyH_take (i := 0) (oi := { dst := some 78, op := Op.fieldAddr 33 (Operand.tmp 8) 3, type := 0, pos := "law.go:166", after := #[], guard := none }) (v := ?_) rfl (by kernel_rfl) (by kernel_rfl) (by kernel_rfl) (fun _ _ _ h => h) (Or.inl ⟨by rfl, ?_⟩) hHeld ?_
      rotate_left
      · intro w hSw; (try dsimp only at hSw); go_simp; try with_reducible rfl
      try simp only [Act.put, List.setIfInBounds_toArray, List.set_cons_zero, List.set_cons_succ]
      refine wpAnyH_take (i := 1) (oi := { dst := some 79, op := Op.load 3 (Operand.tmp 78), type := 3, pos := "law.go:166", after := #[{ on := 0, ground := Ground.data }], guard := none }) (v := ?_) rfl (by kernel_rfl) (by kernel_rfl) (by kernel_rfl) (fun _ _ _ h => h) (Or.inl ⟨by rfl, ?_⟩) hHeld ?_
      rotate_left
      · intro w hSw; (try dsimp only at hSw); go_simp; try with_reducible rfl
      try simp only [Act.put, List.setIfInBounds_toArray, List.set_cons_zero, List.set_cons_succ]
      refine wpAnyH_take (i := 2) (oi := { dst := some 80, op := Op.move (Operand.tmp 4), type := 54, pos := "law.go:166", after := #[], guard := none }) (v := ?_) rfl (by kernel_rfl) (by kernel_rfl) (by kernel_rfl) (fun _ _ _ h => h) (Or.inl ⟨by rfl, ?_⟩) hHeld ?_
      rotate_left
      · intro w hSw; (try dsimp only at hSw); go_simp; try with_reducible rfl
      try simp only [Act.put, List.setIfInBounds_toArray, List.set_cons_zero, List.set_cons_succ]
      refine wpAnyH_take (i := 3) (oi := { dst := some 81, op := Op.load 57 (Operand.tmp 12), type := 57, pos := "law.go:166", after := #[], guard := none }) (v := ?_) rfl (by kernel_rfl) (by kernel_rfl) (by kernel_rfl) (fun _ _ _ h => h) (Or.inl ⟨by rfl, ?_⟩) hHeld ?_
      rotate_left
      · intro w hSw; (try dsimp only at hSw); go_simp; try with_reducible rfl
      try simp only [Act.put, List.setIfInBounds_toArray, List.set_cons_zero, List.set_cons_succ]
      refine wpAnyH_take (i := 4) (oi := { dst := some 82, op := Op.lookup 54 (Operand.tmp 80) (Operand.tmp 81) false, type := 3, pos := "law.go:166", after := #[{ on := 2, ground := Ground.data }, { on := 3, ground := Ground.data }], guard := none }) (v := ?_) rfl (by kernel_rfl) (by kernel_rfl) (by kernel_rfl) (fun _ _ _ h => h) (Or.inl ⟨by rfl, ?_⟩) hHeld ?_
      rotate_left
      · intro w hSw; (try dsimp only at hSw); go_simp; try with_reducible rfl
      try simp only [Act.put, List.setIfInBounds_toArray, List.set_cons_zero, List.set_cons_succ]
      refine wpAnyH_take (i := 5) (oi := { dst := some 83, op := Op.binOp BinOp.neq 3 (Operand.tmp 79) (Operand.tmp 82) 3, type := 4, pos := "law.go:166", after := #[{ on := 1, ground := Ground.data }, { on := 4, ground := Ground.data }], guard := none }) (v := ?_) rfl (by kernel_rfl) (by kernel_rfl) (by kernel_rfl) (fun _ _ _ h => h) (Or.inl ⟨by rfl, ?_⟩) hHeld ?_
      rotate_left
      · intro w hSw; (try dsimp only at hSw); go_simp; try with_reducible rfl
      try simp only [Act.put, List.setIfInBounds_toArray, List.set_cons_zero, List.set_cons_succ]
      refine wpAnyH_done (by kernel_rfl) ?_ _
      clear hHeld HS20
      go_wp2_with fail
      obtain ⟨V7, hV7⟩ : ∃ V7, W7.drew = V7 := ⟨_, rfl⟩
      have HNd : Hid (MapN V7.drew M2 j N) := by rw [← hV7]; exact HN7.out
      have HXd : Hid (BBox V7 w2.heap.size 1 p e q tx (.slice ad2 lenr cap2)) := by rw [← hV7]; exact HX7.out
      have HKd : Hid (Blk V7 W6.heap.size #[.int .i64 p, .int .i64 e] TA2) := by rw [← hV7]; exact HK7.out
      have HTd : Hid (TPic V7 t M (j + 1) T') := by rw [← hV7]; exact (HT6.out.later HB7.out).later (Below.refl _ _).drew
      have HPd : Hid (MapP V7 M1 (j + 1) (updP P p e)) := by rw [← hV7]; exact HP6.out.keep (HB7.out.block _ HP6.out.lt)
      have HCd : Hid (Below w.heap.size w V7) := by rw [← hV7]; exact ((hBel4.out.trans (HC6.out.below (N := w.heap.size) (fun g hg => by simp at hg; omega) hBel4.out.size)).trans (HB7.out.mono (Nat.le_trans hBel4.out.size hw6))).drew
      have lV7 : W6.heap.size < V7.heap.size := HKd.out.lt
      rw [hV7]
      have hlk2 := HNd.out.look HHp.out HHe.out
      rw [hNq] at hlk2
      obtain ⟨W9, hup, hN9, hc9⟩ := HNd.out.store hjm HHp.out HHe.out (q + (lenr : Int))
      have hxl := HX6.out.lt
      have HS22 : Hid ((V7.drew.cell? ⟨w2.heap.size, 5, none⟩ = some (.slice ad2 lenr cap2)) ∧ V7.drew.cell? ⟨W6.heap.size, 0, none⟩ = some (.int .i64 p) ∧ V7.drew.cell? ⟨W6.heap.size, 1, none⟩ = some (.int .i64 e)) := ⟨HXd.out.c5, HKd.out.cell 0, HKd.out.cell 1⟩
      have HX9 : Hid (BBox W9 w2.heap.size 1 p e q tx (.slice ad2 lenr cap2)) := (hc9.block _ HXd.out.lt (by simp; exact HB2.out)).trans HXd.out
      have HS22b : Hid ((W9.cell? ⟨w2.heap.size, 5, none⟩ = some (.slice ad2 lenr cap2)) ∧ W9.cell? ⟨W6.heap.size, 0, none⟩ = some (.int .i64 p) ∧ W9.cell? ⟨W6.heap.size, 1, none⟩ = some (.int .i64 e)) := ⟨HX9.out.c5, (hc9.cell lV7 (by simp; omega)).trans (HKd.out.cell 0), (hc9.cell lV7 (by simp; omega)).trans (HKd.out.cell 1)⟩
      have hwr3 : IntKind.i64.wrap (q + (lenr : Int)) = q + (lenr : Int) := by rw [IntKind.wrap_i64]; omega
      have HE9 : Hid (OW w t M M1 M2 (j + 1) T' (updP P p e) (updN N p e (q + (lenr : Int))) W9) := by
        have h0 : Chg [M2] V7 W9 := (Chg.drew (Chg.refl [M2] V7)).trans hc9 (fun k hk => Or.inl hk)
        refine ⟨HTd.out.chg h0 (by simp; omega) (by simp; omega), HPd.out.keep (h0.block _ HPd.out.lt (by simp; omega)), hN9, HI.out, HCd.out.trans (h0.below (N := w.heap.size) (fun g hg => by simp at hg; omega) HCd.out.size), q1, q2, q3, q4, q5, q6, q7, q8⟩
      clear hV7 HNd HXd HKd HTd HPd HCd hN9 hc9 HB7 HK7 HX7 HN7 HT6 HP6 HN6 HC6 HX6 HX5 hNq
      refine wp_region_held_drew (S := fun W => (W.cell? ⟨w2.heap.size, 5, none⟩ = some (.slice ad2 lenr cap2)) ∧ W.cell? ⟨W6.heap.size, 0, none⟩ = some (.int .i64 p) ∧ W.cell? ⟨W6.heap.size, 1, none⟩ = some (.int .i64 e)) (by kernel_rfl) (HS22.out) (fun hHeld => ?_)
      refine wpAnyH_take (i := 0) (oi := { dst := some 84, op := Op.move (Operand.tmp 4), type := 54, pos := "law.go:169", after := #[], guard := none }) (v := ?_) rfl (by kernel_rfl) (by kernel_rfl) (by kernel_rfl) (fun _ _ _ h => h) (Or.inl ⟨by rfl, ?_⟩) hHeld ?_
      rotate_left
      · intro w hSw; (try dsimp only at hSw); go_simp; try with_reducible rfl
      try simp only [Act.put, List.setIfInBounds_toArray, List.set_cons_zero, List.set_cons_succ]
      refine wpAnyH_take (i := 1) (oi := { dst := some 85, op := Op.load 57 (Operand.tmp 12), type := 57, pos := "law.go:169", after := #[], guard := none }) (v := ?_) rfl (by kernel_rfl) (by kernel_rfl) (by kernel_rfl) (fun _ _ _ h => h) (Or.inl ⟨by rfl, ?_⟩) hHeld ?_
      rotate_left
      · intro w hSw; (try dsimp only at hSw); go_simp; try with_reducible rfl
      try simp only [Act.put, List.setIfInBounds_toArray, List.set_cons_zero, List.set_cons_succ]
      refine wpAnyH_take (i := 2) (oi := { dst := some 86, op := Op.move (Operand.tmp 4), type := 54, pos := "law.go:169", after := #[], guard := none }) (v := ?_) rfl (by kernel_rfl) (by kernel_rfl) (by kernel_rfl) (fun _ _ _ h => h) (Or.inl ⟨by rfl, ?_⟩) hHeld ?_
      rotate_left
      · intro w hSw; (try dsimp only at hSw); go_simp; try with_reducible rfl
      try simp only [Act.put, List.setIfInBounds_toArray, List.set_cons_zero, List.set_cons_succ]
      refine wpAnyH_take (i := 3) (oi := { dst := some 87, op := Op.load 57 (Operand.tmp 12), type := 57, pos := "law.go:169", after := #[], guard := none }) (v := ?_) rfl (by kernel_rfl) (by kernel_rfl) (by kernel_rfl) (fun _ _ _ h => h) (Or.inl ⟨by rfl, ?_⟩) hHeld ?_
      rotate_left
      · intro w hSw; (try dsimp only at hSw); go_simp; try with_reducible rfl
      try simp only [Act.put, List.setIfInBounds_toArray, List.set_cons_zero, List.set_cons_succ]
      refine wpAnyH_take (i := 5) (oi := { dst := some 89, op := Op.fieldAddr 33 (Operand.tmp 8) 5, type := 0, pos := "law.go:169", after := #[], guard := none }) (v := ?_) rfl (by kernel_rfl) (by kernel_rfl) (by kernel_rfl) (fun _ _ _ h => h) (Or.inl ⟨by rfl, ?_⟩) hHeld ?_
      rotate_left
      · intro w hSw; (try dsimp only at hSw); go_simp; try with_reducible rfl
      try simp only [Act.put, List.setIfInBounds_toArray, List.set_cons_zero, List.set_cons_succ]
      refine wpAnyH_take (i := 6) (oi := { dst := some 90, op := Op.load 31 (Operand.tmp 89), type := 31, pos := "law.go:169", after := #[{ on := 5, ground := Ground.data }], guard := none }) (v := ?_) rfl (by kernel_rfl) (by kernel_rfl) (by kernel_rfl) (fun _ _ _ h => h) (Or.inl ⟨by rfl, ?_⟩) hHeld ?_
      rotate_left
      · intro w hSw; (try dsimp only at hSw); go_simp; try with_reducible rfl
      try simp only [Act.put, List.setIfInBounds_toArray, List.set_cons_zero, List.set_cons_succ]
      refine wpAnyH_take (i := 7) (oi := { dst := some 91, op := Op.call { callee := Callee.builtin Builtin.len, args := #[Operand.tmp 90], argTypes := #[31] }, type := 3, pos := "law.go:169", after := #[{ on := 6, ground := Ground.data }], guard := none }) (v := ?_) rfl (by kernel_rfl) (by kernel_rfl) (by kernel_rfl) (fun _ _ _ h => h) (Or.inl ⟨by rfl, ?_⟩) hHeld ?_
      rotate_left
      · intro w hSw; (try dsimp only at hSw); go_simp; try with_reducible rfl
      try simp only [Act.put, List.setIfInBounds_toArray, List.set_cons_zero, List.set_cons_succ]
      refine wpAnyH_ready (rs := [4]) (by kernel_rfl) (by simp) ?_
      refine AllReadyH.cons rfl (fun K hK => ?_) (AllReadyH.nil)
      go_simp
      refine hK.out _ _ (HS22.out) (fun hHeld => ?_)
      clear hK K
      try simp only [Act.put, List.setIfInBounds_toArray, List.set_cons_zero, List.set_cons_succ]
      refine wpAnyH_take (i := 8) (oi := { dst := some 92, op := Op.binOp BinOp.add 3 (Operand.tmp 88) (Operand.tmp 91) 3, type := 3, pos := "law.go:169", after := #[{ on := 4, ground := Ground.data }, { on := 7, ground := Ground.data }], guard := none }) (v := ?_) rfl (by kernel_rfl) (by kernel_rfl) (by kernel_rfl) (fun _ _ _ h => h) (Or.inl ⟨by rfl, ?_⟩) hHeld ?_
      rotate_left
      · intro w hSw; (try dsimp only at hSw); go_simp; try with_reducible rfl
      try simp only [Act.put, List.setIfInBounds_toArray, List.set_cons_zero, List.set_cons_succ]
      refine wpAnyH_ready (rs := [9]) (by kernel_rfl) (by simp) ?_
      refine AllReadyH.cons rfl (fun K hK => ?_) (AllReadyH.nil)
      go_simp
      refine hK.out _ _ (HS22b.out) (fun hHeld => ?_)
      clear hK K
      try simp only [Act.put, List.setIfInBounds_toArray]
      refine wpAnyH_done (by kernel_rfl) ?_ _
      clear hHeld HS22 HS22b hlk2 hup
      have g5 := HX9.out.c5
      go_wp2_with fail
      exact ⟨⟨j + 1, T', updP P p e, updN N p e (q + (lenr : Int)), x + lenr, by omega, by go_num, by go_num, by omega, HE9⟩, by simp [intOf]; omega⟩
    · obtain rfl : j = len := by omega
      go_wp2_with fail
      go_ret
      exact ⟨rfl, HE0.out.below⟩
end Go.Proofs.Ytobaeiicacpbnaa
