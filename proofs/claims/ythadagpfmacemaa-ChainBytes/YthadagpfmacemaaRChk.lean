/- Check of the document's package. -/
import Derived.Test.YthadagpfmacemaaCTrim
import Derived.Test.YthadagpfmacemaaLRCheck
import Derived.BigQuiet
namespace Go.Proofs.Ythadagpfmacemaa
open Go.RowKit
variable {w w' : World} {l : List Pt} {A : Nat → Sl} {ad : Option Addr} {m c : Nat}

/-- What Check answers. -/
def mayN (o t : Int) (l : List Pt) (n : Int) : Int := if mayC o t l n then 0 else 1
theorem mayN_no {o t n : Int} (h : ¬ mayC o t l n) : mayN o t l n = 1 := by unfold mayN; rw [if_neg h]
theorem mayN_ok {o t n : Int} (h : mayC o t l n) : mayN o t l n = 0 := by unfold mayN; rw [if_pos h]
theorem in10_any (n : Int) (w : World) : Calls Try.prog 39 #[.int .i64 n] w fun e w' => e = .returned (.bool (decide (isN n))) ∧ w' = w := by
  rw [isN_dec]
  by_cases h : 0 ≤ n
  · go_enter Try.func39, Try.ntmps39
    go_wp2_with fail
    go_ret
    exact ⟨by simp [h], rfl⟩
  · rw [show decide (0 ≤ n) = false from decide_eq_false h]
    go_enter Try.func39, Try.ntmps39
    go_wp2_with fail
    go_ret
    exact ⟨rfl, rfl⟩
set_option maxRecDepth 100000 in
set_option maxHeartbeats 4000000 in
set_option pp.deepTerms true in
set_option pp.maxSteps 1000000 in
theorem refChk_any (h : CArg w l A ad m c) (o t n : Int) : Calls Try.prog 15 #[.agg #[.int .i64 o, .int .i64 t, .slice ad m c], .int .i64 n] w fun e w' => e = .returned (.int .i64 (mayN o t l n)) ∧ Below w.heap.size w w' := by
  have hl := h.len
  have hm : m ≤ 9223372036854775807 := by have := h.cap; have := h.room; unfold maxLen at this; omega
  have HB0 : Hid (Below w.heap.size w (w.alloc (.cells #[.int .i64 o, .int .i64 t, .slice ad m c] 24))) := hid ((Below.refl _ _).alloc (Nat.le_refl _) _)
  have H := hid h
  have HL := hid hl
  clear h hl
  by_cases a1 : o < 0
  · rw [mayN_no (fun a => by have := a.1.1; omega)]
    go_enter Try.func15, Try.ntmps15
    go_wp2_with fail
    go_ret
    exact ⟨rfl, HB0.out⟩
  have d1 : decide (o < 0) = false := by simpa using a1
  by_cases a2 : 15 < o
  · rw [mayN_no (fun a => by have := a.1.2; omega)]
    go_enter Try.func15, Try.ntmps15
    go_wp2_with fail
    go_ret
    exact ⟨rfl, HB0.out⟩
  have d2 : decide (15 < o) = false := by simpa using a2
  by_cases a3 : isN t
  case neg =>
    rw [mayN_no (fun a => a3 a.2.1.1)]
    have HT : Hid (∀ w, Calls Try.prog 39 #[.int .i64 t] w fun e w' => e = .returned (.bool false) ∧ w' = w) := hid (fun w => by have := in10_any t w; rwa [decide_eq_false a3] at this)
    clear a3
    go_enter Try.func15, Try.ntmps15
    go_wp2_with (go_at_call 39; refine (HT.out _).mono ?_; rintro x w1 ⟨rfl, rfl⟩)
    go_ret
    exact ⟨rfl, HB0.out⟩
  have HT : Hid (∀ w, Calls Try.prog 39 #[.int .i64 t] w fun e w' => e = .returned (.bool true) ∧ w' = w) := hid (fun w => by have := in10_any t w; rwa [decide_eq_true a3] at this)
  have HTN := hid a3
  clear a3
  by_cases a4 : 64 < m
  · rw [mayN_no (fun a => by have := a.2.1.2; have := HL.out; omega)]
    have d4 : decide ((64 : Int) < (m : Int)) = true := by simp; omega
    go_enter Try.func15, Try.ntmps15
    go_wp2_with (go_at_call 39; refine (HT.out _).mono ?_; rintro x w1 ⟨rfl, rfl⟩)
    go_ret
    exact ⟨rfl, HB0.out⟩
  have d4 : decide ((64 : Int) < (m : Int)) = false := by simp; omega
  by_cases a5 : m = 0
  · have hl0 : l.length = 0 := by rw [HL.out, a5]
    by_cases a6 : t = 0
    · rw [mayN_ok ⟨by omega, ⟨HTN.out, by omega⟩, fun i hi => absurd hi (by omega), by unfold trimOk; rw [if_pos hl0]; exact a6⟩]
      subst a6
      subst a5
      clear hl0
      go_enter Try.func15, Try.ntmps15
      go_wp2_with (go_at_call 39; refine (HT.out _).mono ?_; rintro x w1 ⟨rfl, rfl⟩)
      go_loopw [6] (fun i wr => i = .int .i64 0 ∧ wr = w.alloc (.cells #[.int .i64 o, .int .i64 0, .slice ad 0 c] 24)) (fun _ _ => 0)
      case atStart => exact ⟨rfl, rfl⟩
      case round =>
        obtain ⟨rfl, rfl⟩ := hrel
        go_wp2_with fail
        go_quiet (fail)
        go_wp2_with fail
        go_ret
        exact ⟨rfl, below_drewN' HB0.out _⟩
    · rw [mayN_no (fun a => by have := a.2.2.2; unfold trimOk at this; rw [if_pos hl0] at this; exact a6 this)]
      have d6 : (t == 0) = false := by simpa using a6
      subst a5
      clear hl0
      go_enter Try.func15, Try.ntmps15
      go_wp2_with (go_at_call 39; refine (HT.out _).mono ?_; rintro x w1 ⟨rfl, rfl⟩)
      go_ret
      exact ⟨rfl, HB0.out⟩
  have d5 : ((m : Int) == 0) = false := by simp; omega
  obtain ⟨b, off, rfl, hs, -⟩ := H.out.cells (by omega)
  have HC : Hid (∀ X, Below (w.heap.size + 1) (w.alloc (.cells #[.int .i64 o, .int .i64 t, .slice (some ⟨b, off, none⟩) m c] 24)) X → (∀ i, i < m → X.cell? ⟨b, off + i * 3, none⟩ = some (.int .i64 (ptAt l i).first) ∧ X.cell? ⟨b, off + i * 3 + 1, none⟩ = some (.int .i64 (ptAt l i).id) ∧ X.cell? ⟨b, off + i * 3 + 2, none⟩ = some (.slice (A i).ad (A i).m (A i).c)) ∧ (∀ i, i < m → Ints X (ptAt l i).nodes (A i).ad (A i).m (A i).c) ∧ X.cell? ⟨w.heap.size, 1, none⟩ = some (.int .i64 t) ∧ X.cell? ⟨w.heap.size, 2, none⟩ = some (.slice (some ⟨b, off, none⟩) m c)) := hid (fun X hX => by
    have hx : Below w.heap.size w X := HB0.out.trans (hX.mono (by omega))
    have hA := H.out.later hx
    have hk := (show Blk _ w.heap.size #[.int .i64 o, .int .i64 t, .slice (some ⟨b, off, none⟩) m c] 24 from heap_alloc_new w _).later (show Below (w.alloc (.cells #[.int .i64 o, .int .i64 t, .slice (some ⟨b, off, none⟩) m c] 24)).heap.size _ X from by simpa using hX)
    obtain ⟨b', off', e, -, hc⟩ := hA.cells (by omega)
    cases e
    exact ⟨hc, fun i hi => (hA.ints i hi).1, hk.cell 1, hk.cell 2⟩)
  have HRng := hid H.out.rng
  clear H hs
  go_enter Try.func15, Try.ntmps15
  go_wp2_with (go_at_call 39; refine (HT.out _).mono ?_; rintro x w1 ⟨rfl, rfl⟩)
  go_loopw [6] (fun i wr => ∃ j : Nat, j ≤ m ∧ i = .int .i64 j ∧ Hid (partsOk n l j) ∧ Hid (Below (w.heap.size + 1) (w.alloc (.cells #[.int .i64 o, .int .i64 t, .slice (some ⟨b, off, none⟩) m c] 24)) wr)) (fun i _ => m - (intOf i).toNat)
  case atStart => exact ⟨0, by omega, rfl, hid (fun i hi => absurd hi (Nat.not_lt_zero _)), hid (Below.refl _ _)⟩
  case round =>
    obtain ⟨j, hj, rfl, HP, HB⟩ := hrel
    obtain ⟨HR, HN, c1, c2⟩ := HC.out wr HB.out
    by_cases hlt : j < m
    · have hlti : decide (j < m) = true := by simpa using hlt
      have hjl : j < l.length := by rw [HL.out]; exact hlt
      obtain ⟨r0, r1, r2⟩ := HR j hlt
      have HNo : Hid (¬ partOk n l j → mayN o t l n = 1) := hid (fun h => mayN_no (fun a => h (a.2.2.1 j hjl)))
      have HNj := hid (HN j hlt)
      have hrp := HRng.out j hlt
      have HYes0 : Hid (partOk n l j → partsOk n l (j + 1)) := hid (fun h => HP.out.more h)
      have HD : Hid (partOk n l j ↔ isN (ptAt l j).first ∧ checkL (ptAt l j).id (ptAt l j).nodes n = 0 ∧ newId (ptAt l j).id (l.take j) ∧ followsP (ptAt l j).first (l.take j)) := hid Iff.rfl
      have HprevR : Hid (0 < j → 0 ≤ (ptAt l (j - 1)).first ∧ (ptAt l (j - 1)).first < 281474976710656) := hid (fun h => (HP.out (j - 1) (by omega)).1)
      have HF : Hid (∀ x, 0 < j → (followsP x (l.take j) ↔ (ptAt l (j - 1)).first ≤ x ∧ x ≤ (ptAt l (j - 1)).first + 4096)) := hid (fun x h0 => by
        have e : (l.take j).length = j := by rw [List.length_take]; omega
        unfold followsP farF
        rw [e, lastF_take l j h0 (by omega)]
        simp [show j ≠ 0 by omega])
      have HF0 : Hid (∀ x, j = 0 → followsP x (l.take j)) := hid (fun x h0 => Or.inl (by rw [List.length_take, h0]; simp))
      clear HR HN hjl
      generalize hx1 : (ptAt l j).first = x1 at *
      generalize hx2 : (ptAt l j).id = x2 at *
      have HX1 := hid hx1
      have HX2 := hid hx2
      clear hx1 hx2
      have HBp : Hid (Below wr.heap.size wr (wr.alloc (.cells #[.int .i64 x1, .int .i64 x2, .slice (A j).ad (A j).m (A j).c] 65))) := hid ((Below.refl _ _).alloc (Nat.le_refl _) _)
      have HAll : Hid (∀ X, Below (wr.alloc (.cells #[.int .i64 x1, .int .i64 x2, .slice (A j).ad (A j).m (A j).c] 65)).heap.size (wr.alloc (.cells #[.int .i64 x1, .int .i64 x2, .slice (A j).ad (A j).m (A j).c] 65)) X → Hid (∀ Y, Below X.heap.size X Y → (∀ i, i < m → Y.cell? ⟨b, off + i * 3, none⟩ = some (.int .i64 (ptAt l i).first) ∧ Y.cell? ⟨b, off + i * 3 + 1, none⟩ = some (.int .i64 (ptAt l i).id) ∧ Y.cell? ⟨b, off + i * 3 + 2, none⟩ = some (.slice (A i).ad (A i).m (A i).c)) ∧ Y.cell? ⟨w.heap.size, 2, none⟩ = some (.slice (some ⟨b, off, none⟩) m c) ∧ Y.cell? ⟨wr.heap.size, 1, none⟩ = some (.int .i64 x2)) ∧ Hid (∀ Y, Below X.heap.size X Y → Below w.heap.size w Y) ∧ Hid (∀ Y, Below X.heap.size X Y → Below (w.heap.size + 1) (w.alloc (.cells #[.int .i64 o, .int .i64 t, .slice (some ⟨b, off, none⟩) m c] 24)) Y)) := hid (fun X hX => by
        have hw : ∀ Y, Below X.heap.size X Y → Below (w.heap.size + 1) (w.alloc (.cells #[.int .i64 o, .int .i64 t, .slice (some ⟨b, off, none⟩) m c] 24)) Y := fun Y hY => by
          have hsz : w.heap.size + 1 ≤ wr.heap.size := by have := HB.out.size; simpa using this
          have h1 : Below (w.heap.size + 1) (w.alloc (.cells #[.int .i64 o, .int .i64 t, .slice (some ⟨b, off, none⟩) m c] 24)) (wr.alloc (.cells #[.int .i64 x1, .int .i64 x2, .slice (A j).ad (A j).m (A j).c] 65)) := HB.out.trans (HBp.out.mono hsz)
          have h2 : Below (w.heap.size + 1) (w.alloc (.cells #[.int .i64 o, .int .i64 t, .slice (some ⟨b, off, none⟩) m c] 24)) X := h1.trans (hX.mono (by simp; omega))
          exact h2.trans (hY.mono (by have := hX.size; simp at this; omega))
        refine ⟨hid (fun Y hY => ?_), hid (fun Y hY => HB0.out.trans ((hw Y hY).mono (by omega))), hid hw⟩
        obtain ⟨q1, -, -, q2⟩ := HC.out Y (hw Y hY)
        refine ⟨q1, q2, ?_⟩
        exact (((show Blk _ wr.heap.size #[.int .i64 x1, .int .i64 x2, .slice (A j).ad (A j).m (A j).c] 65 from heap_alloc_new wr _).later hX).later hY).cell 1)
      have HV0 : Hid (∀ X, Below (wr.alloc (.cells #[.int .i64 x1, .int .i64 x2, .slice (A j).ad (A j).m (A j).c] 65)).heap.size (wr.alloc (.cells #[.int .i64 x1, .int .i64 x2, .slice (A j).ad (A j).m (A j).c] 65)) X → X.cell? ⟨wr.heap.size, 0, none⟩ = some (.int .i64 x1)) := hid (fun X hX => ((show Blk _ wr.heap.size #[.int .i64 x1, .int .i64 x2, .slice (A j).ad (A j).m (A j).c] 65 from heap_alloc_new wr _).later hX).cell 0)
      have HK := hid (refcheck_any (HNj.out.later HBp.out) x2 n)
      by_cases p1 : isN x1
      case neg =>
        have HIx : Hid (∀ w, Calls Try.prog 39 #[.int .i64 x1] w fun e w' => e = .returned (.bool false) ∧ w' = w) := hid (fun w => by have := in10_any x1 w; rwa [decide_eq_false p1] at this)
        have HI : Hid (mayN o t l n = 1) := hid (HNo.out (fun a => p1 (HD.out.1 a).1))
        have HBE := hid ((HAll.out _ (Below.refl _ _)).2.1.out _ (Below.refl _ _))
        clear p1
        go_wp2_with (go_at_call 39; refine (HIx.out _).mono ?_; rintro x w1 ⟨rfl, rfl⟩)
        go_ret
        rw [HI.out]
        exact ⟨rfl, HBE.out⟩
      have HIx : Hid (∀ w, Calls Try.prog 39 #[.int .i64 x1] w fun e w' => e = .returned (.bool true) ∧ w' = w) := hid (fun w => by have := in10_any x1 w; rwa [decide_eq_true p1] at this)
      have HP1 := hid p1
      have hx1r : 0 ≤ x1 ∧ x1 < 281474976710656 := p1
      clear p1
      by_cases p2 : checkL x2 (ptAt l j).nodes n = 0
      case neg =>
        have HI : Hid (mayN o t l n = 1) := hid (HNo.out (fun a => p2 (HD.out.1 a).2.1))
        have e1 : checkL x2 (ptAt l j).nodes n = 1 := by unfold checkL at p2 ⊢; split at p2 <;> simp_all
        rw [e1] at HK
        clear p2 e1
        go_wp2_with (first | (go_at_call 39; refine (HIx.out _).mono ?_; rintro x w1 ⟨rfl, rfl⟩) | (go_at_call 40; refine HK.out.mono ?_; rintro x w1 ⟨rfl, hb1⟩; obtain ⟨HC1, HBX, HBW⟩ := HAll.out w1 hb1; obtain ⟨HR3, u2, v1⟩ := HC1.out w1 (Below.refl _ _); have v0 := HV0.out w1 hb1; clear hb1))
        go_ret
        rw [HI.out]
        exact ⟨rfl, HBX.out _ (Below.refl _ _)⟩
      rw [p2] at HK
      have HP2 := hid p2
      clear p2
      have HYes : Hid (newId x2 (l.take j) → followsP x1 (l.take j) → partsOk n l (j + 1)) := hid (fun a c => HYes0.out (HD.out.2 ⟨HP1.out, HP2.out, a, c⟩))
      have HNo2 : Hid (¬ newId x2 (l.take j) → ¬ partOk n l j) := hid (fun a c => a (HD.out.1 c).2.2.1)
      have HNo3 : Hid (¬ followsP x1 (l.take j) → ¬ partOk n l j) := hid (fun a c => a (HD.out.1 c).2.2.2)
      clear HD HYes0
      have HNoo := HNo
      clear HNo
      by_cases hj0 : j = 0
      · have HNo : Hid (¬ newId x2 (l.take j) → mayN o t l n = 1) := hid (fun a => HNoo.out (HNo2.out a))
        have HYes2 := HYes
        clear HYes
        have HYes : Hid (newId x2 (l.take j) → partsOk n l (j + 1)) := hid (fun a => HYes2.out a (HF0.out _ hj0))
        have dj : decide (0 < j) = false := by simp; omega
        clear hj0
        clear HF HF0 HprevR HNo2 HNo3 HNoo
        go_wp2_with (first | (go_at_call 39; refine (HIx.out _).mono ?_; rintro x w1 ⟨rfl, rfl⟩) | (go_at_call 40; refine HK.out.mono ?_; rintro x w1 ⟨rfl, hb1⟩; obtain ⟨HC1, HBX, HBW⟩ := HAll.out w1 hb1; obtain ⟨HR3, u2, v1⟩ := HC1.out w1 (Below.refl _ _); have v0 := HV0.out w1 hb1; clear hb1))
        clear HR3
        go_quiet (fail)
        go_wp2_with fail
        go_loopw [8] (fun i wz => ∃ k : Nat, k ≤ j ∧ i = .int .i64 k ∧ Hid (newId x2 (l.take k)) ∧ Hid (Below w1.heap.size w1 wz)) (fun i _ => j - (intOf i).toNat)
        case atStart => exact ⟨0, by omega, rfl, hid (fun q hq => absurd hq (by simp)), hid (below_drewN' (Below.refl _ w1) _)⟩
        case round =>
          obtain ⟨k, hk, rfl, HU, HE⟩ := hrel
          obtain ⟨HR2, t2, s1⟩ := HC1.out _ HE.out
          by_cases hkj : k < j
          · have hkji : decide (k < j) = true := by simpa using hkj
            have s0 := (HR2 k (by omega)).2.1
            have hkm : k < m := by omega
            have HM1 : Hid ((ptAt l k).id = x2 → ¬ newId x2 (l.take j)) := hid (fun e a => a (ptAt l k) (by rw [← ptAt_take l j k hkj]; exact ptAt_mem _ _ (by rw [List.length_take, HL.out]; omega)) e)
            have HQ1 : Hid ((ptAt l k).id ≠ x2 → newId x2 (l.take (k + 1))) := hid (fun e => by
              intro q hq
              rw [take_snocP l k (by rw [HL.out]; omega), List.mem_append] at hq
              rcases hq with hq | hq
              · exact HU.out q hq
              · rw [List.mem_singleton.1 hq]; exact e)
            clear HR2
            generalize (ptAt l k).id = z at *
            by_cases hzy : z = x2
            · subst hzy
              have HI : Hid (mayN o t l n = 1) := hid (HNo.out (HM1.out rfl))
              clear HM1 HQ1
              go_wp2_with fail
              go_quiet (fail)
              go_wp2_with fail
              go_ret
              rw [HI.out]
              exact ⟨rfl, HBX.out _ (below_drewN' HE.out _)⟩
            · have hq : (z == x2) = false := by simpa using hzy
              have HZ := hid (HQ1.out hzy)
              clear HM1 HQ1
              go_wp2_with fail
              go_quiet (fail)
              go_wp2_with fail
              exact ⟨⟨k + 1, by omega, by go_num, HZ, hid (below_drewN' HE.out _)⟩, by simp [intOf]; omega⟩
          · obtain rfl : k = j := by omega
            have hkji : decide (k < k) = false := by simp
            have HG := hid (HYes.out HU.out)
            clear HR2
            go_wp2_with fail
            exact ⟨⟨k + 1, by omega, by go_num, HG, hid (HBW.out _ HE.out)⟩, by simp [intOf]; omega⟩
      · have dj : decide (0 < j) = true := by simp; omega
        have hjp : 0 < j := by omega
        have hix : ((j : Int) - 1).toNat = j - 1 := by omega
        have hyr := HprevR.out (by omega)
        have HF1 := hid (HF.out x1 (by omega))
        have HY0 : Hid (∀ X : World, (∀ i, i < m → X.cell? ⟨b, off + i * 3, none⟩ = some (.int .i64 (ptAt l i).first) ∧ X.cell? ⟨b, off + i * 3 + 1, none⟩ = some (.int .i64 (ptAt l i).id) ∧ X.cell? ⟨b, off + i * 3 + 2, none⟩ = some (.slice (A i).ad (A i).m (A i).c)) → X.cell? ⟨b, off + (j - 1) * 3, none⟩ = some (.int .i64 (ptAt l (j - 1)).first)) := hid (fun X h => (h (j - 1) (by omega)).1)
        clear HF HF0 HprevR
        generalize (ptAt l (j - 1)).first = y at *
        by_cases p3 : x1 < y
        · have HI : Hid (mayN o t l n = 1) := hid (HNoo.out (HNo3.out (fun a => by have := (HF1.out.1 a).1; omega)))
          have d3 : decide (x1 < y) = true := by simpa using p3
          go_wp2_with (first | (go_at_call 39; refine (HIx.out _).mono ?_; rintro x w1 ⟨rfl, rfl⟩) | (go_at_call 40; refine HK.out.mono ?_; rintro x w1 ⟨rfl, hb1⟩; obtain ⟨HC1, HBX, HBW⟩ := HAll.out w1 hb1; obtain ⟨HR3, u2, v1⟩ := HC1.out w1 (Below.refl _ _); have v0 := HV0.out w1 hb1; clear hb1))
          have y0 := HY0.out _ HR3
          clear HR3
          go_quiet (fail)
          go_wp2_with fail
          go_ret
          rw [HI.out]
          exact ⟨rfl, HBX.out _ (below_drewN' (Below.refl _ _) _)⟩
        have d3 : decide (x1 < y) = false := by simpa using p3
        by_cases p4 : y + 4096 < x1
        · have HI : Hid (mayN o t l n = 1) := hid (HNoo.out (HNo3.out (fun a => by have := (HF1.out.1 a).2; omega)))
          have d4 : decide (y + 4096 < x1) = true := by simpa using p4
          go_wp2_with (first | (go_at_call 39; refine (HIx.out _).mono ?_; rintro x w1 ⟨rfl, rfl⟩) | (go_at_call 40; refine HK.out.mono ?_; rintro x w1 ⟨rfl, hb1⟩; obtain ⟨HC1, HBX, HBW⟩ := HAll.out w1 hb1; obtain ⟨HR3, u2, v1⟩ := HC1.out w1 (Below.refl _ _); have v0 := HV0.out w1 hb1; clear hb1))
          have y0 := HY0.out _ HR3
          clear HR3
          go_quiet (fail)
          go_wp2_with fail
          go_ret
          rw [HI.out]
          exact ⟨rfl, HBX.out _ (below_drewN' (Below.refl _ _) _)⟩
        have d4 : decide (y + 4096 < x1) = false := by simpa using p4
        have HNo : Hid (¬ newId x2 (l.take j) → mayN o t l n = 1) := hid (fun a => HNoo.out (HNo2.out a))
        have HYes2 := HYes
        clear HYes
        have HYes : Hid (newId x2 (l.take j) → partsOk n l (j + 1)) := hid (fun a => HYes2.out a (HF1.out.2 ⟨by omega, by omega⟩))
        clear HF1 HNo2 HNo3 HNoo p3 p4
        go_wp2_with (first | (go_at_call 39; refine (HIx.out _).mono ?_; rintro x w1 ⟨rfl, rfl⟩) | (go_at_call 40; refine HK.out.mono ?_; rintro x w1 ⟨rfl, hb1⟩; obtain ⟨HC1, HBX, HBW⟩ := HAll.out w1 hb1; obtain ⟨HR3, u2, v1⟩ := HC1.out w1 (Below.refl _ _); have v0 := HV0.out w1 hb1; clear hb1))
        have y0 := HY0.out _ HR3
        clear HR3
        go_quiet (fail)
        go_wp2_with fail
        go_loopw [8] (fun i wz => ∃ k : Nat, k ≤ j ∧ i = .int .i64 k ∧ Hid (newId x2 (l.take k)) ∧ Hid (Below w1.heap.size w1 wz)) (fun i _ => j - (intOf i).toNat)
        case atStart => exact ⟨0, by omega, rfl, hid (fun q hq => absurd hq (by simp)), hid (below_drewN' (Below.refl _ w1) _)⟩
        case round =>
          obtain ⟨k, hk, rfl, HU, HE⟩ := hrel
          obtain ⟨HR2, t2, s1⟩ := HC1.out _ HE.out
          by_cases hkj : k < j
          · have hkji : decide (k < j) = true := by simpa using hkj
            have s0 := (HR2 k (by omega)).2.1
            have hkm : k < m := by omega
            have HM1 : Hid ((ptAt l k).id = x2 → ¬ newId x2 (l.take j)) := hid (fun e a => a (ptAt l k) (by rw [← ptAt_take l j k hkj]; exact ptAt_mem _ _ (by rw [List.length_take, HL.out]; omega)) e)
            have HQ1 : Hid ((ptAt l k).id ≠ x2 → newId x2 (l.take (k + 1))) := hid (fun e => by
              intro q hq
              rw [take_snocP l k (by rw [HL.out]; omega), List.mem_append] at hq
              rcases hq with hq | hq
              · exact HU.out q hq
              · rw [List.mem_singleton.1 hq]; exact e)
            clear HR2
            generalize (ptAt l k).id = z at *
            by_cases hzy : z = x2
            · subst hzy
              have HI : Hid (mayN o t l n = 1) := hid (HNo.out (HM1.out rfl))
              clear HM1 HQ1
              go_wp2_with fail
              go_quiet (fail)
              go_wp2_with fail
              go_ret
              rw [HI.out]
              exact ⟨rfl, HBX.out _ (below_drewN' HE.out _)⟩
            · have hq : (z == x2) = false := by simpa using hzy
              have HZ := hid (HQ1.out hzy)
              clear HM1 HQ1
              go_wp2_with fail
              go_quiet (fail)
              go_wp2_with fail
              exact ⟨⟨k + 1, by omega, by go_num, HZ, hid (below_drewN' HE.out _)⟩, by simp [intOf]; omega⟩
          · obtain rfl : k = j := by omega
            have hkji : decide (k < k) = false := by simp
            have HG := hid (HYes.out HU.out)
            clear HR2
            go_wp2_with fail
            exact ⟨⟨k + 1, by omega, by go_num, HG, hid (HBW.out _ HE.out)⟩, by simp [intOf]; omega⟩
    · obtain rfl : j = m := by omega
      have hlti : decide (j < j) = false := by simp
      have hlj : l.length = j := HL.out
      have hp : 0 < j := by omega
      have r0 := (HR 0 (by omega)).1
      simp only [Nat.zero_mul, Nat.add_zero] at r0
      have ry := (HR (j - 1) (by omega)).1
      have hix : ((j : Int) - 1).toNat = j - 1 := by omega
      have hyr : 0 ≤ (ptAt l (j - 1)).first ∧ (ptAt l (j - 1)).first < 281474976710656 := (HP.out (j - 1) (by omega)).1
      have htr : 0 ≤ t ∧ t < 281474976710656 := HTN.out
      have dj : decide ((0 : Int) < (j : Int)) = true := by simp; omega
      have HE : Hid (Below w.heap.size w wr) := hid (HB0.out.trans (HB.out.mono (by omega)))
      have HD : Hid (trimOk t l ↔ ¬ (1 < j ∧ (ptAt l 1).first ≤ t) ∧ (ptAt l 0).first ≤ t ∧ t ≤ (ptAt l (j - 1)).first + 4096) := hid (by
        unfold trimOk farF lastF
        rw [hlj, if_neg (by omega), if_neg (by omega), if_neg (by omega)])
      have HOk : Hid (trimOk t l → mayN o t l n = 0) := hid (fun h => mayN_ok ⟨by omega, ⟨HTN.out, by omega⟩, by rw [hlj]; exact HP.out, h⟩)
      have HNok : Hid (¬ trimOk t l → mayN o t l n = 1) := hid (fun h => mayN_no (fun a => h a.2.2.2))
      by_cases e3 : 1 < j
      · have d6 : decide ((1 : Int) < (j : Int)) = true := by simp; omega
        have r1 := (HR 1 e3).1
        simp only [Nat.one_mul] at r1
        clear HR HN hlj
        generalize (ptAt l 0).first = x0 at *
        generalize (ptAt l 1).first = z at *
        generalize (ptAt l (j - 1)).first = y at *
        by_cases e1 : t < x0
        · have HI := hid (HNok.out (fun a => by have := (HD.out.1 a).2.1; omega))
          have d7 : decide (t < x0) = true := by simpa using e1
          clear HD HOk HNok
          go_wp2_with fail
          go_quiet (fail)
          go_wp2_with fail
          go_ret
          rw [HI.out]
          exact ⟨rfl, below_drewN' HE.out _⟩
        have d7 : decide (t < x0) = false := by simpa using e1
        by_cases e2 : y + 4096 < t
        · have HI := hid (HNok.out (fun a => by have := (HD.out.1 a).2.2; omega))
          have d8 : decide (y + 4096 < t) = true := by simpa using e2
          clear HD HOk HNok
          go_wp2_with fail
          go_quiet (fail)
          go_wp2_with fail
          go_ret
          rw [HI.out]
          exact ⟨rfl, below_drewN' HE.out _⟩
        have d8 : decide (y + 4096 < t) = false := by simpa using e2
        by_cases e4 : z ≤ t
        · have HI := hid (HNok.out (fun a => (HD.out.1 a).1 ⟨e3, e4⟩))
          have d9 : decide (z ≤ t) = true := by simpa using e4
          clear HD HOk HNok
          go_wp2_with fail
          go_quiet (fail)
          go_wp2_with fail
          go_ret
          rw [HI.out]
          exact ⟨rfl, below_drewN' HE.out _⟩
        have d9 : decide (z ≤ t) = false := by simpa using e4
        have HI := hid (HOk.out (HD.out.2 ⟨fun a => e4 a.2, by omega, by omega⟩))
        clear HD HOk HNok
        go_wp2_with fail
        go_quiet (fail)
        go_wp2_with fail
        go_ret
        rw [HI.out]
        exact ⟨rfl, below_drewN' HE.out _⟩
      · have d6 : decide ((1 : Int) < (j : Int)) = false := by simp; omega
        clear HR HN hlj
        generalize (ptAt l 0).first = x0 at *
        generalize (ptAt l 1).first = z at *
        generalize (ptAt l (j - 1)).first = y at *
        by_cases e1 : t < x0
        · have HI := hid (HNok.out (fun a => by have := (HD.out.1 a).2.1; omega))
          have d7 : decide (t < x0) = true := by simpa using e1
          clear HD HOk HNok
          go_wp2_with fail
          go_quiet (fail)
          go_wp2_with fail
          go_ret
          rw [HI.out]
          exact ⟨rfl, below_drewN' HE.out _⟩
        have d7 : decide (t < x0) = false := by simpa using e1
        by_cases e2 : y + 4096 < t
        · have HI := hid (HNok.out (fun a => by have := (HD.out.1 a).2.2; omega))
          have d8 : decide (y + 4096 < t) = true := by simpa using e2
          clear HD HOk HNok
          go_wp2_with fail
          go_quiet (fail)
          go_wp2_with fail
          go_ret
          rw [HI.out]
          exact ⟨rfl, below_drewN' HE.out _⟩
        have d8 : decide (y + 4096 < t) = false := by simpa using e2
        have HI := hid (HOk.out (HD.out.2 ⟨fun a => e3 a.1, by omega, by omega⟩))
        clear HD HOk HNok
        go_wp2_with fail
        go_quiet (fail)
        go_wp2_with fail
        go_ret
        rw [HI.out]
        exact ⟨rfl, below_drewN' HE.out _⟩
end Go.Proofs.Ythadagpfmacemaa
