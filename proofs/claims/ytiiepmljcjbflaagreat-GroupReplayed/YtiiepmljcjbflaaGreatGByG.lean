/- GetEvent of package group: whatever the bytes (P1502; by genbyg15.py). -/
import Derived.Test.YtiiepmljcjbflaaGreatPGXB
import Derived.Test.YtiiepmljcjbflaaGreatGIns
import Derived.Test.YtiiepmljcjbflaaGreatUnframe
namespace Go.Proofs.YtiiepmljcjbflaaGreat
open Go.RowKit
variable {w w' : World}

theorem unframe_len (l : List Nat) : (unframeN l 0).2.1.length ≤ l.length := by
  unfold unframeN
  split
  · split
    · show (bodyAt l 0).length ≤ _
      unfold bodyAt
      rw [List.length_take, List.length_drop]
      omega
    · simp
  · simp
theorem own_ltT {base : Nat} {v : Value} {l : List Nat} {a : Option Addr} {m c : Nat} (h : Own w base v l) (e : v = .slice a m c) : ∀ k off, a = some ⟨k, off, none⟩ → k < w.heap.size := by
  intro k off ha
  subst ha
  rcases h.2.2 with ⟨e2, -⟩ | ⟨g, cap, cur, e2, -, hg, -⟩
  · rw [e] at e2; cases e2
  · rw [e] at e2
    injection e2 with e3
    injection e3 with e3
    injection e3 with e3
    subst e3
    exact (Array.getElem?_eq_some_iff.1 hg).1
/-- What GetEvent's work leaves. -/
def Get1Q (l : List Nat) (W : World) (r : Ending) (w' : World) : Prop := ((∃ x : Ev, r = .returned (.agg (evA x)) ∧ x = rdE (unframeN l 0).2.1 ∧ accP l) ∨ (∃ y : Int, r = .panicked (refusal y) ∧ y = 22 ∧ ¬ accP l)) ∧ Below W.heap.size W w'
set_option maxRecDepth 40000 in
set_option maxHeartbeats 2000000 in
theorem get1_any {B0 : Nat} {ad : Option Addr} {len cap : Nat} {l : List Nat} (x0 : Blk w B0 #[.slice ad len cap] 24) (hp : Part.ok w ⟨ad, len, cap, l⟩) (hlc : len ≤ cap) (hm : len ≤ 1000000000000000) : Calls Tryz.prog 32 #[.pointer (some ⟨B0, 0, none⟩)] w (Get1Q l w) := by
  have hlen : l.length = len := hp.1
  have hBl : B0 < w.heap.size := x0.lt
  obtain ⟨W0, hW0⟩ : ∃ W0, w.alloc (.cells evZA TEv) = W0 := ⟨_, rfl⟩
  have b0 : Below w.heap.size w W0 := by rw [← hW0]; exact (Below.refl _ _).alloc (Nat.le_refl _) _
  have z0 : Blk W0 w.heap.size evZA TEv := by rw [← hW0]; exact heap_alloc_new w _
  have HU := hid (unframe_any ad len cap l 0 W0 (hp.later b0) hlc hm (by omega))
  have hul := unframe_len l
  have e0 : W0.cell? ⟨B0, 0, none⟩ = some (.slice ad len cap) := (x0.later b0).cell 0
  have HE : Hid (∀ W, Below W0.heap.size W0 W → W.cell? ⟨B0, 0, none⟩ = some (.slice ad len cap)) := fun W hW => ((x0.later b0).later hW).cell 0
  obtain ⟨ACC, hACC⟩ : ∃ P : Prop, accP l = P := ⟨_, rfl⟩
  have hacc : ACC ↔ ((unframeN l 0).2.2.2 = 0 ∧ (unframeN l 0).1 = 32 ∧ (unframeN l 0).2.2.1 = l.length ∧ rs9 (unframeN l 0).2.1 = (((unframeN l 0).2.1.length : Int), false) ∧ (rdE (unframeN l 0).2.1).may) := by rw [← hACC]; exact Iff.rfl
  show Calls Tryz.prog 32 #[.pointer (some ⟨B0, 0, none⟩)] w fun r w' => ((∃ x : Ev, r = .returned (.agg (evA x)) ∧ x = rdE (unframeN l 0).2.1 ∧ accP l) ∨ (∃ y : Int, r = .panicked (refusal y) ∧ y = 22 ∧ ¬ accP l)) ∧ Below w.heap.size w w'
  rw [hACC]
  rw [hlen] at hacc
  obtain ⟨uk, ub, ut, ue, hu⟩ : ∃ uk ub ut ue, unframeN l 0 = (uk, ub, ut, ue) := ⟨_, _, _, _, rfl⟩
  rw [hu] at HU hacc hul ⊢
  dsimp only at HU hacc hul ⊢
  have HAcc := hid hacc
  obtain ⟨m1, hm1⟩ : ∃ m1, ub.length = m1 := ⟨_, rfl⟩
  have HM1 := hid hm1
  have hmb : m1 ≤ 1000000000000000 := by omega
  have HB0 := hid b0
  have HZ := hid z0
  have hfin : Hid (∀ W1, Below W0.heap.size W0 W1 → Below w.heap.size w W1) := fun W1 h1 => HB0.out.trans (h1.mono HB0.out.size)
  clear hp b0 z0 hu hlen hul hm1 hacc hACC x0
  by_cases he : ue = 0
  · subst he
    by_cases hk : uk = 32
    · subst hk
      by_cases ht : ut = (len : Int)
      · subst ht
        obtain ⟨x, hx⟩ : ∃ x, rdE ub = x := ⟨_, rfl⟩
        obtain ⟨pt, fl, hs⟩ : ∃ pt fl, rs9 ub = (pt, fl) := ⟨_, _, rfl⟩
        rw [hx, hs, HM1.out] at HAcc
        rw [hx]
        have HEv : Hid (∀ W, Below W0.heap.size W0 W → ∀ a1 c1, Part.ok W ⟨a1, m1, c1, ub⟩ → m1 ≤ c1 → (∀ k off, a1 = some ⟨k, off, none⟩ → k < W.heap.size) → Calls Tryz.prog 35 #[.pointer (some ⟨W.heap.size, 0, none⟩)] (W.alloc (.cells #[.slice a1 m1 c1, .int .i64 0] TRd)) fun e w' => ((e = .returned (.agg (evA x)) ∧ RdB w' W.heap.size a1 m1 c1 (pt, fl)) ∨ (e = .panicked (refusal 22) ∧ fl = true)) ∧ Chg [W.heap.size] (W.alloc (.cells #[.slice a1 m1 c1, .int .i64 0] TRd)) w') := fun W hW a1 c1 hq hc hlt => by
          have hb : Below W.heap.size W (W.alloc (.cells #[.slice a1 m1 c1, .int .i64 0] TRd)) := (Below.refl _ _).alloc (Nat.le_refl _) _
          have h := event_rd (l := ub) (w := W.alloc (.cells #[.slice a1 m1 c1, .int .i64 0] TRd)) (b := W.heap.size) (a := a1) (n := m1) (c := c1) ⟨heap_alloc_new W _, rfl⟩ (hq.later hb) hc hmb (fun k off e => by have := hlt k off e; omega)
          rw [hx, hs] at h
          exact h
        have HMay := hid (fun W => insistEvent_any x 22 W)
        obtain ⟨kd, nm, ge, pa, of, pr, ep, nw, ys⟩ := x
        obtain ⟨tn, htn⟩ : ∃ tn, nmS nm = tn := ⟨_, rfl⟩
        have HTn := hid htn
        have hEvA : evA ⟨kd, nm, ge, pa, of, pr, ep, nw, ys⟩ = #[.int .i64 kd, .string tn, .int .i64 ge, .int .i64 pa, .int .i64 of, .int .i64 pr, .int .i64 ep, .int .i64 nw, .bool ys] := by rw [← htn]
        rw [hEvA] at HEv HMay
        have HEA := hid hEvA
        obtain ⟨mb, hmb2⟩ : ∃ mb, decide (Ev.may ⟨kd, nm, ge, pa, of, pr, ep, nw, ys⟩) = mb := ⟨_, rfl⟩
        rw [hmb2] at HMay
        have HMb := hid hmb2
        have HMa : Hid (∀ (r : Ending) (Y w6 : World), r = insC mb 22 ∧ Below Y.heap.size Y w6 → (mb = true ∧ r = .returned (.tuple #[]) ∨ mb = false ∧ r = .panicked (refusal 22)) ∧ Below Y.heap.size Y w6) := hid (fun r Y w6 hh => ⟨by rw [hh.1]; unfold insC; cases mb <;> simp, hh.2⟩)
        clear hx hs hEvA htn hmb2
        by_cases hpt : pt = (m1 : Int)
        · subst hpt
          cases mb with
          | false =>
            go_enter Tryz.func32, Tryz.ntmps32
            go_wp2_with (first
              | (go_at_call 33; (with_reducible_and_instances (refine HU.out.mono ?_)); rintro r w1 ⟨v1, rfl, ho1, hb1⟩; obtain ⟨a1, c1, hv1, hq1, hc1, hc2⟩ := ho1.slice m1 HM1.out; have hlt1 := own_ltT ho1 hv1; subst hv1; have HQ1 := hid hq1; have HB1 := hid hb1; have HZ1 := hid (HZ.out.later hb1); have e1 := HE.out w1 hb1; have HLt := hid hlt1; clear ho1 hb1 hq1 hlt1)
              | (go_at_call 35; (with_reducible_and_instances (refine (HEv.out w1 HB1.out a1 c1 HQ1.out hc1 HLt.out).mono ?_)); rintro r w3 ⟨⟨rfl, h3⟩ | ⟨rfl, h3⟩, hc3⟩; rotate_left; (have HP3 := hid h3; have HB3 : Hid (Below w1.heap.size w1 w3) := ((Below.refl _ w1).alloc (Nat.le_refl _) _).trans (hc3.below (fun g hg => by simp at hg; omega) (by simp)); clear h3 hc3); rotate_left; (have HR3 := hid h3; have HB3 : Hid (Below w1.heap.size w1 w3) := ((Below.refl _ w1).alloc (Nat.le_refl _) _).trans (hc3.below (fun g hg => by simp at hg; omega) (by simp)); have b4 : Below w3.heap.size w3 (w3.alloc (.cells #[.int .i64 kd, .string tn, .int .i64 ge, .int .i64 pa, .int .i64 of, .int .i64 pr, .int .i64 ep, .int .i64 nw, .bool ys] TEv)) := (Below.refl _ _).alloc (Nat.le_refl _) _; obtain ⟨r0, r1⟩ := (h3.later b4).cells; have HX4 := hid (show Blk (w3.alloc (.cells #[.int .i64 kd, .string tn, .int .i64 ge, .int .i64 pa, .int .i64 of, .int .i64 pr, .int .i64 ep, .int .i64 nw, .bool ys] TEv)) w3.heap.size #[.int .i64 kd, .string tn, .int .i64 ge, .int .i64 pa, .int .i64 of, .int .i64 pr, .int .i64 ep, .int .i64 nw, .bool ys] TEv from heap_alloc_new w3 _); have HB4 := hid (HB3.out.trans (b4.mono HB3.out.size)); have HZ4 := hid (HZ1.out.later HB4.out); dsimp only at r0 r1; clear h3 hc3 b4))
              | (go_at_call 34; (with_reducible_and_instances (refine (insist_ok 22 _).mono ?_)); rintro e w9 ⟨rfl, hw9⟩; obtain rfl := hw9.symm)
              | (go_at_call 27; (with_reducible_and_instances (refine (HMay.out _).mono ?_)); rintro r w6 hh6; obtain ⟨⟨hm6, rfl⟩ | ⟨hm6, rfl⟩, hb6⟩ := HMa.out r _ w6 hh6; (cases hm6); (have HB6 := hid (HB4.out.trans (hb6.mono HB4.out.size)); clear hb6 hm6 hh6)))
            all_goals (first | (exact ⟨rfl, Or.inr ⟨22, rfl, rfl, fun hA => by have h := HAcc.out.1 hA; have hf : fl = true := HP3.out; rw [hf] at h; exact absurd (congrArg Prod.snd h.2.2.2.1) (by simp)⟩, hfin.out w3 (HB1.out.trans (HB3.out.mono HB1.out.size))⟩) | skip)
            exact ⟨rfl, Or.inr ⟨22, rfl, rfl, fun hA => absurd (HAcc.out.1 hA).2.2.2.2 (of_decide_eq_false HMb.out)⟩, hfin.out w6 (HB1.out.trans (HB6.out.mono HB1.out.size))⟩
          | true =>
            go_enter Tryz.func32, Tryz.ntmps32
            go_wp2_with (first
              | (go_at_call 33; (with_reducible_and_instances (refine HU.out.mono ?_)); rintro r w1 ⟨v1, rfl, ho1, hb1⟩; obtain ⟨a1, c1, hv1, hq1, hc1, hc2⟩ := ho1.slice m1 HM1.out; have hlt1 := own_ltT ho1 hv1; subst hv1; have HQ1 := hid hq1; have HB1 := hid hb1; have HZ1 := hid (HZ.out.later hb1); have e1 := HE.out w1 hb1; have HLt := hid hlt1; clear ho1 hb1 hq1 hlt1)
              | (go_at_call 35; (with_reducible_and_instances (refine (HEv.out w1 HB1.out a1 c1 HQ1.out hc1 HLt.out).mono ?_)); rintro r w3 ⟨⟨rfl, h3⟩ | ⟨rfl, h3⟩, hc3⟩; rotate_left; (have HP3 := hid h3; have HB3 : Hid (Below w1.heap.size w1 w3) := ((Below.refl _ w1).alloc (Nat.le_refl _) _).trans (hc3.below (fun g hg => by simp at hg; omega) (by simp)); clear h3 hc3); rotate_left; (have HR3 := hid h3; have HB3 : Hid (Below w1.heap.size w1 w3) := ((Below.refl _ w1).alloc (Nat.le_refl _) _).trans (hc3.below (fun g hg => by simp at hg; omega) (by simp)); have b4 : Below w3.heap.size w3 (w3.alloc (.cells #[.int .i64 kd, .string tn, .int .i64 ge, .int .i64 pa, .int .i64 of, .int .i64 pr, .int .i64 ep, .int .i64 nw, .bool ys] TEv)) := (Below.refl _ _).alloc (Nat.le_refl _) _; obtain ⟨r0, r1⟩ := (h3.later b4).cells; have HX4 := hid (show Blk (w3.alloc (.cells #[.int .i64 kd, .string tn, .int .i64 ge, .int .i64 pa, .int .i64 of, .int .i64 pr, .int .i64 ep, .int .i64 nw, .bool ys] TEv)) w3.heap.size #[.int .i64 kd, .string tn, .int .i64 ge, .int .i64 pa, .int .i64 of, .int .i64 pr, .int .i64 ep, .int .i64 nw, .bool ys] TEv from heap_alloc_new w3 _); have HB4 := hid (HB3.out.trans (b4.mono HB3.out.size)); have HZ4 := hid (HZ1.out.later HB4.out); dsimp only at r0 r1; clear h3 hc3 b4))
              | (go_at_call 34; (with_reducible_and_instances (refine (insist_ok 22 _).mono ?_)); rintro e w9 ⟨rfl, hw9⟩; obtain rfl := hw9.symm)
              | (go_at_call 27; (with_reducible_and_instances (refine (HMay.out _).mono ?_)); rintro r w6 hh6; obtain ⟨⟨hm6, rfl⟩ | ⟨hm6, rfl⟩, hb6⟩ := HMa.out r _ w6 hh6; rotate_left; (cases hm6); (have HB6 := hid (HB4.out.trans (hb6.mono HB4.out.size)); have HZ6 := hid (HZ4.out.later hb6); have q0 : w6.cell? ⟨w3.heap.size, 0, none⟩ = some (.int .i64 kd) := (HX4.out.later hb6).cell 0; have q1 : w6.cell? ⟨w3.heap.size, 1, none⟩ = some (.string tn) := (HX4.out.later hb6).cell 1; have q2 : w6.cell? ⟨w3.heap.size, 2, none⟩ = some (.int .i64 ge) := (HX4.out.later hb6).cell 2; have q3 : w6.cell? ⟨w3.heap.size, 3, none⟩ = some (.int .i64 pa) := (HX4.out.later hb6).cell 3; have q4 : w6.cell? ⟨w3.heap.size, 4, none⟩ = some (.int .i64 of) := (HX4.out.later hb6).cell 4; have q5 : w6.cell? ⟨w3.heap.size, 5, none⟩ = some (.int .i64 pr) := (HX4.out.later hb6).cell 5; have q6 : w6.cell? ⟨w3.heap.size, 6, none⟩ = some (.int .i64 ep) := (HX4.out.later hb6).cell 6; have q7 : w6.cell? ⟨w3.heap.size, 7, none⟩ = some (.int .i64 nw) := (HX4.out.later hb6).cell 7; have q8 : w6.cell? ⟨w3.heap.size, 8, none⟩ = some (.bool ys) := (HX4.out.later hb6).cell 8; clear hb6 hm6 hh6))
              | (refine store_ev ((⟨kd, nm, ge, pa, of, pr, ep, nw, ys⟩ : Ev)) rfl (.tmp 1) (.tmp 39) rfl rfl (by rw [HEA.out]; rfl) HZ6.out rfl ?_; intro W9 hx9 hc9))
            all_goals (first | (exact ⟨rfl, Or.inr ⟨22, rfl, rfl, fun hA => by have h := HAcc.out.1 hA; have hf : fl = true := HP3.out; rw [hf] at h; exact absurd (congrArg Prod.snd h.2.2.2.1) (by simp)⟩, hfin.out w3 (HB1.out.trans (HB3.out.mono HB1.out.size))⟩) | skip)
            refine bodyPost_ret (v := .agg (evA ⟨kd, nm, ge, pa, of, pr, ep, nw, ys⟩)) (results_cell_row Tryz.results32 _ _ w.heap.size TEv _ (0, 0) _ rfl hx9 Tryz.underlying29 rfl (by kernel_rfl)) rfl ⟨Or.inl ⟨⟨kd, nm, ge, pa, of, pr, ep, nw, ys⟩, rfl, rfl, HAcc.out.2 ⟨by trivial, by trivial, by trivial, by rw [show fl = false from HR3.out.2], of_decide_eq_true HMb.out⟩⟩, ?_⟩
            have hb := hfin.out w6 (HB1.out.trans (HB6.out.mono HB1.out.size))
            exact hb.trans (hc9.below (fun g hg => by simp at hg; omega) hb.size)
        · have hptb : (pt == (m1 : Int)) = false := by simpa using hpt
          have HPt := hid hpt
          clear hpt
          go_enter Tryz.func32, Tryz.ntmps32
          go_wp2_with (first
            | (go_at_call 33; (with_reducible_and_instances (refine HU.out.mono ?_)); rintro r w1 ⟨v1, rfl, ho1, hb1⟩; obtain ⟨a1, c1, hv1, hq1, hc1, hc2⟩ := ho1.slice m1 HM1.out; have hlt1 := own_ltT ho1 hv1; subst hv1; have HQ1 := hid hq1; have HB1 := hid hb1; have HZ1 := hid (HZ.out.later hb1); have e1 := HE.out w1 hb1; have HLt := hid hlt1; clear ho1 hb1 hq1 hlt1)
            | (go_at_call 35; (with_reducible_and_instances (refine (HEv.out w1 HB1.out a1 c1 HQ1.out hc1 HLt.out).mono ?_)); rintro r w3 ⟨⟨rfl, h3⟩ | ⟨rfl, h3⟩, hc3⟩; rotate_left; (have HP3 := hid h3; have HB3 : Hid (Below w1.heap.size w1 w3) := ((Below.refl _ w1).alloc (Nat.le_refl _) _).trans (hc3.below (fun g hg => by simp at hg; omega) (by simp)); clear h3 hc3); rotate_left; (have HR3 := hid h3; have HB3 : Hid (Below w1.heap.size w1 w3) := ((Below.refl _ w1).alloc (Nat.le_refl _) _).trans (hc3.below (fun g hg => by simp at hg; omega) (by simp)); have b4 : Below w3.heap.size w3 (w3.alloc (.cells #[.int .i64 kd, .string tn, .int .i64 ge, .int .i64 pa, .int .i64 of, .int .i64 pr, .int .i64 ep, .int .i64 nw, .bool ys] TEv)) := (Below.refl _ _).alloc (Nat.le_refl _) _; obtain ⟨r0, r1⟩ := (h3.later b4).cells; have HX4 := hid (show Blk (w3.alloc (.cells #[.int .i64 kd, .string tn, .int .i64 ge, .int .i64 pa, .int .i64 of, .int .i64 pr, .int .i64 ep, .int .i64 nw, .bool ys] TEv)) w3.heap.size #[.int .i64 kd, .string tn, .int .i64 ge, .int .i64 pa, .int .i64 of, .int .i64 pr, .int .i64 ep, .int .i64 nw, .bool ys] TEv from heap_alloc_new w3 _); have HB4 := hid (HB3.out.trans (b4.mono HB3.out.size)); have HZ4 := hid (HZ1.out.later HB4.out); dsimp only at r0 r1; clear h3 hc3 b4))
            | first | (go_at_call 34; (with_reducible_and_instances (refine (insist_no 22 _).mono ?_)); rintro e w9 ⟨rfl, hw9⟩; obtain rfl := hw9.symm) | (go_at_call 34; (with_reducible_and_instances (refine (insist_ok 22 _).mono ?_)); rintro e w9 ⟨rfl, hw9⟩; obtain rfl := hw9.symm))
          all_goals (first | (exact ⟨rfl, Or.inr ⟨22, rfl, rfl, fun hA => by have h := HAcc.out.1 hA; have hf : fl = true := HP3.out; rw [hf] at h; exact absurd (congrArg Prod.snd h.2.2.2.1) (by simp)⟩, hfin.out w3 (HB1.out.trans (HB3.out.mono HB1.out.size))⟩) | skip)
          exact ⟨rfl, Or.inr ⟨22, rfl, rfl, fun hA => HPt.out (congrArg Prod.fst (HAcc.out.1 hA).2.2.2.1)⟩, hfin.out _ (HB1.out.trans (HB4.out.mono HB1.out.size))⟩
      · have htb : (ut == (len : Int)) = false := by simpa using ht
        have HG : Hid (¬ ACC) := hid (fun hA => by have h := HAcc.out.1 hA; exact ht h.2.2.1)
        clear HAcc
        go_enter Tryz.func32, Tryz.ntmps32
        go_wp2_with (first
          | (go_at_call 33; (with_reducible_and_instances (refine HU.out.mono ?_)); rintro r w1 ⟨v1, rfl, ho1, hb1⟩; obtain ⟨a1, c1, hv1, hq1, hc1, hc2⟩ := ho1.slice m1 HM1.out; have hlt1 := own_ltT ho1 hv1; subst hv1; have HQ1 := hid hq1; have HB1 := hid hb1; have HZ1 := hid (HZ.out.later hb1); have e1 := HE.out w1 hb1; have HLt := hid hlt1; clear ho1 hb1 hq1 hlt1)
          | (go_at_call 34; (with_reducible_and_instances (refine (insist_no 22 _).mono ?_)); rintro e w9 ⟨rfl, hw9⟩; obtain rfl := hw9.symm))
        exact ⟨rfl, Or.inr ⟨22, rfl, rfl, HG.out⟩, hfin.out w1 HB1.out⟩
    · have hkb : (uk == 32) = false := by simpa using hk
      have HG : Hid (¬ ACC) := hid (fun hA => by have h := HAcc.out.1 hA; exact hk h.2.1)
      clear HAcc
      go_enter Tryz.func32, Tryz.ntmps32
      go_wp2_with (first
        | (go_at_call 33; (with_reducible_and_instances (refine HU.out.mono ?_)); rintro r w1 ⟨v1, rfl, ho1, hb1⟩; obtain ⟨a1, c1, hv1, hq1, hc1, hc2⟩ := ho1.slice m1 HM1.out; have hlt1 := own_ltT ho1 hv1; subst hv1; have HQ1 := hid hq1; have HB1 := hid hb1; have HZ1 := hid (HZ.out.later hb1); have e1 := HE.out w1 hb1; have HLt := hid hlt1; clear ho1 hb1 hq1 hlt1)
        | (go_at_call 34; (with_reducible_and_instances (refine (insist_no 22 _).mono ?_)); rintro e w9 ⟨rfl, hw9⟩; obtain rfl := hw9.symm))
      exact ⟨rfl, Or.inr ⟨22, rfl, rfl, HG.out⟩, hfin.out w1 HB1.out⟩
  · have heb : (ue == 0) = false := by simpa using he
    have HG : Hid (¬ ACC) := hid (fun hA => by have h := HAcc.out.1 hA; exact he h.1)
    clear HAcc
    go_enter Tryz.func32, Tryz.ntmps32
    go_wp2_with (first
      | (go_at_call 33; (with_reducible_and_instances (refine HU.out.mono ?_)); rintro r w1 ⟨v1, rfl, ho1, hb1⟩; obtain ⟨a1, c1, hv1, hq1, hc1, hc2⟩ := ho1.slice m1 HM1.out; have hlt1 := own_ltT ho1 hv1; subst hv1; have HQ1 := hid hq1; have HB1 := hid hb1; have HZ1 := hid (HZ.out.later hb1); have e1 := HE.out w1 hb1; have HLt := hid hlt1; clear ho1 hb1 hq1 hlt1)
      | (go_at_call 34; (with_reducible_and_instances (refine (insist_no 22 _).mono ?_)); rintro e w9 ⟨rfl, hw9⟩; obtain rfl := hw9.symm))
    exact ⟨rfl, Or.inr ⟨22, rfl, rfl, HG.out⟩, hfin.out w1 HB1.out⟩
theorem ret_ev2 {fn : Func} {p u : Tmp} (h : fn.results = #[.cell p TEv, .tmp u]) (tmps : Array Value) (w : World) (g : Nat) (x : Ev)
    (hp : tmps.getD p undef = .pointer (some ⟨g, 0, none⟩)) (hg : Blk w g (evA x) TEv) :
    (results fn tmps).run Tryz.prog w = .ok (.tuple #[.agg (evA x), tmps.getD u undef]) w := by
  rw [results_cell_tmp h, hp]
  have hl := run_loadVar_row (P := Tryz.prog) w g TEv TEv _ (0, 0) _ hg Tryz.underlying29 rfl (by kernel_rfl)
  simp only [asAddr, Sem.run_pure, Result.andThen_ok]
  rw [hl]
  rfl
/-- What GetEvent leaves. -/
def GetQ (l : List Nat) (w : World) (r : Ending) (w' : World) : Prop := ∃ x e, r = .returned (.tuple #[.agg (evA x), .int .i64 e]) ∧ GotT l x e ∧ Below w.heap.size w w'
theorem enters_get1 : ∀ args w, (callFunc 32 args).run Tryz.prog w = .ok (.enter 32 args) w := fun _ _ => by kernel_rfl
set_option maxRecDepth 40000 in
set_option maxHeartbeats 2000000 in
theorem getT_any (ad : Option Addr) (len cap : Nat) (l : List Nat) (w : World) (hp : Part.ok w ⟨ad, len, cap, l⟩) (hlc : len ≤ cap) (hm : len ≤ 1000000000000000) : Calls Tryz.prog 10 #[.slice ad len cap] w (GetQ l w) := by
  have h8 : ∀ x ∈ l, x < 256 := hp.2.2.1
  obtain ⟨W2, hW2⟩ : ∃ W2, (w.alloc (.cells #[.slice ad len cap] 24)).alloc (.cells evZA TEv) = W2 := ⟨_, rfl⟩
  have b2 : Below w.heap.size w W2 := by rw [← hW2]; exact ((Below.refl _ _).alloc (Nat.le_refl _) _).alloc (by simp) _
  have x0 : Blk W2 w.heap.size #[.slice ad len cap] 24 := by rw [← hW2]; exact Blk.later (heap_alloc_new w _) ((Below.refl _ _).alloc (Nat.le_refl _) _)
  have x1 : Blk W2 (w.heap.size + 1) evZA TEv := by
    have h := heap_alloc_new (w.alloc (.cells #[.slice ad len cap] 24)) (.cells evZA TEv)
    rw [World.size_alloc] at h
    rw [← hW2]
    exact h
  have b4 : Below W2.heap.size W2 ((W2.alloc (.cells evZA TEv)).alloc (.cells #[.int .i64 0] TEn)) := ((Below.refl _ _).alloc (Nat.le_refl _) _).alloc (by simp) _
  have h1 := get1_any (x0.later b4) ((hp.later b2).later b4) hlc hm
  have HA := attemptE 32 #[.pointer (some ⟨w.heap.size, 0, none⟩)] W2 enters_get1 (fun x => x = rdE (unframeN l 0).2.1 ∧ accP l) (fun y => y = 22 ∧ ¬ accP l) (h1.mono (fun r w' hh => ⟨hh.1, by have := hh.2; rw [show ((W2.alloc (.cells evZA TEv)).alloc (.cells #[.int .i64 0] TEn)).heap.size = W2.heap.size + 2 by simp] at this; exact this⟩))
  have HA2 := hid (HA.mono (R' := fun r w' => ∃ x e, r = .returned (.tuple #[.agg (evA x), .int .i64 e]) ∧ Hid (GotT l x e) ∧ Hid (Below W2.heap.size W2 w')) (by
    rintro r w' ⟨⟨x, rfl, rfl, ha⟩ | ⟨y, rfl, rfl, ha⟩, hb⟩
    · exact ⟨_, 0, rfl, hid (gotP h8 ha), hid hb⟩
    · exact ⟨evZ, 22, rfl, hid (gotP_no ha), hid hb⟩))
  have HB2 := hid b2
  have HX1 := hid x1
  have hmf : ∀ (fn : Fn) (first cap : Array Value) (w : World), (Instr.makeFunc fn first cap).run Tryz.prog w = .ok (.func fn first cap) w := fun _ _ _ _ => rfl
  clear hp h8 b2 x0 x1 b4 h1 HA
  go_enter Tryz.func10, Tryz.ntmps10
  go_wp2_with (first
    | (go_at_call 31; (with_reducible_and_instances (refine HA2.out.mono ?_)); rintro r W9 ⟨x, e, rfl, HG, HB9⟩; have HX9 := hid (HX1.out.later HB9.out))
    | (refine store_ev x rfl (.tmp 2) (.tmp 6) rfl rfl rfl HX9.out (by rfl) ?_; intro W10 hx10 hc10))
  have hb := HB2.out.trans (HB9.out.mono HB2.out.size)
  exact bodyPost_ret (ret_ev2 Tryz.results10 _ _ (w.heap.size + 1) x rfl hx10) rfl ⟨x, e, rfl, HG.out, hb.trans (hc10.below (fun g hg => by simp at hg; omega) hb.size)⟩
end Go.Proofs.YtiiepmljcjbflaaGreat
