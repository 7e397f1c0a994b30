/- Check: whether there can have been such a log. -/
import Derived.Test.YtpjemifoilbjeaaHFill
import Derived.Test.YtpjemifoilbjeaaHTime
namespace Go.Proofs.Ytpjemifoilbjeaa
open Go.RowKit Hy
variable {w w' : World} {A : List HcA} {ad : Option Addr} {m c : Nat}

/-- What Check answers. -/
noncomputable def chkN (l : List Hc) : Int := open Classical in if Right l then (if HOk l then 0 else 51) else 1
theorem chkN_bad {l : List Hc} (h : ¬ Right l) : chkN l = 1 := by unfold chkN; exact if_neg h
theorem chkN_yes {l : List Hc} (h : Right l) (h2 : HOk l) : chkN l = 0 := by unfold chkN; rw [if_pos h, if_pos h2]
theorem chkN_no {l : List Hc} (h : Right l) (h2 : ¬ HOk l) : chkN l = 51 := by unfold chkN; rw [if_pos h, if_neg h2]
theorem some_wait (l : List Hc) : ∃ w : List Int, w.Perm (undN 0 l) ∧ w.Pairwise (fun u v => (ca l u.toNat).bg ≤ (ca l v.toNat).bg) := by
  refine ⟨(undN 0 l).mergeSort (fun u v : Int => decide ((ca l u.toNat).bg ≤ (ca l v.toNat).bg)), List.mergeSort_perm _ _, ?_⟩
  refine (List.pairwise_mergeSort (le := fun u v : Int => decide ((ca l u.toNat).bg ≤ (ca l v.toNat).bg)) (fun a b c h1 h2 => ?_) (fun a b => ?_) _).imp (fun h => of_decide_eq_true h)
  · rw [decide_eq_true_eq] at *; omega
  · rw [Bool.or_eq_true, decide_eq_true_eq, decide_eq_true_eq]; omega
theorem not_heard {l : List Hc} (hr : Right l) (h : hearS (allPr l 0 l) s0 = none) : ¬ HOk l := fun ho => by
  obtain ⟨w, h1, h2⟩ := some_wait l
  obtain ⟨s1, s2, hs, -⟩ := complete hr h1 h2 ho
  have := hs.hear
  rw [h] at this; cases this
theorem not_filled {l : List Hc} (hr : Right l) {s1 : Sd} {w : List Int} (h : hearS (allPr l 0 l) s0 = some s1) (h1 : w.Perm (undN 0 l)) (h2 : w.Pairwise (fun u v => (ca l u.toNat).bg ≤ (ca l v.toNat).bg)) (h3 : fillS (plN (shownN l)) w s1 = none) : ¬ HOk l := fun ho => by
  obtain ⟨t1, t2, hs, -⟩ := complete hr h1 h2 ho
  have := hs.hear
  rw [h] at this
  injection this with this; subst this
  have := hs.fill
  rw [h3] at this; cases this
theorem timely_perm {k l : List Stp} (h : k.Perm l) : Timely k ↔ Timely l := by
  unfold Timely
  constructor
  · exact fun h1 x hx y hy => h1 x (h.mem_iff.2 hx) y (h.mem_iff.2 hy)
  · exact fun h1 x hx y hy => h1 x (h.mem_iff.1 hx) y (h.mem_iff.1 hy)
theorem told {l : List Hc} (hr : Right l) {s1 s2 : Sd} {w : List Int} (h : hearS (allPr l 0 l) s0 = some s1) (h1 : w.Perm (undN 0 l)) (h2 : w.Pairwise (fun u v => (ca l u.toNat).bg ≤ (ca l v.toNat).bg)) (h3 : fillS (plN (shownN l)) w s1 = some s2) : HOk l ↔ Timely (stepsN s2 0 l) := by
  constructor
  · intro ho
    obtain ⟨t1, t2, hs, ht⟩ := complete hr h1 h2 ho
    have e1 := hs.hear
    rw [h] at e1
    injection e1 with e1; subst e1
    have e2 := hs.fill
    rw [h3] at e2
    injection e2 with e2; subst e2
    exact ht
  · exact sound hr (Std.stand hr ⟨h, h3, h1⟩)
theorem shown_few {l : List Hc} (hr : Right l) : shownN l ≤ 1000 := shown_le (by omega) (fun x hx _ => by
  have h1 := may_vals (hr.2.1 x hx)
  unfold Hc.shows
  cases h : x.rd with
  | true => rw [if_pos rfl]; have := h1.2.2.2.2.2.2; omega
  | false => rw [if_neg (by simp)]; have := h1.2.2.2.2.2.1 h; omega)
theorem step_nums {l : List Hc} (hr : Right l) (s : Sd) : ∀ x ∈ stepsN s 0 l, -9223372036854775808 ≤ x.2.1 ∧ x.2.1 ≤ x.2.2 ∧ x.2.2 ≤ 9223372036854775807 := fun x hx => by
  obtain ⟨i, hi, hx⟩ := (stepsN_mem l 0).1 hx
  obtain ⟨-, -, h3, h4, h5, -⟩ := may_vals (hr.2.1 _ (ca_mem hi))
  unfold stepN at hx
  cases hs : s.2 ((0 + i : Nat) : Int) with
  | some p =>
    rw [hs] at hx
    simp only [List.mem_singleton] at hx
    subst hx
    dsimp only
    cases hd : (ca l i).dn with
    | true => have := h3 hd; simp only [if_true]; omega
    | false => simp only [Bool.false_eq_true, if_false]; unfold never; omega
  | none =>
    rw [hs] at hx
    cases hd : (ca l i).dn with
    | true =>
      rw [hd] at hx
      simp only [if_true, List.mem_singleton] at hx
      subst hx
      have := h3 hd
      dsimp only
      omega
    | false => rw [hd] at hx; simp at hx
theorem SP_new (w : World) : SP (((w.alloc (.map #[] 0)).alloc (.map #[] 0)).alloc (.cells #[.map (some w.heap.size), .map (some (w.heap.size + 1))] TSt)) (w.heap.size + 1 + 1) w.heap.size (w.heap.size + 1) 0 s0 := by
  have s1 : (w.alloc (.map #[] 0)).heap.size = w.heap.size + 1 := by simp
  have s2 : ((w.alloc (.map #[] 0)).alloc (.map #[] 0)).heap.size = w.heap.size + 1 + 1 := by simp
  have k : ∀ (V : World) (o : Obj) (i : Nat), i < V.heap.size → (V.alloc o).heap[i]? = V.heap[i]? := fun V o i hi => ((RowKit.Below.refl _ V).alloc (Nat.le_refl _) o).block i hi
  have n0 : (w.alloc (.map #[] 0)).heap[w.heap.size]? = some (.map #[] 0) := heap_alloc_new w _
  have n1 : ((w.alloc (.map #[] 0)).alloc (.map #[] 0)).heap[w.heap.size + 1]? = some (.map #[] 0) := by rw [← s1]; exact heap_alloc_new (w.alloc (.map #[] 0)) _
  have n2 : Blk (((w.alloc (.map #[] 0)).alloc (.map #[] 0)).alloc (.cells #[.map (some w.heap.size), .map (some (w.heap.size + 1))] TSt)) (w.heap.size + 1 + 1) #[.map (some w.heap.size), .map (some (w.heap.size + 1))] TSt := by rw [← s2]; exact heap_alloc_new ((w.alloc (.map #[] 0)).alloc (.map #[] 0)) _
  refine ⟨n2, (MapF.empty ?_).congr (fun kl => by unfold intF; split <;> rfl), (MapF.empty ?_).congr (fun kl => by unfold intF; split <;> rfl), by omega⟩
  · rw [k _ _ _ (by omega), k _ _ _ (by omega), n0]
  · rw [k _ _ _ (by omega), n1]
set_option maxRecDepth 20000 in
set_option maxHeartbeats 4000000 in
theorem Check_any (h : HV kC w A ad m c) : Calls Try.prog 12 #[.slice ad m c] w fun e w' => e = .returned (.int .i64 (chkN (cls A))) ∧ RowKit.Below w.heap.size w w' := by
  have hl := h.row.len
  have HA := hid h
  have HRc := hid (Right_any h)
  have hmm : ∀ (t : TypeId) (w : World), (Instr.makeMap t none).run Try.prog w = .ok (.map (some w.heap.size)) (w.alloc (.map #[] 0)) := fun t w => run_makeMap _ w
  by_cases hR : Right (cls A)
  · have HR := hid hR
    have hm1 : m ≤ 1000 := by rw [← hl, ← cls_len]; exact hR.1
    rw [rightB_yes hR] at HRc
    have HYes := hid (chkN_yes hR)
    have HNo := hid (chkN_no hR)
    have HTd : Hid (∀ {s1 s2 : Sd} {ws : List Int}, hearS (allPr (cls A) 0 (cls A)) s0 = some s1 → ws.Perm (undN 0 (cls A)) → ws.Pairwise (fun u v => (ca (cls A) u.toNat).bg ≤ (ca (cls A) v.toNat).bg) → fillS (plN (shownN (cls A))) ws s1 = some s2 → (HOk (cls A) ↔ Timely (stepsN s2 0 (cls A))) ∧ (∀ c p, s2.2 c = some p → 0 ≤ p ∧ p ≤ 100000)) := fun h1 h2 h3 h4 => ⟨told hR h1 h2 h3 h4, fun c p hcp => by
      have hst := Std.stand hR ⟨h1, h4, h2⟩
      obtain ⟨a1, a2, -⟩ := hst.app _ _ ((hst.bij _ _).2 hcp)
      have := shown_few hR
      omega⟩
    clear h hl hR
    cases hT : hearS (allPr (cls A) 0 (cls A)) s0 with
    | none =>
      have HN := hid (HNo.out (not_heard HR.out hT))
      go_enter Try.func12, Try.ntmps12
      go_wp2_with (first
        | (go_at_call 9; (with_reducible_and_instances (refine HRc.out.mono ?_)); rintro e w1 ⟨rfl, hb1⟩; have HB1 := hid hb1; have HB2 : Hid (RowKit.Below w1.heap.size w1 (((w1.alloc (.map #[] 0)).alloc (.map #[] 0)).alloc (.cells #[.map (some w1.heap.size), .map (some (w1.heap.size + 1))] TSt))) := (((RowKit.Below.refl _ w1).alloc (Nat.le_refl _) _).alloc (by simp) _).alloc (by simp; omega) _; have HH := hid (hear_any (HA.out.later hb1) HB2.out (SP_new w1) (Nat.le_refl _) (Nat.le_succ _) HR.out (by omega)); rw [hT] at HH; clear hb1)
        | (go_at_call 22; (with_reducible_and_instances (refine HH.out.mono ?_)); rintro e w2 ⟨h2, hb2⟩; obtain ⟨-, rfl⟩ := h2.resolve_left (fun ⟨_, h, _⟩ => nomatch h); have HB3 := hid (HB1.out.trans ((HB2.out.trans hb2).mono HB1.out.size)); clear hb2))
      go_ret
      exact ⟨by rw [HN.out]; rfl, HB3.out⟩
    | some s1 =>
      have HT1 : Hid (hearS (allPr (cls A) 0 (cls A)) s0 = some s1) := hT
      go_enter Try.func12, Try.ntmps12
      go_wp2_with (first
        | (go_at_call 9; (with_reducible_and_instances (refine HRc.out.mono ?_)); rintro e w1 ⟨rfl, hb1⟩; have HB1 := hid hb1; have HB2 : Hid (RowKit.Below w1.heap.size w1 (((w1.alloc (.map #[] 0)).alloc (.map #[] 0)).alloc (.cells #[.map (some w1.heap.size), .map (some (w1.heap.size + 1))] TSt))) := (((RowKit.Below.refl _ w1).alloc (Nat.le_refl _) _).alloc (by simp) _).alloc (by simp; omega) _; have HH := hid (hear_any (HA.out.later hb1) HB2.out (SP_new w1) (Nat.le_refl _) (Nat.le_succ _) HR.out (by omega)); rw [hT] at HH; clear hT hb1)
        | (go_at_call 22; (with_reducible_and_instances (refine HH.out.mono ?_)); rintro e w2 ⟨h2, hb2⟩; obtain ⟨s', hs', rfl, hS⟩ := h2.resolve_right (fun h => nomatch h.1); obtain rfl : s1 = s' := (Option.some.inj hs'); have HB3 : Hid (RowKit.Below w1.heap.size w1 w2) := HB2.out.trans hb2; have HF := hid (fill_any (HA.out.later HB1.out) HB3.out hS (Nat.le_refl _) (Nat.le_succ _) HR.out (by omega)); clear hb2 hS h2 hs')
        | (go_at_call 23; (with_reducible_and_instances (refine HF.out.mono ?_)); rintro e w3 ⟨ws, hp, hs, h3, hb3⟩; have HB4 : Hid (RowKit.Below w1.heap.size w1 w3) := hid (HB3.out.trans hb3); have HB5 : Hid (RowKit.Below w.heap.size w w3) := hid (HB1.out.trans (HB4.out.mono HB1.out.size)); rcases h3 with ⟨s2, h4, rfl, hS⟩ | ⟨h4, rfl⟩ <;> first | (have HTd2 := hid (HTd.out HT1.out hp hs h4); have HOr := hid (order_any (HA.out.later HB1.out) HB4.out hS hm1 HTd2.out.2 HR.out.2.1); clear hp hs h4 hb3 hS) | (have HN := hid (HNo.out (not_filled HR.out HT1.out hp hs h4)); clear hp hs h4 hb3))
        | (go_at_call 25; (with_reducible_and_instances (refine HOr.out.mono ?_)); rintro e w4 ⟨v, st, rfl, hpm, hso, hO, hb4⟩; have HB6 := hid (HB5.out.trans (hb4.mono HB5.out.size)); have hln := hpm.length_eq; obtain ⟨a, cc, rfl, hAr⟩ := hO.form kSt_ok.tofit; have HTm := hid (isTimely_any hAr (by rw [hln]; refine Nat.le_trans (stepsN_len _ _ _) ?_; rw [cls_len, HA.out.row.len]; omega)); have HRes : Hid ((timB st = true → HOk (cls A)) ∧ (timB st = false → ¬ HOk (cls A))) := (by
            have h1 := timB_iff hso (fun x hx => step_nums HR.out s2 x (hpm.mem_iff.1 hx))
            have h2 := HTd2.out.1
            rw [← timely_perm hpm, ← h1] at h2
            exact ⟨fun h => h2.2 h, fun h ho => by have := h2.1 ho; rw [h] at this; cases this⟩); clear hpm hso hO hb4 hln hAr; generalize timB st = tb at *; cases tb)
        | (go_at_call 24; (with_reducible_and_instances (refine HTm.out.mono ?_)); rintro e w5 ⟨rfl, hb5⟩; have HB7 := hid (HB6.out.trans (hb5.mono HB6.out.size)); clear hb5))
      all_goals go_ret
      all_goals first
        | exact ⟨by rw [HYes.out (HRes.out.1 (by first | rfl | trivial))]; try rfl, HB7.out⟩
        | exact ⟨by rw [HNo.out (HRes.out.2 (by first | rfl | trivial))]; try rfl, HB7.out⟩
        | exact ⟨by rw [HN.out]; try rfl, HB5.out⟩
  · rw [rightB_no hR] at HRc
    have HBad := hid (chkN_bad hR)
    clear h hl hR
    go_enter Try.func12, Try.ntmps12
    go_wp2_with (go_at_call 9; (with_reducible_and_instances (refine HRc.out.mono ?_)); rintro e w1 ⟨rfl, hb1⟩; have HB1 := hid hb1; clear hb1)
    go_ret
    exact ⟨by rw [HBad.out]; rfl, HB1.out⟩
end Go.Proofs.Ytpjemifoilbjeaa
