/- GetEvent of package txn: whatever the bytes (P1602; by gentget16.py). -/
import Derived.Test.YteogogmmnijagaaTByE
namespace Go.Proofs.Yteogogmmnijagaa
open Go.RowKit
variable {w w' : World}

theorem ret_ev2 {fn : Func} {p u : Tmp} (h : fn.results = #[.cell p TEv, .tmp u]) (tmps : Array Value) (w : World) (g : Nat) (x : Ev)
    (hp : tmps.getD p undef = .pointer (some ⟨g, 0, none⟩)) (hg : Blk w g (evA x) TEv) :
    (results fn tmps).run Try.prog w = .ok (.tuple #[.agg (evA x), tmps.getD u undef]) w := by
  rw [results_cell_tmp h, hp]
  have hl := run_loadVar_row (P := Try.prog) w g TEv TEv _ (0, 0) _ hg Try.underlying30 rfl (by kernel_rfl)
  simp only [asAddr, Sem.run_pure, Result.andThen_ok]
  rw [hl]
  rfl
theorem unframe_len (l : List Nat) : (unframeN l 0).2.1.length ≤ l.length := by
  unfold unframeN
  split
  · split
    · show (bodyAt l 0).length ≤ _
      unfold bodyAt
      rw [List.length_take, List.length_drop]
      omega
    · simp
  · simp
theorem own_ltT {base : Nat} {v : Value} {l : List Nat} {a : Option Addr} {m c : Nat} (h : Own w base v l) (e : v = .slice a m c) : ∀ k off, a = some ⟨k, off, none⟩ → k < w.heap.size := by
  intro k off ha
  subst ha
  rcases h.2.2 with ⟨e2, -⟩ | ⟨g, cap, cur, e2, -, hg, -⟩
  · rw [e] at e2; cases e2
  · rw [e] at e2
    injection e2 with e3
    injection e3 with e3
    injection e3 with e3
    subst e3
    exact (Array.getElem?_eq_some_iff.1 hg).1
/-- What GetEvent leaves. -/
def GetQ (l : List Nat) (w : World) (r : Ending) (w' : World) : Prop := ∃ x e, r = .returned (.tuple #[.agg (evA x), .int .i64 e]) ∧ GotT l x e ∧ Below w.heap.size w w'
set_option maxRecDepth 40000 in
set_option maxHeartbeats 2000000 in
theorem getT_any (ad : Option Addr) (len cap : Nat) (l : List Nat) (w : World) (hp : Part.ok w ⟨ad, len, cap, l⟩) (hlc : len ≤ cap) (hm : len ≤ 1000000000000000) : Calls Try.prog 11 #[.slice ad len cap] w (GetQ l w) := by
  have hlen : l.length = len := hp.1
  have h8 : ∀ x ∈ l, x < 256 := hp.2.2.1
  obtain ⟨W0, hW0⟩ : ∃ W0, w.alloc (.cells #[.int .i64 0, .string ⟨#[]⟩, .int .i64 0, .int .i64 0, .int .i64 0, .int .i64 0, .int .i64 0, .bool false] TEv) = W0 := ⟨_, rfl⟩
  have b0 : Below w.heap.size w W0 := by rw [← hW0]; exact (Below.refl _ _).alloc (Nat.le_refl _) _
  have z0 : Blk W0 w.heap.size #[.int .i64 0, .string ⟨#[]⟩, .int .i64 0, .int .i64 0, .int .i64 0, .int .i64 0, .int .i64 0, .bool false] TEv := by rw [← hW0]; exact heap_alloc_new w _
  have HU := hid (unframe_any ad len cap l 0 W0 (hp.later b0) hlc hm (by omega))
  have hul := unframe_len l
  have HNo : Hid (¬ accP l → GotT l evZ 22) := gotP_no
  have HYs : Hid (accP l → GotT l (rdE (unframeN l 0).2.1) 0) := gotP h8
  unfold accP at HNo HYs
  rw [hlen] at HNo HYs
  obtain ⟨uk, ub, ut, ue, hu⟩ : ∃ uk ub ut ue, unframeN l 0 = (uk, ub, ut, ue) := ⟨_, _, _, _, rfl⟩
  rw [hu] at HU HNo HYs hul
  dsimp only at HU HNo HYs hul
  obtain ⟨m1, hm1⟩ : ∃ m1, ub.length = m1 := ⟨_, rfl⟩
  have HM1 := hid hm1
  have hmb : m1 ≤ 1000000000000000 := by omega
  have HB0 := hid b0
  have HZ := hid z0
  have hfin : Hid (∀ W1 W9, Below W0.heap.size W0 W1 → Chg [w.heap.size] W1 W9 → Below w.heap.size w W9) := fun W1 W9 h1 h9 => (HB0.out.trans (h1.mono HB0.out.size)).trans (h9.below (fun g hg => by simp at hg; omega) (by have := h1.size; have := HB0.out.size; omega))
  clear hp b0 z0 hu hlen h8 hul hm1
  by_cases he : ue = 0
  · subst he
    by_cases hk : uk = 33
    · subst hk
      by_cases ht : ut = (len : Int)
      · subst ht
        obtain ⟨x, hx⟩ : ∃ x, rdE ub = x := ⟨_, rfl⟩
        obtain ⟨pt, fl, hs⟩ : ∃ pt fl, rs8 ub = (pt, fl) := ⟨_, _, rfl⟩
        rw [hx, hs, HM1.out] at HNo HYs
        have HEv : Hid (∀ W, Below W0.heap.size W0 W → ∀ a1 c1, Part.ok W ⟨a1, m1, c1, ub⟩ → m1 ≤ c1 → (∀ k off, a1 = some ⟨k, off, none⟩ → k < W.heap.size) → Calls Try.prog 21 #[.pointer (some ⟨W.heap.size, 0, none⟩)] (W.alloc (.cells #[.slice a1 m1 c1, .int .i64 0, .bool false] TRd)) fun e w' => e = .returned (.agg (evA x)) ∧ RdB w' W.heap.size a1 m1 c1 (pt, fl) ∧ Chg [W.heap.size] (W.alloc (.cells #[.slice a1 m1 c1, .int .i64 0, .bool false] TRd)) w') := fun W hW a1 c1 hq hc hlt => by
          have hb : Below W.heap.size W (W.alloc (.cells #[.slice a1 m1 c1, .int .i64 0, .bool false] TRd)) := (Below.refl _ _).alloc (Nat.le_refl _) _
          have h := event_any (l := ub) (w := W.alloc (.cells #[.slice a1 m1 c1, .int .i64 0, .bool false] TRd)) (b := W.heap.size) (a := a1) (n := m1) (c := c1) (heap_alloc_new W _) (hq.later hb) hc hmb (fun k off e => by have := hlt k off e; omega)
          rw [hx, hs] at h
          exact h
        have HMay := hid (fun W => mayBe_any x W)
        obtain ⟨kd, nm, pr, ep, pl, tm, nw, ys⟩ := x
        obtain ⟨tn, htn⟩ : ∃ tn, nmS nm = tn := ⟨_, rfl⟩
        have HTn := hid htn
        have hEvA : evA ⟨kd, nm, pr, ep, pl, tm, nw, ys⟩ = #[.int .i64 kd, .string tn, .int .i64 pr, .int .i64 ep, .int .i64 pl, .int .i64 tm, .int .i64 nw, .bool ys] := by rw [← htn]
        rw [hEvA] at HEv HMay
        have HEA := hid hEvA
        obtain ⟨mb, hmb2⟩ : ∃ mb, decide (Ev.may ⟨kd, nm, pr, ep, pl, tm, nw, ys⟩) = mb := ⟨_, rfl⟩
        rw [hmb2] at HMay
        have HMb := hid hmb2
        clear hx hs hEvA htn hmb2
        cases fl with
        | true =>
          have HG : Hid (GotT l evZ 22) := HNo.out (fun h => absurd (congrArg Prod.snd h.2.2.2.1) (by simp))
          clear HNo HYs
          go_enter Try.func11, Try.ntmps11
          go_wp2_with (first
            | (go_at_call 20; (with_reducible_and_instances (refine HU.out.mono ?_)); rintro r w1 ⟨v1, rfl, ho1, hb1⟩; obtain ⟨a1, c1, hv1, hq1, hc1, hc2⟩ := ho1.slice m1 HM1.out; have hlt1 := own_ltT ho1 hv1; subst hv1; have HQ1 := hid hq1; have HB1 := hid hb1; have HZ1 := hid (HZ.out.later hb1); have lz1 := (HZ.out.later hb1).lt; have HLt := hid hlt1; clear ho1 hb1 hq1 hlt1)
            | (go_at_call 21; (with_reducible_and_instances (refine (HEv.out w1 HB1.out a1 c1 HQ1.out hc1 HLt.out).mono ?_)); rintro r w3 ⟨rfl, h3, hc3⟩; have HR3 := hid h3; have HB3 : Hid (Below w1.heap.size w1 w3) := ((Below.refl _ w1).alloc (Nat.le_refl _) _).trans (hc3.below (fun g hg => by simp at hg; omega) (by simp)); have b4 : Below w3.heap.size w3 (w3.alloc (.cells #[.int .i64 kd, .string tn, .int .i64 pr, .int .i64 ep, .int .i64 pl, .int .i64 tm, .int .i64 nw, .bool ys] TEv)) := (Below.refl _ _).alloc (Nat.le_refl _) _; obtain ⟨r0, r1, r2⟩ := (h3.later b4).cells; have HX4 := hid (show Blk (w3.alloc (.cells #[.int .i64 kd, .string tn, .int .i64 pr, .int .i64 ep, .int .i64 pl, .int .i64 tm, .int .i64 nw, .bool ys] TEv)) w3.heap.size #[.int .i64 kd, .string tn, .int .i64 pr, .int .i64 ep, .int .i64 pl, .int .i64 tm, .int .i64 nw, .bool ys] TEv from heap_alloc_new w3 _); have HB4 := hid (HB3.out.trans (b4.mono HB3.out.size)); have HZ4 := hid (HZ1.out.later HB4.out); dsimp only at r0 r1 r2; clear h3 hc3 b4)
            | (refine store_ev evZ rfl (.tmp 2) (.tmp 47) rfl rfl rfl HZ4.out rfl ?_; intro W9 hx9 hc9))
          exact bodyPost_ret (ret_ev2 Try.results11 _ _ w.heap.size evZ rfl hx9) rfl ⟨evZ, 22, rfl, HG.out, hfin.out _ W9 (HB1.out.trans (HB4.out.mono HB1.out.size)) hc9⟩
        | false =>
          by_cases hpt : pt = (m1 : Int)
          · subst hpt
            cases mb with
            | false =>
              have HG : Hid (GotT l evZ 22) := HNo.out (fun h => absurd h.2.2.2.2 (of_decide_eq_false HMb.out))
              clear HNo HYs
              go_enter Try.func11, Try.ntmps11
              go_wp2_with (first
                | (go_at_call 20; (with_reducible_and_instances (refine HU.out.mono ?_)); rintro r w1 ⟨v1, rfl, ho1, hb1⟩; obtain ⟨a1, c1, hv1, hq1, hc1, hc2⟩ := ho1.slice m1 HM1.out; have hlt1 := own_ltT ho1 hv1; subst hv1; have HQ1 := hid hq1; have HB1 := hid hb1; have HZ1 := hid (HZ.out.later hb1); have lz1 := (HZ.out.later hb1).lt; have HLt := hid hlt1; clear ho1 hb1 hq1 hlt1)
                | (go_at_call 21; (with_reducible_and_instances (refine (HEv.out w1 HB1.out a1 c1 HQ1.out hc1 HLt.out).mono ?_)); rintro r w3 ⟨rfl, h3, hc3⟩; have HR3 := hid h3; have HB3 : Hid (Below w1.heap.size w1 w3) := ((Below.refl _ w1).alloc (Nat.le_refl _) _).trans (hc3.below (fun g hg => by simp at hg; omega) (by simp)); have b4 : Below w3.heap.size w3 (w3.alloc (.cells #[.int .i64 kd, .string tn, .int .i64 pr, .int .i64 ep, .int .i64 pl, .int .i64 tm, .int .i64 nw, .bool ys] TEv)) := (Below.refl _ _).alloc (Nat.le_refl _) _; obtain ⟨r0, r1, r2⟩ := (h3.later b4).cells; have HX4 := hid (show Blk (w3.alloc (.cells #[.int .i64 kd, .string tn, .int .i64 pr, .int .i64 ep, .int .i64 pl, .int .i64 tm, .int .i64 nw, .bool ys] TEv)) w3.heap.size #[.int .i64 kd, .string tn, .int .i64 pr, .int .i64 ep, .int .i64 pl, .int .i64 tm, .int .i64 nw, .bool ys] TEv from heap_alloc_new w3 _); have HB4 := hid (HB3.out.trans (b4.mono HB3.out.size)); have HZ4 := hid (HZ1.out.later HB4.out); dsimp only at r0 r1 r2; clear h3 hc3 b4)
                | (go_at_call 16; (with_reducible_and_instances (refine (HMay.out _).mono ?_)); rintro r w6 ⟨rfl, hb6⟩; have HB6 := hid (HB4.out.trans (hb6.mono HB4.out.size)); have HZ6 := hid (HZ4.out.later hb6); have q0 : w6.cell? ⟨w3.heap.size, 0, none⟩ = some (.int .i64 kd) := (HX4.out.later hb6).cell 0; have q1 : w6.cell? ⟨w3.heap.size, 1, none⟩ = some (.string tn) := (HX4.out.later hb6).cell 1; have q2 : w6.cell? ⟨w3.heap.size, 2, none⟩ = some (.int .i64 pr) := (HX4.out.later hb6).cell 2; have q3 : w6.cell? ⟨w3.heap.size, 3, none⟩ = some (.int .i64 ep) := (HX4.out.later hb6).cell 3; have q4 : w6.cell? ⟨w3.heap.size, 4, none⟩ = some (.int .i64 pl) := (HX4.out.later hb6).cell 4; have q5 : w6.cell? ⟨w3.heap.size, 5, none⟩ = some (.int .i64 tm) := (HX4.out.later hb6).cell 5; have q6 : w6.cell? ⟨w3.heap.size, 6, none⟩ = some (.int .i64 nw) := (HX4.out.later hb6).cell 6; have q7 : w6.cell? ⟨w3.heap.size, 7, none⟩ = some (.bool ys) := (HX4.out.later hb6).cell 7; clear hb6)
                | (refine store_ev evZ rfl (.tmp 2) (.tmp 47) rfl rfl rfl HZ6.out rfl ?_; intro W9 hx9 hc9))
              exact bodyPost_ret (ret_ev2 Try.results11 _ _ w.heap.size evZ rfl hx9) rfl ⟨evZ, 22, rfl, HG.out, hfin.out _ W9 (HB1.out.trans (HB6.out.mono HB1.out.size)) hc9⟩
            | true =>
              have HG : Hid (GotT l ⟨kd, nm, pr, ep, pl, tm, nw, ys⟩ 0) := HYs.out ⟨rfl, rfl, rfl, rfl, of_decide_eq_true HMb.out⟩
              clear HNo HYs
              go_enter Try.func11, Try.ntmps11
              go_wp2_with (first
                | (go_at_call 20; (with_reducible_and_instances (refine HU.out.mono ?_)); rintro r w1 ⟨v1, rfl, ho1, hb1⟩; obtain ⟨a1, c1, hv1, hq1, hc1, hc2⟩ := ho1.slice m1 HM1.out; have hlt1 := own_ltT ho1 hv1; subst hv1; have HQ1 := hid hq1; have HB1 := hid hb1; have HZ1 := hid (HZ.out.later hb1); have lz1 := (HZ.out.later hb1).lt; have HLt := hid hlt1; clear ho1 hb1 hq1 hlt1)
                | (go_at_call 21; (with_reducible_and_instances (refine (HEv.out w1 HB1.out a1 c1 HQ1.out hc1 HLt.out).mono ?_)); rintro r w3 ⟨rfl, h3, hc3⟩; have HR3 := hid h3; have HB3 : Hid (Below w1.heap.size w1 w3) := ((Below.refl _ w1).alloc (Nat.le_refl _) _).trans (hc3.below (fun g hg => by simp at hg; omega) (by simp)); have b4 : Below w3.heap.size w3 (w3.alloc (.cells #[.int .i64 kd, .string tn, .int .i64 pr, .int .i64 ep, .int .i64 pl, .int .i64 tm, .int .i64 nw, .bool ys] TEv)) := (Below.refl _ _).alloc (Nat.le_refl _) _; obtain ⟨r0, r1, r2⟩ := (h3.later b4).cells; have HX4 := hid (show Blk (w3.alloc (.cells #[.int .i64 kd, .string tn, .int .i64 pr, .int .i64 ep, .int .i64 pl, .int .i64 tm, .int .i64 nw, .bool ys] TEv)) w3.heap.size #[.int .i64 kd, .string tn, .int .i64 pr, .int .i64 ep, .int .i64 pl, .int .i64 tm, .int .i64 nw, .bool ys] TEv from heap_alloc_new w3 _); have HB4 := hid (HB3.out.trans (b4.mono HB3.out.size)); have HZ4 := hid (HZ1.out.later HB4.out); dsimp only at r0 r1 r2; clear h3 hc3 b4)
                | (go_at_call 16; (with_reducible_and_instances (refine (HMay.out _).mono ?_)); rintro r w6 ⟨rfl, hb6⟩; have HB6 := hid (HB4.out.trans (hb6.mono HB4.out.size)); have HZ6 := hid (HZ4.out.later hb6); have q0 : w6.cell? ⟨w3.heap.size, 0, none⟩ = some (.int .i64 kd) := (HX4.out.later hb6).cell 0; have q1 : w6.cell? ⟨w3.heap.size, 1, none⟩ = some (.string tn) := (HX4.out.later hb6).cell 1; have q2 : w6.cell? ⟨w3.heap.size, 2, none⟩ = some (.int .i64 pr) := (HX4.out.later hb6).cell 2; have q3 : w6.cell? ⟨w3.heap.size, 3, none⟩ = some (.int .i64 ep) := (HX4.out.later hb6).cell 3; have q4 : w6.cell? ⟨w3.heap.size, 4, none⟩ = some (.int .i64 pl) := (HX4.out.later hb6).cell 4; have q5 : w6.cell? ⟨w3.heap.size, 5, none⟩ = some (.int .i64 tm) := (HX4.out.later hb6).cell 5; have q6 : w6.cell? ⟨w3.heap.size, 6, none⟩ = some (.int .i64 nw) := (HX4.out.later hb6).cell 6; have q7 : w6.cell? ⟨w3.heap.size, 7, none⟩ = some (.bool ys) := (HX4.out.later hb6).cell 7; clear hb6)
                | (refine store_ev (⟨kd, nm, pr, ep, pl, tm, nw, ys⟩ : Ev) rfl (.tmp 2) (.tmp 48) rfl rfl (by rw [HEA.out]; rfl) HZ6.out rfl ?_; intro W9 hx9 hc9))
              exact bodyPost_ret (ret_ev2 Try.results11 _ _ w.heap.size (⟨kd, nm, pr, ep, pl, tm, nw, ys⟩ : Ev) rfl hx9) rfl ⟨(⟨kd, nm, pr, ep, pl, tm, nw, ys⟩ : Ev), 0, rfl, HG.out, hfin.out _ W9 (HB1.out.trans (HB6.out.mono HB1.out.size)) hc9⟩
          · have hptb : (pt == (m1 : Int)) = false := by simpa using hpt
            have HG : Hid (GotT l evZ 22) := HNo.out (fun h => hpt (congrArg Prod.fst h.2.2.2.1))
            clear HNo HYs
            go_enter Try.func11, Try.ntmps11
            go_wp2_with (first
              | (go_at_call 20; (with_reducible_and_instances (refine HU.out.mono ?_)); rintro r w1 ⟨v1, rfl, ho1, hb1⟩; obtain ⟨a1, c1, hv1, hq1, hc1, hc2⟩ := ho1.slice m1 HM1.out; have hlt1 := own_ltT ho1 hv1; subst hv1; have HQ1 := hid hq1; have HB1 := hid hb1; have HZ1 := hid (HZ.out.later hb1); have lz1 := (HZ.out.later hb1).lt; have HLt := hid hlt1; clear ho1 hb1 hq1 hlt1)
              | (go_at_call 21; (with_reducible_and_instances (refine (HEv.out w1 HB1.out a1 c1 HQ1.out hc1 HLt.out).mono ?_)); rintro r w3 ⟨rfl, h3, hc3⟩; have HR3 := hid h3; have HB3 : Hid (Below w1.heap.size w1 w3) := ((Below.refl _ w1).alloc (Nat.le_refl _) _).trans (hc3.below (fun g hg => by simp at hg; omega) (by simp)); have b4 : Below w3.heap.size w3 (w3.alloc (.cells #[.int .i64 kd, .string tn, .int .i64 pr, .int .i64 ep, .int .i64 pl, .int .i64 tm, .int .i64 nw, .bool ys] TEv)) := (Below.refl _ _).alloc (Nat.le_refl _) _; obtain ⟨r0, r1, r2⟩ := (h3.later b4).cells; have HX4 := hid (show Blk (w3.alloc (.cells #[.int .i64 kd, .string tn, .int .i64 pr, .int .i64 ep, .int .i64 pl, .int .i64 tm, .int .i64 nw, .bool ys] TEv)) w3.heap.size #[.int .i64 kd, .string tn, .int .i64 pr, .int .i64 ep, .int .i64 pl, .int .i64 tm, .int .i64 nw, .bool ys] TEv from heap_alloc_new w3 _); have HB4 := hid (HB3.out.trans (b4.mono HB3.out.size)); have HZ4 := hid (HZ1.out.later HB4.out); dsimp only at r0 r1 r2; clear h3 hc3 b4)
              | (refine store_ev evZ rfl (.tmp 2) (.tmp 47) rfl rfl rfl HZ4.out rfl ?_; intro W9 hx9 hc9))
            exact bodyPost_ret (ret_ev2 Try.results11 _ _ w.heap.size evZ rfl hx9) rfl ⟨evZ, 22, rfl, HG.out, hfin.out _ W9 (HB1.out.trans (HB4.out.mono HB1.out.size)) hc9⟩
      · have htb : (ut == (len : Int)) = false := by simpa using ht
        have HG : Hid (GotT l evZ 22) := HNo.out (fun h => ht h.2.2.1)
        clear HNo HYs
        go_enter Try.func11, Try.ntmps11
        go_wp2_with (first
          | (go_at_call 20; (with_reducible_and_instances (refine HU.out.mono ?_)); rintro r w1 ⟨v1, rfl, ho1, hb1⟩; obtain ⟨a1, c1, hv1, hq1, hc1, hc2⟩ := ho1.slice m1 HM1.out; have hlt1 := own_ltT ho1 hv1; subst hv1; have HQ1 := hid hq1; have HB1 := hid hb1; have HZ1 := hid (HZ.out.later hb1); have lz1 := (HZ.out.later hb1).lt; have HLt := hid hlt1; clear ho1 hb1 hq1 hlt1)
          | (refine store_ev evZ rfl (.tmp 2) (.tmp 29) rfl rfl rfl HZ1.out rfl ?_; intro W9 hx9 hc9))
        exact bodyPost_ret (ret_ev2 Try.results11 _ _ w.heap.size evZ rfl hx9) rfl ⟨evZ, 22, rfl, HG.out, hfin.out w1 W9 HB1.out hc9⟩
    · have hkb : (uk == 33) = false := by simpa using hk
      have HG : Hid (GotT l evZ 22) := HNo.out (fun h => hk h.2.1)
      clear HNo HYs
      go_enter Try.func11, Try.ntmps11
      go_wp2_with (first
        | (go_at_call 20; (with_reducible_and_instances (refine HU.out.mono ?_)); rintro r w1 ⟨v1, rfl, ho1, hb1⟩; obtain ⟨a1, c1, hv1, hq1, hc1, hc2⟩ := ho1.slice m1 HM1.out; have hlt1 := own_ltT ho1 hv1; subst hv1; have HQ1 := hid hq1; have HB1 := hid hb1; have HZ1 := hid (HZ.out.later hb1); have lz1 := (HZ.out.later hb1).lt; have HLt := hid hlt1; clear ho1 hb1 hq1 hlt1)
        | (refine store_ev evZ rfl (.tmp 2) (.tmp 29) rfl rfl rfl HZ1.out rfl ?_; intro W9 hx9 hc9))
      exact bodyPost_ret (ret_ev2 Try.results11 _ _ w.heap.size evZ rfl hx9) rfl ⟨evZ, 22, rfl, HG.out, hfin.out w1 W9 HB1.out hc9⟩
  · have heb : (ue == 0) = false := by simpa using he
    have HG : Hid (GotT l evZ 22) := HNo.out (fun h => he h.1)
    clear HNo HYs
    go_enter Try.func11, Try.ntmps11
    go_wp2_with (first
      | (go_at_call 20; (with_reducible_and_instances (refine HU.out.mono ?_)); rintro r w1 ⟨v1, rfl, ho1, hb1⟩; obtain ⟨a1, c1, hv1, hq1, hc1, hc2⟩ := ho1.slice m1 HM1.out; have hlt1 := own_ltT ho1 hv1; subst hv1; have HQ1 := hid hq1; have HB1 := hid hb1; have HZ1 := hid (HZ.out.later hb1); have lz1 := (HZ.out.later hb1).lt; have HLt := hid hlt1; clear ho1 hb1 hq1 hlt1)
      | (refine store_ev evZ rfl (.tmp 2) (.tmp 29) rfl rfl rfl HZ1.out rfl ?_; intro W9 hx9 hc9))
    exact bodyPost_ret (ret_ev2 Try.results11 _ _ w.heap.size evZ rfl hx9) rfl ⟨evZ, 22, rfl, HG.out, hfin.out w1 W9 HB1.out hc9⟩
end Go.Proofs.Yteogogmmnijagaa
