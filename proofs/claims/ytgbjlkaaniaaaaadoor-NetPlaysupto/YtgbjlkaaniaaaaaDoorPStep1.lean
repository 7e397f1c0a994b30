/- Message and Send of step. -/
import Derived.Test.YtgbjlkaaniaaaaaDoorPStep2
namespace Go.Proofs.YtgbjlkaaniaaaaaDoor
open Go.RowKit
variable {w wi wj : World} {F G Fi Gi : List Nat} {D R : Nat} {s1 s2 : NSt} {v1 v2 : Value} {s : NSt}

theorem messageP (h : Run w F G wi Fi Gi D R s1 s2) (k : Int) :
    Calls Tryd.prog 13 #[.pointer (some ⟨D, 0, none⟩), .int .i64 k] wi fun e wj => ∃ p n c, e = .returned (.tuple #[.int .i64 (msgD s1 k).to, .slice p n c, .bool (hasD s1 k)]) ∧ Part.ok wj ⟨p, n, c, (msgD s1 k).b⟩ ∧ Below wi.heap.size wi wj ∧ n ≤ c ∧ (n = 0 ∨ ∃ g, p = some ⟨g, 0, none⟩ ∧ wi.heap.size ≤ g ∧ Byt wj g n) := by
  obtain ⟨a1, a2, hn⟩ := h.ps.n
  exact message_byt hn k
theorem qmessageP (h : Run w F G wi Fi Gi D R s1 s2) (k : Int) :
    Calls Tryd.prog 22 #[.pointer (some ⟨R, 0, none⟩), .int .i64 k] wi fun e wj => ∃ Q : Part, e = .returned (.tuple #[.int .i64 (msgD s2 k).to, .slice Q.ad Q.len Q.cap, .bool (hasD s2 k)]) ∧ Q.l = (msgD s2 k).b ∧ Q.ok wj ∧ Below wi.heap.size wi wj := by
  obtain ⟨b1, b2, ms, hq, hms⟩ := h.ps.q
  refine (qmessage_pic hq hms k).mono ?_
  rintro e wj ⟨⟨Q, rfl, q1, q2, q3⟩, hb⟩
  exact ⟨Q, rfl, q1, q2, hb⟩
theorem PS.len {s : NSt} (h : PS w F G D R s s) (k : Int) : (msgD s k).b.length ≤ 1048576 := by
  obtain ⟨b1, b2, ms, hq, hms⟩ := h.q
  cases hk : hasD s k with
  | false => unfold msgD; rw [hk]; simp
  | true =>
    obtain ⟨n, hn, rfl, hm⟩ := has_yes hk
    have hn2 : n < ms.length := by rw [← hms, List.length_map] at hn; exact hn
    have e : s.late[n]? = some (ms[n].msg) := by rw [← hms, List.getElem?_map, List.getElem?_eq_getElem hn2]; rfl
    rw [List.getElem?_eq_getElem hn] at e
    rw [hm, Option.some.inj e]
    have h1 := hq.ps _ (List.getElem_mem hn2)
    show ms[n].p.l.length ≤ _
    rw [h1.1.1]
    exact h1.2.1
set_option maxRecDepth 100000 in
set_option maxHeartbeats 2000000 in
theorem step2 {s : NSt} (h : PS w F G D R s s) (n : Int) (ob : Option Addr) (obl obc : Nat) (ol : Option Addr) (oll olc : Nat) :
    Calls Tryd.prog 10 #[.pointer (some ⟨D, 0, none⟩), .pointer (some ⟨R, 0, none⟩), .agg #[.int .i64 2, .int .i64 n, .slice ob obl obc, .slice ol oll olc]] w (StepPost w F G D R s) := by
  obtain ⟨W0, hW0⟩ : ∃ W0, w.alloc (.cells #[.int .i64 2, .int .i64 n, .slice ob obl obc, .slice ol oll olc] 34) = W0 := ⟨_, rfl⟩
  have b0 : Below w.heap.size w W0 := by rw [← hW0]; exact (Below.refl _ w).alloc (Nat.le_refl _) _
  have hX : Blk W0 w.heap.size #[.int .i64 2, .int .i64 n, .slice ob obl obc, .slice ol oll olc] TO := by rw [← hW0]; exact heap_alloc_last w _
  have z0 : W0.cell? ⟨w.heap.size, 0, none⟩ = some (.int .i64 2) := hX.cell 0
  have z1 : W0.cell? ⟨w.heap.size, 1, none⟩ = some (.int .i64 n) := hX.cell 1
  have r0 : Run w F G W0 F G D R s s := (Run.start h).later b0
  have HX := hide hX
  have HR0 := hide r0
  have HB0 := hide b0
  have HLT : Hid ((∀ g ∈ F, g < w.heap.size) ∧ ∀ g ∈ G, g < w.heap.size) := ⟨h.n.lt, h.q.lt⟩
  have hMs := messageP r0 n
  have hml := h.len n
  have HQM : Hid (∀ w1, Run w F G w1 F G D R s s → Calls Tryd.prog 22 #[.pointer (some ⟨R, 0, none⟩), .int .i64 n] w1 fun e wj => ∃ Q : Part, e = .returned (.tuple #[.int .i64 (msgD s n).to, .slice Q.ad Q.len Q.cap, .bool (hasD s n)]) ∧ Q.l = (msgD s n).b ∧ Q.ok wj ∧ Below w1.heap.size w1 wj) := fun w1 hr => qmessageP hr n
  clear h hX r0 b0
  obtain ⟨y, hy⟩ : ∃ y, y = bstr (msgD s n).b := ⟨_, rfl⟩
  have HY := hide hy
  clear hy
  have hyy : (y.toList == y.toList) = true := by simp
  generalize (msgD s n).to = mt at *
  generalize (msgD s n).b = mb at *
  cases hq : hasD s n
  all_goals
    rw [hq] at hMs HQM
    clear hq
    as_aux_lemma =>
    go_enter Tryd.func10, Tryd.ntmps10
    go_wp2_with (first
      | (go_at_call 13; (with_reducible_and_instances (refine hMs.mono ?_)); rintro e w1 ⟨q1a, q1n, q1c, rfl, q1, q2, q3, q4⟩; have X1 : Blk w1 w.heap.size #[.int .i64 2, .int .i64 n, .slice ob obl obc, .slice ol oll olc] TO := HX.out.later q2; have y1 : w1.cell? ⟨w.heap.size, 1, none⟩ = some (.int .i64 n) := X1.cell 1; have HQ := hide (HQM.out w1 (HR0.out.later q2)); have hqb : q1n ≤ 1048576 := (by have e := q1.1; simp only at e; omega); have HQ1 := hide q1; have HQ2 := hide q2; have HQ4 := hide q4; clear q1 q2 q4 X1)
      | (go_at_call 22; (with_reducible_and_instances (refine HQ.out.mono ?_)); rintro e w2 ⟨Q2, rfl, p1, p2, p3⟩; have cv1 := conv_any (HQ1.out.later p3).2.2 q1n q1c HQ1.out.1; have cv2 := conv_any p2.2.2 Q2.len Q2.cap p2.1; simp only at cv1; rw [← HY.out] at cv1; rw [p1, ← HY.out] at cv2; have HP3 := hide p3; have R2 : Hid (Run w F G w2 F G D R s s) := (HR0.out.later HQ2.out).later p3; clear p1 p2 p3))
    clear cv1 cv2
    go_loopw [19] (fun i wt => ∃ m : Nat, m ≤ q1n ∧ i = .int .i64 m ∧ Hid (Run w F G wt F G D R s s ∧ (q1n = 0 ∨ ∃ g, q1a = some ⟨g, 0, none⟩ ∧ W0.heap.size ≤ g ∧ Byt wt g q1n))) (fun i _ => q1n - (intOf i).toNat)
    case atStart => exact ⟨0, by omega, rfl, R2.out, HQ4.out.imp id (fun ⟨g, h1, h2, h3⟩ => ⟨g, h1, h2, h3.later HP3.out⟩)⟩
    case round =>
      obtain ⟨m, hm, rfl, HM⟩ := hrel
      clear R2
      by_cases hlt : m < q1n
      · as_aux_lemma =>
        obtain ⟨g, hga, hg2, hby⟩ := HM.out.2.resolve_left (by omega)
        subst hga
        obtain ⟨bv0, k0, k1⟩ := hby.cell hlt
        have HBY := hide hby
        clear hby
        go_wp2_with fail
        refine ⟨⟨m + 1, by omega, by go_num, ?_⟩, by simp [intOf]; omega⟩
        have hsz := HB0.out.size
        have hlts := HLT.out
        exact ⟨HM.out.1.set (fun hF => by have := hlts.1 g hF; omega) (fun hG => by have := hlts.2 g hG; omega) (by omega) _ _, Or.inr ⟨g, rfl, hg2, HBY.out.set _⟩⟩
      · as_aux_lemma =>
        obtain ⟨tl, tf, ⟨pa, ca, ta⟩, ⟨pb, cb, tb⟩⟩ := HM.out.1.ps.tail
        go_wp2_with fail
        go_quiet (first | (go_at_call 16; exact Calls.quiet_of_same (tl _)) | (go_at_call 17; exact Calls.quiet_of_same (tf _)))
        go_wp2
        go_ret
        exact ⟨rfl, _, _, HM.out.1.later (below_drewN' (Below.refl _ _) _)⟩
end Go.Proofs.YtgbjlkaaniaaaaaDoor
