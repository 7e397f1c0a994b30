/- Double and Take of step. -/
import Derived.Test.YtgbjlkaaniaaaaaDoorPRun
import Derived.Deep.RegionHeld3
namespace Go.Proofs.YtgbjlkaaniaaaaaDoor
open Go.RowKit
variable {w wi wj : World} {F G Fi Gi : List Nat} {D R : Nat} {s1 s2 : NSt}

theorem doubleP (h : Run w F G wi Fi Gi D R s1 s2) (k : Int) (hb : s1.late.length + 1 ≤ 4398046511104) :
    Calls Tryd.prog 15 #[.pointer (some ⟨D, 0, none⟩), .int .i64 k] wi fun e wj => e = .returned (.bool (hasD s1 k)) ∧ ∃ Fj, (Run w F G wj Fj Gi D R (doubleD s1 k) s2 ∧ (∀ g ∈ Fj, g ∈ Fi ∨ wi.heap.size ≤ g) ∧ ∀ {x : Nat} {cs : Array Value} {T : TypeId}, Blk wi x cs T → x ∉ Fi → Blk wj x cs T) ∧ Chg Fi wi wj := by
  obtain ⟨a1, a2, hn⟩ := h.ps.n
  refine (double_pic hn k hb).mono ?_
  rintro e wj ⟨rfl, hm⟩
  exact ⟨rfl, h.netP hm⟩
theorem qdoubleP (h : Run w F G wi Fi Gi D R s1 s2) (k : Int) (hb : s2.late.length ≤ 4194304) :
    Calls Tryd.prog 24 #[.pointer (some ⟨R, 0, none⟩), .int .i64 k] wi fun e wj => e = .returned (.bool (hasD s2 k)) ∧ ∃ Gj, Run w F G wj Fi Gj D R s1 (doubleD s2 k) ∧ (∀ g ∈ Gj, g ∈ Gi ∨ wi.heap.size ≤ g) ∧ Chg Gi wi wj := by
  obtain ⟨b1, b2, ms, hq, hms⟩ := h.ps.q
  refine (qdouble_pic hq rfl hms (by rw [← hms, List.length_map] at hb; exact hb) k).mono ?_
  rintro e wj ⟨rfl, hm⟩
  exact ⟨rfl, h.refP hm⟩
set_option maxRecDepth 100000 in
set_option maxHeartbeats 2000000 in
theorem step4 {s : NSt} (h : PS w F G D R s s) (kd n : Int) (ob : Option Addr) (obl obc : Nat) (ol : Option Addr) (oll olc : Nat) (h0 : (kd == 0) = false) (h1 : (kd == 1) = false) (h2 : (kd == 2) = false) (h3 : (kd == 3) = false) (hb : s.late.length ≤ 2097152) :
    Calls Tryd.prog 10 #[.pointer (some ⟨D, 0, none⟩), .pointer (some ⟨R, 0, none⟩), .agg #[.int .i64 kd, .int .i64 n, .slice ob obl obc, .slice ol oll olc]] w (StepPost w F G D R (doubleD s n)) := by
  obtain ⟨W0, hW0⟩ : ∃ W0, w.alloc (.cells #[.int .i64 kd, .int .i64 n, .slice ob obl obc, .slice ol oll olc] 34) = W0 := ⟨_, rfl⟩
  have b0 : Below w.heap.size w W0 := by rw [← hW0]; exact (Below.refl _ w).alloc (Nat.le_refl _) _
  have hX : Blk W0 w.heap.size #[.int .i64 kd, .int .i64 n, .slice ob obl obc, .slice ol oll olc] TO := by rw [← hW0]; exact heap_alloc_last w _
  have z0 : W0.cell? ⟨w.heap.size, 0, none⟩ = some (.int .i64 kd) := hX.cell 0
  have r0 : Run w F G W0 F G D R s s := (Run.start h).later b0
  have hnf : w.heap.size ∉ F ∧ w.heap.size ∉ G := ⟨fun hm => by have := h.n.lt _ hm; omega, fun hm => by have := h.q.lt _ hm; omega⟩
  have HXD : Hid (Blk W0.drew w.heap.size #[.int .i64 kd, .int .i64 n, .slice ob obl obc, .slice ol oll olc] TO) := hX
  have hDb := doubleP (r0.later ((Below.refl _ W0).drew)) n (by omega)
  have HQD : Hid (∀ w1 F1, Run w F G w1 F1 G D R (doubleD s n) s → Calls Tryd.prog 24 #[.pointer (some ⟨R, 0, none⟩), .int .i64 n] w1 fun e wj => e = .returned (.bool (hasD s n)) ∧ ∃ Gj, Run w F G wj F1 Gj D R (doubleD s n) (doubleD s n) ∧ (∀ g ∈ Gj, g ∈ G ∨ w1.heap.size ≤ g) ∧ Chg G w1 wj) := fun w1 F1 hr => qdoubleP hr n (by omega)
  have HNF := hide hnf
  clear h hX r0 b0 hnf
  cases hq : hasD s n
  all_goals
    rw [hq] at hDb HQD
    clear hq
    go_enter Tryd.func10, Tryd.ntmps10
    go_wp2_with fail
    go_region_held3 (fun W => W.cell? ⟨w.heap.size, 1, none⟩ = some (.int .i64 n)) (first | exact HXD.out.cell 1 | exact X1.out.cell 1 | exact X2.out.cell 1)
      (first
        | (go_at_call 15; (with_reducible_and_instances (refine hDb.mono ?_)); rintro e w1 ⟨rfl, hm1⟩; obtain ⟨F1, r1, f1⟩ := hm1; have X1 : Hid (Blk w1 w.heap.size #[.int .i64 kd, .int .i64 n, .slice ob obl obc, .slice ol oll olc] TO) := r1.2.2 HXD.out HNF.out.1; have HQ := hide (HQD.out w1 F1 r1.1); clear r1 f1)
        | (go_at_call 24; (with_reducible_and_instances (refine HQ.out.mono ?_)); rintro e w2 ⟨rfl, hm2⟩; obtain ⟨G2, r2, -, ch2⟩ := hm2; have X2 : Hid (Blk w2 w.heap.size #[.int .i64 kd, .int .i64 n, .slice ob obl obc, .slice ol oll olc] TO) := X1.out.chg ch2 HNF.out.2; have R2 := hide r2; clear r2 ch2))
    all_goals obtain ⟨tl, tf, ⟨pa, ca, ta⟩, ⟨pb, cb, tb⟩⟩ := R2.out.ps.tail
    all_goals go_wp2_with fail
    all_goals go_quiet (first | (go_at_call 16; exact Calls.quiet_of_same (tl _)) | (go_at_call 17; exact Calls.quiet_of_same (tf _)))
    all_goals go_wp2
    all_goals go_ret
    all_goals exact ⟨rfl, _, _, R2.out.later (below_drewN' (Below.refl _ _) _)⟩
/-- Take of the net: its bytes are no block of the document's net. -/
theorem takeP (h : Run w F G wi Fi Gi D R s1 s2) (k : Int) :
    Calls Tryd.prog 14 #[.pointer (some ⟨D, 0, none⟩), .int .i64 k] wi fun e wj => ∃ Q : Part, e = .returned (.tuple #[.int .i64 (msgD s1 k).to, .slice Q.ad Q.len Q.cap, .bool (hasD s1 k)]) ∧ Q.l = (msgD s1 k).b ∧ Q.ok wj ∧ (∀ b off, Q.ad = some ⟨b, off, none⟩ → b ∉ Gi) ∧ ∃ Fj, (Run w F G wj Fj Gi D R (takeD s1 k) s2 ∧ (∀ g ∈ Fj, g ∈ Fi ∨ wi.heap.size ≤ g) ∧ ∀ {x : Nat} {cs : Array Value} {T : TypeId}, Blk wi x cs T → x ∉ Fi → Blk wj x cs T) ∧ Chg Fi wi wj := by
  obtain ⟨a1, a2, hn⟩ := h.ps.n
  refine (take_pic hn k).mono ?_
  rintro e wj ⟨⟨Q, rfl, q1, q2, q3⟩, hm⟩
  exact ⟨Q, rfl, q1, q2, fun b off e hG => by have := q3 b off e; have := h.ps.q.lt b hG; omega, h.netP hm⟩
theorem qtakeP (h : Run w F G wi Fi Gi D R s1 s2) (k : Int) (hb : s2.late.length ≤ 4194304) :
    Calls Tryd.prog 23 #[.pointer (some ⟨R, 0, none⟩), .int .i64 k] wi fun e wj => ∃ Q : Part, e = .returned (.tuple #[.int .i64 (msgD s2 k).to, .slice Q.ad Q.len Q.cap, .bool (hasD s2 k)]) ∧ Q.l = (msgD s2 k).b ∧ Q.ok wj ∧ ∃ Gj, Run w F G wj Fi Gj D R s1 (takeD s2 k) ∧ (∀ g ∈ Gj, g ∈ Gi ∨ wi.heap.size ≤ g) ∧ Chg Gi wi wj := by
  obtain ⟨b1, b2, ms, hq, hms⟩ := h.ps.q
  refine (qtake_pic hq rfl hms (by rw [← hms, List.length_map] at hb; exact hb) k).mono ?_
  rintro e wj ⟨⟨Q, rfl, q1, q2, q3⟩, hm⟩
  exact ⟨Q, rfl, q1, q2, h.refP hm⟩
set_option maxRecDepth 100000 in
set_option maxHeartbeats 2000000 in
theorem step3 {s : NSt} (h : PS w F G D R s s) (n : Int) (ob : Option Addr) (obl obc : Nat) (ol : Option Addr) (oll olc : Nat) (hb : s.late.length ≤ 2097152) :
    Calls Tryd.prog 10 #[.pointer (some ⟨D, 0, none⟩), .pointer (some ⟨R, 0, none⟩), .agg #[.int .i64 3, .int .i64 n, .slice ob obl obc, .slice ol oll olc]] w (StepPost w F G D R (takeD s n)) := by
  obtain ⟨W0, hW0⟩ : ∃ W0, w.alloc (.cells #[.int .i64 3, .int .i64 n, .slice ob obl obc, .slice ol oll olc] 34) = W0 := ⟨_, rfl⟩
  have b0 : Below w.heap.size w W0 := by rw [← hW0]; exact (Below.refl _ w).alloc (Nat.le_refl _) _
  have hX : Blk W0 w.heap.size #[.int .i64 3, .int .i64 n, .slice ob obl obc, .slice ol oll olc] TO := by rw [← hW0]; exact heap_alloc_last w _
  have z0 : W0.cell? ⟨w.heap.size, 0, none⟩ = some (.int .i64 3) := hX.cell 0
  have z1 : W0.cell? ⟨w.heap.size, 1, none⟩ = some (.int .i64 n) := hX.cell 1
  have r0 : Run w F G W0 F G D R s s := (Run.start h).later b0
  have HNF : Hid (w.heap.size ∉ F ∧ w.heap.size ∉ G) := ⟨fun hm => by have := h.n.lt _ hm; omega, fun hm => by have := h.q.lt _ hm; omega⟩
  have HX := hide hX
  have hTk := takeP r0 n
  have HQT : Hid (∀ w1 F1, Run w F G w1 F1 G D R (takeD s n) s → Calls Tryd.prog 23 #[.pointer (some ⟨R, 0, none⟩), .int .i64 n] w1 fun e wj => ∃ Q : Part, e = .returned (.tuple #[.int .i64 (msgD s n).to, .slice Q.ad Q.len Q.cap, .bool (hasD s n)]) ∧ Q.l = (msgD s n).b ∧ Q.ok wj ∧ ∃ Gj, Run w F G wj F1 Gj D R (takeD s n) (takeD s n) ∧ (∀ g ∈ Gj, g ∈ G ∨ w1.heap.size ≤ g) ∧ Chg G w1 wj) := fun w1 F1 hr => qtakeP hr n (by omega)
  clear h hX r0 b0
  obtain ⟨y, hy⟩ : ∃ y, y = bstr (msgD s n).b := ⟨_, rfl⟩
  have HY := hide hy
  clear hy
  have hyy : (y.toList == y.toList) = true := by simp
  generalize (msgD s n).to = mt at *
  generalize (msgD s n).b = mb at *
  cases hq : hasD s n
  all_goals
    rw [hq] at hTk HQT
    clear hq
    go_enter Tryd.func10, Tryd.ntmps10
    go_wp2_with (first
      | (go_at_call 14; (with_reducible_and_instances (refine hTk.mono ?_)); rintro e w1 ⟨Q1, rfl, q1, q2, q3, F1, r1, f1⟩; have X1 : Blk w1 w.heap.size #[.int .i64 3, .int .i64 n, .slice ob obl obc, .slice ol oll olc] TO := r1.2.2 HX.out HNF.out.1; have y1 : w1.cell? ⟨w.heap.size, 1, none⟩ = some (.int .i64 n) := X1.cell 1; have HQ := hide (HQT.out w1 F1 r1.1); have HQ1 := hide q1; have HQ2 := hide q2; have HQ3 := hide q3; clear r1 f1 q1 q2 q3 X1)
      | (go_at_call 23; (with_reducible_and_instances (refine HQ.out.mono ?_)); rintro e w2 ⟨Q2, rfl, p1, p2, G2, r2, -, ch2⟩; have cv1 := conv_any (HQ2.out.chg ch2 (fun b off e _ => HQ3.out b off e)).2.2 Q1.len Q1.cap HQ2.out.1; have cv2 := conv_any p2.2.2 Q2.len Q2.cap p2.1; rw [HQ1.out, ← HY.out] at cv1; rw [p1, ← HY.out] at cv2; have R2 := hide r2; obtain ⟨tl, tf, ⟨pa, ca, ta⟩, ⟨pb, cb, tb⟩⟩ := r2.ps.tail; clear r2 ch2 p1 p2))
    go_quiet (first | (go_at_call 16; exact Calls.quiet_of_same (tl _)) | (go_at_call 17; exact Calls.quiet_of_same (tf _)))
    go_wp2
    go_ret
    exact ⟨rfl, _, _, R2.out.later (below_drewN' (Below.refl _ _) _)⟩
end Go.Proofs.YtgbjlkaaniaaaaaDoor
