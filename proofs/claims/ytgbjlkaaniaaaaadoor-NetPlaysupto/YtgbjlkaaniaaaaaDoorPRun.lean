/- A net and the document's net side by side. -/
import Derived.Test.YtgbjlkaaniaaaaaDoorQSend
import Derived.Test.YtgbjlkaaniaaaaaDoorStays
import Derived.BigQuiet
namespace Go.Proofs.YtgbjlkaaniaaaaaDoor
open Go.RowKit
variable {w wi wj : World} {F G Fi Gi : List Nat} {D R : Nat} {s1 s2 : NSt}

/-- The net at s1, the document's at s2; their blocks are apart. -/
structure PS (w : World) (F G : List Nat) (D R : Nat) (s1 s2 : NSt) : Prop where
  n : Nk w F D s1
  q : Qk w G R s2
  d : ∀ g ∈ F, g ∉ G
/-- .. behind some calls that began in w. -/
structure Run (w : World) (F G : List Nat) (wi : World) (Fi Gi : List Nat) (D R : Nat) (s1 s2 : NSt) : Prop where
  ps : PS wi Fi Gi D R s1 s2
  f : ∀ g ∈ Fi, g ∈ F ∨ w.heap.size ≤ g
  g : ∀ g ∈ Gi, g ∈ G ∨ w.heap.size ≤ g
  c : Chg (F ++ G) w wi
theorem PS.later (h : PS w F G D R s1 s2) (hb : Below w.heap.size w wi) : PS wi F G D R s1 s2 := ⟨h.n.below hb, h.q.below hb, h.d⟩
theorem Run.start (h : PS w F G D R s1 s2) : Run w F G w F G D R s1 s2 := ⟨h, fun _ hg => Or.inl hg, fun _ hg => Or.inl hg, Chg.refl _ _⟩
theorem Run.later (h : Run w F G wi Fi Gi D R s1 s2) (hb : Below wi.heap.size wi wj) : Run w F G wj Fi Gi D R s1 s2 := ⟨h.ps.later hb, h.f, h.g, h.c.trans (G := []) (Chg.of hb) (fun k hk => by cases hk)⟩
theorem Run.net (h : Run w F G wi Fi Gi D R s1 s2) {s1' : NSt} (hm : NMoved Fi D s1' wi wj) : ∃ Fj, Run w F G wj Fj Gi D R s1' s2 ∧ ∀ g ∈ Fj, g ∈ Fi ∨ wi.heap.size ≤ g := by
  obtain ⟨Fj, n1, n2⟩ := hm.net
  refine ⟨Fj, ⟨⟨n1, h.ps.q.keep (fun g hg => hm.chg.block g (h.ps.q.lt g hg) (fun hF => h.ps.d g hF hg)) hm.chg.size, fun g hF hG => ?_⟩, fun g hg => ?_, h.g, h.c.trans hm.chg (fun g hg => ?_)⟩, n2⟩
  · rcases n2 g hF with h1 | h1
    · exact h.ps.d g h1 hG
    · have := h.ps.q.lt g hG; omega
  · rcases n2 g hg with h1 | h1
    · exact h.f g h1
    · exact Or.inr (Nat.le_trans h.c.size h1)
  · rcases h.f g hg with h1 | h1
    · exact Or.inl (by simp [h1])
    · exact Or.inr h1
theorem Run.ref (h : Run w F G wi Fi Gi D R s1 s2) {s2' : NSt} (hm : QMoved Gi R s2' wi wj) : ∃ Gj, Run w F G wj Fi Gj D R s1 s2' ∧ ∀ g ∈ Gj, g ∈ Gi ∨ wi.heap.size ≤ g := by
  obtain ⟨Gj, n1, n2⟩ := hm.net
  refine ⟨Gj, ⟨⟨h.ps.n.keep (fun g hg => hm.chg.block g (h.ps.n.lt g hg) (fun hG => h.ps.d g hg hG)) hm.chg.size, n1, fun g hF hG => ?_⟩, h.f, fun g hg => ?_, h.c.trans hm.chg (fun g hg => ?_)⟩, n2⟩
  · rcases n2 g hG with h1 | h1
    · exact h.ps.d g hF h1
    · have := h.ps.n.lt g hF; omega
  · rcases n2 g hg with h1 | h1
    · exact h.g g h1
    · exact Or.inr (Nat.le_trans h.c.size h1)
  · rcases h.g g hg with h1 | h1
    · exact Or.inl (by simp [h1])
    · exact Or.inr h1
/-- A store into a block that is neither's. -/
theorem Run.set (h : Run w F G wi Fi Gi D R s1 s2) {x : Nat} (h1 : x ∉ Fi) (h2 : x ∉ Gi) (h3 : w.heap.size ≤ x) (i : Nat) (u : Value) : Run w F G (wi.setCell ⟨x, i, none⟩ u) Fi Gi D R s1 s2 :=
  ⟨⟨h.ps.n.keep (fun g hg => Below.heap_setCell _ _ _ _ (fun e => h1 (by have e2 : g = x := e; rw [← e2]; exact hg))) (by simp [World.setCell]), h.ps.q.keep (fun g hg => Below.heap_setCell _ _ _ _ (fun e => h2 (by have e2 : g = x := e; rw [← e2]; exact hg))) (by simp [World.setCell]), h.ps.d⟩, h.f, h.g, h.c.set (Or.inr h3) i u⟩
/-- What step answers and leaves. -/
def StepPost (w : World) (F G : List Nat) (D R : Nat) (s : NSt) (e : Ending) (w' : World) : Prop := e = .returned (.bool true) ∧ ∃ F' G', Run w F G w' F' G' D R s s
/-- What the last row of step reads. -/
structure Tail (wi : World) (D R : Nat) (s : NSt) : Prop where
  late : ∀ nq, Calls Tryd.prog 16 #[.pointer (some ⟨D, 0, none⟩)] (wi.drewN nq) fun e w' => e = .returned (.int .i64 (s.late.length : Nat)) ∧ w' = wi.drewN nq
  left : ∀ nq, Calls Tryd.prog 17 #[.pointer (some ⟨D, 0, none⟩)] (wi.drewN nq) fun e w' => e = .returned (.int .i64 (s.luck.length : Nat)) ∧ w' = wi.drewN nq
  c0 : ∃ p c, wi.cell? ⟨R, 0, none⟩ = some (.slice p s.luck.length c)
  c1 : ∃ p c, wi.cell? ⟨R, 1, none⟩ = some (.slice p s.late.length c)
theorem PS.tail {s : NSt} (h : PS wi Fi Gi D R s s) : Tail wi D R s := by
  obtain ⟨a1, a2, hn⟩ := h.n
  obtain ⟨b1, b2, ms, hq, hms⟩ := h.q
  have hl : ms.length = s.late.length := by rw [← hms, List.length_map]
  obtain ⟨p1, c1, rfl, -, -⟩ := hq.r1.form
  obtain ⟨p2, c2, rfl, -, -⟩ := hq.r2.form
  exact ⟨fun nq => late_pic (hn.below (below_drewN' (Below.refl _ _) nq)), fun nq => left_pic (hn.below (below_drewN' (Below.refl _ _) nq)), ⟨p1, c1, hq.cells.1⟩, ⟨p2, c2, by rw [← hl]; exact hq.cells.2⟩⟩
/-- What an Op asks of the bytes and numbers that came in: they are neither net's. -/
structure Far (w : World) (F G : List Nat) (o : OpD) : Prop where
  ok : o.ok w
  b : ∀ b off, o.b = some ⟨b, off, none⟩ → o.bs ≠ [] → b < w.heap.size ∧ b ∉ F ∧ b ∉ G
  l : ∀ b off, o.l = some ⟨b, off, none⟩ → o.llen ≠ 0 → b < w.heap.size ∧ b ∉ F ∧ b ∉ G
theorem Far.text {o : OpD} (h : Far w F G o) (hr : Run w F G wi Fi Gi D R s1 s2) : Part.ok wi ⟨o.b, o.blen, o.bcap, o.bs⟩ :=
  h.ok.text.chg hr.c (fun b off e h0 hm => by
    obtain ⟨h1, h2, h3⟩ := h.b b off e h0
    rcases List.mem_append.1 hm with hm | hm
    · exact h2 hm
    · exact h3 hm)
theorem Far.nums {o : OpD} (h : Far w F G o) (hr : Run w F G wi Fi Gi D R s1 s2) : IArg wi o.cs o.l o.llen :=
  h.ok.nums.chg hr.c (fun b off e h0 hm => by
    obtain ⟨h1, h2, h3⟩ := h.l b off e h0
    rcases List.mem_append.1 hm with hm | hm
    · exact h2 hm
    · exact h3 hm)
theorem Far.offG {o : OpD} (h : Far w F G o) (hr : Run w F G wi Fi Gi D R s1 s2) : ∀ b off, o.b = some ⟨b, off, none⟩ → o.bs ≠ [] → b ∉ Gi := fun b off e h0 hm => by
  obtain ⟨h1, h2, h3⟩ := h.b b off e h0
  rcases hr.g b hm with h4 | h4
  · exact h3 h4
  · omega
/-- What a call on the net leaves: all that is no block of its own is as it was. -/
theorem Run.netP (h : Run w F G wi Fi Gi D R s1 s2) {s1' : NSt} (hm : NMoved Fi D s1' wi wj) : ∃ Fj, (Run w F G wj Fj Gi D R s1' s2 ∧ (∀ g ∈ Fj, g ∈ Fi ∨ wi.heap.size ≤ g) ∧ ∀ {x : Nat} {cs : Array Value} {T : TypeId}, Blk wi x cs T → x ∉ Fi → Blk wj x cs T) ∧ Chg Fi wi wj := by
  obtain ⟨Fj, r, hf⟩ := h.net hm
  exact ⟨Fj, ⟨r, hf, fun hx hn => hx.chg hm.chg hn⟩, hm.chg⟩
theorem Run.refP (h : Run w F G wi Fi Gi D R s1 s2) {s2' : NSt} (hm : QMoved Gi R s2' wi wj) : ∃ Gj, Run w F G wj Fi Gj D R s1 s2' ∧ (∀ g ∈ Gj, g ∈ Gi ∨ wi.heap.size ≤ g) ∧ Chg Gi wi wj := by
  obtain ⟨Gj, r, hf⟩ := h.ref hm
  exact ⟨Gj, r, hf, hm.chg⟩
theorem luckP (h : Run w F G wi Fi Gi D R s1 s2) (ad : Option Addr) (m c : Nat) (l : List Int) (hl : l.length = m) (hf : ∀ x ∈ l, fits x) (hs : Src wi ad m (l.map intV)) (hb : s1.luck.length + m ≤ 17592186044416) :
    Calls Tryd.prog 11 #[.pointer (some ⟨D, 0, none⟩), .slice ad m c] wi fun e wj => e = .returned (.tuple #[]) ∧ ∃ Fj, (Run w F G wj Fj Gi D R (luckD s1 l) s2 ∧ (∀ g ∈ Fj, g ∈ Fi ∨ wi.heap.size ≤ g) ∧ ∀ {x : Nat} {cs : Array Value} {T : TypeId}, Blk wi x cs T → x ∉ Fi → Blk wj x cs T) ∧ Chg Fi wi wj := by
  obtain ⟨a1, a2, hn⟩ := h.ps.n
  refine (luck_pic hn ad m c l hl hf hs hb).mono ?_
  rintro e wj ⟨rfl, hm⟩
  exact ⟨rfl, h.netP hm⟩
theorem qluckP (h : Run w F G wi Fi Gi D R s1 s2) (ad : Option Addr) (m c : Nat) (l : List Int) (hl : l.length = m) (hs : Src wi ad m (l.map intV)) (hb : s2.luck.length + m ≤ 17592186044416) :
    Calls Tryd.prog 18 #[.pointer (some ⟨R, 0, none⟩), .slice ad m c] wi fun e wj => e = .returned (.tuple #[]) ∧ ∃ Gj, Run w F G wj Fi Gj D R s1 (luckD s2 l) ∧ (∀ g ∈ Gj, g ∈ Gi ∨ wi.heap.size ≤ g) ∧ Chg Gi wi wj := by
  obtain ⟨b1, b2, ms, hq, hms⟩ := h.ps.q
  refine (qluck_pic hq ad m c l hl hs hb hms).mono ?_
  rintro e wj ⟨rfl, hm⟩
  exact ⟨rfl, h.refP hm⟩
set_option maxRecDepth 100000 in
set_option maxHeartbeats 2000000 in
/-- Luck. -/
theorem step0 {s : NSt} (h : PS w F G D R s s) (n : Int) (ob : Option Addr) (obl obc : Nat) (ol : Option Addr) (oll olc : Nat) (bs : List Nat) (cs : List Int) (hf : Far w F G ⟨0, n, ob, obl, obc, ol, oll, olc, bs, cs⟩) (hb : s.luck.length ≤ 1099511627776) :
    Calls Tryd.prog 10 #[.pointer (some ⟨D, 0, none⟩), .pointer (some ⟨R, 0, none⟩), .agg #[.int .i64 0, .int .i64 n, .slice ob obl obc, .slice ol oll olc]] w (StepPost w F G D R (luckD s cs)) := by
  obtain ⟨i0, hi, hz0, hz1, hz2⟩ := info_parts Tryd.infoI
  have hll : oll ≤ 1048576 := hf.ok.ll
  have hcl : cs.length = oll := hf.ok.nums.1
  obtain ⟨W0, hW0⟩ : ∃ W0, w.alloc (.cells #[.int .i64 0, .int .i64 n, .slice ob obl obc, .slice ol oll olc] 34) = W0 := ⟨_, rfl⟩
  have b0 : Below w.heap.size w W0 := by rw [← hW0]; exact (Below.refl _ w).alloc (Nat.le_refl _) _
  have hX : Blk W0 w.heap.size #[.int .i64 0, .int .i64 n, .slice ob obl obc, .slice ol oll olc] TO := by rw [← hW0]; exact heap_alloc_last w _
  have z0 : W0.cell? ⟨w.heap.size, 0, none⟩ = some (.int .i64 0) := hX.cell 0
  have hb1 : Below W0.heap.size W0 (W0.alloc (.cells #[] 3)) := (Below.refl _ W0).alloc (Nat.le_refl _) _
  have z3 : (W0.alloc (.cells #[] 3)).cell? ⟨w.heap.size, 3, none⟩ = some (.slice ol oll olc) := (hX.later hb1).cell 3
  have r0 : Run w F G W0 F G D R s s := (Run.start h).later b0
  have HRN := hide r0
  have HX := hide hX
  have HF := hide hf
  have HB1 := hide hb1
  have HCL := hide hcl
  have HNF : Hid (w.heap.size ∉ F ∧ w.heap.size ∉ G) := ⟨fun hm => by have := h.n.lt _ hm; omega, fun hm => by have := h.q.lt _ hm; omega⟩
  have HSR : Hid (Src (W0.alloc (.cells #[] 3)) ol oll (cs.map intV)) := ((hf.nums r0).later hb1).src hf.ok.lnone
  clear h hX r0 hf b0 hb1 hcl
  go_enter Tryd.func10, Tryd.ntmps10
  go_wp2_with (first
    | (at_builtin; refine app_off rfl (.tmp 40) (.tmp 42) 26 rfl i0 (.int .i64 0) 8 Tryd.underlying26 hi hz0 hz1 hz2 rfl (by decide) (off_empty W0 TI 1) ol oll olc (cs.map intV) rfl rfl (by rw [List.length_map, HCL.out]; omega) HSR.out (luckV_one _) (by unfold maxLen; omega) (by omega) ?_; intro u1 w1 hr1 hg1 hu1; have B1 : Hid (Below W0.heap.size W0 w1) := HB1.out.grown hg1 (by simp) (fun k hk => (by simp [Value.ownBlock] at hk; omega)); rw [Nat.zero_add, List.nil_append] at hr1; obtain ⟨p1, c1, hv1, -, -⟩ := hr1.form; subst hv1; have HN := hide (luckP (HRN.out.later B1.out) p1 oll c1 cs HCL.out HF.out.ok.nums.rng hr1.src (by omega)); clear hr1 hg1 hu1)
    | (go_at_call 11; (with_reducible_and_instances (refine HN.out.mono ?_)); rintro e w2 ⟨rfl, hm2⟩; obtain ⟨F2, r2, f2⟩ := hm2; have hX2 : Blk w2 w.heap.size #[.int .i64 0, .int .i64 n, .slice ob obl obc, .slice ol oll olc] TO := r2.2.2 (HX.out.later B1.out) HNF.out.1; have z4 : w2.cell? ⟨w.heap.size, 3, none⟩ = some (.slice ol oll olc) := hX2.cell 3; have HQ := hide (qluckP r2.1 ol oll olc cs HCL.out ((HF.out.nums r2.1).src HF.out.ok.lnone) (by omega)); clear r2 f2 hX2)
    | (go_at_call 18; (with_reducible_and_instances (refine HQ.out.mono ?_)); rintro e w3 ⟨rfl, hm3⟩; obtain ⟨G3, r3, -⟩ := hm3; have R3 := hide r3; obtain ⟨tl, tf, ⟨pa, ca, ta⟩, ⟨pb, cb, tb⟩⟩ := r3.ps.tail; clear r3))
  go_quiet (first | (go_at_call 16; exact Calls.quiet_of_same (tl _)) | (go_at_call 17; exact Calls.quiet_of_same (tf _)))
  go_wp2
  go_ret
  exact ⟨rfl, _, _, R3.out.later (below_drewN' (Below.refl _ _) _)⟩
end Go.Proofs.YtgbjlkaaniaaaaaDoor
