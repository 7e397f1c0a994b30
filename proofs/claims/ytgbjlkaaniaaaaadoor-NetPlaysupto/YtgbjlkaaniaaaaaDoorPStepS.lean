/- Send of step. -/
import Derived.Test.YtgbjlkaaniaaaaaDoorPStep1
namespace Go.Proofs.YtgbjlkaaniaaaaaDoor
open Go.RowKit
variable {w wi wj : World} {F G Fi Gi : List Nat} {D R : Nat} {s1 s2 : NSt} {v1 v2 : Value} {s : NSt}

theorem own_byt {N g len c : Nat} {l : List Nat} (h : Own w N (.slice (some ⟨g, 0, none⟩) (len + 2) c) l) (hl : l.length = len + 2) : Byt w g len := by
  have h2 := h.2
  rw [hl] at h2
  refine ⟨(h2.lt g rfl).2, fun i hi => ?_⟩
  have hc := h2.cellAt i (by omega)
  rw [List.getElem?_map, List.getElem?_eq_getElem (by omega)] at hc
  refine ⟨⟨_, hc⟩, ?_⟩
  rcases h2.2 with ⟨e, _⟩ | ⟨g', c', cur, e, _, hg, _⟩
  · cases e
  · cases e
    simp [World.frozen?, hg]
theorem own_ge {N g len c : Nat} {l : List Nat} (h : Own w N (.slice (some ⟨g, 0, none⟩) (len + 2) c) l) : N ≤ g ∧ g < w.heap.size := World.ownsRow.lt h.2 g rfl
theorem sendP (h : Run w F G wi Fi Gi D R s1 s2) (hT : Tab w) (h0 : 0 ∉ F ∧ 0 ∉ G) (to : Int) (hto : fits to) (ad : Option Addr) (len cap : Nat) (l : List Nat) (hp : Part.ok wi ⟨ad, len, cap, l⟩) (hn0 : ∀ b off, ad = some ⟨b, off, none⟩ → l ≠ [] → b ∉ Fi) (hl : s1.late.length + 1 ≤ 4398046511104) :
    Calls Tryd.prog 12 #[.pointer (some ⟨D, 0, none⟩), .int .i64 to, .slice ad len cap] wi fun e wj => e = .returned (.tuple #[.int .i64 (timesN (fateD s1)), .bool (replyN (fateD s1))]) ∧ ∃ Fj, (Run w F G wj Fj Gi D R (sendD s1 to l) s2 ∧ (∀ g ∈ Fj, g ∈ Fi ∨ wi.heap.size ≤ g) ∧ ∀ {x : Nat} {cs : Array Value} {T : TypeId}, Blk wi x cs T → x ∉ Fi → Blk wj x cs T) ∧ Chg Fi wi wj := by
  obtain ⟨a1, a2, hn⟩ := h.ps.n
  have hTi : Tab wi := hT.chg h.c (by simp [h0])
  have h0i : 0 ∉ Fi := fun hm => by
    rcases h.f 0 hm with h1 | h1
    · exact h0.1 h1
    · have := hT.1; omega
  refine (send_pic hn hTi h0i to hto ad len cap l hp hn0 hl).mono ?_
  rintro e wj ⟨rfl, hm⟩
  exact ⟨rfl, h.netP hm⟩
theorem qsendP (h : Run w F G wi Fi Gi D R s1 s2) (to : Int) (ad : Option Addr) (len cap : Nat) (l : List Nat) (hp : Part.ok wi ⟨ad, len, cap, l⟩) (hlen : len ≤ 1048576) (hn0 : ∀ b off, ad = some ⟨b, off, none⟩ → l ≠ [] → b ∉ Gi) (hb : s2.luck.length ≤ 1099511627776) (hl : s2.late.length ≤ 4194304) :
    Calls Tryd.prog 20 #[.pointer (some ⟨R, 0, none⟩), .int .i64 to, .slice ad len cap] wi fun e wj => e = .returned (.tuple #[.int .i64 (timesN (fateD s2)), .bool (replyN (fateD s2))]) ∧ ∃ Gj, Run w F G wj Fi Gj D R s1 (sendD s2 to l) ∧ (∀ g ∈ Gj, g ∈ Gi ∨ wi.heap.size ≤ g) ∧ Chg Gi wi wj := by
  obtain ⟨b1, b2, ms, hq, hms⟩ := h.ps.q
  refine (qsend_pic hq rfl hms hb (by rw [← hms, List.length_map] at hl; exact hl) to ad len cap l hp hlen hn0).mono ?_
  rintro e wj ⟨rfl, hm⟩
  exact ⟨rfl, h.refP hm⟩
set_option maxRecDepth 100000 in
set_option maxHeartbeats 4000000 in
theorem step1 {s : NSt} (h : PS w F G D R s s) (hT : Tab w) (h0 : 0 ∉ F ∧ 0 ∉ G) (n : Int) (ob : Option Addr) (obl obc : Nat) (ol : Option Addr) (oll olc : Nat) (bs : List Nat) (cs : List Int) (hf : Far w F G ⟨1, n, ob, obl, obc, ol, oll, olc, bs, cs⟩) (hb : s.luck.length ≤ 1099511627776) (hl : s.late.length ≤ 2097152) :
    Calls Tryd.prog 10 #[.pointer (some ⟨D, 0, none⟩), .pointer (some ⟨R, 0, none⟩), .agg #[.int .i64 1, .int .i64 n, .slice ob obl obc, .slice ol oll olc]] w (StepPost w F G D R (sendD s n bs)) := by
  have hbl : obl ≤ 1048576 := hf.ok.bl
  have hfn : fits n := hf.ok.n
  obtain ⟨W0, hW0⟩ : ∃ W0, w.alloc (.cells #[.int .i64 1, .int .i64 n, .slice ob obl obc, .slice ol oll olc] 34) = W0 := ⟨_, rfl⟩
  have b0 : Below w.heap.size w W0 := by rw [← hW0]; exact (Below.refl _ w).alloc (Nat.le_refl _) _
  have hX : Blk W0 w.heap.size #[.int .i64 1, .int .i64 n, .slice ob obl obc, .slice ol oll olc] TO := by rw [← hW0]; exact heap_alloc_last w _
  have z0 : W0.cell? ⟨w.heap.size, 0, none⟩ = some (.int .i64 1) := hX.cell 0
  have z2 : W0.cell? ⟨w.heap.size, 2, none⟩ = some (.slice ob obl obc) := hX.cell 2
  have r0 : Run w F G W0 F G D R s s := (Run.start h).later b0
  have HX := hide hX
  have HR0 := hide r0
  have HB0 := hide b0
  have HF := hide hf
  have HLT : Hid ((∀ g ∈ F, g < w.heap.size) ∧ ∀ g ∈ G, g < w.heap.size) := ⟨h.n.lt, h.q.lt⟩
  have hLe := lent_any ob obl obc bs W0 (hf.text r0) (by omega)
  have HSe : Hid (∀ w1 g c, Below W0.heap.size W0 w1 → W0.heap.size ≤ g → Part.ok w1 ⟨some ⟨g, 0, none⟩, obl, c, bs⟩ → Calls Tryd.prog 12 #[.pointer (some ⟨D, 0, none⟩), .int .i64 n, .slice (some ⟨g, 0, none⟩) obl c] w1 fun e wj => e = .returned (.tuple #[.int .i64 (timesN (fateD s)), .bool (replyN (fateD s))]) ∧ ∃ Fj, (Run w F G wj Fj G D R (sendD s n bs) s ∧ (∀ g ∈ Fj, g ∈ F ∨ w1.heap.size ≤ g) ∧ ∀ {x : Nat} {cs : Array Value} {T : TypeId}, Blk w1 x cs T → x ∉ F → Blk wj x cs T) ∧ Chg F w1 wj) := fun w1 g c hbw hg hp => sendP (r0.later hbw) hT h0 n hfn _ obl c bs hp (fun b off e _ hF => by cases e; have := h.n.lt _ hF; have := b0.size; omega) (by omega)
  have HQS : Hid (∀ w2 F2, Run w F G w2 F2 G D R (sendD s n bs) s → Calls Tryd.prog 20 #[.pointer (some ⟨R, 0, none⟩), .int .i64 n, .slice ob obl obc] w2 fun e wj => e = .returned (.tuple #[.int .i64 (timesN (fateD s)), .bool (replyN (fateD s))]) ∧ ∃ Gj, Run w F G wj F2 Gj D R (sendD s n bs) (sendD s n bs) ∧ (∀ g ∈ Gj, g ∈ G ∨ w2.heap.size ≤ g) ∧ Chg G w2 wj) := fun w2 F2 hr => qsendP hr n ob obl obc bs (hf.text hr) hbl (hf.offG hr) hb (by omega)
  clear h hX r0 b0 hf
  generalize timesN (fateD s) = tz at *
  cases hq : replyN (fateD s)
  all_goals
    rw [hq] at HSe HQS
    clear hq
    as_aux_lemma =>
    go_enter Tryd.func10, Tryd.ntmps10
    go_wp2_with (first
      | (go_at_call 19; (with_reducible_and_instances (refine hLe.mono ?_)); rintro e w1 ⟨gx, cx, rfl, hc1, hc2, ho1, hb1⟩; have y1 : w1.cell? ⟨w.heap.size, 1, none⟩ = some (.int .i64 n) := (HX.out.later hb1).cell 1; have hgx := own_ge ho1; have HO1 := hide ho1; have HB1 := hide hb1; have HGX := hide hgx; have HS1 := hide (HSe.out w1 gx cx hb1 hgx.1 (ho1.cut (HF.out.ok.text.1) (by rw [List.length_append, HF.out.ok.text.1]; rfl))); clear ho1 hb1 hgx)
      | (go_at_call 12; (with_reducible_and_instances (refine HS1.out.mono ?_)); rintro e w2 ⟨rfl, F2, r2, ch2⟩; have X2 : Blk w2 w.heap.size #[.int .i64 1, .int .i64 n, .slice ob obl obc, .slice ol oll olc] TO := r2.2.2 (HX.out.later HB1.out) (fun hF => (by have := HLT.out.1 _ hF; omega)); have y2 : w2.cell? ⟨w.heap.size, 1, none⟩ = some (.int .i64 n) := X2.cell 1; have y3 : w2.cell? ⟨w.heap.size, 2, none⟩ = some (.slice ob obl obc) := X2.cell 2; have HX2 := hide X2; have HR2 := hide r2.1; have HF2 := hide r2.2.1; have HC2 := hide ch2; have HQ := hide (HQS.out w2 F2 r2.1); clear r2 ch2 X2)
      | (go_at_call 20; (with_reducible_and_instances (refine HQ.out.mono ?_)); rintro e w3 ⟨rfl, G3, r3, g3, ch3⟩; have X3 : Blk w3 w.heap.size #[.int .i64 1, .int .i64 n, .slice ob obl obc, .slice ol oll olc] TO := HX2.out.chg ch3 (fun hG => (by have := HLT.out.2 _ hG; omega)); have y4 : w3.cell? ⟨w.heap.size, 2, none⟩ = some (.slice ob obl obc) := X3.cell 2; have hgF : gx ∉ F := (fun hF => (by have := HLT.out.1 _ hF; have := HB0.out.size; have := HGX.out; omega)); have hgG : gx ∉ G := (fun hG => (by have := HLT.out.2 _ hG; have := HB0.out.size; have := HGX.out; omega)); have ho3 := (HO1.out.chg HC2.out (fun g hg => (by cases hg; exact hgF))).chg ch3 (fun g hg => (by cases hg; exact hgG)); have HO3 := hide ho3; have hSt := stays_any gx cx ob obl obc W0.heap.size bs w3 hc1 (by omega) ho3 (HF.out.text r3); have HR3 := hide r3; have HGF : Hid (gx ∉ F2 ∧ gx ∉ G3) := ⟨(fun hF => (by rcases HF2.out gx hF with h | h; exact hgF h; have := HGX.out; omega)), (fun hG => (by rcases g3 gx hG with h | h; exact hgG h; have := HGX.out; have := HC2.out.size; omega))⟩; clear r3 g3 ch3 X3 ho3 hgF hgG)
      | (go_at_call 21; (with_reducible_and_instances (refine hSt.mono ?_)); rintro e w4 ⟨rfl, hb4⟩; have R4 : Hid (Run w F G w4 F2 G3 D R (sendD s n bs) (sendD s n bs)) := HR3.out.later hb4; have BY4 : Hid (Byt w4 gx obl) := (own_byt HO3.out (by rw [List.length_append, HF.out.ok.text.1]; rfl)).later hb4; clear hb4 hSt))
    go_loopw [12] (fun i wt => ∃ m : Nat, m ≤ obl ∧ i = .int .i64 m ∧ Hid (Run w F G wt F2 G3 D R (sendD s n bs) (sendD s n bs) ∧ Byt wt gx obl)) (fun i _ => obl - (intOf i).toNat)
    case atStart => exact ⟨0, by omega, rfl, R4.out, BY4.out⟩
    case round =>
      obtain ⟨m, hm, rfl, HM⟩ := hrel
      clear R4 BY4
      by_cases hlt : m < obl
      · as_aux_lemma =>
        obtain ⟨bv0, k0, k1⟩ := HM.out.2.cell hlt
        go_wp2_with fail
        refine ⟨⟨m + 1, by omega, by go_num, ?_⟩, by simp [intOf]; omega⟩
        have h5 := HGX.out
        have h6 := HB0.out.size
        exact ⟨HM.out.1.set HGF.out.1 HGF.out.2 (by omega) _ _, HM.out.2.set _⟩
      · as_aux_lemma =>
        obtain ⟨tl, tf, ⟨pa, ca, ta⟩, ⟨pb, cb, tb⟩⟩ := HM.out.1.ps.tail
        go_wp2_with fail
        go_quiet (first | (go_at_call 16; exact Calls.quiet_of_same (tl _)) | (go_at_call 17; exact Calls.quiet_of_same (tf _)))
        go_wp2
        go_ret
        exact ⟨rfl, _, _, HM.out.1.later (below_drewN' (Below.refl _ _) _)⟩
end Go.Proofs.YtgbjlkaaniaaaaaDoor
