/- Luck of the document's net. -/
import Derived.Test.YtgbjlkaaniaaaaaDoorQPic
namespace Go.Proofs.YtgbjlkaaniaaaaaDoor
open Go.RowKit
variable {w w' : World} {G : List Nat} {R : Nat} {v1 v2 : Value} {luck : List Int} {ms : List QM}

theorem Below.grownBy' {w w' : World} (h : Below w.heap.size w w') (row : Option Nat) : w.grownBy w' row := ⟨h.os, h.tape, h.output, h.size, fun k hk _ => h.block k hk⟩
theorem off_empty (w : World) (T : TypeId) (size : Nat) : OffRow (w.alloc (.cells #[] T)) T size (.slice (some ⟨w.heap.size, 0, none⟩) 0 0) 0 [] :=
  ⟨by simp, Or.inr ⟨w.heap.size, 0, 0, #[], rfl, heap_alloc_last w _, Nat.le_refl _, by unfold maxLen; omega, by simp, fun j hj => by omega⟩⟩
/-- 'append([]byte{}, x...)': a part in new memory. -/
theorem part_new {N : Nat} {v : Value} {l : List Nat} {len : Nat} (hl : l.length = len) (hx : ∀ x ∈ l, x < 256) (h : w.ownsRow N 5 1 v (0 + len) (([] ++ l).map bv)) : ∃ p c, v = .slice p len c ∧ Part.ok w ⟨p, len, c, l⟩ ∧ ∀ b off, p = some ⟨b, off, none⟩ → N ≤ b ∧ b < w.heap.size ∧ ∃ cs fr, w.heap[b]? = some (.cells cs 5 fr) := by
  rw [Nat.zero_add, List.nil_append] at h
  have ho : Own w N v l := ⟨hx, by rw [hl]; exact h⟩
  obtain ⟨ad, cap, rfl, h1, -⟩ := ho.slice len hl
  refine ⟨ad, cap, rfl, h1, fun b off e => ?_⟩
  subst e
  refine ⟨(h.lt b rfl).1, (h.lt b rfl).2, ?_⟩
  rcases h.2 with ⟨e, _⟩ | ⟨g, c', cur, e, _, hg, _⟩
  · cases e
  · cases e; exact ⟨cur, _, hg⟩
set_option maxRecDepth 100000 in
set_option maxHeartbeats 1000000 in
theorem qluck_pic (h : QPic w G R v1 v2 luck ms) (ad : Option Addr) (m c : Nat) (l : List Int) (hl : l.length = m) (hs : Src w ad m (l.map intV)) (hb : luck.length + m ≤ 17592186044416) {late : List Msg} (hms : ms.map QM.msg = late) :
    Calls Tryd.prog 18 #[.pointer (some ⟨R, 0, none⟩), .slice ad m c] w fun e w' => e = .returned (.tuple #[]) ∧ QMoved G R ⟨luck ++ l, late⟩ w w' := by
  obtain ⟨i0, hi, hz0, hz1, hz2⟩ := info_parts Tryd.infoI
  obtain ⟨p, cp, rfl, hq1, hq2⟩ := h.r1.form
  obtain ⟨c0, -⟩ := h.cells
  have H := hide h
  have HS := hide hs
  have HL := hide hl
  have HMS := hide hms
  have hRl := h.lt R h.mD
  have B0 : Hid (Below w.heap.size w (w.alloc (.cells #[] 3))) := (Below.refl _ w).alloc (Nat.le_refl _) _
  have ca : (w.alloc (.cells #[] 3)).cell? ⟨R, 0, none⟩ = some (.slice p luck.length cp) := (B0.out.cell (p := ⟨R, 0, none⟩) hRl).trans c0
  clear h hs hl hms c0
  go_enter Tryd.func18, Tryd.ntmps18
  go_wp2_with (first
    | (at_builtin; refine app_off rfl (.tmp 5) (.tmp 9) 26 rfl i0 (.int .i64 0) 8 Tryd.underlying26 hi hz0 hz1 hz2 rfl (by decide) (off_empty w TI 1) p luck.length cp (luck.map intV) rfl rfl (by rw [List.length_map]; omega) (H.out.r1.src.later B0.out) (luckV_one _) (by unfold maxLen; omega) (by omega) ?_; intro u1 w1 hr1 hg1 hu1; have B1 : Hid (Below w.heap.size w w1) := B0.out.grown hg1 (by simp) (fun k hk => (by simp [Value.ownBlock] at hk; omega)); have R1 := hide hr1; have U1 : Hid (∀ g, u1.ownBlock = some g → w.heap.size ≤ g) := (fun g hg => by rcases hu1 g hg with h | h; (simp [Value.ownBlock] at h; omega); (simp at h; omega)); clear hr1 hg1 hu1)
    | (at_builtin; refine app_off rfl (.tmp 10) (.tmp 11) 26 rfl i0 (.int .i64 0) 8 Tryd.underlying26 hi hz0 hz1 hz2 rfl (by decide) R1.out ad m c (l.map intV) rfl rfl (by rw [List.length_map, HL.out]; omega) (HS.out.later B1.out) (luckV_one _) (by unfold maxLen; omega) (by omega) ?_; intro u2 w2 hr2 hg2 hu2; have B2 : Hid (Below w.heap.size w w2) := B1.out.grown hg2 B1.out.size (fun k hk => U1.out k hk); have R2 := hide hr2; have U2 : Hid (∀ g, u2.ownBlock = some g → w.heap.size ≤ g) := (fun g hg => by rcases hu2 g hg with h | h; exact U1.out g h; exact Nat.le_trans B1.out.size h); obtain ⟨p2, c2, hv2, -, -⟩ := hr2.form; subst hv2; have cw : w2.cell? ⟨R, 0, none⟩ = some (.slice p luck.length cp) := (B2.out.cell (p := ⟨R, 0, none⟩) hRl).trans H.out.cells.1; have fw : w2.frozen? ⟨R, 0, none⟩ = false := (by rw [B2.out.frozen hRl]; exact H.out.free 0); clear hr2 hg2 hu2))
  refine bodyPost_end (results_none rfl _ _ _) rfl ⟨rfl, ?_⟩
  have hn : luck.length + m = (luck ++ l).length := by rw [List.length_append, HL.out]
  have R2b := R2.out
  have U2b := U2.out
  rw [Nat.zero_add] at R2b U2b
  refine H.out.set1 (l := luck ++ l) (Below.grownBy' B2.out _) ?_ (fun g hg => Or.inr (U2b g hg)) HMS.out
  rw [List.map_append, ← hn]
  exact R2b
end Go.Proofs.YtgbjlkaaniaaaaaDoor
