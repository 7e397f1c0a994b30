/- finish of a ledger: an open transaction ends (by genlfin.py). -/
import Derived.Test.YtfgamkcnnijloaaGreatTk
import Derived.Test.YtfgamkcnnijloaaGreatPZMem
import Derived.Test.YtfgamkcnnijloaaGreatPZSm
import Derived.Deep.RegionHeld3
import Derived.OrdersHeld
namespace Go.Proofs.YtfgamkcnnijloaaGreat
open Go.RowKit Go.Shelf
variable {w w' : World} {L t M n N : Nat} {vr vo va : Value} {g : Lg}

theorem OwnK.shape {α : Type} {K : Kd α} {base : Nat} {v : Value} {l : List α} (h : OwnK K w base v l) : ∃ a m c, v = .slice a m c := by
  rcases h.2 with ⟨e, -⟩ | ⟨g, cap, cur, e, -⟩
  · exact ⟨_, _, _, e⟩
  · exact ⟨_, _, _, e⟩
/-- A ledger whose open transaction i is ended by a marker. -/
def finG (g : Lg) (i : Nat) (k : Int) : Lg := { g with opn := g.opn.eraseIdx i, gone := if k = 3 then g.gone ++ [⟨(g.opn.getD i tx0).prod, (g.opn.getD i tx0).first, g.fin⟩] else g.gone }
theorem cell_set_ne {W : World} {b i j : Nat} {v : Value} (h : i ≠ j) : (W.setCell ⟨b, i, none⟩ v).cell? ⟨b, j, none⟩ = W.cell? ⟨b, j, none⟩ := by
  exact World.cell?_setCell_other _ _ _ _ (by intro e; injection e with _ e; exact h e)
theorem cell_set_ne' {W : World} {b b' i j : Nat} {v : Value} (h : b' ≠ b) : (W.setCell ⟨b, i, none⟩ v).cell? ⟨b', j, none⟩ = W.cell? ⟨b', j, none⟩ := by
  simp only [World.cell?, Below.heap_setCell W ⟨b, i, none⟩ v b' h]
theorem gn_row (W : World) (x : Gn) : RowK kGn (W.alloc (.cells #[.int .i64 x.prod, .int .i64 x.first, .int .i64 x.last] 75)).drew (some ⟨W.heap.size, 0, none⟩) [x] := by
  refine Or.inr ⟨W.heap.size, 0, rfl, by simp [World.drew], fun i hi c hc => ?_⟩
  obtain rfl : i = 0 := by simpa using hi
  have hb : Blk (W.alloc (.cells #[.int .i64 x.prod, .int .i64 x.first, .int .i64 x.last] 75)).drew W.heap.size #[.int .i64 x.prod, .int .i64 x.first, .int .i64 x.last] 75 := heap_alloc_new W _
  rw [show 0 + 0 * kGn.sz + c = c by simp]
  exact (hb.cell c).trans (by rw [List.getElem?_toArray]; rfl)
theorem fin_chg {W W2 W3 : World} {F : List Nat} {L : Nat} {v v3 : Value} {o : Obj} {k : Nat} (h : Chg F W W2) (hg : (W2.alloc o).drew.grownBy W3 v.ownBlock) : Chg (F ++ L :: v.ownBlock.toList) W (W3.setCell ⟨L, k, none⟩ v3) := by
  refine ⟨hg.os.trans h.os, hg.tape.trans h.tape, hg.output.trans h.output, ?_, fun b hb hn => ?_⟩
  · have := hg.size; have := h.size; simp [World.setCell, World.drew] at *; omega
  · simp only [List.mem_append, List.mem_cons, Option.mem_toList, not_or] at hn
    have hs := h.size
    rw [Below.heap_setCell _ _ _ _ hn.2.1, hg.block b (by simp [World.drew]; omega) (fun e => hn.2.2 e.symm)]
    show (W2.alloc o).heap[b]? = _
    rw [Below.heap_alloc _ _ _ (by omega)]
    exact h.block b hb hn.1
set_option maxHeartbeats 2000000 in
theorem finish_any (h : LPic0 w L t M n N vr vo va g) (hN : N ≤ w.heap.size) (i : Nat) (hi : i < g.opn.length) (k : Int) (hga : g.gone.length + 1 ≤ maxLen ∧ (g.gone.length + 1) * 24 ≤ 140737488355328) :
    Calls Tryz.prog 51 #[.pointer (some ⟨L, 0, none⟩), .int .i64 (i : Int), .int .i64 k] w fun x w' => x = .returned (.tuple #[]) ∧ ∃ vo' va', LPic0 w' L t M n N vr vo' va' (finG g i k) ∧ Chg (L :: (vo.ownBlock.toList ++ va.ownBlock.toList)) w w' ∧ (∀ b, vo'.ownBlock = some b → vo.ownBlock = some b) ∧ (∀ b, va'.ownBlock = some b → va.ownBlock = some b ∨ w.heap.size ≤ b) := by
  obtain ⟨m, hm⟩ : ∃ m, g.opn.length = m := ⟨_, rfl⟩
  obtain ⟨b, co, hvo, -, hbl⟩ := World.ownsRow.form h.opn (by omega)
  obtain ⟨ad, c', hv2, hA⟩ := h.opn.form kTx_ok.tofit
  rw [hm] at hvo hv2 hA
  obtain rfl := hvo
  cases hv2
  obtain ⟨pr, hpr⟩ : ∃ pr, (g.opn.getD i tx0).prod = pr := ⟨_, rfl⟩
  obtain ⟨fi, hfi⟩ : ∃ fi, (g.opn.getD i tx0).first = fi := ⟨_, rfl⟩
  obtain ⟨fn, hfn⟩ : ∃ fn, g.fin = fn := ⟨_, rfl⟩
  obtain ⟨gs, hgs⟩ : ∃ gs, g.gone = gs := ⟨_, rfl⟩
  obtain ⟨b', off, e1, -, hc⟩ := hA.cells (by omega)
  cases e1
  have r0 : w.cell? ⟨b, i * 2, none⟩ = some (.int .i64 pr) := by have := hc i (by omega) 0 (by decide); rw [← hpr]; simpa [txV] using this
  have r1 : w.cell? ⟨b, i * 2 + 1, none⟩ = some (.int .i64 fi) := by have := hc i (by omega) 1 (by decide); rw [← hfi]; simpa [txV] using this
  have hmx : m ≤ 9223372036854775807 := by have := hA.cap; have := hA.room; unfold maxLen at this; omega
  have him : i < m := by omega
  obtain ⟨aa, ma, ca, hva⟩ := h.gone.shape
  subst hva
  obtain ⟨W0, hW0⟩ : ∃ W0, w.alloc (.cells #[.int .i64 pr, .int .i64 fi] 82) = W0 := ⟨_, rfl⟩
  have b0 : Below w.heap.size w W0 := by rw [← hW0]; exact (Below.refl _ _).alloc (Nat.le_refl _) _
  have x0 : Blk W0 w.heap.size #[.int .i64 pr, .int .i64 fi] 82 := by rw [← hW0]; exact heap_alloc_new w _
  have HD := hid (delete_any (h.later b0).opn hm him)
  have c4 := h.c4
  have d4 := (h.later b0).c4
  have lL := h.lt
  have HP0 := hid (h.later b0)
  have HX0 := hid x0
  have HB0 := hid b0
  have HN := hid hN
  have HGo : Hid (g.fin = fn ∧ g.gone = gs ∧ (g.opn.getD i tx0).prod = pr ∧ (g.opn.getD i tx0).first = fi) := ⟨hfn, hgs, hpr, hfi⟩
  have hapL : b ≠ L := fun e => ((h.apart.2.2.2.2.1 b rfl).1 e)
  have hwr : IntKind.i64.wrap ((i : Int) + 1) = (i : Int) + 1 := by rw [IntKind.wrap_i64]; omega
  rw [hgs] at hga
  clear h hA hc hm hpr hfi hfn hgs b0 x0 hN hi
  have HArm : Hid (∀ W1, OwnK kTx W1 N (.slice (some ⟨b, 0, none⟩) (m - 1) co) (g.opn.eraseIdx i) → W0.grownBy W1 (some b) → W1.cell? ⟨L, 4, none⟩ = some (.slice (some ⟨b, 0, none⟩) m co) ∧ W1.frozen? ⟨L, 4, none⟩ = false ∧ LPic0 (W1.setCell ⟨L, 4, none⟩ (.slice (some ⟨b, 0, none⟩) (m - 1) co)) L t M n N vr (.slice (some ⟨b, 0, none⟩) (m - 1) co) (.slice aa ma ca) { g with opn := g.opn.eraseIdx i } ∧ Blk (W1.setCell ⟨L, 4, none⟩ (.slice (some ⟨b, 0, none⟩) (m - 1) co)) w.heap.size #[.int .i64 pr, .int .i64 fi] 82 ∧ Chg [L, b] w (W1.setCell ⟨L, 4, none⟩ (.slice (some ⟨b, 0, none⟩) (m - 1) co))) := fun W1 ho hg => by
    obtain ⟨q1, q2, q3⟩ := HP0.out.opned hg ho
    refine ⟨q2, q3, q1, ?_, ?_⟩
    · refine ((Below.heap_setCell _ _ _ _ (by show w.heap.size ≠ L; omega)).trans (hg.block _ HX0.out.lt (by intro e; cases e; omega))).trans HX0.out
    · have hs := HB0.out.size
      refine ⟨hg.os.trans HB0.out.os, hg.tape.trans HB0.out.tape, hg.output.trans HB0.out.output, by have := hg.size; simp [World.setCell]; omega, fun x hx hn => ?_⟩
      simp at hn
      rw [Below.heap_setCell _ _ _ _ hn.1, hg.block x (by omega) (by intro e; cases e; exact hn.2 rfl)]
      exact HB0.out.block x hx
  by_cases hk : k = 3
  rotate_left
  · have hk' : (k == 3) = false := by simpa using hk
    have HGn : Hid (finG g i k = { g with opn := g.opn.eraseIdx i }) := by unfold finG; rw [if_neg hk]; exact rfl
    clear hk
    go_enter Tryz.func51, Tryz.ntmps51
    go_wp2_with (go_at_call 81; (with_reducible_and_instances (refine HD.out.mono ?_)); rintro x W1 ⟨rfl, ho1, hg1⟩; obtain ⟨y1, y2, y3⟩ := HArm.out W1 ho1 hg1; have HY := hid y3; clear y3 ho1 hg1)
    refine bodyPost_end (results_none rfl _ _ _) rfl ⟨rfl, .slice (some ⟨b, 0, none⟩) (m - 1) co, .slice aa ma ca, by rw [HGn.out]; exact HY.out.1, HY.out.2.2.mono (by intro x hx; simp at hx; rcases hx with h | h <;> simp [h, Value.ownBlock]), fun x hx => hx, fun x hx => Or.inl hx⟩
  · subst hk
    have HGn : Hid (finG g i 3 = { g with opn := g.opn.eraseIdx i, gone := gs ++ [⟨pr, fi, fn⟩] }) := by unfold finG; rw [if_pos rfl, HGo.out.2.1, HGo.out.2.2.1, HGo.out.2.2.2, HGo.out.1]; exact rfl
    go_enter Tryz.func51, Tryz.ntmps51
    go_wp2_with (go_at_call 81; (with_reducible_and_instances (refine HD.out.mono ?_)); rintro x W1 ⟨rfl, ho1, hg1⟩; obtain ⟨y1, y2, y3⟩ := HArm.out W1 ho1 hg1; have HY := hid y3; clear y3 ho1 hg1; obtain ⟨W2, hW2⟩ : ∃ W2, W1.setCell ⟨L, 4, none⟩ (.slice (some ⟨b, 0, none⟩) (m - 1) co) = W2 := ⟨_, rfl⟩; rw [hW2] at HY)
    have HP2 := hid HY.out.1
    have HC2 := hid HY.out.2.2
    have HX2 := hid HY.out.2.1
    have HVo : Hid (∀ x, (Value.slice (some ⟨b, 0, none⟩) (m - 1) co).ownBlock = some x → (Value.slice (some ⟨b, 0, none⟩) m co).ownBlock = some x) := fun x hx => hx
    have HS : Hid (∀ W, Below W2.heap.size W2 W → (W.cell? ⟨L, 2, none⟩ = some (.int .i64 fn)) ∧ W.cell? ⟨w.heap.size, 0, none⟩ = some (.int .i64 pr) ∧ W.cell? ⟨w.heap.size, 1, none⟩ = some (.int .i64 fi)) := fun W hW => by
      have hp := HP2.out.later hW
      have hx := HX2.out.later hW
      exact ⟨by rw [← HGo.out.1]; exact hp.c2, hx.cell 0, hx.cell 1⟩
    have HL5 : Hid (∀ W, Below W2.heap.size W2 W → W.cell? ⟨L, 5, none⟩ = some (.slice aa ma ca)) := fun W hW => (HP2.out.later hW).c5
    have HOa : Hid (∀ W, Below W2.heap.size W2 W → OwnK kGn W N (.slice aa ma ca) gs) := fun W hW => by rw [← HGo.out.2.1]; exact (HP2.out.later hW).gone
    have HSg : Hid (∀ W3, (W2.alloc (.cells #[.int .i64 pr, .int .i64 fi, .int .i64 fn] 75)).drew.grownBy W3 (Value.slice aa ma ca).ownBlock → (W3.cell? ⟨L, 2, none⟩ = some (.int .i64 fn)) ∧ W3.cell? ⟨w.heap.size, 0, none⟩ = some (.int .i64 pr) ∧ W3.cell? ⟨w.heap.size, 1, none⟩ = some (.int .i64 fi)) := fun W3 hg => by
      have hx := HX2.out.later (((Below.refl _ W2).alloc (Nat.le_refl _) (.cells #[.int .i64 pr, .int .i64 fi, .int .i64 fn] 75)).drew)
      have hp := HP2.out.later (((Below.refl _ W2).alloc (Nat.le_refl _) (.cells #[.int .i64 pr, .int .i64 fi, .int .i64 fn] 75)).drew)
      have h1 : ∀ b, b < ((W2.alloc (.cells #[.int .i64 pr, .int .i64 fi, .int .i64 fn] 75)).drew).heap.size → (Value.slice aa ma ca).ownBlock ≠ some b → W3.heap[b]? = ((W2.alloc (.cells #[.int .i64 pr, .int .i64 fi, .int .i64 fn] 75)).drew).heap[b]? := fun b hb hn => hg.block b hb (fun e => hn e.symm)
      have hbx : Blk W3 L _ TLg := (h1 L hp.lt (fun e => (hp.apart.2.2.2.2.2 L e).1 rfl)).trans hp.box
      have hxx : Blk W3 w.heap.size _ 82 := (h1 w.heap.size hx.lt (fun e => by obtain ⟨-, -, cur, hcc⟩ := hp.gone.block _ e; exact absurd (blk_type hx hcc) (by decide))).trans hx
      exact ⟨by rw [← HGo.out.1]; exact hbx.cell 2, hxx.cell 0, hxx.cell 1⟩
    have lw2 : w.heap.size < W2.heap.size := HX2.out.lt
    refine wp_region_held_drew (S := fun W => (W.cell? ⟨L, 2, none⟩ = some (.int .i64 fn)) ∧ W.cell? ⟨w.heap.size, 0, none⟩ = some (.int .i64 pr) ∧ W.cell? ⟨w.heap.size, 1, none⟩ = some (.int .i64 fi)) (by kernel_rfl) (HS.out _ (Below.refl _ W2).drew) (fun hHeld => ?_)
    refine tk 0 27 hHeld ?_
    try simp only [Act.put, p1, p2, p3]
    refine tk 1 28 hHeld ?_
    try simp only [Act.put, p1, p2, p3]
    refine tk 2 29 hHeld ?_
    try simp only [Act.put, p1, p2, p3]
    refine tk 3 30 hHeld ?_
    try simp only [Act.put, p1, p2, p3]
    refine tk 5 32 hHeld ?_
    try simp only [Act.put, p1, p2, p3]
    refine tk 6 33 hHeld ?_
    try simp only [Act.put, p1, p2, p3]
    refine tk 7 34 hHeld ?_
    try simp only [Act.put, p1, p2, p3]
    refine tk 8 35 hHeld ?_
    try simp only [Act.put, p1, p2, p3]
    refine tk 9 36 hHeld ?_
    try simp only [Act.put, p1, p2, p3]
    refine tk 10 37 hHeld ?_
    try simp only [Act.put, p1, p2, p3]
    refine tk 11 38 hHeld ?_
    try simp only [Act.put, p1, p2, p3]
    refine tk 12 39 hHeld ?_
    try simp only [Act.put, p1, p2, p3]
    refine tk 13 40 hHeld ?_
    try simp only [Act.put, p1, p2, p3]
    refine wpAnyH_ready (rs := [4, 14]) (by kernel_rfl) (by simp) ?_
    refine AllReadyH.cons rfl (fun K hK => ?_) (AllReadyH.cons rfl (fun K hK => ?_) (AllReadyH.nil))
    · skip
      have q0 := HL5.out W2.drew (Below.refl _ W2).drew
      go_simp
      clear q0
      refine hK.out _ _ (HS.out _ (Below.refl _ W2).drew) (fun hHeld => ?_)
      clear hK K
      try simp only [Act.put, p1, p2, p3]
      refine wpAnyH_ready (rs := [14]) (by kernel_rfl) (by simp) ?_
      refine AllReadyH.cons rfl (fun K hK => ?_) (AllReadyH.nil)
      go_simp
      refine hK.out _ _ (HS.out _ ((Below.refl _ W2).alloc (Nat.le_refl _) (.cells #[.int .i64 pr, .int .i64 fi, .int .i64 fn] 75)).drew) (fun hHeld => ?_)
      clear hK K
      try simp only [Act.put, p1, p2, p3]
      refine wpAnyH_ready (rs := [15]) (by kernel_rfl) (by simp) ?_
      refine AllReadyH.cons rfl (fun K hK => ?_) (AllReadyH.nil)
      refine step_app_kd kGn_ok (by rfl) (.tmp 31) (.tmp 41) (by rfl) N (.slice aa ma ca) gs (by rfl) (HOa.out _ ((Below.refl _ W2).alloc (Nat.le_refl _) (.cells #[.int .i64 pr, .int .i64 fi, .int .i64 fn] 75)).drew) W2.heap.size ⟨pr, fi, fn⟩ (by rfl) (gn_row W2 ⟨pr, fi, fn⟩) hga.1 hga.2 (by have := HP2.out.lt; have hN := HN.out; simp [World.drew]; omega) ?_
      intro b3 c3 W3 hO3 hG3 hN3
      obtain ⟨hp3, y1, y2⟩ := (HP2.out.later ((Below.refl _ W2).alloc (Nat.le_refl _) (.cells #[.int .i64 pr, .int .i64 fi, .int .i64 fn] 75)).drew).goneed hG3 hO3
      have HP3 := hid hp3
      have hS3 := HSg.out _ hG3
      have HG3 := hid hG3
      have HN3 := hid hN3
      clear hp3 hG3 hO3 hN3
      refine hK.out _ _ (hS3) (fun hHeld => ?_)
      clear hK K
      refine tk 16 43 hHeld ?_
      refine tk 17 44 hHeld ?_
      refine wpAnyH_ready (rs := [18]) (by kernel_rfl) (by simp) ?_
      refine AllReadyH.cons rfl (fun K hK => ?_) (AllReadyH.nil)
      go_simp
      refine hK.out _ _ (⟨(cell_set_ne (by simp)).trans hS3.1, (cell_set_ne' (by omega)).trans hS3.2.1, (cell_set_ne' (by omega)).trans hS3.2.2⟩) (fun hHeld => ?_)
      clear hK K
      refine wpAnyH_done (by kernel_rfl) ?_ _
      go_wp2_with fail
      refine bodyPost_end (results_none rfl _ _ _) rfl ⟨rfl, .slice (some ⟨b, 0, none⟩) (m - 1) co, .slice (some ⟨b3, 0, none⟩) (gs.length + 1) c3, by rw [HGn.out]; exact HP3.out, ?_, HVo.out, ?_⟩
      · exact (fin_chg HC2.out HG3.out).mono (by intro x hx; simp only [List.mem_append, List.mem_cons, List.not_mem_nil, or_false, Option.mem_toList] at hx ⊢; rcases hx with (rfl | rfl) | rfl | hx; exact Or.inl rfl; exact Or.inr (Or.inl rfl); exact Or.inl rfl; exact Or.inr (Or.inr hx))
      · intro x hx; cases hx; rcases HN3.out with h | h
        · exact Or.inl h
        · right; have := HC2.out.size; have e : ((W2.alloc (.cells #[.int .i64 pr, .int .i64 fi, .int .i64 fn] 75)).drew).heap.size = W2.heap.size + 1 := by simp [World.drew]
          rw [e] at h; show w.heap.size ≤ b3; omega
    · skip
      go_simp
      refine hK.out _ _ (HS.out _ ((Below.refl _ W2).alloc (Nat.le_refl _) (.cells #[.int .i64 pr, .int .i64 fi, .int .i64 fn] 75)).drew) (fun hHeld => ?_)
      clear hK K
      try simp only [Act.put, p1, p2, p3]
      refine wpAnyH_ready (rs := [4]) (by kernel_rfl) (by simp) ?_
      refine AllReadyH.cons rfl (fun K hK => ?_) (AllReadyH.nil)
      have q0 := HL5.out (W2.alloc (.cells #[.int .i64 pr, .int .i64 fi, .int .i64 fn] 75)).drew ((Below.refl _ W2).alloc (Nat.le_refl _) (.cells #[.int .i64 pr, .int .i64 fi, .int .i64 fn] 75)).drew
      go_simp
      clear q0
      refine hK.out _ _ (HS.out _ ((Below.refl _ W2).alloc (Nat.le_refl _) (.cells #[.int .i64 pr, .int .i64 fi, .int .i64 fn] 75)).drew) (fun hHeld => ?_)
      clear hK K
      try simp only [Act.put, p1, p2, p3]
      refine wpAnyH_ready (rs := [15]) (by kernel_rfl) (by simp) ?_
      refine AllReadyH.cons rfl (fun K hK => ?_) (AllReadyH.nil)
      refine step_app_kd kGn_ok (by rfl) (.tmp 31) (.tmp 41) (by rfl) N (.slice aa ma ca) gs (by rfl) (HOa.out _ ((Below.refl _ W2).alloc (Nat.le_refl _) (.cells #[.int .i64 pr, .int .i64 fi, .int .i64 fn] 75)).drew) W2.heap.size ⟨pr, fi, fn⟩ (by rfl) (gn_row W2 ⟨pr, fi, fn⟩) hga.1 hga.2 (by have := HP2.out.lt; have hN := HN.out; simp [World.drew]; omega) ?_
      intro b3 c3 W3 hO3 hG3 hN3
      obtain ⟨hp3, y1, y2⟩ := (HP2.out.later ((Below.refl _ W2).alloc (Nat.le_refl _) (.cells #[.int .i64 pr, .int .i64 fi, .int .i64 fn] 75)).drew).goneed hG3 hO3
      have HP3 := hid hp3
      have hS3 := HSg.out _ hG3
      have HG3 := hid hG3
      have HN3 := hid hN3
      clear hp3 hG3 hO3 hN3
      refine hK.out _ _ (hS3) (fun hHeld => ?_)
      clear hK K
      refine tk 16 43 hHeld ?_
      refine tk 17 44 hHeld ?_
      refine wpAnyH_ready (rs := [18]) (by kernel_rfl) (by simp) ?_
      refine AllReadyH.cons rfl (fun K hK => ?_) (AllReadyH.nil)
      go_simp
      refine hK.out _ _ (⟨(cell_set_ne (by simp)).trans hS3.1, (cell_set_ne' (by omega)).trans hS3.2.1, (cell_set_ne' (by omega)).trans hS3.2.2⟩) (fun hHeld => ?_)
      clear hK K
      refine wpAnyH_done (by kernel_rfl) ?_ _
      go_wp2_with fail
      refine bodyPost_end (results_none rfl _ _ _) rfl ⟨rfl, .slice (some ⟨b, 0, none⟩) (m - 1) co, .slice (some ⟨b3, 0, none⟩) (gs.length + 1) c3, by rw [HGn.out]; exact HP3.out, ?_, HVo.out, ?_⟩
      · exact (fin_chg HC2.out HG3.out).mono (by intro x hx; simp only [List.mem_append, List.mem_cons, List.not_mem_nil, or_false, Option.mem_toList] at hx ⊢; rcases hx with (rfl | rfl) | rfl | hx; exact Or.inl rfl; exact Or.inr (Or.inl rfl); exact Or.inl rfl; exact Or.inr (Or.inr hx))
      · intro x hx; cases hx; rcases HN3.out with h | h
        · exact Or.inl h
        · right; have := HC2.out.size; have e : ((W2.alloc (.cells #[.int .i64 pr, .int .i64 fi, .int .i64 fn] 75)).drew).heap.size = W2.heap.size + 1 := by simp [World.drew]
          rw [e] at h; show w.heap.size ≤ b3; omega
end Go.Proofs.YtfgamkcnnijloaaGreat
