/- 'append(texts, text)': a text more, and in which block. No function of the program is named here. -/
import Derived.Test.YtdcgokkbmplihaaSyncedM
import Derived.Test.YtdcgokkbmplihaaAppNums
import Derived.Test.YtdcgokkbmplihaaOpenOps
import Derived.Deep.RegionHeld3
import Derived.Test.YtdcgokkbmplihaaOpen
import Derived.Test.YtdcgokkbmplihaaBulkOps
namespace Go.Proofs.Ytdcgokkbmplihaa
open Go.RowKit

theorem run_app_txt {w : World} {n : Nat} {v : Value} {xs : List Value} (hown : w.ownsRow 0 32 1 v n xs) (ty : TypeId) (g1 : Nat) (u : Value) (hc : w.heap[g1]? = some (.cells #[u] 32 (0, 0))) (h1 : u.oneCell' = true) (hn : n ≤ 1073741824) :
    ∃ g' c' w', (Builtin.append_ #[49, 49] ty #[v, .slice (some ⟨g1, 0, none⟩) 1 1]).run Try.prog w = .ok (.slice (some ⟨g', 0, none⟩) (n + 1) c') w' ∧ (v.ownBlock = some g' ∨ g' = w.heap.size) ∧
      w'.ownsRow 0 32 1 (.slice (some ⟨g', 0, none⟩) (n + 1) c') (n + 1) (xs ++ [u]) ∧ w.grownBy w' v.ownBlock := by
  obtain ⟨i0, hi, hz0, hz1, hz2⟩ := info_parts Try.infoS
  have hnews : ∀ j x, [u][j]? = some x → w.cell? ((⟨g1, 0, none⟩ : Addr).add j) = some x := fun j x hu => by
    cases j with
    | zero => rw [addr_add, cell_of_row _ _ _ _ _ _ hc]; simpa using hu
    | succ j => simp at hu
  have hone : ∀ x ∈ [u], x.oneCell' = true := fun x hx => by simp at hx; rw [hx]; exact h1
  have hzc : (Value.slice none 0 0).cells.size = 1 := rfl
  obtain ⟨v', w', hr, h2, h3, -⟩ := run_append_own (P := Try.prog) w 0 49 ty 32 i0 (.slice none 0 0) 1 24 Try.underlying49 hi hz0 hz1 hz2 hzc (by decide) v n xs hown ⟨g1, 0, none⟩ 1 1 [u] rfl hnews hone (by unfold maxLen; omega) (by omega) (Nat.zero_le _)
  have hx : ∃ g' c', v' = .slice (some ⟨g', 0, none⟩) (n + 1) c' ∧ (v.ownBlock = some g' ∨ g' = w.heap.size) := by
    rcases hown.2 with ⟨e, e0⟩ | ⟨g0, cap0, cur, e, hbg, hg, hnc, hcm, hcs, htake⟩
    · subst e
      subst e0
      have hq := run_append_nil (P := Try.prog) w 49 ty 32 i0 (.slice none 0 0) Try.underlying49 hi hz0 ⟨g1, 0, none⟩ 1 1 [u] (by rw [hz1]; rfl) hnews (by omega) (by omega) (by rw [hz2]; omega)
      rw [hr] at hq
      injection hq with hq1 hq2
      exact ⟨w.heap.size, _, by rw [hq1], Or.inr rfl⟩
    · subst e
      by_cases hroom : n + 1 ≤ cap0
      · have hq := run_append_room (P := Try.prog) w 49 ty 32 i0 Try.underlying49 hi g0 n cap0 cur hg ⟨g1, 0, none⟩ 1 1 [u] (by rw [hz1]; rfl) hnews hone hroom (by rw [hz1, hcs]; simp; omega)
        rw [hr] at hq
        injection hq with hq1 hq2
        exact ⟨g0, cap0, hq1, Or.inl rfl⟩
      · have holds : ∀ j u, xs[j]? = some u → w.cell? ((⟨g0, 0, none⟩ : Addr).add j) = some u := hown.cells (g := g0) rfl
        have hq := run_append_grow (P := Try.prog) w 49 ty 32 i0 (.slice none 0 0) Try.underlying49 hi hz0 ⟨g0, 0, none⟩ n cap0 xs (by rw [hz1]; exact hown.1) holds ⟨g1, 0, none⟩ 1 1 [u] (by rw [hz1]; rfl) hnews (by omega) (by omega) (growslice_fits (by omega) (by rw [hz2]; omega))
        rw [hr] at hq
        injection hq with hq1 hq2
        exact ⟨w.heap.size, _, hq1, Or.inr rfl⟩
  obtain ⟨g', c', rfl, hg'⟩ := hx
  exact ⟨g', c', w', hr, hg', h2, h3⟩
theorem step_app_txt {w : World} {ops : Array Oper} {o : Oper} {a : Act} {K : Act → World → Prop} {Q : Exit → Act → World → Prop} {E : Prop} (hgd : o.guard = none) (s x : Operand)
    (ho : o.op = .call { callee := .builtin .append, args := #[s, x], argTypes := #[49, 49] })
    (v : Value) (n : Nat) (xs : List Value) (hs : a.eval s = v) (hown : w.ownsRow 0 32 1 v n xs) (g1 : Nat) (u : Value) (hx : a.eval x = .slice (some ⟨g1, 0, none⟩) 1 1) (hc : w.heap[g1]? = some (.cells #[u] 32 (0, 0))) (h1 : u.oneCell' = true) (hn : n ≤ 1073741824)
    (h : ∀ g' c' w', (v.ownBlock = some g' ∨ g' = w.heap.size) → w'.ownsRow 0 32 1 (.slice (some ⟨g', 0, none⟩) (n + 1) c') (n + 1) (xs ++ [u]) → w.grownBy w' v.ownBlock → K (a.put o.dst (.slice (some ⟨g', 0, none⟩) (n + 1) c')) w') :
    if Region.wanted o (yielded ops a.tmps) = true then Oper.wp Try.prog o a w K Q else E := by
  have hw : Region.wanted o (yielded ops a.tmps) = true := by simp [Region.wanted, hgd]
  rw [if_pos hw]
  obtain ⟨g', c', w', hr, hg, ho2, hgr⟩ := run_app_txt hown o.type g1 u hc h1 hn
  unfold Oper.wp
  simp [execOp, ho, resolve, invoke, builtin, hs, hx, hr, Result.andThen]
  exact h g' c' w' hg ho2 hgr
variable {w w' : World} {G : List Nat} {R L cap : Nat} {T V : Nat → Value} {s : DSt}
/-- The bytes that are written are none of the disk's own struct. -/
theorem part_other {ad : Option Addr} {len c : Nat} {l : List Nat} (h : RPic w G R L cap T V s) (hp : Part.ok w ⟨ad, len, c, l⟩) (hc : Chg [R] w w') : Part.ok w' ⟨ad, len, c, l⟩ := by
  refine ⟨hp.1, hp.2.1, hp.2.2.1, ?_⟩
  rcases hp.2.2.2 with h0 | ⟨b, off, e, hs, hcell⟩
  · exact Or.inl h0
  · refine Or.inr ⟨b, off, e, Nat.lt_of_lt_of_le hs hc.size, fun i hi => ?_⟩
    have q := hcell i hi
    have hne : b ≠ R := fun e2 => by
      rw [e2] at q
      obtain ⟨c0, c1, c2⟩ := h.cells
      rw [cell_of_row _ _ _ _ _ _ h.hR] at q
      rcases hk : off + i with _ | _ | _ | k <;> (rw [hk] at q; simp at q)
    rw [← q]
    unfold World.cell?
    simp only
    rw [hc.block b hs (by simpa using hne)]
theorem w_own {wa : World} {N : Nat} {x : Value} {y : List Nat} (ha : Below w.heap.size w wa) (o : Own w N x y) : Own wa N x y := o.later ha
/-- A version more of block i. -/
theorem RPic.addV (h : RPic w G R L cap T V s) {i : Nat} (hi : i < s.bs.length) {l : List Nat} (hl : l.length = 256 ∧ ∀ y ∈ l, y < 256) {wa wb wc : World} {u : Value} (ha : Below w.heap.size w wa) (hu : Own wa w.heap.size u l) (hb : Below wa.heap.size wa wb) (hg : wb.grownBy wc (V i).ownBlock) {g' c' : Nat} {ws : List Value}
    (hws : ∀ j, j < (s.at i).vs.length → ∃ x, ws[j]? = some x ∧ Own w 0 x ((s.at i).vs.getD j []) ∧ ∀ g, x.ownBlock = some g → g ∈ G) (hwl : ws.length = (s.at i).vs.length)
    (hg' : (V i).ownBlock = some g' ∨ g' = wb.heap.size) (hrow : wc.ownsRow 0 32 1 (.slice (some ⟨g', 0, none⟩) ((s.at i).vs.length + 1) c') ((s.at i).vs.length + 1) (ws ++ [u])) (hs : wb.heap.size ≤ wc.heap.size) :
    ∃ G', RPic (wc.setCell ⟨L, i * 3 + 2, none⟩ (.slice (some ⟨g', 0, none⟩) ((s.at i).vs.length + 1) c')) G' R L cap (updV T i (T i)) (updV V i (.slice (some ⟨g', 0, none⟩) ((s.at i).vs.length + 1) c')) (s.setB i ((s.at i).add l)) ∧ (∀ g ∈ G, g ∈ G') ∧ (∀ g ∈ G', g ∈ G ∨ w.heap.size ≤ g) ∧ Chg G w (wc.setCell ⟨L, i * 3 + 2, none⟩ (.slice (some ⟨g', 0, none⟩) ((s.at i).vs.length + 1) c')) := by
  obtain ⟨cur, l1, l2, l3, l4⟩ := h.hL
  have hLt := h.lt L h.mL
  obtain ⟨wsV, v1, v2⟩ := h.ver i hi
  have hVL : (V i).ownBlock ≠ some L := fun e => by
    obtain ⟨c, q, -⟩ := ownBlock_cells v1 e
    rw [l1] at q
    injection q with q
    injection q with _ q
    exact absurd q (by decide)
  have hold : ∀ k, k < w.heap.size → (V i).ownBlock ≠ some k → wc.heap[k]? = w.heap[k]? := fun k hk hne => by
    rw [hg.block k (by have := ha.size; have := hb.size; omega) (fun e => hne e.symm), hb.block k (by have := ha.size; omega), ha.block k hk]
  have hbyte : ∀ {k : Nat} {c : Array Value} {fr : Nat × Nat}, wa.heap[k]? = some (.cells c 5 fr) → (V i).ownBlock ≠ some k := fun {k c fr} q e => by
    obtain ⟨c2, q2, -⟩ := ownBlock_cells v1 e
    rw [ha.block k (some_lt q2), q2] at q
    injection q with q
    injection q with _ q
    exact absurd q (by decide)
  have hLc : wc.heap[L]? = some (.cells cur 60 (0, 0)) := (hold L hLt hVL).trans l1
  have hset : (wc.setCell ⟨L, i * 3 + 2, none⟩ (.slice (some ⟨g', 0, none⟩) ((s.at i).vs.length + 1) c')).heap[L]? = _ := heap_setCell_same wc L (i * 3 + 2) _ _ _ hLc
  have hoth : ∀ k, k ≠ L → (wc.setCell ⟨L, i * 3 + 2, none⟩ (.slice (some ⟨g', 0, none⟩) ((s.at i).vs.length + 1) c')).heap[k]? = wc.heap[k]? := fun k hk => heap_setCell_other wc ⟨L, i * 3 + 2, none⟩ k _ (fun e => hk e)
  have hsz : (wc.setCell ⟨L, i * 3 + 2, none⟩ (.slice (some ⟨g', 0, none⟩) ((s.at i).vs.length + 1) c')).heap.size = wc.heap.size := by simp [World.setCell]
  have hsw : w.heap.size ≤ wc.heap.size := by have := ha.size; have := hb.size; omega
  have hnL : g' ≠ L := fun e => by
    rcases hg' with h1 | h1
    · rw [e] at h1; exact hVL h1
    · have := ha.size; have := hb.size; omega
  have hg'lt : g' < wc.heap.size := by
    obtain ⟨c, q, -⟩ := ownBlock_cells (g := g') hrow rfl
    exact some_lt q
  generalize hW : wc.setCell ⟨L, i * 3 + 2, none⟩ (.slice (some ⟨g', 0, none⟩) ((s.at i).vs.length + 1) c') = W at *
  have own_later : ∀ {x : Value} {y : List Nat} {N : Nat}, Own wa N x y → Own W 0 x y := fun {x y N} o => by
    refine ⟨o.1, row_keep (o.down (Nat.zero_le _)).2 (fun g hg2 => ?_)⟩
    obtain ⟨c, q, -⟩ := ownBlock_cells o.2 hg2
    rw [hoth g (fun e => by
      rw [e, ha.block L hLt, l1] at q
      injection q with q
      injection q with _ q
      exact absurd q (by decide)), hg.block g (by have := some_lt q; have := hb.size; omega) (fun e => hbyte q e.symm), hb.block g (some_lt q)]
  have hG2 : ∀ g ∈ (g' :: (match u.ownBlock with | some b => [b] | none => []) ++ G), g ∈ G ∨ w.heap.size ≤ g := fun g hg2 => by
    rcases List.mem_cons.1 hg2 with rfl | hg2
    · rcases hg' with h1 | h1
      · exact Or.inl (h.mV i hi g h1)
      · exact Or.inr (by have := ha.size; have := hb.size; omega)
    · rcases List.mem_append.1 hg2 with hg2 | hg2
      · cases hub : u.ownBlock with
        | none => rw [hub] at hg2; cases hg2
        | some b =>
          rw [hub] at hg2
          simp at hg2
          obtain ⟨c, q, q2⟩ := ownBlock_cells hu.2 hub
          exact Or.inr (by omega)
      · exact Or.inl hg2
  have hGl : ∀ g ∈ (g' :: (match u.ownBlock with | some b => [b] | none => []) ++ G), g < W.heap.size := fun g hg2 => by
    rw [hsz]
    rcases List.mem_cons.1 hg2 with rfl | hg2
    · exact hg'lt
    · rcases List.mem_append.1 hg2 with hg2 | hg2
      · cases hub : u.ownBlock with
        | none => rw [hub] at hg2; cases hg2
        | some b =>
          rw [hub] at hg2
          simp at hg2
          obtain ⟨c, q, q2⟩ := ownBlock_cells hu.2 hub
          have := some_lt q
          have := hb.size
          omega
      · exact Nat.lt_of_lt_of_le (h.lt g hg2) hsw
  have hsub : ∀ g ∈ G, g ∈ (g' :: (match u.ownBlock with | some b => [b] | none => []) ++ G) := fun g hg2 => List.mem_cons_of_mem _ (List.mem_append_right _ hg2)
  refine ⟨_, h.setE hi ((s.at i).add l) (T i) _ (fun g hgm hne hv => (hoth g hne).trans (hold g (h.lt g hgm) hv)) ⟨cur, _, l1, hset, by simp, fun k hk => by rw [Array.getElem?_setIfInBounds, if_neg (by omega)], ?_, ?_, ?_⟩ (fun y hy => h.ok.dur _ (at_mem hi) y hy) ?_ (fun y hy => own_later (w_own ha (h.txt i hi y hy))) (fun hy => h.bad i hi hy) ?_ ?_ hsub (fun g hg2 => hsub g (h.mT i hi g hg2)) (fun g hg2 => by cases hg2; exact List.mem_cons_self ..) hGl, hsub, hG2, ?_⟩
  · rw [Array.getElem?_setIfInBounds, if_neg (by omega)]; exact (l4 i hi).1
  · rw [Array.getElem?_setIfInBounds, if_neg (by omega)]; exact (l4 i hi).2.1
  · rw [Array.getElem?_setIfInBounds, if_pos rfl, if_pos (by omega)]
  · intro y hy
    rw [DBlock.add, List.mem_append] at hy
    rcases hy with hy | hy
    · exact h.ok.vs _ (at_mem hi) y hy
    · simp at hy; rw [hy]; exact hl
  · have hlen : ((s.at i).add l).vs.length = (s.at i).vs.length + 1 := by simp [DBlock.add]
    refine ⟨ws ++ [u], by rw [hlen]; exact row_keep hrow (fun g hg2 => by cases hg2; exact hoth g' hnL), fun j hj => ?_⟩
    rw [hlen] at hj
    by_cases e : j < (s.at i).vs.length
    · obtain ⟨x, q1, q2, q3⟩ := hws j e
      refine ⟨x, by rw [List.getElem?_append_left (by omega)]; exact q1, ?_, fun g hg2 => hsub g (q3 g hg2)⟩
      have e2 : ((s.at i).add l).vs.getD j [] = (s.at i).vs.getD j [] := by
        rw [DBlock.add, List.getD_eq_getElem?_getD, List.getD_eq_getElem?_getD, List.getElem?_append_left e]
      rw [e2]
      exact own_later (w_own ha q2)
    · obtain rfl : j = (s.at i).vs.length := by omega
      refine ⟨u, by rw [List.getElem?_append_right (by omega), hwl, Nat.sub_self]; rfl, ?_, fun g hg2 => List.mem_cons_of_mem _ (List.mem_append_left _ (by rw [hg2]; exact List.mem_cons_self ..))⟩
      have e2 : ((s.at i).add l).vs.getD (s.at i).vs.length [] = l := by
        rw [DBlock.add, List.getD_eq_getElem?_getD, List.getElem?_append_right (by omega), Nat.sub_self]; rfl
      rw [e2]
      exact own_later hu
  · intro g hg2
    cases hg2
    rcases hg' with h1 | h1
    · exact Or.inl h1
    · exact Or.inr (show w.heap.size ≤ g' by have := ha.size; have := hb.size; omega)
  · refine ⟨?_, ?_, ?_, by rw [hsz]; exact hsw, fun k hk hkG => ?_⟩
    · rw [← hW]; exact (hg.os.trans hb.os).trans ha.os
    · rw [← hW]; exact (hg.tape.trans hb.tape).trans ha.tape
    · rw [← hW]; exact (hg.output.trans hb.output).trans ha.output
    · exact (hoth k (fun e => hkG (by rw [e]; exact h.mL))).trans (hold k hk (fun e => hkG (h.mV i hi k e)))
end Go.Proofs.Ytdcgokkbmplihaa

/- Write of package ref03, where it is refused; what it leaves. -/
namespace Go.Proofs.Ytdcgokkbmplihaa
open Go.RowKit
variable {w w' : World} {G : List Nat} {R L cap : Nat} {T V : Nat → Value} {s : DSt}

theorem ownsRow_heap {W : World} {N e n : Nat} {v : Value} {xs : List Value} (hw : W.heap = w.heap) (h : w.ownsRow N e 1 v n xs) : W.ownsRow N e 1 v n xs := by
  unfold World.ownsRow at *
  rw [hw]
  exact h
theorem row_heap {W : World} {ad : Option Addr} {l : List Nat} (hw : W.heap = w.heap) (h : Row w ad l) : Row W ad l := by
  refine ⟨h.1, ?_⟩
  rcases h.2 with h0 | ⟨b, off, e, hs, hc⟩
  · exact Or.inl h0
  · exact Or.inr ⟨b, off, e, by rw [hw]; exact hs, fun i hi => by rw [← hc i hi]; unfold World.cell?; rw [hw]⟩
theorem cell_below {b : Nat} (hb : b < w.heap.size) (h : Below w.heap.size w w') {i : Nat} : w'.cell? ⟨b, i, none⟩ = w.cell? ⟨b, i, none⟩ := h.cell (p := ⟨b, i, none⟩) hb
theorem cell_block {b : Nat} (h : w'.heap[b]? = w.heap[b]?) {i : Nat} : w'.cell? ⟨b, i, none⟩ = w.cell? ⟨b, i, none⟩ := by
  unfold World.cell?
  simp only
  rw [h]
theorem frozen_block {b : Nat} (h : w'.heap[b]? = w.heap[b]?) {i : Nat} : w'.frozen? ⟨b, i, none⟩ = w.frozen? ⟨b, i, none⟩ := by
  unfold World.frozen?
  simp only
  rw [h]
theorem app1 {W w2 : World} {l : List Nat} {v2 : Value} (hb : Below w.heap.size w (w.alloc (.cells #[] 5))) (hg : W.grownBy w2 (Value.slice (some ⟨w.heap.size, 0, none⟩) 0 0).ownBlock) (hW : W.heap = (w.alloc (.cells #[] 5)).heap) (hl : (∀ x ∈ l, x < 256) ∧ l.length = 256) (ho : w2.ownsRow w.heap.size 5 1 v2 (0 + 256) (([] ++ l).map bv)) (ho2 : W.os = w.os := by rfl) (ht : W.tape = w.tape := by rfl) (hp : W.output = w.output := by rfl) : Below w.heap.size w w2 ∧ Own w2 w.heap.size v2 l := by
  have hWb : Below w.heap.size w W := ⟨ho2, ht, hp, by rw [hW]; exact hb.size, fun k hk => by rw [hW]; exact hb.block k hk⟩
  refine ⟨hWb.grown hg hWb.size (fun k hk => ?_), ⟨hl.1, ?_⟩⟩
  · simp [Value.ownBlock] at hk
    omega
  · rw [hl.2]
    simpa using ho
theorem ownsRow_below {N e n : Nat} {v : Value} {xs : List Value} (h : w.ownsRow N e 1 v n xs) (hb : Below w.heap.size w w') : w'.ownsRow N e 1 v n xs := row_keep h (fun g hg => by
  obtain ⟨c, q, -⟩ := ownBlock_cells h hg
  exact hb.block g (some_lt q))
/-- What Write leaves. -/
def RMoved (w : World) (G : List Nat) (R L cap : Nat) (s : DSt) (w' : World) : Prop := ∃ G' T' V', RPic w' G' R L cap T' V' s ∧ (∀ g ∈ G, g ∈ G') ∧ (∀ g ∈ G', g ∈ G ∨ w.heap.size ≤ g) ∧ Chg G w w'
theorem RPic.moved (h : RPic w' G R L cap T V s) (hc : Chg G w w') : RMoved w G R L cap s w' := ⟨G, T, V, h, fun _ h => h, fun _ h => Or.inl h, hc⟩
theorem app2 {w w1 w2 w3 W : World} {s : DSt} {j n k cv g3 c3 : Nat} {p p2 : Option Addr} {c2 : Nat} {l : List Nat} {ws : List Value} (h : RPic w1 G R L cap T V s) (hc : Chg [R] w w1) (hRG : R ∈ G) (hj : j < s.bs.length) (hl : l.length = 256 ∧ ∀ x ∈ l, x < 256) (hV : V j = .slice p (s.at j).vs.length cv) (hk : (s.at j).vs.length = k) (hVR : ∀ g, (Value.slice p k cv).ownBlock = some g → g ≠ R ∧ g ≠ L)
    (hws : ∀ i, i < k → ∃ u, ws[i]? = some u ∧ Own w1 0 u ((s.at j).vs.getD i []) ∧ ∀ g, u.ownBlock = some g → g ∈ G) (ho1 : w1.ownsRow 0 32 1 (.slice p k cv) k ws) (B2 : Below w1.heap.size w1 w2) (O2 : Own w2 w1.heap.size (.slice p2 256 c2) l) (B3 : Below w2.heap.size w2 (w2.alloc (.cells #[.slice p2 256 c2] 32)))
    (hg3 : (Value.slice p k cv).ownBlock = some g3 ∨ g3 = W.heap.size) (O3 : w3.ownsRow 0 32 1 (.slice (some ⟨g3, 0, none⟩) (k + 1) c3) (k + 1) (ws ++ [.slice p2 256 c2])) (gr3 : W.grownBy w3 (Value.slice p k cv).ownBlock)
    (cc0 : w1.cell? ⟨R, 0, none⟩ = some (Value.slice (some ⟨L, 0, none⟩) n cap)) (e2 : w1.cell? ⟨L, j * 3 + 2, none⟩ = some (Value.slice p k cv)) (f2 : w1.frozen? ⟨L, j * 3 + 2, none⟩ = false)
    (hW : W.heap = (w2.alloc (.cells #[.slice p2 256 c2] 32)).heap := by rfl) (hWo : W.os = w2.os := by rfl) (hWt : W.tape = w2.tape := by rfl) (hWp : W.output = w2.output := by rfl) :
    w3.cell? ⟨R, 0, none⟩ = some (Value.slice (some ⟨L, 0, none⟩) n cap) ∧ w3.cell? ⟨L, j * 3 + 2, none⟩ = some (Value.slice p k cv) ∧ w3.frozen? ⟨L, j * 3 + 2, none⟩ = false ∧ RMoved w G R L cap (s.setB j ((s.at j).add l)) (w3.setCell ⟨L, j * 3 + 2, none⟩ (.slice (some ⟨g3, 0, none⟩) (k + 1) c3)) := by
  have hBW : Below w2.heap.size w2 W := ⟨hWo, hWt, hWp, by rw [hW]; exact B3.size, fun b hb => by rw [hW]; exact B3.block b hb⟩
  have hR1 := h.lt R h.mR
  have hL1 := h.lt L h.mL
  have hblk : ∀ b, b < w1.heap.size → (Value.slice p k cv).ownBlock ≠ some b → w3.heap[b]? = w1.heap[b]? := fun b hb hne => by
    rw [gr3.block b (by have := B2.size; have := hBW.size; omega) (fun e => hne e.symm), hBW.block b (by have := B2.size; omega), B2.block b hb]
  have hbR := hblk R hR1 (fun e => (hVR R e).1 rfl)
  have hbL := hblk L hL1 (fun e => (hVR L e).2 rfl)
  refine ⟨(cell_block hbR).trans cc0, (cell_block hbL).trans e2, (frozen_block hbL).trans f2, ?_⟩
  subst hk
  rw [← hV] at hg3 gr3
  have hwl : ws.length = (s.at j).vs.length := by have := ho1.1; omega
  obtain ⟨G', q1, q2, q3, q4⟩ := h.addV hj hl B2 O2 hBW gr3 hws hwl hg3 O3 gr3.size
  refine ⟨G', _, _, q1, q2, fun g hg => (q3 g hg).elim Or.inl (fun h => Or.inr (Nat.le_trans hc.size h)), ?_⟩
  exact (hc.mono (by simpa using hRG)).trans q4 (fun g hg => Or.inl hg)
set_option maxRecDepth 100000 in
set_option maxHeartbeats 1000000 in
theorem refwrite_no (h : RPic w G R L cap T V s) (i : Int) (ad : Option Addr) (len c : Nat) (hno : ¬ (s.has i = true ∧ len = 256)) : Calls Try.prog 25 #[.pointer (some ⟨R, 0, none⟩), .int .i64 i, .slice ad len c] w fun e w' => e = .returned (.int .i64 1) ∧ RMoved w G R L cap s w' := by
  obtain ⟨c0, -, -⟩ := h.cells
  have hn2 := h.n2
  obtain ⟨cur, -, -, hcap, -⟩ := h.hL
  have HM : Hid (RMoved w G R L cap s w) := h.moved (Chg.refl _ _)
  clear h
  by_cases hi : s.has i = true
  · obtain ⟨j, hj⟩ : ∃ j : Nat, i = j := ⟨i.toNat, by have := (has_lt hi).1; omega⟩
    subst hj
    have hlt : j < s.bs.length := by have := (has_lt hi).2; omega
    have h256 : ¬ len = 256 := fun e => hno ⟨hi, e⟩
    have hne : ((len : Int) == 256) = false := by simp; omega
    have hne2 : ((len : Int) != 256) = true := by simp; omega
    clear hi hno
    generalize s.bs.length = n at *
    go_enter Try.func25, Try.ntmps25
    go_wp2
    go_ret
    exact ⟨rfl, HM.out⟩
  · have hi2 : s.has i = false := by simpa using hi
    have hb : i < 0 ∨ (s.bs.length : Int) ≤ i := by
      unfold DSt.has at hi2
      simp at hi2
      omega
    clear hi hi2 hno
    generalize s.bs.length = n at *
    rcases hb with hb | hb
    · go_enter Try.func25, Try.ntmps25
      go_wp2
      go_ret
      exact ⟨rfl, HM.out⟩
    · go_enter Try.func25, Try.ntmps25
      go_wp2
      all_goals
        go_ret
        exact ⟨rfl, HM.out⟩
end Go.Proofs.Ytdcgokkbmplihaa

/- Write of package ref03. -/
namespace Go.Proofs.Ytdcgokkbmplihaa
open Go.RowKit
variable {w w' : World} {G : List Nat} {R L cap : Nat} {T V : Nat → Value} {s : DSt}

set_option maxRecDepth 100000 in
set_option maxHeartbeats 20000000 in
theorem refwrite_any (h : RPic w G R L cap T V s) (hf : s.few) (i : Int) (ad : Option Addr) (len c : Nat) (l : List Nat) (hp : Part.ok w ⟨ad, len, c, l⟩) : Calls Try.prog 25 #[.pointer (some ⟨R, 0, none⟩), .int .i64 i, .slice ad len c] w fun e w' => e = .returned (.int .i64 (writeD s i l).1) ∧ RMoved w G R L cap (writeD s i l).2 w' := by
  obtain ⟨c0, -, -⟩ := h.cells
  have hn2 := h.n2
  obtain ⟨cur, -, -, hcap, -⟩ := h.hL
  have hlen : l.length = len := hp.1
  unfold writeD
  by_cases hi : s.has i = true
  · obtain ⟨j, hj⟩ : ∃ j : Nat, i = j := ⟨i.toNat, by have := (has_lt hi).1; omega⟩
    subst hj
    have hlt : j < s.bs.length := by have := (has_lt hi).2; omega
    by_cases h256 : len = 256
    · subst h256
      have e0 : (s.has (j : Int) && l.length == 256) = true := by rw [hi, hlen]; rfl
      rw [if_pos e0]
      have hop := refop_any h
      have hbs : (opD s).2.bs = s.bs := opD_bs s
      have hat : (opD s).2.at j = s.at j := by unfold DSt.at; rw [hbs]
      have hpo : ∀ w1, Chg [R] w w1 → Part.ok w1 ⟨ad, 256, c, l⟩ := fun w1 hc => part_other h hp hc
      have hfew := hf _ (at_mem hlt)
      obtain ⟨ok, hok⟩ : ∃ ok, (opD s).1 = ok := ⟨_, rfl⟩
      rw [hok] at hop ⊢
      rw [Int.toNat_natCast]
      rw [← hat] at hfew
      rw [← hbs] at hlt c0 hcap hn2
      generalize (opD s).2 = s1 at *
      have HR0 : Hid (R ∈ G) := h.mR
      have HP : Hid (∀ w1, Chg [R] w w1 → Part.ok w1 ⟨ad, 256, c, l⟩) := hpo
      have HJ : Hid (j < s1.bs.length) := hlt
      have HF : Hid ((s1.at j).vs.length ≤ 1073741824) := hfew
      have HOP : Hid (Calls Try.prog 42 #[.pointer (some ⟨R, 0, none⟩)] w fun e w' => e = .returned (.bool ok) ∧ RPic w' G R L cap T V s1 ∧ Chg [R] w w') := hop
      have HLN : Hid (l.length = 256) := hlen
      have HPL : Hid (∀ x ∈ l, x < 256) := hp.2.2.1
      have HLP : Hid (l.length = 256 ∧ ∀ x ∈ l, x < 256) := (show Hid _ from ⟨hlen, hp.2.2.1⟩)
      clear h hp hf e0 hi hop hbs hat hpo hfew hlen
      generalize hn : s1.bs.length = n at *
      have HN : Hid (s1.bs.length = n) := hn
      clear hn
      cases ok with
      | false =>
        go_enter Try.func25, Try.ntmps25
        go_wp2_with (go_at_call 42; refine HOP.out.mono ?_; rintro e w1 ⟨rfl, hr, hc⟩)
        go_ret
        exact ⟨rfl, hr.moved (hc.mono (by simpa using HR0.out))⟩
      | true =>
        go_enter Try.func25, Try.ntmps25
        go_wp2_with (go_at_call 42; refine HOP.out.mono ?_; rintro e w1 ⟨rfl, hr, hc⟩; have HR : Hid (RPic w1 G R L cap T V s1 ∧ Chg [R] w w1) := (show Hid _ from ⟨hr, hc⟩); clear hr hc)
        have hjl : j < s1.bs.length := by rw [HN.out]; exact HJ.out
        obtain ⟨cc0, -, -⟩ := HR.out.1.cells
        rw [HN.out] at cc0
        obtain ⟨-, -, e2⟩ := HR.out.1.entry hjl
        obtain ⟨p, cv, hV, -, -⟩ := (HR.out.1.ver j hjl).form2
        rw [hV] at e2
        have hR1 := HR.out.1.lt R HR.out.1.mR
        have hL1 := HR.out.1.lt L HR.out.1.mL
        obtain ⟨curL, hLb, -, -, -⟩ := HR.out.1.hL
        have f2 : w1.frozen? ⟨L, j * 3 + 2, none⟩ = false := by simp [World.frozen?, hLb]
        have HV : Hid (V j = .slice p (s1.at j).vs.length cv) := hV
        clear hV
        obtain ⟨k, hk⟩ : ∃ k, (s1.at j).vs.length = k := ⟨_, rfl⟩
        rw [hk] at e2
        clear hLb curL
        have hw1 : IntKind.i64.wrap (j : Int) = (j : Int) := by rw [IntKind.wrap_i64]; omega
        have hb0 : Below w1.heap.size w1 (w1.alloc (.cells #[] 5)) := (Below.refl _ w1).alloc (Nat.le_refl _) _
        have ha0 : (w1.alloc (.cells #[] 5)).cell? ⟨R, 0, none⟩ = some (Value.slice (some ⟨L, 0, none⟩) n cap) := (cell_below hR1 hb0).trans cc0
        have ha2 : (w1.alloc (.cells #[] 5)).cell? ⟨L, j * 3 + 2, none⟩ = some (Value.slice p k cv) := (cell_below hL1 hb0).trans e2
        have HE : Hid (∀ W : World, W.heap = (w1.alloc (.cells #[] 5)).heap → Own W w1.heap.size (.slice (some ⟨w1.heap.size, 0, none⟩) 0 0) [] ∧ Row W ad l) := (show Hid _ from fun W hW => ⟨⟨fun _ h => (by cases h), ownsRow_heap hW (empty_own w1 w1.heap.size (Nat.le_refl _))⟩, row_heap hW ((HP.out w1 HR.out.2).2.2.later hb0)⟩)
        have HPN : Hid (ad = none → 256 = 0 ∧ c = 0) := (HP.out w1 HR.out.2).2.1
        have HB0 : Hid (Below w1.heap.size w1 (w1.alloc (.cells #[] 5))) := hb0
        obtain ⟨wsV, v1, v2⟩ := HR.out.1.ver j hjl
        rw [HV.out, hk] at v1
        rw [hk] at v2
        have HW1 : Hid (w1.ownsRow 0 32 1 (.slice p k cv) k wsV) := v1
        have HW2 : Hid (∀ j_1, j_1 < k → ∃ u, wsV[j_1]? = some u ∧ Own w1 0 u ((s1.at j).vs.getD j_1 []) ∧ ∀ g, u.ownBlock = some g → g ∈ G) := v2
        have HK : Hid ((s1.at j).vs.length = k) := hk
        have hkf : k ≤ 1073741824 := by rw [← hk]; exact HF.out
        have hVR : ∀ g, (Value.slice p k cv).ownBlock = some g → g ≠ R ∧ g ≠ L := fun g hg => by
          obtain ⟨cz, q, -⟩ := ownBlock_cells v1 hg
          obtain ⟨cL, qL, -⟩ := HR.out.1.hL
          refine ⟨fun e => ?_, fun e => ?_⟩
          · rw [e, HR.out.1.hR] at q
            injection q with q
            injection q with _ q
            exact absurd q (by decide)
          · rw [e, qL] at q
            injection q with q
            injection q with _ q
            exact absurd q (by decide)
        have HVR : Hid (∀ g, (Value.slice p k cv).ownBlock = some g → g ≠ R ∧ g ≠ L) := hVR
        clear hb0 v1 v2 hk hVR HOP
        go_region_law (first
          | (refine step_app_any (by rfl) _ _ (by rfl) w1.heap.size (.slice (some ⟨w1.heap.size, 0, none⟩) 0 0) 0 [] (by rfl) (HE.out _ rfl).1.2 ad 256 c l (by rfl) HLN.out HPN.out (HE.out _ rfl).2 (by omega) (by simp [World.drew]) ?_; intro v2 w2 O2 g2; obtain ⟨B2, O2b⟩ := app1 HB0.out g2 rfl ⟨HPL.out, HLN.out⟩ O2; obtain ⟨p2, c2, hv2, -⟩ := O2b.slice 256 HLN.out; subst hv2; have HB2 : Hid (Below w1.heap.size w1 w2) := B2; have HO2 : Hid (Own w2 w1.heap.size (.slice p2 256 c2) l) := O2b; have x0 := (cell_below (i := 0) hR1 B2).trans cc0; have x2 := (cell_below (i := j * 3 + 2) hL1 B2).trans e2; have hb3 : Below w2.heap.size w2 (w2.alloc (.cells #[.slice p2 256 c2] 32)) := (Below.refl _ w2).alloc (Nat.le_refl _) _; have HB3 : Hid (Below w2.heap.size w2 (w2.alloc (.cells #[.slice p2 256 c2] 32))) := hb3; have y0 := (cell_below (i := 0) (Nat.lt_of_lt_of_le hR1 B2.size) hb3).trans x0; have y2 := (cell_below (i := j * 3 + 2) (Nat.lt_of_lt_of_le hL1 B2.size) hb3).trans x2; clear O2 g2 B2 O2b hb3)
          | (refine step_app_txt (by rfl) _ _ (by rfl) (.slice p k cv) k wsV (by rfl) (ownsRow_heap (w := w2.alloc (.cells #[.slice p2 256 c2] 32)) rfl (ownsRow_below (HW1.out) (HB2.out.trans (HB3.out.mono HB2.out.size)))) w2.heap.size (.slice p2 256 c2) (by rfl) (heap_alloc_last w2 _) rfl hkf ?_; intro g3 c3 w3 hg3 O3 gr3; obtain ⟨z0, z2, z3, HX⟩ := app2 HR.out.1 HR.out.2 HR0.out hjl (HLP.out) HV.out HK.out HVR.out HW2.out HW1.out HB2.out HO2.out HB3.out hg3 O3 gr3 cc0 e2 f2; have HXX : Hid (RMoved w G R L cap (s1.setB j ((s1.at j).add l)) (w3.setCell ⟨L, j * 3 + 2, none⟩ (.slice (some ⟨g3, 0, none⟩) (k + 1) c3))) := HX; clear HX hg3 O3 gr3))
        all_goals go_wp2
        all_goals go_ret
        all_goals exact ⟨rfl, HXX.out⟩
    · have e0 : (s.has (j : Int) && l.length == 256) = false := by rw [hi, hlen]; simpa using h256
      rw [e0]
      exact refwrite_no h (j : Int) ad len c (fun e => h256 e.2)
  · have hi2 : s.has i = false := by simpa using hi
    have e0 : (s.has i && l.length == 256) = false := by rw [hi2]; rfl
    rw [e0]
    exact refwrite_no h i ad len c (fun e => hi e.1)
end Go.Proofs.Ytdcgokkbmplihaa

/- Behind a fuse of n just n operations are done: plain mathematics. -/
namespace Go.Proofs.Ytdcgokkbmplihaa
open Go.RowKit

/-- The disk behind i operations under a fuse of n. -/
structure Fz (s : DSt) (i n : Nat) : Prop where
  off : s.off = decide (n < i)
  fuse : s.fuse = if i ≤ n then (n : Int) - (i : Int) else -1
  len : s.bs.length = 4
  up : s.upTo (min i n)
variable {s : DSt} {i n : Nat}
theorem fz_start (n : Nat) : Fz (cutD (newD 4) n) 0 n := by
  have h : cutD (newD 4) n = ⟨(newD 4).bs, false, n⟩ := by
    unfold cutD
    rw [if_neg (by simp [newD]), if_neg (by omega)]
  rw [h]
  exact ⟨by simp, by simp, rfl, fun x hx => Nat.le_trans (newD_upTo 4 x hx) (Nat.zero_le _)⟩
theorem fz_op (h : Fz s i n) : (opD s).1 = decide (i < n) ∧ Fz (opD s).2 (i + 1) n ∧ (opD s).2.upTo (min i n) := by
  have hu : (opD s).2.upTo (min i n) := opD_upTo h.up
  have hu2 : (opD s).2.upTo (min (i + 1) n) := hu.mono (by omega)
  have hl : (opD s).2.bs.length = 4 := by rw [opD_bs]; exact h.len
  rcases Nat.lt_trichotomy i n with h1 | h1 | h1
  · have ho : s.off = false := by rw [h.off]; simp; omega
    have hf : s.fuse = (n : Int) - i := by rw [h.fuse, if_pos (by omega)]
    have e := opD_pos ho (by rw [hf]; omega)
    rw [e] at hu2 hl hu ⊢
    refine ⟨by simp [h1], ⟨by simp; omega, ?_, hl, hu2⟩, hu⟩
    show s.fuse - 1 = _
    rw [hf, if_pos (by omega)]
    omega
  · have ho : s.off = false := by rw [h.off]; simp; omega
    have hf : s.fuse = 0 := by rw [h.fuse, if_pos (by omega)]; omega
    have e := opD_zero ho hf
    rw [e] at hu2 hl hu ⊢
    exact ⟨by simp; omega, ⟨by simp; omega, by show (-1 : Int) = _; rw [if_neg (by omega)], hl, hu2⟩, hu⟩
  · have ho : s.off = true := by rw [h.off]; simp; omega
    have e := opD_on ho
    rw [e] at hu2 hl hu ⊢
    refine ⟨by simp; omega, ⟨?_, ?_, hl, hu2⟩, hu⟩
    · show s.off = _; rw [ho]; simp; omega
    · show s.fuse = _; rw [h.fuse, if_neg (by omega), if_neg (by omega)]
theorem fz_write (h : Fz s i n) (k : Nat) (hk : k < 4) (l : List Nat) (hl : l.length = 256) : (writeD s k l).1 = (if i < n then 0 else 8) ∧ Fz (writeD s k l).2 (i + 1) n := by
  obtain ⟨h1, h2, h3⟩ := fz_op h
  have hh : s.has (k : Nat) = true := by unfold DSt.has; rw [h.len]; simp; omega
  unfold writeD
  rw [hh, hl]
  simp only [Bool.true_and, BEq.rfl, if_true]
  by_cases hi : i < n
  · have e : (opD s).1 = true := by rw [h1]; simp [hi]
    rw [if_pos e, if_pos hi]
    refine ⟨rfl, ⟨h2.off, h2.fuse, by rw [setB_len]; exact h2.len, ?_⟩⟩
    intro x hx
    rcases mem_setB hx with rfl | hx
    · have := h3 _ (at_mem (s := (opD s).2) (i := k) (by rw [h2.len]; omega))
      simp [DBlock.add]
      omega
    · exact h2.up x hx
  · have e : (opD s).1 = false := by rw [h1]; simp; omega
    rw [if_neg (by rw [e]; simp), if_neg hi]
    exact ⟨rfl, h2⟩
theorem fz_sync (h : Fz s i n) : (syncD s).1 = (if i < n then 0 else 8) ∧ Fz (syncD s).2 (i + 1) n := by
  obtain ⟨h1, h2, h3⟩ := fz_op h
  unfold syncD
  by_cases hi : i < n
  · have e : (opD s).1 = true := by rw [h1]; simp [hi]
    rw [if_pos e, if_pos hi]
    refine ⟨rfl, ⟨h2.off, h2.fuse, by simp; exact h2.len, ?_⟩⟩
    intro x hx
    obtain ⟨y, hy, rfl⟩ := List.mem_map.1 hx
    rw [sync_vs]
    exact Nat.zero_le _
  · have e : (opD s).1 = false := by rw [h1]; simp; omega
    rw [if_neg (by rw [e]; simp), if_neg hi]
    exact ⟨rfl, h2⟩
theorem crash_sync (cs : List Int) : (syncD (crashD s cs)).1 = 0 := by
  rw [syncD_free ⟨rfl, rfl⟩]
end Go.Proofs.Ytdcgokkbmplihaa

/- What DiskFuses of package law03 answers: true. -/
namespace Go.Proofs.Ytdcgokkbmplihaa
open Go.RowKit

theorem tmod_bounds (x : Int) (m : Int) (hm : 0 < m) : -m < x.tmod m ∧ x.tmod m < m := by
  have h1 := Int.tmod_lt_of_pos x hm
  have h2 := Int.lt_tmod_of_pos x hm
  exact ⟨h2, h1⟩
/-- '(x%m + m) % m'. -/
theorem mod_two (x m : Int) (hm : 0 < m) : 0 ≤ (x.tmod m + m).tmod m ∧ (x.tmod m + m).tmod m < m := by
  have h := tmod_bounds x m hm
  exact ⟨Int.tmod_nonneg m (by omega), Int.tmod_lt_of_pos _ hm⟩
set_option maxRecDepth 100000 in
set_option maxHeartbeats 4000000 in
theorem diskFuses_any (n : Int) (ad : Option Addr) (len cap : Nat) (os : List OpD) (w : World) (ho : OArg w os ad len) :
    Calls Try.prog 8 #[.int .i64 n, .slice ad len cap] w fun e w' => e = .returned (.bool true) ∧ Below w.heap.size w w' := by
  have HO : Hid (OArg w os ad len) := ho
  have hl := ho.max
  clear ho
  go_enter Try.func8, Try.ntmps8
  go_wp2_with fail
  refine (At.new 4 w (by omega) (by omega)).mono ?_
  rintro x w1 ⟨D, rfl, hA1, hb1⟩
  have A1 : Hid (At w.heap.size w1 D (newD 4)) := hA1
  have B1 : Hid (Below w.heap.size w w1) := hb1
  clear hA1 hb1
  go_wp2_with (first
    | (go_at_call 11; refine (num3_any _ _).mono ?_; rintro e w' ⟨rfl, hw'⟩; obtain rfl := hw'.symm))
  refine (knows3_any _).mono ?_
  rintro e w2 ⟨rfl, b2⟩
  have A2 : Hid (At w.heap.size w2 D (newD 4)) := A1.out.later b2
  have B2 : Hid (Below w.heap.size w w2) := B1.out.trans (b2.mono B1.out.size)
  clear b2 A1 B1
  have hn0 := tmod_bounds n 20 (by omega)
  obtain ⟨N, hN, hN2⟩ : ∃ N : Nat, n.tmod 20 % 20 = (N : Int) ∧ N < 20 := ⟨(n.tmod 20 % 20).toNat, by omega, by omega⟩
  have hN' : (n.tmod 20 + 20) % 20 = (N : Int) := by omega
  go_wp2_with fail
  (try rw [hN'])
  clear hN hN' hn0
  refine (A2.out.cut B2.out.size N (by omega)).mono ?_
  rintro e w3 ⟨rfl, a3, b3⟩
  have A3 : Hid (∃ s, Fz s 0 N ∧ At w.heap.size w3 D s) := (show Hid _ from ⟨_, fz_start N, a3⟩)
  have B3 : Hid (Below w.heap.size w w3) := B2.out.trans b3
  clear a3 b3 A2 B2
  go_wp2_with fail
  go_loopw [7, 8] (fun dn i wr => ∃ m : Nat, m ≤ len ∧ i = .int .i64 m ∧ dn = .int .i64 (min m N : Nat) ∧ Hid (∃ s, Fz s m N ∧ At w.heap.size wr D s) ∧ Hid (Below w.heap.size w wr)) (fun _ i _ => len - (intOf i).toNat)
  case atStart => exact ⟨0, by omega, rfl, by simp, A3, B3⟩
  case round =>
    obtain ⟨m, hm, rfl, rfl, HAm, HBm⟩ := hrel
    clear A3 B3
    by_cases hlt : m < len
    · obtain ⟨s, hz, ha⟩ := HAm.out
      have HZ : Hid (Fz s m N) := hz
      have HA : Hid (At w.heap.size wr D s) := ha
      obtain ⟨b, off, rfl, hok, hcell⟩ := HO.out.cells HBm.out hlt
      have q0 := hcell 0 (by omega)
      have q1 := hcell 1 (by omega)
      have q4 := hcell 4 (by omega)
      have hfill := hok.fill
      have hi1 := hok.i1
      have hi2 := hok.i2
      simp only [opV, List.getElem?_cons_zero, List.getElem?_cons_succ, Nat.add_zero] at q0 q1 q4
      generalize hkd : (os.getD m op0).kind = kd at *
      generalize hix : (os.getD m op0).i = ix at *
      generalize hfl : (os.getD m op0).fill = fl at *
      have HI : Hid ((os.getD m op0).i = ix) := hix
      have HFL : Hid ((os.getD m op0).fill = fl) := hfl
      clear hkd hix hfl
      clear hcell hok hz ha HAm
      obtain ⟨mn, hmn⟩ : ∃ mn : Nat, min m N = mn := ⟨_, rfl⟩
      have hmn1 : mn ≤ m := by omega
      have hmn2 : mn ≤ N := by omega
      have hmn3 : m < N → mn = m := by omega
      have hmn4 : N ≤ m → mn = N := by omega
      have hmn5 : m < N → min (m + 1) N = mn + 1 := by omega
      have hmn6 : N ≤ m → min (m + 1) N = mn := by omega
      rw [hmn]
      clear hmn
      by_cases hk : kd = 1
      · subst hk
        go_wp2_with fail
        refine (HA.out.sync HBm.out.size).mono ?_
        rintro e w4 ⟨rfl, a4, b4⟩
        obtain ⟨r1, r2⟩ := fz_sync HZ.out
        rw [r1]
        have A4 : Hid (∃ s, Fz s (m + 1) N ∧ At w.heap.size w4 D s) := (show Hid _ from ⟨_, r2, a4⟩)
        have B4 : Hid (Below w.heap.size w w4) := HBm.out.trans b4
        clear a4 b4 r1 r2 HZ HA HBm
        by_cases hmN : m < N
        · rw [if_pos hmN]
          obtain rfl := hmn3 hmN
          have e1 := hmn5 hmN
          go_wp2_with (go_at_call 11; refine (num3_any _ _).mono ?_; rintro e w' ⟨rfl, hw'⟩; obtain rfl := hw'.symm)
          refine ⟨⟨mn + 1, by omega, by go_num, by rw [e1]; go_num, A4, B4⟩, by simp [intOf]; omega⟩
        · rw [if_neg hmN]
          have e1 := hmn6 (by omega)
          obtain rfl := hmn4 (by omega)
          go_wp2_with (go_at_call 11; refine (num3_any _ _).mono ?_; rintro e w' ⟨rfl, hw'⟩; obtain rfl := hw'.symm)
          refine ⟨⟨m + 1, by omega, by go_num, by rw [e1], A4, B4⟩, by simp [intOf]; omega⟩
      · have hkn : (kd == 1) = false := by simpa using hk
        have hq0 := tmod_bounds ix 4 (by omega)
        obtain ⟨K, hK, hK2⟩ : ∃ K : Nat, ix.tmod 4 % 4 = (K : Int) ∧ K < 4 := ⟨(ix.tmod 4 % 4).toNat, by omega, by omega⟩
        have hK' : (ix.tmod 4 + 4) % 4 = (K : Int) := by omega
        have hK3 : (ix.tmod 4 + 4).tmod 4 = (K : Int) := by rw [Int.tmod_eq_emod_of_nonneg (by omega)]; exact hK'
        have hK4 : IntKind.i64.wrap (ix.tmod 4 + 4) = ix.tmod 4 + 4 := by rw [IntKind.wrap_i64]; omega
        have hK5 : IntKind.i64.wrap (ix.tmod 4) = ix.tmod 4 := by rw [IntKind.wrap_i64]; omega
        have hK6 : IntKind.i64.wrap (K : Int) = (K : Int) := by rw [IntKind.wrap_i64]; omega
        have HS : Hid (∀ W, Below w.heap.size w W → W.cell? ⟨b, off + m * 6 + 1, none⟩ = some (.int .i64 ix) ∧ W.cell? ⟨b, off + m * 6 + 4, none⟩ = some (.int .u8 (fl : Nat))) := (show Hid _ from fun W hW => by
          obtain ⟨b', off', e, -, hc⟩ := HO.out.cells hW hlt
          cases e
          have z1 : W.cell? ⟨b, off + m * 6 + 1, none⟩ = some (.int .i64 (os.getD m op0).i) := hc 1 (by omega)
          have z4 : W.cell? ⟨b, off + m * 6 + 4, none⟩ = some (.int .u8 ((os.getD m op0).fill : Nat)) := hc 4 (by omega)
          rw [HI.out] at z1
          rw [HFL.out] at z4
          exact ⟨z1, z4⟩)
        have BD : Hid (Below w.heap.size w wr.drew) := (show Hid _ from HBm.out.drew)
        have AD : Hid (At w.heap.size wr.drew D s) := HA.out.later ((Below.refl _ wr).drew)
        have HU : Hid (s.few) := HZ.out.up.few (by omega)
        go_wp2_with fail
        go_region_held3 (fun W => W.cell? ⟨b, off + m * 6 + 1, none⟩ = some (.int .i64 ix) ∧ W.cell? ⟨b, off + m * 6 + 4, none⟩ = some (.int .u8 (fl : Nat)))
          (first | exact HS.out _ BD.out | exact HS.out _ B5.out | exact HS.out _ B6.out)
          (first
            | (go_at_call 22; refine (full_any fl hfill _).mono ?_; rintro e w5 ⟨g5, rfl, o5, b5⟩; have O5 : Hid (Part.ok w5 ⟨some ⟨g5, 0, none⟩, 256, 256, fullN fl⟩) := own256 o5; have A5 : Hid (At w.heap.size w5 D s) := AD.out.later b5; have B5 : Hid (Below w.heap.size w w5) := BD.out.trans (b5.mono BD.out.size); clear o5 b5)
            | (go_at_call 17; (with_reducible_and_instances (refine (A5.out.write B5.out.size HU.out (K : Int) _ 256 256 (fullN fl) O5.out).mono ?_)); rintro e w6 ⟨rfl, a6, b6⟩; have A6 : Hid (At w.heap.size w6 D (writeD s K (fullN fl)).2) := a6; have B6 : Hid (Below w.heap.size w w6) := B5.out.trans b6; clear a6 b6))
        obtain ⟨r1, r2⟩ := fz_write HZ.out K hK2 (fullN fl) (fullN_len fl)
        rw [r1]
        have A7 : Hid (∃ s, Fz s (m + 1) N ∧ At w.heap.size w6 D s) := (show Hid _ from ⟨_, r2, A6.out⟩)
        clear r1 r2 HZ HA HBm A6 A5 B5 AD BD HS q0 q1 q4
        by_cases hmN : m < N
        · rw [if_pos hmN]
          obtain rfl := hmn3 hmN
          have e1 := hmn5 hmN
          go_wp2_with (go_at_call 11; refine (num3_any _ _).mono ?_; rintro e w' ⟨rfl, hw'⟩; obtain rfl := hw'.symm)
          refine ⟨⟨mn + 1, by omega, by go_num, by rw [e1]; go_num, A7, B6⟩, by simp [intOf]; omega⟩
        · rw [if_neg hmN]
          have e1 := hmn6 (by omega)
          obtain rfl := hmn4 (by omega)
          go_wp2_with (go_at_call 11; refine (num3_any _ _).mono ?_; rintro e w' ⟨rfl, hw'⟩; obtain rfl := hw'.symm)
          refine ⟨⟨m + 1, by omega, by go_num, by rw [e1], A7, B6⟩, by simp [intOf]; omega⟩
    · obtain rfl : m = len := by omega
      obtain ⟨s, hz, ha⟩ := HAm.out
      have HA : Hid (At w.heap.size wr D s) := ha
      have hoff : s.off = decide (N < m) := hz.off
      clear hz ha HAm HO
      have hdown := HA.out.isDown
      rw [hoff] at hdown
      go_wp2_with (go_at_call 19; refine hdown.mono ?_; rintro e w' ⟨rfl, hw'⟩; obtain rfl := hw'.symm)
      refine (HA.out.crash (Below.refl _ _) HBm.out.size none 0 0 [] ⟨rfl, Or.inl rfl, by simp⟩ (fun b off e => by cases e)).mono ?_
      rintro e w4 ⟨rfl, a4, b4⟩
      have A4 : Hid (At w.heap.size w4 D (crashD s [])) := a4
      have B4 : Hid (Below w.heap.size w w4) := HBm.out.trans b4
      clear a4 b4 HA HBm hdown
      have hd4 : Calls Try.prog 19 #[.pointer (some ⟨D, 0, none⟩)] w4 fun x w' => x = .returned (.bool false) ∧ w' = w4 := A4.out.isDown
      go_wp2_with (go_at_call 19; refine hd4.mono ?_; rintro e w' ⟨rfl, hw'⟩; obtain rfl := hw'.symm)
      refine (A4.out.sync B4.out.size).mono ?_
      rintro e w5 ⟨rfl, a5, b5⟩
      rw [crash_sync]
      have B5 : Hid (Below w.heap.size w w5) := B4.out.trans b5
      clear a5 b5
      go_wp2_with (go_at_call 11; refine (num3_any _ _).mono ?_; rintro e w' ⟨rfl, hw'⟩; obtain rfl := hw'.symm)
      go_ret
      exact ⟨rfl, B5.out⟩
end Go.Proofs.Ytdcgokkbmplihaa

/- What DiskTwice of package law03 answers: true. -/
namespace Go.Proofs.Ytdcgokkbmplihaa
open Go.RowKit

theorem alien_of {w : World} {t : TypeId} (ht : t ≠ TK ∧ t ≠ TD ∧ t ≠ TB) {g : Nat} (h : ∃ c, w.heap[g]? = some (.cells c t (0, 0))) : Alien w g := by
  obtain ⟨c, h⟩ := h
  exact ⟨c, t, (0, 0), h, ht⟩
theorem below_grown {w w1 w2 : World} {N : Nat} {row : Option Nat} (h : Below N w w1) (hg : w1.grownBy w2 row) (hN : N ≤ w1.heap.size) (hr : ∀ g, row = some g → N ≤ g) : Below N w w2 :=
  ⟨hg.os.trans h.os, hg.tape.trans h.tape, hg.output.trans h.output, Nat.le_trans h.size hg.size, fun k hk => (hg.block k (by omega) (fun e => by have := hr k e.symm; omega)).trans (h.block k hk)⟩
theorem read_len {s : DSt} (h : s.ok) (j : Int) : ∀ y ∈ (readD s j).1, y < 256 := by
  unfold readD
  split
  · rename_i hh
    split
    · intro y hy; cases hy
    · split
      · rename_i t ht
        exact (now_ok h (at_mem (has_lt hh).2) ht).2
      · intro y hy; cases hy
  · intro y hy; cases hy
set_option maxRecDepth 100000 in
set_option maxHeartbeats 4000000 in
theorem diskTwice_any (ad : Option Addr) (len cap : Nat) (os : List OpD) (bd : Option Addr) (blen bcap : Nat) (cs : List Int) (dd : Option Addr) (dlen dcap : Nat) (ds : List Int) (w : World) (ho : OArg w os ad len) (hlen : len ≤ 1073741824) (hc : IArg w cs bd blen) (hd : IArg w ds dd dlen) :
    Calls Try.prog 6 #[.slice ad len cap, .slice bd blen bcap, .slice dd dlen dcap] w fun e w' => e = .returned (.bool true) ∧ Below w.heap.size w w' := by
  have HO : Hid (OArg w os ad len) := ho
  have HC : Hid (IArg w cs bd blen) := hc
  have HD : Hid (IArg w ds dd dlen) := hd
  clear ho hc hd
  go_enter Try.func6, Try.ntmps6
  go_wp2_with fail
  refine (At.new 6 w (by omega) (by omega)).mono ?_
  rintro x w1 ⟨D, rfl, hA1, hb1⟩
  have A1 : Hid (At w.heap.size w1 D (newD 6)) := hA1
  have B1 : Hid (Below w.heap.size w w1) := hb1
  clear hA1 hb1
  go_wp2_with (first
    | (go_at_call 11; refine (num3_any _ _).mono ?_; rintro e w' ⟨rfl, hw'⟩; obtain rfl := hw'.symm))
  refine (knows3_any _).mono ?_
  rintro e w2 ⟨rfl, b2⟩
  have A2 : Hid (∃ s, Fr s 0 ∧ At w.heap.size w2 D s) := (show Hid _ from ⟨_, fr_start, A1.out.later b2⟩)
  have B2 : Hid (Below w.heap.size w w2) := B1.out.trans (b2.mono B1.out.size)
  clear b2 A1 B1
  go_wp2_with fail
  go_loopw [9] (fun i wr => ∃ m : Nat, m ≤ len ∧ i = .int .i64 m ∧ Hid (∃ s, Fr s m ∧ At w.heap.size wr D s) ∧ Hid (Below w.heap.size w wr)) (fun i _ => len - (intOf i).toNat)
  case atStart => exact ⟨0, by omega, rfl, A2, B2⟩
  case round =>
    obtain ⟨m, hm, rfl, HAm, HBm⟩ := hrel
    clear A2 B2
    by_cases hlt : m < len
    · obtain ⟨s, hz, ha⟩ := HAm.out
      have HZ : Hid (Fr s m) := hz
      have HA : Hid (At w.heap.size wr D s) := ha
      obtain ⟨b, off, rfl, hok, hcell⟩ := HO.out.cells HBm.out hlt
      have q0 := hcell 0 (by omega)
      have q1 := hcell 1 (by omega)
      have q4 := hcell 4 (by omega)
      have hfill := hok.fill
      have hi1 := hok.i1
      have hi2 := hok.i2
      simp only [opV, List.getElem?_cons_zero, List.getElem?_cons_succ, Nat.add_zero] at q0 q1 q4
      generalize hkd : (os.getD m op0).kind = kd at *
      generalize hix : (os.getD m op0).i = ix at *
      generalize hfl : (os.getD m op0).fill = fl at *
      have HI : Hid ((os.getD m op0).i = ix) := hix
      have HFL : Hid ((os.getD m op0).fill = fl) := hfl
      clear hkd hix hfl hcell hok hz ha HAm HC HD
      by_cases hk : kd = 1
      · subst hk
        go_wp2_with fail
        refine (HA.out.sync HBm.out.size).mono ?_
        rintro e w4 ⟨rfl, a4, b4⟩
        have A4 : Hid (∃ s, Fr s (m + 1) ∧ At w.heap.size w4 D s) := (show Hid _ from ⟨_, (fr_sync HZ.out).2, a4⟩)
        have B4 : Hid (Below w.heap.size w w4) := HBm.out.trans b4
        clear a4 b4 HZ HA HBm
        go_wp2_with fail
        refine ⟨⟨m + 1, by omega, by go_num, A4, B4⟩, by simp [intOf]; omega⟩
      · have hkn : (kd == 1) = false := by simpa using hk
        have hq0 := tmod_bounds ix 6 (by omega)
        obtain ⟨K, hK, hK2⟩ : ∃ K : Nat, ix.tmod 6 % 6 = (K : Int) ∧ K < 6 := ⟨(ix.tmod 6 % 6).toNat, by omega, by omega⟩
        have hK' : (ix.tmod 6 + 6) % 6 = (K : Int) := by omega
        have hK3 : (ix.tmod 6 + 6).tmod 6 = (K : Int) := by rw [Int.tmod_eq_emod_of_nonneg (by omega)]; exact hK'
        have hK4 : IntKind.i64.wrap (ix.tmod 6 + 6) = ix.tmod 6 + 6 := by rw [IntKind.wrap_i64]; omega
        have hK5 : IntKind.i64.wrap (ix.tmod 6) = ix.tmod 6 := by rw [IntKind.wrap_i64]; omega
        have hK6 : IntKind.i64.wrap (K : Int) = (K : Int) := by rw [IntKind.wrap_i64]; omega
        have HS : Hid (∀ W, Below w.heap.size w W → W.cell? ⟨b, off + m * 6 + 1, none⟩ = some (.int .i64 ix) ∧ W.cell? ⟨b, off + m * 6 + 4, none⟩ = some (.int .u8 (fl : Nat))) := (show Hid _ from fun W hW => by
          obtain ⟨b', off', e, -, hc⟩ := HO.out.cells hW hlt
          cases e
          have z1 : W.cell? ⟨b, off + m * 6 + 1, none⟩ = some (.int .i64 (os.getD m op0).i) := hc 1 (by omega)
          have z4 : W.cell? ⟨b, off + m * 6 + 4, none⟩ = some (.int .u8 ((os.getD m op0).fill : Nat)) := hc 4 (by omega)
          rw [HI.out] at z1
          rw [HFL.out] at z4
          exact ⟨z1, z4⟩)
        have BD : Hid (Below w.heap.size w wr.drew) := (show Hid _ from HBm.out.drew)
        have AD : Hid (At w.heap.size wr.drew D s) := HA.out.later ((Below.refl _ wr).drew)
        have HU : Hid (s.few) := HZ.out.up.few (by omega)
        go_wp2_with fail
        go_region_held3 (fun W => W.cell? ⟨b, off + m * 6 + 1, none⟩ = some (.int .i64 ix) ∧ W.cell? ⟨b, off + m * 6 + 4, none⟩ = some (.int .u8 (fl : Nat)))
          (first | exact HS.out _ BD.out | exact HS.out _ B5.out | exact HS.out _ B6.out)
          (first
            | (go_at_call 22; refine (full_any fl hfill _).mono ?_; rintro e w5 ⟨g5, rfl, o5, b5⟩; have O5 : Hid (Part.ok w5 ⟨some ⟨g5, 0, none⟩, 256, 256, fullN fl⟩) := own256 o5; have A5 : Hid (At w.heap.size w5 D s) := AD.out.later b5; have B5 : Hid (Below w.heap.size w w5) := BD.out.trans (b5.mono BD.out.size); clear o5 b5)
            | (go_at_call 17; (with_reducible_and_instances (refine (A5.out.write B5.out.size HU.out (K : Int) _ 256 256 (fullN fl) O5.out).mono ?_)); rintro e w6 ⟨rfl, a6, b6⟩; have A6 : Hid (At w.heap.size w6 D (writeD s K (fullN fl)).2) := a6; have B6 : Hid (Below w.heap.size w w6) := B5.out.trans b6; clear a6 b6))
        have A7 : Hid (∃ s, Fr s (m + 1) ∧ At w.heap.size w6 D s) := (show Hid _ from ⟨_, (fr_write HZ.out K hK2 (fullN fl) (fullN_len fl)).2, A6.out⟩)
        clear HZ HA HBm A6 A5 B5 AD BD HS q0 q1 q4
        go_wp2_with fail
        refine ⟨⟨m + 1, by omega, by go_num, A7, B6⟩, by simp [intOf]; omega⟩
    · obtain rfl : m = len := by omega
      obtain ⟨s, hz, ha⟩ := HAm.out
      have HA : Hid (At w.heap.size wr D s) := ha
      clear hz ha HAm HO
      go_wp2_with fail
      refine (HA.out.crash (Below.refl _ _) HBm.out.size bd blen bcap cs (HC.out.chg (F := []) ((Chg.refl [] w).trans (G := []) ⟨HBm.out.os, HBm.out.tape, HBm.out.output, HBm.out.size, fun k hk _ => HBm.out.block k hk⟩ (by simp)) (by simp)) (fun b off e h0 => ?_)).mono ?_
      · obtain ⟨b', off', e', hs, -⟩ := HC.out.row.resolve_left h0
        rw [e] at e'
        cases e'
        exact Or.inl hs
      rintro e w4 ⟨rfl, a4, b4⟩
      obtain ⟨s1, hs1⟩ : ∃ s1, crashD s cs = s1 := ⟨_, rfl⟩
      have HT : Hid (crashD s1 ds = s1) := (show Hid _ from (by rw [← hs1]; exact crash_twice s cs ds))
      rw [hs1] at a4
      obtain ⟨F, hdk, hF⟩ := a4
      have A4 : Hid (Dk w4 F D s1) := hdk
      have HF : Hid (∀ g ∈ F, w.heap.size ≤ g) := hF
      have HG : Hid (∀ g ∈ F, g < w4.heap.size) := hdk.lt
      have B4 : Hid (Below w.heap.size w w4) := HBm.out.trans b4
      clear hdk hF b4 HA HBm hs1 HC
      go_wp2_with fail
      go_loopw [10, 11, 12] (fun was errs k wr => ∃ j : Nat, j ≤ 6 ∧ k = .int .i64 j ∧ Hid (Dk wr F D s1) ∧ Hid (Was w4.heap.size s1 wr was j) ∧ Hid (Errs w4.heap.size s1 wr errs j) ∧ Hid (Below w4.heap.size w4 wr)) (fun _ _ k _ => 6 - (intOf k).toNat)
      case atStart => exact ⟨0, by omega, rfl, A4, (show Hid _ from Was.nil _ _ _), (show Hid _ from Errs.nil _ _ _), (show Hid _ from Below.refl _ _)⟩
      case round =>
        obtain ⟨j, hj, rfl, HAj, HWj, HEj, HBj⟩ := hrel
        by_cases hjt : j < 6
        · clear HD HT
          go_wp2_with fail
          refine (HAj.out.read (j : Int)).mono ?_
          rintro e w5 ⟨u, rfl, o5, a5, b5⟩
          obtain ⟨pu, cu, hu, -⟩ := o5.form
          subst hu
          have U5 : Hid (Own w5 w4.heap.size (.slice pu (readD s1 (j : Nat)).1.length cu) (readD s1 (j : Nat)).1) := o5.down HBj.out.size
          have A5 : Hid (Dk w5 F D s1) := a5
          have B5 : Hid (Below w4.heap.size w4 w5) := HBj.out.trans (b5.mono HBj.out.size)
          have W5 : Hid (Was w4.heap.size s1 w5 u10 j) := HWj.out.later b5
          have E5 : Hid (Errs w4.heap.size s1 w5 u11 j) := HEj.out.later b5
          clear o5 a5 b5 HAj HWj HEj HBj
          go_wp2_with (at_builtin; refine app_was (p := pu) (n := (readD s1 (j : Nat)).1.length) (c := cu) rfl _ _ rfl w5 rfl B5.out.size rfl rfl W5.out U5.out (by omega) ?_; intro v6 w6 hw6 hg6 hr6; have W6 : Hid (Was w4.heap.size s1 w6 v6 (j + 1)) := hw6; have HGR : Hid ((w5.alloc (.cells #[.slice pu (readD s1 (j : Nat)).1.length cu] 32)).grownBy w6 u10.ownBlock) := hg6; have HRR : Hid (∀ g, u10.ownBlock = some g → w4.heap.size ≤ g ∧ ∃ c, (w5.alloc (.cells #[.slice pu (readD s1 (j : Nat)).1.length cu] 32)).heap[g]? = some (.cells c 32 (0, 0))) := hr6; clear hw6 hg6 hr6)
          have bX : Below w5.heap.size w5 (w5.alloc (.cells #[.slice pu (readD s1 (j : Nat)).1.length cu] 32)) := (Below.refl _ w5).alloc (Nat.le_refl _) _
          have E6 : Hid (Errs w4.heap.size s1 w6 u11 j) := (show Hid _ from ownsRow_alien (E5.out.later bX) HGR.out (fun g hg => by obtain ⟨_, c, q⟩ := HRR.out g hg; exact ⟨c, _, _, q, by decide⟩))
          have A6 : Hid (Dk w6 F D s1) := (show Hid _ from (A5.out.below bX).alien HGR.out (fun g hg => alien_of (by decide) (HRR.out g hg).2))
          have B6 : Hid (Below w4.heap.size w4 w6) := (show Hid _ from below_grown (B5.out.trans (bX.mono B5.out.size)) HGR.out (Nat.le_trans B5.out.size bX.size) (fun g hg => (HRR.out g hg).1))
          clear bX HGR HRR W5 U5 A5 B5 E5
          go_wp2_with (first
            | (go_at_call 11; refine (num3_any _ _).mono ?_; rintro e w' ⟨rfl, hw'⟩; obtain rfl := hw'.symm)
            | (at_builtin; refine app_errs (s := s1) (m := j) rfl _ _ rfl w6 rfl B6.out.size rfl rfl E6.out (by omega) ?_; intro v7 w7 hw7 hg7 hr7; have E7 : Hid (Errs w4.heap.size s1 w7 v7 (j + 1)) := hw7; have HGR : Hid ((w6.alloc (.cells #[.int .i64 (readD s1 (j : Nat)).2] 3)).grownBy w7 u11.ownBlock) := hg7; have HRR : Hid (∀ g, u11.ownBlock = some g → w4.heap.size ≤ g ∧ ∃ c, (w6.alloc (.cells #[.int .i64 (readD s1 (j : Nat)).2] 3)).heap[g]? = some (.cells c 3 (0, 0))) := hr7; clear hw7 hg7 hr7))
          have bY : Below w6.heap.size w6 (w6.alloc (.cells #[.int .i64 (readD s1 (j : Nat)).2] 3)) := (Below.refl _ w6).alloc (Nat.le_refl _) _
          have W7 : Hid (Was w4.heap.size s1 w7 v6 (j + 1)) := (show Hid _ from (W6.out.later bY).alien HGR.out (fun g hg => by obtain ⟨_, c, q⟩ := HRR.out g hg; exact ⟨c, _, _, q, by decide, by decide⟩))
          have A7 : Hid (Dk w7 F D s1) := (show Hid _ from (A6.out.below bY).alien HGR.out (fun g hg => alien_of (by decide) (HRR.out g hg).2))
          have B7 : Hid (Below w4.heap.size w4 w7) := (show Hid _ from below_grown (B6.out.trans (bY.mono B6.out.size)) HGR.out (Nat.le_trans B6.out.size bY.size) (fun g hg => (HRR.out g hg).1))
          refine ⟨⟨j + 1, by omega, by go_num, A7, W7, E7, B7⟩, by simp [intOf]; omega⟩
        · obtain rfl : j = 6 := by omega
          have D4 : Below w.heap.size w wr := B4.out.trans (HBj.out.mono B4.out.size)
          go_wp2_with fail
          refine (HAj.out.crash HF.out dd dlen dcap ds (HD.out.chg (F := []) ⟨D4.os, D4.tape, D4.output, D4.size, fun k hk _ => D4.block k hk⟩ (by simp)) (fun b off e h0 => ?_)).mono ?_
          · obtain ⟨b', off', e', hs, -⟩ := HD.out.row.resolve_left h0
            rw [e] at e'
            cases e'
            exact hs
          rintro e w5 ⟨rfl, hmv⟩
          rw [HT.out] at hmv
          have W5 : Hid (Was w4.heap.size s1 w5 u10 6) := HWj.out.chg hmv.chg HG.out
          have E5 : Hid (Errs w4.heap.size s1 w5 u11 6) := HEj.out.chg hmv.chg HG.out
          obtain ⟨a5, b5⟩ := hmv.at HF.out (Nat.le_trans B4.out.size HBj.out.size)
          have A5 : Hid (At w.heap.size w5 D s1) := a5
          have B5 : Hid (Below w.heap.size w w5) := (show Hid _ from D4.trans b5)
          clear a5 b5 hmv D4 HAj HWj HEj HBj B4 HF HG HD HT A4
          obtain ⟨gw, cw, hw10, hW⟩ := W5.out.form
          obtain ⟨ge, ce, hw11, hE⟩ := E5.out.form
          subst hw10
          subst hw11
          have FW : Hid (∀ W, Below w5.heap.size w5 W → ∀ j, j < 6 → ∃ p c, W.cell? ⟨gw, j, none⟩ = some (.slice p (readD s1 (j : Nat)).1.length c) ∧ (convert 32 9 (.slice p (readD s1 (j : Nat)).1.length c)).run Try.prog W = .ok (.string (bstr (readD s1 (j : Nat)).1)) W) := hW
          have FE : Hid (∀ W, Below w5.heap.size w5 W → ∀ j, j < 6 → W.cell? ⟨ge, j, none⟩ = some (.int .i64 (readD s1 (j : Nat)).2)) := hE
          clear hW hE W5 E5
          go_wp2_with fail
          go_loopw [15] (fun i wr => ∃ j : Nat, j ≤ 6 ∧ i = .int .i64 j ∧ Hid (At w.heap.size wr D s1) ∧ Hid (Below w5.heap.size w5 wr)) (fun i _ => 6 - (intOf i).toNat)
          case atStart => exact ⟨0, by omega, rfl, A5, (show Hid _ from Below.refl _ _)⟩
          case round =>
            obtain ⟨j, hj2, rfl, HAj, HBj⟩ := hrel
            by_cases hjt2 : j < 6
            · go_wp2_with fail
              refine (HAj.out.read (j : Int)).mono ?_
              rintro e w6 ⟨u, rfl, o6, a6, b6⟩
              obtain ⟨pu, cu, hu, hpu, -⟩ := o6.slice _ rfl
              subst hu
              have A6 : Hid (At w.heap.size w6 D s1) := a6
              have B6 : Hid (Below w5.heap.size w5 w6) := HBj.out.trans (b6.mono HBj.out.size)
              have PU : Hid (Part.ok w6 ⟨pu, (readD s1 (j : Nat)).1.length, cu, (readD s1 (j : Nat)).1⟩) := hpu
              clear o6 a6 b6 hpu HAj HBj
              obtain ⟨px, cx, hx1, hx2⟩ := FW.out w6 B6.out j hjt2
              obtain ⟨er, her⟩ : ∃ er, (readD s1 (j : Nat)).2 = er := ⟨_, rfl⟩
              obtain ⟨tt, htt⟩ : ∃ tt, bstr (readD s1 (j : Nat)).1 = tt := ⟨_, rfl⟩
              obtain ⟨nn, hnn⟩ : ∃ nn, (readD s1 (j : Nat)).1.length = nn := ⟨_, rfl⟩
              have HS : Hid (∀ W, Below w6.heap.size w6 W → W.cell? ⟨gw, j, none⟩ = some (.slice px nn cx) ∧ W.cell? ⟨ge, j, none⟩ = some (.int .i64 er) ∧ (convert 32 9 (.slice pu nn cu)).run Try.prog W = .ok (.string tt) W ∧ (convert 32 9 (.slice px nn cx)).run Try.prog W = .ok (.string tt) W) := (show Hid _ from fun W hW => by
                have hB := B6.out.trans (hW.mono B6.out.size)
                have z0 := conv_any (PU.out.later hW).2.2 _ cu rfl
                obtain ⟨px', cx', y1, y2⟩ := FW.out W hB j hjt2
                have y3 := FE.out W hB j hjt2
                have y4 : W.cell? ⟨gw, j, none⟩ = w6.cell? ⟨gw, j, none⟩ := hW.cell (p := ⟨gw, j, none⟩) (block_lt_of_cell hx1)
                rw [y4, hx1] at y1
                injection y1 with y1
                injection y1 with y5 y6 y7
                subst y5
                subst y7
                rw [her] at y3
                rw [hnn, htt] at y2 z0
                rw [hnn] at hx1
                exact ⟨y4.trans hx1, y3, z0, y2⟩)
              rw [her, hnn]
              clear her htt hnn hx1 hx2 PU
              have BD : Hid (Below w6.heap.size w6 w6.drew) := (show Hid _ from (Below.refl _ w6).drew)
              go_wp2_with fail
              go_region_held3 (fun W => W.cell? ⟨gw, j, none⟩ = some (.slice px nn cx) ∧ W.cell? ⟨ge, j, none⟩ = some (.int .i64 er) ∧ (convert 32 9 (.slice pu nn cu)).run Try.prog W = .ok (.string tt) W ∧ (convert 32 9 (.slice px nn cx)).run Try.prog W = .ok (.string tt) W)
                (first | exact HS.out _ BD.out)
                (first | (go_at_call 11; refine (num3_any _ _).mono ?_; rintro e w' ⟨rfl, hw'⟩; obtain rfl := hw'.symm))
              go_wp2_with fail
              refine ⟨⟨j + 1, by omega, by go_num, (show Hid _ from A6.out.later ((Below.refl _ w6).drew)), (show Hid _ from B6.out.trans (BD.out.mono B6.out.size))⟩, by simp [intOf]; omega⟩
            · obtain rfl : j = 6 := by omega
              go_wp2_with fail
              go_ret
              exact ⟨rfl, B5.out.trans (HBj.out.mono B5.out.size)⟩
end Go.Proofs.Ytdcgokkbmplihaa

/- What DiskSynced keeps round by round. -/
namespace Go.Proofs.Ytdcgokkbmplihaa
open Go.RowKit
variable {w w' : World} {F : List Nat} {D gS gL gB N : Nat} {s : DSt} {m : Nat} {su la ts tl : Nat → Nat} {d : Nat → Bool}

theorem Dk.set (h : Dk w F D s) {g : Nat} (hg : g ∉ F) (i : Nat) (u : Value) : Dk (w.setCell ⟨g, i, none⟩ u) F D s :=
  h.keep (fun k hk => heap_setCell_other w ⟨g, i, none⟩ k u (fun e => hg (by simp only at e; rw [← e]; exact hk))) (by simp [World.setCell])
theorem Sy.congr {su' la' : Nat → Nat} {d' : Nat → Bool} (h : Sy s m su la d) (h1 : ∀ j, j < 6 → su' j = su j) (h2 : ∀ j, j < 6 → la' j = la j) (h3 : ∀ j, j < 6 → d' j = d j) : Sy s m su' la' d' :=
  ⟨h.fr, fun j hj => by rw [h2 j hj]; exact h.now j hj, fun j hj hd => by rw [h1 j hj, h2 j hj]; exact h.sure j hj (by rw [← h3 j hj]; exact hd)⟩
/-- The tables beside the disk. -/
structure Tabs (w : World) (F : List Nat) (D gS gL gB n : Nat) (s : DSt) (ts su tl la : Nat → Nat) (d : Nat → Bool) : Prop where
  sure : Tab w F gS n ts su
  last : Tab w F gL n tl la
  dirty : Bools w F gB d
  disk : Dk w F D s
  ne : gS ≠ gL
variable {n : Nat}
theorem Tabs.later (h : Tabs w F D gS gL gB n s ts su tl la d) (hb : Below w.heap.size w w') : Tabs w' F D gS gL gB n s ts su tl la d :=
  ⟨h.sure.later hb, h.last.later hb, h.dirty.later hb, h.disk.below hb, h.ne⟩
theorem Tabs.moved {s' : DSt} (h : Tabs w F D gS gL gB n s ts su tl la d) (hm : Moved Dk F D s' w w') : ∃ F', Tabs w' F' D gS gL gB n s' ts su tl la d ∧ ∀ g ∈ F', g ∈ F ∨ w.heap.size ≤ g := by
  obtain ⟨F', h1, h2⟩ := hm.disk
  exact ⟨F', ⟨h.sure.chg hm.chg h2, h.last.chg hm.chg h2, h.dirty.chg hm.chg h2, h1, h.ne⟩, h2⟩
theorem Tabs.setS (h : Tabs w F D gS gL gB n s ts su tl la d) {j n' x y : Nat} (hj : j < 6) (hx : x ∉ F) (hy : y < 256) (hb : w.heap[x]? = some (txtO y)) (hn : n' ≤ n ∨ (n' = n + 1 ∧ j = n)) :
    Tab (w.setCell ⟨gS, j, none⟩ (tv x)) F gS n' (updF ts j x) (updF su j y) ∧ Tab (w.setCell ⟨gS, j, none⟩ (tv x)) F gL n tl la ∧ Bools (w.setCell ⟨gS, j, none⟩ (tv x)) F gB d ∧ Dk (w.setCell ⟨gS, j, none⟩ (tv x)) F D s := by
  obtain ⟨cur, e, fr, q1, q2⟩ := h.sure.typed
  refine ⟨h.sure.set hj hn hx hy hb, h.last.other j _ ⟨cur, e, fr, q1, by rw [q2]; decide, Or.inr h.ne⟩, h.dirty.other j _ ⟨cur, e, fr, q1, q2⟩, h.disk.set h.sure.out j _⟩
theorem Tabs.setL (hS : Tab w F gS n ts su) (hL : Tab w F gL m tl la) (hB : Bools w F gB d) (hD : Dk w F D s) (ne : gS ≠ gL) {j n' x y : Nat} (hj : j < 6) (hx : x ∉ F) (hy : y < 256) (hb : w.heap[x]? = some (txtO y)) (hn : n' ≤ m ∨ (n' = m + 1 ∧ j = m)) :
    Tab (w.setCell ⟨gL, j, none⟩ (tv x)) F gS n ts su ∧ Tab (w.setCell ⟨gL, j, none⟩ (tv x)) F gL n' (updF tl j x) (updF la j y) ∧ Bools (w.setCell ⟨gL, j, none⟩ (tv x)) F gB d ∧ Dk (w.setCell ⟨gL, j, none⟩ (tv x)) F D s := by
  obtain ⟨cur, e, fr, q1, q2⟩ := hL.typed
  refine ⟨hS.other j _ ⟨cur, e, fr, q1, by rw [q2]; decide, Or.inr ne.symm⟩, hL.set hj hn hx hy hb, hB.other j _ ⟨cur, e, fr, q1, q2⟩, hD.set hL.out j _⟩
theorem Tabs.setB (hS : Tab w F gS n ts su) (hL : Tab w F gL m tl la) (hB : Bools w F gB d) (hD : Dk w F D s) {j : Nat} (hj : j < 6) (b : Bool) :
    Tab (w.setCell ⟨gB, j, none⟩ (.bool b)) F gS n ts su ∧ Tab (w.setCell ⟨gB, j, none⟩ (.bool b)) F gL m tl la ∧ Bools (w.setCell ⟨gB, j, none⟩ (.bool b)) F gB (updF d j b) ∧ Dk (w.setCell ⟨gB, j, none⟩ (.bool b)) F D s := by
  obtain ⟨cur, q1⟩ := hB.typed
  exact ⟨hS.other j _ ⟨cur, _, _, q1, by decide, Or.inl (by decide)⟩, hL.other j _ ⟨cur, _, _, q1, by decide, Or.inl (by decide)⟩, hB.set j hj b, hD.set hB.out j _⟩
/-- A new text is none of the disk's. -/
theorem Dk.fresh (h : Dk w F D s) {x : Nat} (hx : w.heap.size ≤ x) : x ∉ F := fun hm => absurd (h.lt x hm) (by omega)
theorem below_set {N : Nat} {w w1 : World} (h : Below N w w1) {g : Nat} (hg : N ≤ g) (i : Nat) (u : Value) : Below N w (w1.setCell ⟨g, i, none⟩ u) := h.setCell (p := ⟨g, i, none⟩) hg u
theorem Dk.sync (h : Dk w F D s) : Calls Try.prog 18 #[.pointer (some ⟨D, 0, none⟩)] w fun x w' => x = .returned (.int .i64 (syncD s).1) ∧ Moved Dk F D (syncD s).2 w w' := by
  obtain ⟨B, M, Dm, V, C, h⟩ := h
  exact sync_pic h
theorem Dk.write (h : Dk w F D s) (hf : s.few) (i : Int) (ad : Option Addr) (len cap : Nat) (l : List Nat) (hp : Part.ok w ⟨ad, len, cap, l⟩) :
    Calls Try.prog 17 #[.pointer (some ⟨D, 0, none⟩), .int .i64 i, .slice ad len cap] w fun x w' => x = .returned (.int .i64 (writeD s i l).1) ∧ Moved Dk F D (writeD s i l).2 w w' := by
  obtain ⟨B, M, Dm, V, C, h⟩ := h
  exact write_pic h hf i ad len cap l hp
theorem Moved.below {s' : DSt} (h : Moved Dk F D s' w w') (hF : ∀ g ∈ F, N ≤ g) (hN : N ≤ w.heap.size) : Below N w w' := h.chg.below hF hN
theorem Tab.slice (h : Tab w F gL n tl la) {j : Nat} (hj : j < n) : w.cell? ⟨gL, j, none⟩ = some (.slice (some ⟨tl j, 0, none⟩) 256 256) := h.cell hj
theorem Dk.crash2 (h : Dk w F D s) (ad : Option Addr) (len cap : Nat) (cs : List Int) (ha : IArg w cs ad len) (hn : ∀ b off, ad = some ⟨b, off, none⟩ → len ≠ 0 → b ∉ F) :
    Calls Try.prog 15 #[.pointer (some ⟨D, 0, none⟩), .slice ad len cap] w fun x w' => x = .returned (.tuple #[]) ∧ Moved Dk F D (crashD s cs) w w' := by
  obtain ⟨B, M, Dm, V, C, h⟩ := h
  exact crash_pic h ad len cap cs ha hn
theorem Dk.dirty (h : Dk w F D s) : Calls Try.prog 20 #[.pointer (some ⟨D, 0, none⟩)] w fun x w' => x = .returned (.int .i64 (dirtyD s : Nat)) ∧ w' = w := by
  obtain ⟨B, M, Dm, V, C, h⟩ := h
  exact dirty_pic h
theorem Dk.isDown (h : Dk w F D s) : Calls Try.prog 19 #[.pointer (some ⟨D, 0, none⟩)] w fun x w' => x = .returned (.bool s.off) ∧ w' = w := by
  obtain ⟨B, M, Dm, V, C, h⟩ := h
  exact down_pic h
theorem Tab.text (h : Tab w F gS n ts su) {j : Nat} (hj : j < n) : Part.ok w ⟨some ⟨ts j, 0, none⟩, 256, 256, fullN (su j)⟩ := by
  obtain ⟨q1, q2, q3⟩ := h.txt j hj
  refine ⟨fullN_len _, fun e => (by cases e), (fullN_ok _ q2).2, Or.inr ⟨ts j, 0, rfl, some_lt q3, fun i hi => ?_⟩⟩
  have hi : i < (fullN (su j)).length := hi
  show _ = some (Value.int .u8 ((fullN (su j)).getD i 0 : Nat))
  unfold txtO at q3
  rw [cell_of_row _ _ _ _ _ _ q3, List.getElem?_toArray, Nat.zero_add]
  unfold verV
  rw [List.getElem?_map, List.getElem?_eq_getElem hi, List.getD_eq_getElem?_getD, List.getElem?_eq_getElem hi]
  rfl
theorem Try.infoT : (Try.prog.info? 4).map (fun i => (i.zero, i.size, i.bytes)) = some (some (.bool false), 1, 1) := by kernel_rfl
theorem made_bools (j : Nat) (hj : j < 6) : (madeCells #[Value.bool false] 6)[j]? = some (.bool false) := by
  unfold madeCells
  rw [Array.getElem?_map, Array.getElem?_range, if_pos hj]
  simp [Nat.mod_one]
/-- The tables when they are made. -/
theorem tabs_start (w : World) (h : Dk w F D s) : let W := ((w.alloc (.cells (madeCells #[Value.slice none 0 0] 6) 32)).alloc (.cells (madeCells #[Value.slice none 0 0] 6) 32)).alloc (.cells (madeCells #[Value.bool false] 6) 4)
    Tab W F w.heap.size 0 (fun _ => 0) (fun _ => 0) ∧ Tab W F (w.heap.size + 1) 0 (fun _ => 0) (fun _ => 0) ∧ Bools W F (w.heap.size + 2) (fun _ => false) ∧ Dk W F D s ∧ Below w.heap.size w W := by
  intro W
  obtain ⟨q1, q2, q3⟩ := three_blocks w (.cells (madeCells #[Value.slice none 0 0] 6) 32) (.cells (madeCells #[Value.slice none 0 0] 6) 32) (.cells (madeCells #[Value.bool false] 6) 4)
  have hb : Below w.heap.size w W := (((Below.refl w.heap.size w).alloc (Nat.le_refl _) _).alloc (by simp) _).alloc (by simp; omega) _
  have hn : ∀ k, w.heap.size ≤ k → k ∉ F := fun k hk => h.fresh hk
  exact ⟨⟨⟨_, q1, size_madeCells _ _, fun j hj => absurd hj (by omega)⟩, hn _ (Nat.le_refl _), fun j hj => absurd hj (by omega)⟩, ⟨⟨_, q2, size_madeCells _ _, fun j hj => absurd hj (by omega)⟩, hn _ (by omega), fun j hj => absurd hj (by omega)⟩,
    ⟨⟨_, q3, size_madeCells _ _, fun j hj => made_bools j hj⟩, hn _ (by omega)⟩, h.below hb, hb⟩
end Go.Proofs.Ytdcgokkbmplihaa

/- A disk and the document's disk beside each other: each call on one of them leaves the other. -/
namespace Go.Proofs.Ytdcgokkbmplihaa
open Go.RowKit
variable {w w' w'' : World} {A A' A'' F G B : List Nat} {D R L cap N : Nat} {s t : DSt} {T V : Nat → Value}

/-- What was A is A' now: what is new is new; all but A is as it was. -/
structure Went (A A' : List Nat) (w w' : World) : Prop where
  new : ∀ g ∈ A', g ∈ A ∨ w.heap.size ≤ g
  chg : Chg A w w'
theorem Went.refl (A : List Nat) (w : World) : Went A A w w := ⟨fun _ h => Or.inl h, Chg.refl _ _⟩
theorem Went.trans (h : Went A A' w w') (h' : Went A' A'' w' w'') : Went A A'' w w'' :=
  ⟨fun g hg => (h'.new g hg).elim (h.new g) (fun q => Or.inr (Nat.le_trans h.chg.size q)), h.chg.trans h'.chg h.new⟩
theorem Went.below (h : Below w.heap.size w w') : Went A A w w' := ⟨fun _ h => Or.inl h, Chg.of h⟩
theorem Rk.keep (h : Rk w G R t) (hk : ∀ g ∈ G, w'.heap[g]? = w.heap[g]?) (hs : w.heap.size ≤ w'.heap.size) : Rk w' G R t := by
  obtain ⟨L, cap, T, V, h⟩ := h
  exact ⟨L, cap, T, V, h.keep hk hs⟩
theorem Rk.lt (h : Rk w G R t) : ∀ g ∈ G, g < w.heap.size := by
  obtain ⟨L, cap, T, V, h⟩ := h
  exact h.lt
theorem Rk.ok (h : Rk w G R t) : t.ok := by
  obtain ⟨L, cap, T, V, h⟩ := h
  exact h.ok
def Mix (w : World) (A : List Nat) (D R : Nat) (s t : DSt) : Prop := ∃ F G, Dk w F D s ∧ Rk w G R t ∧ (∀ g ∈ F, g ∉ G) ∧ (∀ g ∈ F, g ∈ A) ∧ (∀ g ∈ G, g ∈ A) ∧ ∀ g ∈ A, g < w.heap.size
theorem Mix.keep (h : Mix w A D R s t) (hk : ∀ g ∈ A, w'.heap[g]? = w.heap[g]?) (hs : w.heap.size ≤ w'.heap.size) : Mix w' A D R s t := by
  obtain ⟨F, G, h1, h2, h3, h4, h5, h6⟩ := h
  exact ⟨F, G, h1.keep (fun g hg => hk g (h4 g hg)) hs, h2.keep (fun g hg => hk g (h5 g hg)) hs, h3, h4, h5, fun g hg => Nat.lt_of_lt_of_le (h6 g hg) hs⟩
theorem Mix.lt (h : Mix w A D R s t) : ∀ g ∈ A, g < w.heap.size := by
  obtain ⟨F, G, h1, h2, h3, h4, h5, h6⟩ := h
  exact h6
theorem Mix.ok (h : Mix w A D R s t) : s.ok ∧ t.ok := by
  obtain ⟨F, G, h1, h2, h3, h4, h5, h6⟩ := h
  exact ⟨h1.ok, h2.ok⟩
theorem Mix.chg (h : Mix w A D R s t) (hc : Chg B w w') (hd : ∀ g ∈ A, g ∉ B) : Mix w' A D R s t := h.keep (fun g hg => hc.block g (h.lt g hg) (hd g hg)) hc.size
theorem Mix.later (h : Mix w A D R s t) (hb : Below w.heap.size w w') : Mix w' A D R s t := h.chg (B := []) (Chg.of hb) (fun _ _ => by simp)
theorem mix_d {s' : DSt} (h2 : Rk w G R t) (h3 : ∀ g ∈ F, g ∉ G) (h4 : ∀ g ∈ F, g ∈ A) (h5 : ∀ g ∈ G, g ∈ A) (h6 : ∀ g ∈ A, g < w.heap.size) (hm : Moved Dk F D s' w w') : ∃ A', Mix w' A' D R s' t ∧ Went A A' w w' := by
  obtain ⟨F', q1, q2⟩ := hm.disk
  have q3 := hm.chg
  refine ⟨A ++ F', ⟨F', G, q1, h2.keep (fun g hg => q3.block g (h2.lt g hg) (fun e => h3 g e hg)) q3.size, fun g hg hg2 => ?_, fun g hg => List.mem_append_right _ hg, fun g hg => List.mem_append_left _ (h5 g hg), fun g hg => ?_⟩, ⟨fun g hg => ?_, q3.mono h4⟩⟩
  · rcases q2 g hg with e | e
    · exact h3 g e hg2
    · have := h2.lt g hg2; omega
  · rcases List.mem_append.1 hg with e | e
    · exact Nat.lt_of_lt_of_le (h6 g e) q3.size
    · exact q1.lt g e
  · rcases List.mem_append.1 hg with e | e
    · exact Or.inl e
    · exact (q2 g e).elim (fun e => Or.inl (h4 g e)) Or.inr
theorem mix_r {t' : DSt} (h1 : Dk w F D s) (h3 : ∀ g ∈ F, g ∉ G) (h4 : ∀ g ∈ F, g ∈ A) (h5 : ∀ g ∈ G, g ∈ A) (h6 : ∀ g ∈ A, g < w.heap.size) (hm : RMoved w G R L cap t' w') : ∃ A', Mix w' A' D R s t' ∧ Went A A' w w' := by
  obtain ⟨G', T', V', q1, -, q2, q3⟩ := hm
  refine ⟨A ++ G', ⟨F, G', h1.keep (fun g hg => q3.block g (h1.lt g hg) (h3 g hg)) q3.size, ⟨_, _, _, _, q1⟩, fun g hg hg2 => ?_, fun g hg => List.mem_append_left _ (h4 g hg), fun g hg => List.mem_append_right _ hg, fun g hg => ?_⟩, ⟨fun g hg => ?_, q3.mono h5⟩⟩
  · rcases q2 g hg2 with e | e
    · exact h3 g hg e
    · have := h1.lt g hg; omega
  · rcases List.mem_append.1 hg with e | e
    · exact Nat.lt_of_lt_of_le (h6 g e) q3.size
    · exact q1.lt g e
  · rcases List.mem_append.1 hg with e | e
    · exact Or.inl e
    · exact (q2 g e).elim (fun e => Or.inl (h5 g e)) Or.inr
theorem Mix.dwrite (h : Mix w A D R s t) (hf : s.few) (i : Int) (ad : Option Addr) (len c : Nat) (l : List Nat) (hp : Part.ok w ⟨ad, len, c, l⟩) :
    Calls Try.prog 17 #[.pointer (some ⟨D, 0, none⟩), .int .i64 i, .slice ad len c] w fun x w' => x = .returned (.int .i64 (writeD s i l).1) ∧ ∃ A', Mix w' A' D R (writeD s i l).2 t ∧ Went A A' w w' := by
  obtain ⟨F, G, h1, h2, h3, h4, h5, h6⟩ := h
  refine (h1.write hf i ad len c l hp).mono ?_
  rintro x w' ⟨rfl, hm⟩
  exact ⟨rfl, mix_d h2 h3 h4 h5 h6 hm⟩
theorem Mix.rwrite (h : Mix w A D R s t) (hf : t.few) (i : Int) (ad : Option Addr) (len c : Nat) (l : List Nat) (hp : Part.ok w ⟨ad, len, c, l⟩) :
    Calls Try.prog 25 #[.pointer (some ⟨R, 0, none⟩), .int .i64 i, .slice ad len c] w fun x w' => x = .returned (.int .i64 (writeD t i l).1) ∧ ∃ A', Mix w' A' D R s (writeD t i l).2 ∧ Went A A' w w' := by
  obtain ⟨F, G, h1, ⟨L, cap, T, V, h2⟩, h3, h4, h5, h6⟩ := h
  refine (refwrite_any h2 hf i ad len c l hp).mono ?_
  rintro x w' ⟨rfl, hm⟩
  exact ⟨rfl, mix_r h1 h3 h4 h5 h6 hm⟩
theorem Mix.dsync (h : Mix w A D R s t) : Calls Try.prog 18 #[.pointer (some ⟨D, 0, none⟩)] w fun x w' => x = .returned (.int .i64 (syncD s).1) ∧ ∃ A', Mix w' A' D R (syncD s).2 t ∧ Went A A' w w' := by
  obtain ⟨F, G, h1, h2, h3, h4, h5, h6⟩ := h
  refine h1.sync.mono ?_
  rintro x w' ⟨rfl, hm⟩
  exact ⟨rfl, mix_d h2 h3 h4 h5 h6 hm⟩
theorem Mix.rsync (h : Mix w A D R s t) : Calls Try.prog 27 #[.pointer (some ⟨R, 0, none⟩)] w fun x w' => x = .returned (.int .i64 (syncD t).1) ∧ ∃ A', Mix w' A' D R s (syncD t).2 ∧ Went A A' w w' := by
  obtain ⟨F, G, h1, ⟨L, cap, T, V, h2⟩, h3, h4, h5, h6⟩ := h
  refine (refsync_any h2).mono ?_
  rintro x w' ⟨rfl, ⟨T', V', hr⟩, hc⟩
  exact ⟨rfl, mix_r h1 h3 h4 h5 h6 (hr.moved (hc.mono (fun g hg => by simp at hg; rcases hg with rfl | rfl; exact h2.mR; exact h2.mL)))⟩
theorem Mix.dcut (h : Mix w A D R s t) (n : Int) (hn : n ≤ 9223372036854775807) : Calls Try.prog 14 #[.pointer (some ⟨D, 0, none⟩), .int .i64 n] w fun x w' => x = .returned (.tuple #[]) ∧ ∃ A', Mix w' A' D R (cutD s n) t ∧ Went A A' w w' := by
  obtain ⟨F, G, ⟨B, M, Dm, V, C, h1⟩, h2, h3, h4, h5, h6⟩ := h
  refine (cut_pic h1 n hn).mono ?_
  rintro x w' ⟨rfl, hp, hc⟩
  exact ⟨rfl, mix_d h2 h3 h4 h5 h6 (hp.moved (hc.mono (fun k hk => by simp at hk; rw [hk]; exact h1.mD)))⟩
theorem Mix.rcut (h : Mix w A D R s t) (n : Int) (hn : n ≤ 9223372036854775807) : Calls Try.prog 28 #[.pointer (some ⟨R, 0, none⟩), .int .i64 n] w fun x w' => x = .returned (.tuple #[]) ∧ ∃ A', Mix w' A' D R s (cutD t n) ∧ Went A A' w w' := by
  obtain ⟨F, G, h1, ⟨L, cap, T, V, h2⟩, h3, h4, h5, h6⟩ := h
  refine (refcut_any h2 n hn).mono ?_
  rintro x w' ⟨rfl, hr, hc⟩
  exact ⟨rfl, mix_r h1 h3 h4 h5 h6 (hr.moved (hc.mono (fun g hg => by simp at hg; rw [hg]; exact h2.mR)))⟩
theorem Mix.dcrash (h : Mix w A D R s t) (ad : Option Addr) (len c : Nat) (cs : List Int) (ha : IArg w cs ad len) (hn : ∀ b off, ad = some ⟨b, off, none⟩ → len ≠ 0 → b ∉ A) :
    Calls Try.prog 15 #[.pointer (some ⟨D, 0, none⟩), .slice ad len c] w fun x w' => x = .returned (.tuple #[]) ∧ ∃ A', Mix w' A' D R (crashD s cs) t ∧ Went A A' w w' := by
  obtain ⟨F, G, h1, h2, h3, h4, h5, h6⟩ := h
  refine (h1.crash2 ad len c cs ha (fun b off e e2 hm => hn b off e e2 (h4 b hm))).mono ?_
  rintro x w' ⟨rfl, hm⟩
  exact ⟨rfl, mix_d h2 h3 h4 h5 h6 hm⟩
theorem Mix.rcrash (h : Mix w A D R s t) (ad : Option Addr) (len c : Nat) (cs : List Int) (ha : IArg w cs ad len) (hl : len ≤ 1073741824) (hn : ∀ b off, ad = some ⟨b, off, none⟩ → len ≠ 0 → b ∉ A) :
    Calls Try.prog 29 #[.pointer (some ⟨R, 0, none⟩), .slice ad len c] w fun x w' => x = .returned (.tuple #[]) ∧ ∃ A', Mix w' A' D R s (crashD t cs) ∧ Went A A' w w' := by
  obtain ⟨F, G, h1, ⟨L, cap, T, V, h2⟩, h3, h4, h5, h6⟩ := h
  refine (refcrash_any h2 cs ad len c ha (fun b off e e2 hm => hn b off e e2 (by simp at hm; rw [hm]; exact h5 _ h2.mL)) hl).mono ?_
  rintro x w' ⟨rfl, ⟨T', V', hr⟩, hc⟩
  exact ⟨rfl, mix_r h1 h3 h4 h5 h6 (hr.moved (hc.mono (fun g hg => by simp at hg; rcases hg with rfl | rfl; exact h2.mR; exact h2.mL)))⟩
theorem Mix.dread (h : Mix w A D R s t) (i : Int) : Calls Try.prog 16 #[.pointer (some ⟨D, 0, none⟩), .int .i64 i] w fun x w' => ∃ v, x = .returned (.tuple #[v, .int .i64 (readD s i).2]) ∧ Own w' w.heap.size v (readD s i).1 ∧ Below w.heap.size w w' := by
  obtain ⟨F, G, ⟨B, M, Dm, V, C, h1⟩, -⟩ := h
  exact read_pic h1 i
theorem Mix.rread (h : Mix w A D R s t) (i : Int) : Calls Try.prog 30 #[.pointer (some ⟨R, 0, none⟩), .int .i64 i] w fun x w' => ∃ v, x = .returned (.tuple #[v, .int .i64 (readD t i).2]) ∧ Own w' w.heap.size v (readD t i).1 ∧ Below w.heap.size w w' := by
  obtain ⟨F, G, h1, ⟨L, cap, T, V, h2⟩, -⟩ := h
  exact refread_any h2 i
theorem Mix.isDown (h : Mix w A D R s t) : Calls Try.prog 19 #[.pointer (some ⟨D, 0, none⟩)] w fun x w' => x = .returned (.bool s.off) ∧ w' = w := by
  obtain ⟨F, G, h1, -⟩ := h
  exact h1.isDown
theorem Mix.ddirty (h : Mix w A D R s t) : Calls Try.prog 20 #[.pointer (some ⟨D, 0, none⟩)] w fun x w' => x = .returned (.int .i64 (dirtyD s : Nat)) ∧ w' = w := by
  obtain ⟨F, G, h1, -⟩ := h
  exact h1.dirty
theorem Mix.blocks (h : Mix w A D R s t) : Calls Try.prog 21 #[.pointer (some ⟨D, 0, none⟩)] w fun x w' => x = .returned (.int .i64 (s.bs.length : Nat)) ∧ w' = w := by
  obtain ⟨F, G, ⟨B, M, Dm, V, C, h1⟩, -⟩ := h
  exact blocks_pic h1
theorem Mix.rdirty (h : Mix w A D R s t) : Calls Try.prog 31 #[.pointer (some ⟨R, 0, none⟩)] w fun x w' => x = .returned (.int .i64 (dirtyD t : Nat)) ∧ w' = w := by
  obtain ⟨F, G, h1, ⟨L, cap, T, V, h2⟩, -⟩ := h
  exact refdirty_any h2
theorem Mix.cells (h : Mix w A D R s t) : ∃ L cap, w.cell? ⟨R, 0, none⟩ = some (.slice (some ⟨L, 0, none⟩) t.bs.length cap) ∧ w.cell? ⟨R, 1, none⟩ = some (.bool t.off) ∧ R < w.heap.size ∧ t.bs.length ≤ 4096 := by
  obtain ⟨F, G, h1, ⟨L, cap, T, V, h2⟩, -⟩ := h
  exact ⟨L, cap, h2.cells.1, h2.cells.2.1, h2.lt R h2.mR, h2.n2⟩
end Go.Proofs.Ytdcgokkbmplihaa

/- What the statements' Op.text answers. -/
namespace Go.Proofs.Ytdcgokkbmplihaa
open Go.RowKit

/-- What an Op writes. -/
def OpD.said (o : OpD) : List Nat := if o.bs = [] then fullN o.fill else o.bs
theorem OpD.ok.later {W W' : World} {o : OpD} (h : o.ok W) (hb : Below W.heap.size W W') : o.ok W' := ⟨h.i1, h.i2, h.n1, h.n2, h.fill, ⟨h.text.1, h.text.2.1, h.text.2.2.later hb⟩, h.text2, h.nums.later hb, h.lnone⟩
set_option maxRecDepth 100000 in
set_option maxHeartbeats 1000000 in
theorem text_any (o : OpD) (w w0 : World) (hb : Below w0.heap.size w0 w) (ho : o.ok w0) : Calls Try.prog 24 #[.agg (opV o).toArray] w fun e w' => ∃ ad cap, e = .returned (.slice ad o.said.length cap) ∧ Part.ok w' ⟨ad, o.said.length, cap, o.said⟩ ∧ (∀ b off, ad = some ⟨b, off, none⟩ → o.said ≠ [] → b < w0.heap.size ∨ w.heap.size ≤ b) ∧ Below w.heap.size w w' := by
  have ho2 := ho.later hb
  have hf := ho.fill
  have hlen : o.bs.length = o.blen := ho.text.1
  have HO : Hid (o.ok w0 ∧ o.ok w) := (show Hid _ from ⟨ho, ho2⟩)
  have hl2 := ho.text2
  clear ho ho2
  by_cases h0 : o.blen = 0
  · have hbs : o.bs = [] := List.eq_nil_of_length_eq_zero (by omega)
    have hs : o.said = fullN o.fill := by unfold OpD.said; rw [if_pos hbs]
    rw [hs, fullN_len]
    unfold opV
    rw [h0]
    go_enter Try.func24, Try.ntmps24
    go_wp2_with (go_at_call 22; refine (full_any o.fill hf _).mono ?_; rintro e w1 ⟨g, rfl, o1, b1⟩)
    go_ret
    have b2 : Below w.heap.size w w1 := ((Below.refl _ w).alloc (Nat.le_refl _) _).trans (b1.mono (by simp))
    refine ⟨_, _, rfl, own256 o1, fun b off e _ => ?_, b2⟩
    cases e
    obtain ⟨c, q, q2⟩ := ownBlock_cells (g := g) o1.2 rfl
    simp at q2
    exact Or.inr (by omega)
  · have hbs : o.bs ≠ [] := fun e => by rw [e] at hlen; exact h0 hlen.symm
    have hs : o.said = o.bs := by unfold OpD.said; rw [if_neg hbs]
    rw [hs, hlen]
    have hne : ((o.blen : Int) == 0) = false := by simp; omega
    unfold opV
    go_enter Try.func24, Try.ntmps24
    go_wp2
    go_ret
    have b2 : ∀ x, Below w.heap.size w (w.alloc x) := fun x => (Below.refl _ w).alloc (Nat.le_refl _) x
    have hp := HO.out.2.text
    refine ⟨_, _, rfl, ⟨hp.1, hp.2.1, hp.2.2.later (b2 _)⟩, fun b off e _ => ?_, b2 _⟩
    obtain ⟨b', off', e', hs', -⟩ := HO.out.1.text.2.2.2.resolve_left hbs
    simp only at e'
    rw [e'] at e
    cases e
    exact Or.inl hs'
end Go.Proofs.Ytdcgokkbmplihaa

/- What step of package law03 answers: both disks do the same: Sync, Cut. -/
namespace Go.Proofs.Ytdcgokkbmplihaa
open Go.RowKit
variable {w w' w'' w0 : World} {A A' A'' : List Nat} {D R k : Nat} {s t : DSt} {o : OpD}

/-- What step leaves. -/
def StepPost (A : List Nat) (D R k : Nat) (w : World) (e : Ending) (w' : World) : Prop := e = .returned (.bool true) ∧ ∃ A' s', s'.upTo (k + 1) ∧ Mix w' A' D R s' s' ∧ Went A A' w w'
theorem mix_drew (h : Mix w A D R s t) : Mix w.drew A D R s t := h.later ((Below.refl _ w).drew)
theorem went_drew (h : Went A A' w w') : Went A A' w w'.drew := ⟨h.new, h.chg.drew⟩
theorem went_box (w : World) (x : Obj) : Went A A w (w.alloc x) := Went.below ((Below.refl _ w).alloc (Nat.le_refl _) x)
theorem mix_box (h : Mix w A D R s t) (x : Obj) : Mix (w.alloc x) A D R s t := h.later ((Below.refl _ w).alloc (Nat.le_refl _) x)
theorem Went.keeps (h : Went A A' w w') (hA : ∀ g ∈ A, w0.heap.size ≤ g) (hb : Below w0.heap.size w0 w) : Below w0.heap.size w0 w' ∧ ∀ g ∈ A', w0.heap.size ≤ g :=
  ⟨hb.trans (h.chg.below hA hb.size), fun g hg => (h.new g hg).elim (hA g) (fun q => Nat.le_trans hb.size q)⟩
/-- The box of an Op stays. -/
theorem Went.box {x : Obj} (h : Went A A' (w.alloc x) w') (hA : ∀ g ∈ A, g < w.heap.size) : w'.heap[w.heap.size]? = some x :=
  (h.chg.block _ (by simp) (fun e => absurd (hA _ e) (by omega))).trans (heap_alloc_last w x)
theorem box_cell {x : Array Value} {ty : TypeId} {b : Nat} (h : w.heap[b]? = some (.cells x ty (0, 0))) (i : Nat) : w.cell? ⟨b, i, none⟩ = x[i]? := cell_of_row _ _ _ _ _ _ h
set_option maxRecDepth 100000 in
set_option maxHeartbeats 8000000 in
theorem step_sync (h : Mix w A D R s s) (hu : s.upTo k) (hk : o.kind = 1) : Calls Try.prog 13 #[.pointer (some ⟨D, 0, none⟩), .pointer (some ⟨R, 0, none⟩), .agg (opV o).toArray] w (StepPost A D R k w) := by
  have M0 : Hid (Mix w A D R s s) := h
  have U2 : Hid ((syncD s).2.upTo (k + 1)) := (show Hid _ from (syncD_upTo hu).mono (by omega))
  clear h hu
  unfold opV
  rw [hk]
  go_enter Try.func13, Try.ntmps13
  go_wp2_with fail
  generalize hOB : (Obj.cells _ _ : Obj) = OB
  clear hOB
  refine (mix_box M0.out OB).dsync.mono ?_
  rintro e w1 ⟨rfl, A1, m1, g1⟩
  have M1 : Hid (Mix w1 A1 D R (syncD s).2 s) := m1
  have W1 : Hid (Went A A1 w w1) := (went_box w OB).trans g1
  clear m1 g1 M0
  go_wp2_with (go_at_call 11; refine (num3_any _ _).mono ?_; rintro e w' ⟨rfl, hw'⟩; obtain rfl := hw'.symm)
  refine M1.out.rsync.mono ?_
  rintro e w2 ⟨rfl, A2, m2, g2⟩
  have M2 : Hid (Mix w2 A2 D R (syncD s).2 (syncD s).2) := m2
  have W2 : Hid (Went A A2 w w2) := W1.out.trans g2
  clear m2 g2 M1 W1
  generalize (syncD s).2 = s2 at *
  generalize (syncD s).1 = e2 at *
  obtain ⟨L, cap, r0, r1, hRl, hbl⟩ := M2.out.cells
  have HS : Hid (w2.drew.cell? ⟨R, 0, none⟩ = some (.slice (some ⟨L, 0, none⟩) s2.bs.length cap) ∧ w2.drew.cell? ⟨R, 1, none⟩ = some (.bool s2.off)) := (show Hid _ from ⟨r0, r1⟩)
  have MD : Hid (Mix w2.drew A2 D R s2 s2) := mix_drew M2.out
  have WD : Hid (Went A A2 w w2.drew) := went_drew W2.out
  have K1 : Hid (Calls Try.prog 19 #[.pointer (some ⟨D, 0, none⟩)] w2.drew fun x w' => x = .returned (.bool s2.off) ∧ w' = w2.drew) := MD.out.isDown
  have K2 : Hid (Calls Try.prog 20 #[.pointer (some ⟨D, 0, none⟩)] w2.drew fun x w' => x = .returned (.int .i64 (dirtyD s2 : Nat)) ∧ w' = w2.drew) := MD.out.ddirty
  have K3 : Hid (Calls Try.prog 31 #[.pointer (some ⟨R, 0, none⟩)] w2.drew fun x w' => x = .returned (.int .i64 (dirtyD s2 : Nat)) ∧ w' = w2.drew) := MD.out.rdirty
  have K4 : Hid (Calls Try.prog 21 #[.pointer (some ⟨D, 0, none⟩)] w2.drew fun x w' => x = .returned (.int .i64 (s2.bs.length : Nat)) ∧ w' = w2.drew) := MD.out.blocks
  have FIN : Hid (∃ A' s', s'.upTo (k + 1) ∧ Mix w2.drew A' D R s' s' ∧ Went A A' w w2.drew) := (show Hid _ from ⟨A2, s2, U2.out, MD.out, WD.out⟩)
  clear r0 r1 MD WD M2 W2 U2 hRl hbl
  generalize s2.bs.length = bl at *
  generalize dirtyD s2 = dn at *
  generalize s2.off = off at *
  go_wp2_with fail
  go_region_held3 (fun W => W.cell? ⟨R, 0, none⟩ = some (.slice (some ⟨L, 0, none⟩) bl cap) ∧ W.cell? ⟨R, 1, none⟩ = some (.bool off)) (exact HS.out)
    (first
      | (go_at_call 19; refine K1.out.mono ?_; rintro e w' ⟨rfl, hw'⟩; obtain rfl := hw'.symm)
      | (go_at_call 20; refine K2.out.mono ?_; rintro e w' ⟨rfl, hw'⟩; obtain rfl := hw'.symm)
      | (go_at_call 31; refine K3.out.mono ?_; rintro e w' ⟨rfl, hw'⟩; obtain rfl := hw'.symm)
      | (go_at_call 21; refine K4.out.mono ?_; rintro e w' ⟨rfl, hw'⟩; obtain rfl := hw'.symm))
  go_wp2
  go_ret
  exact ⟨rfl, FIN.out⟩
set_option maxRecDepth 100000 in
set_option maxHeartbeats 8000000 in
theorem step_cut (h : Mix w A D R s s) (hu : s.upTo k) (hk : o.kind = 2) (hn : o.n ≤ 9223372036854775807) : Calls Try.prog 13 #[.pointer (some ⟨D, 0, none⟩), .pointer (some ⟨R, 0, none⟩), .agg (opV o).toArray] w (StepPost A D R k w) := by
  have M0 : Hid (Mix w A D R s s) := h
  have U2 : Hid ((cutD s o.n).upTo (k + 1)) := (show Hid _ from (cutD_upTo hu o.n).mono (by omega))
  have hA := h.lt
  have HA : Hid (∀ g ∈ A, g < w.heap.size) := hA
  clear h hu hA
  unfold opV
  rw [hk]
  go_enter Try.func13, Try.ntmps13
  go_wp2_with fail
  refine ((mix_box M0.out _).dcut o.n hn).mono ?_
  rintro e w1 ⟨rfl, A1, m1, g1⟩
  have M1 : Hid (Mix w1 A1 D R (cutD s o.n) s) := m1
  have W1 : Hid (Went A A1 w w1) := (went_box w _).trans g1
  have cb := g1.box HA.out
  have c2 := (box_cell cb 2).trans (show _ = some (Value.int .i64 o.n) from rfl)
  clear m1 g1 M0 cb
  go_wp2_with fail
  refine (M1.out.rcut o.n hn).mono ?_
  rintro e w2 ⟨rfl, A2, m2, g2⟩
  have M2 : Hid (Mix w2 A2 D R (cutD s o.n) (cutD s o.n)) := m2
  have W2 : Hid (Went A A2 w w2) := W1.out.trans g2
  clear m2 g2 M1 W1 c2
  generalize (cutD s o.n) = s2 at *
  obtain ⟨L, cap, r0, r1, hRl, hbl⟩ := M2.out.cells
  have HS : Hid (w2.drew.cell? ⟨R, 0, none⟩ = some (.slice (some ⟨L, 0, none⟩) s2.bs.length cap) ∧ w2.drew.cell? ⟨R, 1, none⟩ = some (.bool s2.off)) := (show Hid _ from ⟨r0, r1⟩)
  have MD : Hid (Mix w2.drew A2 D R s2 s2) := mix_drew M2.out
  have WD : Hid (Went A A2 w w2.drew) := went_drew W2.out
  have K1 : Hid (Calls Try.prog 19 #[.pointer (some ⟨D, 0, none⟩)] w2.drew fun x w' => x = .returned (.bool s2.off) ∧ w' = w2.drew) := MD.out.isDown
  have K2 : Hid (Calls Try.prog 20 #[.pointer (some ⟨D, 0, none⟩)] w2.drew fun x w' => x = .returned (.int .i64 (dirtyD s2 : Nat)) ∧ w' = w2.drew) := MD.out.ddirty
  have K3 : Hid (Calls Try.prog 31 #[.pointer (some ⟨R, 0, none⟩)] w2.drew fun x w' => x = .returned (.int .i64 (dirtyD s2 : Nat)) ∧ w' = w2.drew) := MD.out.rdirty
  have K4 : Hid (Calls Try.prog 21 #[.pointer (some ⟨D, 0, none⟩)] w2.drew fun x w' => x = .returned (.int .i64 (s2.bs.length : Nat)) ∧ w' = w2.drew) := MD.out.blocks
  have FIN : Hid (∃ A' s', s'.upTo (k + 1) ∧ Mix w2.drew A' D R s' s' ∧ Went A A' w w2.drew) := (show Hid _ from ⟨A2, s2, U2.out, MD.out, WD.out⟩)
  clear r0 r1 MD WD M2 W2 U2 hRl hbl
  generalize s2.bs.length = bl at *
  generalize dirtyD s2 = dn at *
  generalize s2.off = off at *
  go_wp2_with fail
  go_region_held3 (fun W => W.cell? ⟨R, 0, none⟩ = some (.slice (some ⟨L, 0, none⟩) bl cap) ∧ W.cell? ⟨R, 1, none⟩ = some (.bool off)) (exact HS.out)
    (first
      | (go_at_call 19; refine K1.out.mono ?_; rintro e w' ⟨rfl, hw'⟩; obtain rfl := hw'.symm)
      | (go_at_call 20; refine K2.out.mono ?_; rintro e w' ⟨rfl, hw'⟩; obtain rfl := hw'.symm)
      | (go_at_call 31; refine K3.out.mono ?_; rintro e w' ⟨rfl, hw'⟩; obtain rfl := hw'.symm)
      | (go_at_call 21; refine K4.out.mono ?_; rintro e w' ⟨rfl, hw'⟩; obtain rfl := hw'.symm))
  go_wp2
  go_ret
  exact ⟨rfl, FIN.out⟩
end Go.Proofs.Ytdcgokkbmplihaa

/- What step of package law03 answers: Crash. -/
namespace Go.Proofs.Ytdcgokkbmplihaa
open Go.RowKit
variable {w w' w'' w0 : World} {A A' A'' : List Nat} {D R k : Nat} {s t : DSt} {o : OpD}

theorem app_nums' {w w0 : World} {ops : Array Oper} {rest : List Oper} {o : Oper} {a : Act} {Q : Exit → Act → World → Prop} (hgd : o.guard = none) (x y : Operand) (ho : o.op = .call { callee := .builtin .append, args := #[x, y], argTypes := #[33, 33] })
    (g0 : Nat) (hw : w = w0.alloc (.cells #[] 3)) (hx : a.eval x = .slice (some ⟨g0, 0, none⟩) 0 0) (hg0 : g0 = w0.heap.size) (ad : Option Addr) (len cap : Nat) (cs : List Int) (hy : a.eval y = .slice ad len cap) (ha : IArg w0 cs ad len) (hnone : ad = none → len = 0 ∧ cap = 0) (hlen : len ≤ 1073741824)
    (hK : ∀ p c w', IArg w' cs p len → (∀ b off, p = some ⟨b, off, none⟩ → w0.heap.size ≤ b) → Below w0.heap.size w0 w' → wpList Try.prog ops Q rest (a.put o.dst (.slice p len c)) w') : wpList Try.prog ops Q (o :: rest) a w := by
  subst hg0
  exact app_nums hgd x y ho hw hx ad len cap cs hy ha hnone hlen hK
set_option maxRecDepth 100000 in
set_option maxHeartbeats 8000000 in
theorem step_crash (h : Mix w A D R s s) (hk : o.kind = 3) (hb : Below w0.heap.size w0 w) (hA : ∀ g ∈ A, w0.heap.size ≤ g) (ho : o.ok w0) (hl : o.llen ≤ 1073741824) : Calls Try.prog 13 #[.pointer (some ⟨D, 0, none⟩), .pointer (some ⟨R, 0, none⟩), .agg (opV o).toArray] w (StepPost A D R k w) := by
  have M0 : Hid (Mix w A D R s s) := h
  have U2 : Hid ((crashD s o.cs).upTo (k + 1)) := (show Hid _ from (crashD_upTo o.cs).mono (by omega))
  have HA : Hid (∀ g ∈ A, g < w.heap.size) := h.lt
  have HAN : Hid (∀ g ∈ A, w0.heap.size ≤ g) := hA
  have HB : Hid (Below w0.heap.size w0 w) := hb
  have HO : Hid (o.ok w0) := ho
  clear h hA hb ho
  unfold opV
  rw [hk]
  obtain ⟨OB, hOB⟩ : ∃ OB : Obj, OB = .cells #[.int .i64 3, .int .i64 o.i, .int .i64 o.n, .slice o.b o.blen o.bcap, .int .u8 (o.fill : Nat), .slice o.l o.llen o.lcap] 35 := ⟨_, rfl⟩
  have BB : Hid (Below w.heap.size w (w.alloc OB)) := (show Hid _ from (Below.refl _ w).alloc (Nat.le_refl _) _)
  have HI : Hid (IArg (w.alloc OB) o.cs o.l o.llen) := HO.out.nums.later (HB.out.trans (BB.out.mono HB.out.size))
  have HOB : Hid (OB = .cells #[.int .i64 3, .int .i64 o.i, .int .i64 o.n, .slice o.b o.blen o.bcap, .int .u8 (o.fill : Nat), .slice o.l o.llen o.lcap] 35) := hOB
  go_enter Try.func13, Try.ntmps13
  rw [hOB] at *
  go_wp2_with (at_builtin; refine app_nums' rfl _ _ rfl (w0 := w.alloc (.cells #[.int .i64 3, .int .i64 o.i, .int .i64 o.n, .slice o.b o.blen o.bcap, .int .u8 (o.fill : Nat), .slice o.l o.llen o.lcap] 35)) (w.heap.size + 1) rfl rfl (by simp) o.l o.llen o.lcap o.cs rfl HI.out HO.out.lnone hl ?_; intro p1 c1 w1 i1 n1 b1)
  have M1 : Hid (Mix w1 A D R s s) := M0.out.later (BB.out.trans (b1.mono BB.out.size))
  have W1 : Hid (Went A A w w1) := Went.below (BB.out.trans (b1.mono BB.out.size))
  have C1 := (b1.block w.heap.size (by simp)).trans (heap_alloc_last w _)
  have HC1 : Hid (w1.heap[w.heap.size]? = some _) := C1
  refine (M1.out.dcrash p1 o.llen c1 o.cs i1 (fun b off e _ hm => ?_)).mono ?_
  · have h1 := n1 b off e
    have h2 := HA.out b hm
    simp at h1
    omega
  rintro e w2 ⟨rfl, A2, m2, g2⟩
  have M2 : Hid (Mix w2 A2 D R (crashD s o.cs) s) := m2
  have W2 : Hid (Went A A2 w w2) := W1.out.trans g2
  have cb := (g2.chg.block _ (Nat.lt_of_lt_of_le (by simp) b1.size) (fun e => absurd (HA.out _ e) (by omega))).trans HC1.out
  have c5 := (box_cell cb 5).trans (show _ = some (Value.slice o.l o.llen o.lcap) from rfl)
  have HK : Hid (Below w0.heap.size w0 w2 ∧ ∀ g ∈ A2, w0.heap.size ≤ g) := W2.out.keeps HAN.out HB.out
  clear m2 g2 M1 W1 cb C1 HC1 i1 n1 b1 M0
  go_wp2_with fail
  refine (M2.out.rcrash o.l o.llen o.lcap o.cs (HO.out.nums.later HK.out.1) hl (fun b off e e2 hm => ?_)).mono ?_
  · obtain ⟨b', off', e', hs, -⟩ := HO.out.nums.row.resolve_left e2
    rw [e] at e'
    cases e'
    exact absurd (HK.out.2 b hm) (by omega)
  rintro e w3 ⟨rfl, A3, m3, g3⟩
  have M3 : Hid (Mix w3 A3 D R (crashD s o.cs) (crashD s o.cs)) := m3
  have W3 : Hid (Went A A3 w w3) := W2.out.trans g3
  clear m3 g3 M2 W2 c5 HK
  generalize (crashD s o.cs) = s3 at *
  obtain ⟨L, cap, r0, r1, hRl, hbl⟩ := M3.out.cells
  have HS : Hid (w3.drew.cell? ⟨R, 0, none⟩ = some (.slice (some ⟨L, 0, none⟩) s3.bs.length cap) ∧ w3.drew.cell? ⟨R, 1, none⟩ = some (.bool s3.off)) := (show Hid _ from ⟨r0, r1⟩)
  have MD : Hid (Mix w3.drew A3 D R s3 s3) := mix_drew M3.out
  have WD : Hid (Went A A3 w w3.drew) := went_drew W3.out
  have K1 : Hid (Calls Try.prog 19 #[.pointer (some ⟨D, 0, none⟩)] w3.drew fun x w' => x = .returned (.bool s3.off) ∧ w' = w3.drew) := MD.out.isDown
  have K2 : Hid (Calls Try.prog 20 #[.pointer (some ⟨D, 0, none⟩)] w3.drew fun x w' => x = .returned (.int .i64 (dirtyD s3 : Nat)) ∧ w' = w3.drew) := MD.out.ddirty
  have K3 : Hid (Calls Try.prog 31 #[.pointer (some ⟨R, 0, none⟩)] w3.drew fun x w' => x = .returned (.int .i64 (dirtyD s3 : Nat)) ∧ w' = w3.drew) := MD.out.rdirty
  have K4 : Hid (Calls Try.prog 21 #[.pointer (some ⟨D, 0, none⟩)] w3.drew fun x w' => x = .returned (.int .i64 (s3.bs.length : Nat)) ∧ w' = w3.drew) := MD.out.blocks
  have FIN : Hid (∃ A' s', s'.upTo (k + 1) ∧ Mix w3.drew A' D R s' s' ∧ Went A A' w w3.drew) := (show Hid _ from ⟨A3, s3, U2.out, MD.out, WD.out⟩)
  clear r0 r1 MD WD M3 W3 U2 hRl hbl
  generalize s3.bs.length = bl at *
  generalize dirtyD s3 = dn at *
  generalize s3.off = off at *
  go_wp2_with fail
  go_region_held3 (fun W => W.cell? ⟨R, 0, none⟩ = some (.slice (some ⟨L, 0, none⟩) bl cap) ∧ W.cell? ⟨R, 1, none⟩ = some (.bool off)) (exact HS.out)
    (first
      | (go_at_call 19; refine K1.out.mono ?_; rintro e w' ⟨rfl, hw'⟩; obtain rfl := hw'.symm)
      | (go_at_call 20; refine K2.out.mono ?_; rintro e w' ⟨rfl, hw'⟩; obtain rfl := hw'.symm)
      | (go_at_call 31; refine K3.out.mono ?_; rintro e w' ⟨rfl, hw'⟩; obtain rfl := hw'.symm)
      | (go_at_call 21; refine K4.out.mono ?_; rintro e w' ⟨rfl, hw'⟩; obtain rfl := hw'.symm))
  go_wp2
  go_ret
  exact ⟨rfl, FIN.out⟩
end Go.Proofs.Ytdcgokkbmplihaa

/- What step of package law03 answers: Read. -/
namespace Go.Proofs.Ytdcgokkbmplihaa
open Go.RowKit
variable {w w' w'' w0 : World} {A A' A'' : List Nat} {D R k : Nat} {s t : DSt} {o : OpD}

/-- Bytes that are changed by whoever holds them. -/
def Dirt (w w' : World) (g n : Nat) : Prop := Chg [g] w w' ∧ (n ≠ 0 → ∃ cur : Array Value, w'.heap[g]? = some (.cells cur 5 (0, 0)) ∧ ∀ i, i < n → ∃ z, cur[i]? = some (.int .u8 z))
theorem dirt_cell {g n m : Nat} (h : Dirt w w' g n) (hm : m < n) : (∃ z, w'.cell? ⟨g, m, none⟩ = some (.int .u8 z)) ∧ w'.frozen? ⟨g, m, none⟩ = false := by
  obtain ⟨cur, q, hc⟩ := h.2 (by omega)
  obtain ⟨z, hz⟩ := hc m hm
  exact ⟨⟨z, by rw [cell_of_row _ _ _ _ _ _ q]; exact hz⟩, by simp [World.frozen?, q]⟩
theorem dirt_step {g n m : Nat} (h : Dirt w w' g n) (z : Int) : Dirt w (w'.setCell ⟨g, m, none⟩ (.int .u8 z)) g n := by
  refine ⟨h.1.set (Or.inl (by simp)) _ _, fun hn => ?_⟩
  obtain ⟨cur, q, hc⟩ := h.2 hn
  refine ⟨_, heap_setCell_same w' g m _ _ _ q, fun i hi => ?_⟩
  obtain ⟨y, hy⟩ := hc i hi
  by_cases e : m = i
  · subst e
    exact ⟨z, by rw [Array.getElem?_setIfInBounds, if_pos rfl, if_pos (Array.getElem?_eq_some_iff.1 hy).1]⟩
  · exact ⟨y, by rw [Array.getElem?_setIfInBounds, if_neg e]; exact hy⟩
theorem dirt_start {N n c : Nat} {p : Option Addr} {l : List Nat} (h : Own w N (.slice p n c) l) (hl : l.length = n) : ∃ g, (n ≠ 0 → p = some ⟨g, 0, none⟩) ∧ N ≤ g ∧ Dirt w w g n := by
  have h2 := h.2
  rw [hl] at h2
  rcases h2.2 with ⟨e, e0⟩ | ⟨g, cap, cur, e, q1, q2, q3, q4, q5, q6⟩
  · exact ⟨N, fun hn => absurd e0 hn, Nat.le_refl _, Chg.refl _ _, fun hn => absurd e0 hn⟩
  · injection e with e1 e2 e3
    subst e1
    refine ⟨g, fun _ => rfl, q1, Chg.refl _ _, fun _ => ⟨cur, q2, fun i hi => ?_⟩⟩
    have e : (cur.toList.take (n * 1))[i]? = (l.map bv)[i]? := by rw [q6]
    have e2 : (l.map bv)[i]? = some (bv (l[i]'(by omega))) := by rw [List.getElem?_map, List.getElem?_eq_getElem (by omega)]; rfl
    rw [List.getElem?_take, if_pos (by omega), e2, Array.getElem?_toList] at e
    exact ⟨_, e⟩
theorem dirt_mix {g n : Nat} (h : Mix w A D R s t) (hd : Dirt w w' g n) (hn : g ∉ A) : Mix w' A D R s t := h.chg hd.1 (fun x hx hm => hn (by simp at hm; rw [← hm]; exact hx))
theorem dirt_went {g n : Nat} (h : Went A A' w w') (hd : Dirt w' w'' g n) (hn : w.heap.size ≤ g) : Went A A' w w'' := ⟨h.new, h.chg.trans hd.1 (fun x hx => Or.inr (by simp at hx; omega))⟩
theorem read_256 {s : DSt} (h : s.ok) (i : Int) : (readD s i).1.length ≤ 256 := by
  unfold readD
  split
  · rename_i hh
    split
    · simp
    · split
      · rename_i t ht
        exact Nat.le_of_eq (now_ok h (at_mem (has_lt hh).2) ht).1
      · simp
  · simp
set_option maxRecDepth 100000 in
set_option maxHeartbeats 8000000 in
theorem step_read (h : Mix w A D R s s) (hu : s.upTo k) (hk : (o.kind == 0) = false ∧ (o.kind == 1) = false ∧ (o.kind == 2) = false ∧ (o.kind == 3) = false) : Calls Try.prog 13 #[.pointer (some ⟨D, 0, none⟩), .pointer (some ⟨R, 0, none⟩), .agg (opV o).toArray] w (StepPost A D R k w) := by
  have M0 : Hid (Mix w A D R s s) := h
  have U2 : Hid (s.upTo (k + 1)) := (show Hid _ from hu.mono (by omega))
  have HA : Hid (∀ g ∈ A, g < w.heap.size) := h.lt
  have hln : ((readD s o.i).1).length ≤ 256 := read_256 h.ok.1 o.i
  obtain ⟨hk0, hk1, hk2, hk3⟩ := hk
  clear h hu
  unfold opV
  generalize o.kind = kd at *
  go_enter Try.func13, Try.ntmps13
  go_wp2_with fail
  refine ((mix_box M0.out _).dread o.i).mono ?_
  rintro e w1 ⟨v, rfl, o1, b1⟩
  have C1 := (b1.block w.heap.size (by simp)).trans (heap_alloc_last w _)
  have c1 := (box_cell C1 1).trans (show _ = some (Value.int .i64 o.i) from rfl)
  have B1 : Hid (Below w.heap.size w w1) := (show Hid _ from (((Below.refl w.heap.size w).alloc (Nat.le_refl _) _).trans (b1.mono (by simp))))
  have M1 : Hid (Mix w1 A D R s s) := M0.out.later B1.out
  obtain ⟨p1, q1, hv1, P1, -, -⟩ := o1.slice _ rfl
  subst hv1
  have O1 : Hid (Own w1 w.heap.size (.slice p1 (readD s o.i).1.length q1) (readD s o.i).1) := o1.down (by simp)
  have RR : Hid (∀ W, Mix W A D R s s → Calls Try.prog 30 #[.pointer (some ⟨R, 0, none⟩), .int .i64 o.i] W fun x w' => ∃ v, x = .returned (.tuple #[v, .int .i64 (readD s o.i).2]) ∧ Own w' W.heap.size v (readD s o.i).1 ∧ Below W.heap.size W w') := (show Hid _ from fun W hW => hW.rread o.i)
  clear C1 b1 o1 P1 M0
  generalize (readD s o.i).1 = l at *
  generalize (readD s o.i).2 = er at *
  obtain ⟨n, hn⟩ : ∃ n, l.length = n := ⟨_, rfl⟩
  rw [hn] at hln O1 ⊢
  have HN : Hid (l.length = n) := hn
  clear hn
  go_wp2_with fail
  refine (RR.out w1 M1.out).mono ?_
  rintro e w2 ⟨v2, rfl, o2, b2⟩
  obtain ⟨p2, q2, hv2, P2, -, -⟩ := o2.slice n HN.out
  subst hv2
  have O2 : Hid (Own w2 w.heap.size (.slice p1 n q1) l) := O1.out.later b2
  have M2 : Hid (Mix w2 A D R s s) := M1.out.later b2
  have W2 : Hid (Went A A w w2) := Went.below (B1.out.trans (b2.mono B1.out.size))
  have B2 : w.heap.size ≤ w2.heap.size := Nat.le_trans B1.out.size b2.size
  obtain ⟨p1', q1', hv1', P1, -, -⟩ := O2.out.slice n HN.out
  cases hv1'
  have k1 := conv_any P1.2.2 n q1 HN.out
  have k2 := conv_any P2.2.2 n q2 HN.out
  clear P1 P2 o2 b2 c1 RR O1 B1 M1
  go_wp2_with (go_at_call 11; refine (num3_any _ _).mono ?_; rintro e w' ⟨rfl, hw'⟩; obtain rfl := hw'.symm)
  clear k1 k2
  obtain ⟨g, hg, hgN, hd⟩ := dirt_start O2.out HN.out
  have HG : Hid (n ≠ 0 → p1 = some ⟨g, 0, none⟩) := hg
  have HD0 : Hid (Dirt w2 w2 g n) := hd
  clear hg hd O2 HN
  go_loopw [13] (fun i wr => ∃ m : Nat, m ≤ n ∧ i = .int .i64 m ∧ Hid (Dirt w2 wr g n)) (fun i _ => n - (intOf i).toNat)
  case atStart => exact ⟨0, by omega, rfl, HD0⟩
  case round =>
    obtain ⟨m, hm, rfl, HD⟩ := hrel
    by_cases hlt : m < n
    · obtain rfl := HG.out (by omega)
      obtain ⟨⟨z, hz⟩, hf⟩ := dirt_cell HD.out hlt
      clear HD0
      go_wp2
      refine ⟨⟨m + 1, by omega, by go_num, (show Hid _ from dirt_step HD.out _)⟩, by simp [intOf]; omega⟩
    · obtain rfl : m = n := by omega
      have M3 : Hid (Mix wr A D R s s) := dirt_mix M2.out HD.out (fun hm => absurd (HA.out g hm) (by omega))
      have W3 : Hid (Went A A w wr) := dirt_went W2.out HD.out hgN
      clear HD HD0 M2 W2 HG
      obtain ⟨L, cap, r0, r1, hRl, hbl⟩ := M3.out.cells
      have HS : Hid (wr.drew.cell? ⟨R, 0, none⟩ = some (.slice (some ⟨L, 0, none⟩) s.bs.length cap) ∧ wr.drew.cell? ⟨R, 1, none⟩ = some (.bool s.off)) := (show Hid _ from ⟨r0, r1⟩)
      have MD : Hid (Mix wr.drew A D R s s) := mix_drew M3.out
      have WD : Hid (Went A A w wr.drew) := went_drew W3.out
      have K1 : Hid (Calls Try.prog 19 #[.pointer (some ⟨D, 0, none⟩)] wr.drew fun x w' => x = .returned (.bool s.off) ∧ w' = wr.drew) := MD.out.isDown
      have K2 : Hid (Calls Try.prog 20 #[.pointer (some ⟨D, 0, none⟩)] wr.drew fun x w' => x = .returned (.int .i64 (dirtyD s : Nat)) ∧ w' = wr.drew) := MD.out.ddirty
      have K3 : Hid (Calls Try.prog 31 #[.pointer (some ⟨R, 0, none⟩)] wr.drew fun x w' => x = .returned (.int .i64 (dirtyD s : Nat)) ∧ w' = wr.drew) := MD.out.rdirty
      have K4 : Hid (Calls Try.prog 21 #[.pointer (some ⟨D, 0, none⟩)] wr.drew fun x w' => x = .returned (.int .i64 (s.bs.length : Nat)) ∧ w' = wr.drew) := MD.out.blocks
      have FIN : Hid (∃ A' s', s'.upTo (k + 1) ∧ Mix wr.drew A' D R s' s' ∧ Went A A' w wr.drew) := (show Hid _ from ⟨A, s, U2.out, MD.out, WD.out⟩)
      clear r0 r1 MD WD M3 W3 U2 hRl hbl
      generalize s.bs.length = bl at *
      generalize dirtyD s = dn at *
      generalize s.off = off at *
      go_wp2_with fail
      go_region_held3 (fun W => W.cell? ⟨R, 0, none⟩ = some (.slice (some ⟨L, 0, none⟩) bl cap) ∧ W.cell? ⟨R, 1, none⟩ = some (.bool off)) (exact HS.out)
        (first
          | (go_at_call 19; refine K1.out.mono ?_; rintro e w' ⟨rfl, hw'⟩; obtain rfl := hw'.symm)
          | (go_at_call 20; refine K2.out.mono ?_; rintro e w' ⟨rfl, hw'⟩; obtain rfl := hw'.symm)
          | (go_at_call 31; refine K3.out.mono ?_; rintro e w' ⟨rfl, hw'⟩; obtain rfl := hw'.symm)
          | (go_at_call 21; refine K4.out.mono ?_; rintro e w' ⟨rfl, hw'⟩; obtain rfl := hw'.symm))
      go_wp2
      go_ret
      exact ⟨rfl, FIN.out⟩
end Go.Proofs.Ytdcgokkbmplihaa

/- What the statements' helper Lent answers: a copy with two marked bytes behind it. -/
namespace Go.Proofs.Ytdcgokkbmplihaa
open Go.RowKit

set_option maxHeartbeats 400000 in
theorem lent_any (ad : Option Addr) (len cap : Nat) (l : List Nat) (w : World) (hp : Part.ok w ⟨ad, len, cap, l⟩) (hr : len ≤ 140737488351232) :
    Calls Try.prog 23 #[.slice ad len cap] w fun e w' => ∃ g c, e = .returned (.slice (some ⟨g, 0, none⟩) len c) ∧ len + 2 ≤ c ∧ c ≤ maxLen ∧ Own w' w.heap.size (.slice (some ⟨g, 0, none⟩) (len + 2) c) (l ++ [201, 202]) ∧ Below w.heap.size w w' := by
  obtain ⟨h1, h2, h3⟩ := hp
  simp only at h1 h2 h3
  have HL : Hid (l.length = len) := h1
  have H2 : Hid (ad = none → len = 0 ∧ cap = 0) := h2
  have H3 : Hid (Row w ad l) := h3
  clear h1 h2 h3
  go_enter Try.func23, Try.ntmps23
  have b0 : Below w.heap.size w (w.alloc (.cells #[] 5)) := (Below.refl _ _).alloc (Nat.le_refl _) _
  go_wp2_with (first | (at_builtin; refine app_any rfl (.tmp 4) (.tmp 5) rfl w.heap.size (.slice (some ⟨w.heap.size, 0, none⟩) 0 0) 0 [] rfl (empty_own w w.heap.size (Nat.le_refl _)) ad len cap l rfl HL.out H2.out (H3.out.later b0) (by omega) (by simp) ?_; intro v1 w1 hown1 hg1; have s1 := hg1.size; have b1 := b0.grown hg1 (by simp) (by intro k hk; simp [Value.ownBlock] at hk; omega); simp only [Nat.zero_add, List.nil_append] at hown1; clear hg1) | (at_builtin; refine app_any rfl (.tmp 7) (.tmp 8) rfl w.heap.size v1 len l rfl (hown1.alloc _) (some ⟨w1.heap.size, 0, none⟩) 2 2 [201, 202] rfl rfl (by intro e; cases e) (marks_row _) (by omega) (by have := b1.size; simp; omega) ?_; intro v2 w2 hown2 hg2; have b2 := (b1.alloc b1.size _).grown hg2 (by have := b1.size; simp; omega) (fun k hk => (hown1.lt k hk).1); obtain ⟨g, c, rfl, -, -⟩ := hown2.form (by omega); obtain ⟨hc1, hc2⟩ := own_room hown2; clear hg2 hown1))
  go_ret
  exact ⟨g, c, rfl, hc1, hc2, ⟨own_lt H3.out.1, by simpa [HL.out] using hown2⟩, b2⟩
end Go.Proofs.Ytdcgokkbmplihaa

/- What the statements' helper Stays answers of bytes that were lent and not written: true. -/
namespace Go.Proofs.Ytdcgokkbmplihaa
open Go.RowKit

set_option maxHeartbeats 1000000 in
theorem stays_any (g c : Nat) (ad : Option Addr) (len cap base : Nat) (l : List Nat) (w : World) (hc : len + 2 ≤ c) (hr : len ≤ 140737488351232) (hown : Own w base (.slice (some ⟨g, 0, none⟩) (len + 2) c) (l ++ [201, 202])) (hp : Part.ok w ⟨ad, len, cap, l⟩) :
    Calls Try.prog 26 #[.slice (some ⟨g, 0, none⟩) len c, .slice ad len cap] w fun e w' => e = .returned (.bool true) ∧ Below w.heap.size w w' := by
  have hlen : l.length = len := hp.1
  have k1 := conv_drewN (hown.cut (n := len) hlen (by simp [hlen])).2.2 len c hlen
  have k2 := conv_drewN hp.2.2 len cap hlen
  have h2 := hown.2
  have hl2 : (l ++ [201, 202]).length = len + 2 := by simp [hlen]
  rw [hl2] at h2
  have m1 : w.cell? ⟨g, len, none⟩ = some (.int .u8 201) := by
    rw [h2.cellAt len (by omega), List.getElem?_map, List.getElem?_append_right (by omega), hlen, Nat.sub_self]; rfl
  have m2 : w.cell? ⟨g, len + 1, none⟩ = some (.int .u8 202) := by
    rw [h2.cellAt (len + 1) (by omega), List.getElem?_map, List.getElem?_append_right (by omega), hlen, show len + 1 - len = 1 by omega]; rfl
  clear hown h2 hp hl2
  go_enter Try.func26, Try.ntmps26
  go_wp2
  go_quiet (fail)
  go_wp2
  go_ret
  exact ⟨rfl, below_drewN' (Below.refl _ _) _⟩
end Go.Proofs.Ytdcgokkbmplihaa

/- What step of package law03 answers: Write. -/
namespace Go.Proofs.Ytdcgokkbmplihaa
open Go.RowKit
variable {w w' w'' w0 : World} {A A' A'' : List Nat} {D R k : Nat} {s t : DSt} {o : OpD}

theorem said_len (h : o.ok w0) (hl : o.blen ≤ 1073741824) : o.said.length ≤ 1073741824 := by
  unfold OpD.said
  split
  · rw [fullN_len]; omega
  · have := h.text.1; simp only at this; omega
/-- The box of an Op. -/
def opB (o : OpD) : Obj := .cells (opV o).toArray 35
theorem opB_cells {W : World} {b : Nat} (h : W.heap[b]? = some (opB o)) (hk : o.kind = 0) : W.cell? ⟨b, 0, none⟩ = some (.int .i64 0) ∧ W.cell? ⟨b, 1, none⟩ = some (.int .i64 o.i) ∧ W.cell? ⟨b, 2, none⟩ = some (.int .i64 o.n) ∧ W.cell? ⟨b, 3, none⟩ = some (.slice o.b o.blen o.bcap) ∧ W.cell? ⟨b, 4, none⟩ = some (.int .u8 (o.fill : Nat)) ∧ W.cell? ⟨b, 5, none⟩ = some (.slice o.l o.llen o.lcap) := by
  unfold opB at h
  refine ⟨?_, ?_, ?_, ?_, ?_, ?_⟩ <;> rw [box_cell h] <;> (try rw [← hk]) <;> rfl
theorem Went.cell0 (h : Went A A' w w') {b : Nat} {x : Obj} (hb : w.heap[b]? = some x) (hn : b ∉ A) : w'.heap[b]? = some x := (h.chg.block b (some_lt hb) hn).trans hb
theorem Went.own {N g n c : Nat} {l : List Nat} (h : Went A A' w w') (ho : Own w N (.slice (some ⟨g, 0, none⟩) n c) l) (hn : g ∉ A) : Own w' N (.slice (some ⟨g, 0, none⟩) n c) l := ho.chg h.chg (fun x hx hm => hn (by cases hx; exact hm))
theorem own_at {N g n c : Nat} {l : List Nat} (ho : Own w N (.slice (some ⟨g, 0, none⟩) n c) l) : N ≤ g ∧ g < w.heap.size := by
  obtain ⟨cz, q, q2⟩ := ownBlock_cells (g := g) ho.2 rfl
  exact ⟨q2, some_lt q⟩
theorem dirt_cut {N g n c : Nat} {l l2 : List Nat} (h : Own w N (.slice (some ⟨g, 0, none⟩) (n + 2) c) (l ++ l2)) (hl : l.length = n) : Dirt w w g n := by
  have h2 := h.2
  rcases h2.2 with ⟨e, e0⟩ | ⟨g', cap, cur, e, q1, q2, q3, q4, q5, q6⟩
  · cases e
  · injection e with e1 e2 e3
    cases e1
    refine ⟨Chg.refl _ _, fun _ => ⟨cur, q2, fun i hi => ?_⟩⟩
    have hlen : (l ++ l2).length = n + l2.length := by simp [hl]
    have e : (cur.toList.take ((l ++ l2).length * 1))[i]? = ((l ++ l2).map bv)[i]? := by rw [q6]
    have e2 : ((l ++ l2).map bv)[i]? = some (bv ((l ++ l2)[i]'(by omega))) := by rw [List.getElem?_map, List.getElem?_eq_getElem (by omega)]; rfl
    rw [List.getElem?_take, if_pos (by omega), e2, Array.getElem?_toList] at e
    exact ⟨_, e⟩
set_option maxRecDepth 100000 in
set_option maxHeartbeats 8000000 in
theorem step_write (h : Mix w A D R s s) (hu : s.upTo k) (hkk : k ≤ 1073741824) (hk : o.kind = 0) (hb : Below w0.heap.size w0 w) (hA : ∀ g ∈ A, w0.heap.size ≤ g) (ho : o.ok w0) (hl : o.blen ≤ 1073741824) : Calls Try.prog 13 #[.pointer (some ⟨D, 0, none⟩), .pointer (some ⟨R, 0, none⟩), .agg (opV o).toArray] w (StepPost A D R k w) := by
  have M0 : Hid (Mix w A D R s s) := h
  have HF : Hid s.few := hu.few hkk
  have U2 : Hid ((writeD s o.i o.said).2.upTo (k + 1)) := writeD_upTo hu o.i o.said
  have HA : Hid (∀ g ∈ A, g < w.heap.size) := h.lt
  have HAN : Hid (∀ g ∈ A, w0.heap.size ≤ g) := hA
  have hsl := said_len ho hl
  have TX : Hid (∀ W, Below w0.heap.size w0 W → Calls Try.prog 24 #[.agg #[.int .i64 0, .int .i64 o.i, .int .i64 o.n, .slice o.b o.blen o.bcap, .int .u8 (o.fill : Nat), .slice o.l o.llen o.lcap]] W fun e w' => ∃ ad cap, e = .returned (.slice ad o.said.length cap) ∧ Part.ok w' ⟨ad, o.said.length, cap, o.said⟩ ∧ (∀ b off, ad = some ⟨b, off, none⟩ → o.said ≠ [] → b < w0.heap.size ∨ W.heap.size ≤ b) ∧ Below W.heap.size W w') := (show Hid _ from fun W hW => by
    have q := text_any o W w0 hW ho
    unfold opV at q
    rw [hk] at q
    exact q)
  have hob : opB o = .cells #[.int .i64 0, .int .i64 o.i, .int .i64 o.n, .slice o.b o.blen o.bcap, .int .u8 (o.fill : Nat), .slice o.l o.llen o.lcap] 35 := by unfold opB opV; rw [hk]
  have HOB : Hid (opB o = .cells #[.int .i64 0, .int .i64 o.i, .int .i64 o.n, .slice o.b o.blen o.bcap, .int .u8 (o.fill : Nat), .slice o.l o.llen o.lcap] 35) := hob
  have HK : Hid (∀ W : World, W.heap[w.heap.size]? = some (opB o) → W.cell? ⟨w.heap.size, 0, none⟩ = some (.int .i64 0) ∧ W.cell? ⟨w.heap.size, 1, none⟩ = some (.int .i64 o.i) ∧ W.cell? ⟨w.heap.size, 2, none⟩ = some (.int .i64 o.n) ∧ W.cell? ⟨w.heap.size, 3, none⟩ = some (.slice o.b o.blen o.bcap) ∧ W.cell? ⟨w.heap.size, 4, none⟩ = some (.int .u8 (o.fill : Nat)) ∧ W.cell? ⟨w.heap.size, 5, none⟩ = some (.slice o.l o.llen o.lcap)) := (show Hid _ from fun W hW => opB_cells hW hk)
  have HB : Hid (Below w0.heap.size w0 w) := hb
  clear h hu hA ho hb hob
  unfold opV
  rw [hk]
  generalize o.said = l at *
  obtain ⟨n, hn⟩ : ∃ n, l.length = n := ⟨_, rfl⟩
  rw [hn] at TX hsl
  have HN : Hid (l.length = n) := hn
  clear hn hk
  go_enter Try.func13, Try.ntmps13
  go_wp2_with fail
  have BB : Hid (Below w.heap.size w (w.alloc (opB o))) := (show Hid _ from (Below.refl _ w).alloc (Nat.le_refl _) _)
  rw [← HOB.out]
  refine (TX.out (w.alloc (opB o)) (HB.out.trans (BB.out.mono HB.out.size))).mono ?_
  rintro e w1 ⟨ad1, c1, rfl, p1, -, b1⟩
  have B1 : Hid (Below w.heap.size w w1) := (show Hid _ from BB.out.trans (b1.mono BB.out.size))
  have Q1 : Hid (w1.heap[w.heap.size]? = some (opB o)) := (show Hid _ from (b1.block w.heap.size (by simp)).trans (heap_alloc_last w _))
  have P1 : Hid (Part.ok w1 ⟨ad1, n, c1, l⟩) := p1
  clear p1 b1 BB
  go_wp2_with fail
  refine (lent_any ad1 n c1 l w1 P1.out (by omega)).mono ?_
  rintro e w2 ⟨g, c, rfl, hc1, hc2, o2, b2⟩
  have B2 : Hid (Below w.heap.size w w2) := (show Hid _ from B1.out.trans (b2.mono B1.out.size))
  have Q2 : Hid (w2.drew.heap[w.heap.size]? = some (opB o)) := (show Hid _ from (b2.block w.heap.size (some_lt Q1.out)).trans Q1.out)
  have O2 : Hid (Own w2.drew w.heap.size (.slice (some ⟨g, 0, none⟩) (n + 2) c) (l ++ [201, 202])) := (show Hid _ from (o2.down B1.out.size).later ((Below.refl _ w2).drew))
  have G2 : Hid (w.heap.size ≤ g ∧ g < w2.heap.size) := (show Hid _ from own_at O2.out)
  have M2 : Hid (Mix w2.drew A D R s s) := mix_drew (M0.out.later B2.out)
  have W2 : Hid (Went A A w w2.drew) := went_drew (Went.below B2.out)
  have hcm : c ≤ 9223372036854775807 := by unfold maxLen at hc2; exact hc2
  have HP : Hid (∀ W, Own W w.heap.size (.slice (some ⟨g, 0, none⟩) (n + 2) c) (l ++ [201, 202]) → Part.ok W ⟨some ⟨g, 0, none⟩, n, c, l⟩) := (show Hid _ from fun W hW => hW.cut HN.out (by simp [HN.out]))
  have HNO : Hid (w.heap.size ∉ A ∧ g ∉ A) := (show Hid _ from ⟨fun hm => absurd (HA.out _ hm) (by omega), fun hm => absurd (HA.out _ hm) (by have := G2.out.1; omega)⟩)
  clear o2 b2 B1 Q1 P1 M0 hc2
  go_wp2_with fail
  go_region_held3 (fun W => W.cell? ⟨w.heap.size, 0, none⟩ = some (.int .i64 0) ∧ W.cell? ⟨w.heap.size, 1, none⟩ = some (.int .i64 o.i) ∧ W.cell? ⟨w.heap.size, 2, none⟩ = some (.int .i64 o.n) ∧ W.cell? ⟨w.heap.size, 3, none⟩ = some (.slice o.b o.blen o.bcap) ∧ W.cell? ⟨w.heap.size, 4, none⟩ = some (.int .u8 (o.fill : Nat)) ∧ W.cell? ⟨w.heap.size, 5, none⟩ = some (.slice o.l o.llen o.lcap))
    (first | exact HK.out _ Q2.out | exact HK.out _ Q3.out | exact HK.out _ Q4.out | exact HK.out _ Q5.out | exact HK.out _ Q6.out | exact HK.out _ Q7.out)
    (first
      | (go_at_call 17; (with_reducible_and_instances (refine (M2.out.dwrite HF.out o.i _ n c l (HP.out _ O2.out)).mono ?_)); rintro e w3 ⟨rfl, A3, m3, g3⟩; have M3 : Hid (Mix w3 A3 D R (writeD s o.i l).2 s) := m3; have W3 : Hid (Went A A3 w w3) := W2.out.trans g3; have Q3 : Hid (w3.heap[w.heap.size]? = some (opB o)) := g3.cell0 Q2.out HNO.out.1; have O3 : Hid (Own w3 w.heap.size (.slice (some ⟨g, 0, none⟩) (n + 2) c) (l ++ [201, 202])) := g3.own O2.out HNO.out.2; have N3 : Hid (w.heap.size ∉ A3 ∧ g ∉ A3) := (show Hid _ from ⟨fun hm => (g3.new _ hm).elim HNO.out.1 (fun e => absurd (some_lt Q2.out) (Nat.not_lt.2 e)), fun hm => (g3.new _ hm).elim HNO.out.2 (fun e => absurd G2.out.2 (Nat.not_lt.2 e))⟩); have K3 : Hid (Below w0.heap.size w0 w3 ∧ ∀ g ∈ A3, w0.heap.size ≤ g) := W3.out.keeps HAN.out HB.out; clear m3 g3)
      | (go_at_call 11; refine (num3_any _ _).mono ?_; rintro e w' ⟨rfl, hw'⟩; obtain rfl := hw'.symm)
      | (go_at_call 24; (with_reducible_and_instances (refine (TX.out w5 K5.out.1).mono ?_)); rintro e w6 ⟨ad6, c6, rfl, p6, -, b6⟩; have P6 : Hid (Part.ok w6 ⟨ad6, n, c6, l⟩) := p6; have O6 : Hid (Own w6 w.heap.size (.slice (some ⟨g, 0, none⟩) (n + 2) c) (l ++ [201, 202])) := O5.out.later b6; have M6 : Hid (Mix w6 A5 D R (writeD s o.i l).2 (writeD s o.i l).2) := M5.out.later b6; have W6 : Hid (Went A A5 w w6) := W5.out.trans (Went.below b6); have Q6 : Hid (w6.heap[w.heap.size]? = some (opB o)) := (show Hid _ from (b6.block _ (some_lt Q5.out)).trans Q5.out); clear p6 b6)
      | (go_at_call 24; (with_reducible_and_instances (refine (TX.out w3 K3.out.1).mono ?_)); rintro e w4 ⟨ad4, c4, rfl, p4, -, b4⟩; have P4 : Hid (Part.ok w4 ⟨ad4, n, c4, l⟩) := p4; have O4 : Hid (Own w4 w.heap.size (.slice (some ⟨g, 0, none⟩) (n + 2) c) (l ++ [201, 202])) := O3.out.later b4; have M4 : Hid (Mix w4 A3 D R (writeD s o.i l).2 s) := M3.out.later b4; have W4 : Hid (Went A A3 w w4) := W3.out.trans (Went.below b4); have Q4 : Hid (w4.heap[w.heap.size]? = some (opB o)) := (show Hid _ from (b4.block _ (some_lt Q3.out)).trans Q3.out); clear p4 b4)
      | (go_at_call 25; (with_reducible_and_instances (refine (M4.out.rwrite HF.out o.i ad4 n c4 l P4.out).mono ?_)); rintro e w5 ⟨rfl, A5, m5, g5⟩; have M5 : Hid (Mix w5 A5 D R (writeD s o.i l).2 (writeD s o.i l).2) := m5; have W5 : Hid (Went A A5 w w5) := W4.out.trans g5; have Q5 : Hid (w5.heap[w.heap.size]? = some (opB o)) := g5.cell0 Q4.out N3.out.1; have O5 : Hid (Own w5 w.heap.size (.slice (some ⟨g, 0, none⟩) (n + 2) c) (l ++ [201, 202])) := g5.own O4.out N3.out.2; have N5 : Hid (g ∉ A5) := (show Hid _ from fun hm => (g5.new _ hm).elim N3.out.2 (fun e => absurd (own_at O4.out).2 (Nat.not_lt.2 e))); have K5 : Hid (Below w0.heap.size w0 w5 ∧ ∀ g ∈ A5, w0.heap.size ≤ g) := W5.out.keeps HAN.out HB.out; clear m5 g5)
      | (go_at_call 26; (with_reducible_and_instances (refine (stays_any g c ad6 n c6 w.heap.size l w6 hc1 (by omega) O6.out P6.out).mono ?_)); rintro e w7 ⟨rfl, b7⟩; have O7 : Hid (Own w7 w.heap.size (.slice (some ⟨g, 0, none⟩) (n + 2) c) (l ++ [201, 202])) := O6.out.later b7; have M7 : Hid (Mix w7 A5 D R (writeD s o.i l).2 (writeD s o.i l).2) := M6.out.later b7; have W7 : Hid (Went A A5 w w7) := W6.out.trans (Went.below b7); have Q7 : Hid (w7.heap[w.heap.size]? = some (opB o)) := (show Hid _ from (b7.block _ (some_lt Q6.out)).trans Q6.out); clear b7))
  have HD0 : Hid (Dirt w7 w7 g n) := (show Hid _ from dirt_cut O7.out HN.out)
  have HGN : Hid (w.heap.size ≤ g ∧ g ∉ A5) := (show Hid _ from ⟨G2.out.1, N5.out⟩)
  clear O7 O6 O5 O4 O3 O2 M6 M5 M4 M3 M2 W6 W5 W4 W3 W2 Q7 Q6 Q5 Q4 Q3 Q2 P6 P4 K5 K3 N3 N5 TX HK HP HNO
  go_wp2_with fail
  go_loopw [8] (fun i wr => ∃ m : Nat, m ≤ n ∧ i = .int .i64 m ∧ Hid (Dirt w7 wr g n)) (fun i _ => n - (intOf i).toNat)
  case atStart => exact ⟨0, by omega, rfl, HD0⟩
  case round =>
    obtain ⟨m, hm, rfl, HD⟩ := hrel
    by_cases hlt : m < n
    · obtain ⟨⟨z, hz⟩, hf⟩ := dirt_cell HD.out hlt
      clear HD0
      go_wp2
      refine ⟨⟨m + 1, by omega, by go_num, (show Hid _ from dirt_step HD.out _)⟩, by simp [intOf]; omega⟩
    · obtain rfl : m = n := by omega
      have M8 : Hid (Mix wr A5 D R (writeD s o.i l).2 (writeD s o.i l).2) := dirt_mix M7.out HD.out HGN.out.2
      have W8 : Hid (Went A A5 w wr) := dirt_went W7.out HD.out HGN.out.1
      clear HD HD0 M7 W7
      generalize (writeD s o.i l).2 = s2 at *
      obtain ⟨L, cap, r0, r1, hRl, hbl⟩ := M8.out.cells
      have HS : Hid (wr.drew.cell? ⟨R, 0, none⟩ = some (.slice (some ⟨L, 0, none⟩) s2.bs.length cap) ∧ wr.drew.cell? ⟨R, 1, none⟩ = some (.bool s2.off)) := (show Hid _ from ⟨r0, r1⟩)
      have MD : Hid (Mix wr.drew A5 D R s2 s2) := mix_drew M8.out
      have WD : Hid (Went A A5 w wr.drew) := went_drew W8.out
      have K1 : Hid (Calls Try.prog 19 #[.pointer (some ⟨D, 0, none⟩)] wr.drew fun x w' => x = .returned (.bool s2.off) ∧ w' = wr.drew) := MD.out.isDown
      have K2 : Hid (Calls Try.prog 20 #[.pointer (some ⟨D, 0, none⟩)] wr.drew fun x w' => x = .returned (.int .i64 (dirtyD s2 : Nat)) ∧ w' = wr.drew) := MD.out.ddirty
      have K3 : Hid (Calls Try.prog 31 #[.pointer (some ⟨R, 0, none⟩)] wr.drew fun x w' => x = .returned (.int .i64 (dirtyD s2 : Nat)) ∧ w' = wr.drew) := MD.out.rdirty
      have K4 : Hid (Calls Try.prog 21 #[.pointer (some ⟨D, 0, none⟩)] wr.drew fun x w' => x = .returned (.int .i64 (s2.bs.length : Nat)) ∧ w' = wr.drew) := MD.out.blocks
      have FIN : Hid (∃ A' s', s'.upTo (k + 1) ∧ Mix wr.drew A' D R s' s' ∧ Went A A' w wr.drew) := (show Hid _ from ⟨A5, s2, U2.out, MD.out, WD.out⟩)
      clear r0 r1 MD WD M8 W8 U2 hRl hbl
      generalize s2.bs.length = bl at *
      generalize dirtyD s2 = dn at *
      generalize s2.off = off at *
      go_wp2_with fail
      go_region_held3 (fun W => W.cell? ⟨R, 0, none⟩ = some (.slice (some ⟨L, 0, none⟩) bl cap) ∧ W.cell? ⟨R, 1, none⟩ = some (.bool off)) (exact HS.out)
        (first
          | (go_at_call 19; refine K1.out.mono ?_; rintro e w' ⟨rfl, hw'⟩; obtain rfl := hw'.symm)
          | (go_at_call 20; refine K2.out.mono ?_; rintro e w' ⟨rfl, hw'⟩; obtain rfl := hw'.symm)
          | (go_at_call 31; refine K3.out.mono ?_; rintro e w' ⟨rfl, hw'⟩; obtain rfl := hw'.symm)
          | (go_at_call 21; refine K4.out.mono ?_; rintro e w' ⟨rfl, hw'⟩; obtain rfl := hw'.symm))
      go_wp2
      go_ret
      exact ⟨rfl, FIN.out⟩
end Go.Proofs.Ytdcgokkbmplihaa

/- New of package ref03. -/
namespace Go.Proofs.Ytdcgokkbmplihaa
open Go.RowKit
variable {w w' wr : World} {R m : Nat}

theorem Try.infoK : (Try.prog.info? 60).map (fun i => (i.zero, i.size, i.bytes)) = some (some (.agg #[.slice none 0 0, .bool false, .slice none 0 0]), 3, 56) := by kernel_rfl
theorem step_app_blk {w : World} {ops : Array Oper} {o : Oper} {a : Act} {K : Act → World → Prop} {Q : Exit → Act → World → Prop} {E : Prop} (hgd : o.guard = none) (s x : Operand)
    (ho : o.op = .call { callee := .builtin .append, args := #[s, x], argTypes := #[56, 56] })
    (base : Nat) (v : Value) (n : Nat) (xs : List Value) (hs : a.eval s = v) (hown : w.ownsRow base 60 3 v n xs) (g1 : Nat) (b1 b2 b3 : Value) (hx : a.eval x = .slice (some ⟨g1, 0, none⟩) 1 1) (hc : w.heap[g1]? = some (.cells #[b1, b2, b3] 60 (0, 0))) (h1 : b1.oneCell' = true ∧ b2.oneCell' = true ∧ b3.oneCell' = true) (hn : n ≤ 1073741824) (hb : base ≤ w.heap.size)
    (h : ∀ v' w', w'.ownsRow base 60 3 v' (n + 1) (xs ++ [b1, b2, b3]) → w.grownBy w' v.ownBlock → K (a.put o.dst v') w') :
    if Region.wanted o (yielded ops a.tmps) = true then Oper.wp Try.prog o a w K Q else E := by
  have hw : Region.wanted o (yielded ops a.tmps) = true := by simp [Region.wanted, hgd]
  rw [if_pos hw]
  obtain ⟨i0, hi, hz0, hz1, hz2⟩ := info_parts Try.infoK
  have hnews : ∀ j x, [b1, b2, b3][j]? = some x → w.cell? ((⟨g1, 0, none⟩ : Addr).add j) = some x := fun j x hu => by
    rw [addr_add, cell_of_row _ _ _ _ _ _ hc, Nat.zero_add]
    simpa using hu
  have hone : ∀ x ∈ [b1, b2, b3], x.oneCell' = true := fun x hx => by
    simp at hx
    rcases hx with rfl | rfl | rfl
    · exact h1.1
    · exact h1.2.1
    · exact h1.2.2
  refine wp_append_own w s x 56 ho base 60 i0 _ 3 56 Try.underlying56 hi hz0 hz1 hz2 rfl (by decide) v n xs hs hown ⟨g1, 0, none⟩ 1 1 [b1, b2, b3] hx rfl hnews hone (by unfold maxLen; omega) (by omega) hb ?_
  intro v' w' r1 r2 _
  exact h v' w' r1 r2
/-- The first m blocks of the document's new disk. -/
structure RN (w wr : World) (m : Nat) (v : Value) (T : Nat → Value) (xs : List Value) : Prop where
  hR : wr.heap[w.heap.size]? = some (.cells #[v, .bool false, .int .i64 (-1)] 58 (0, 0))
  own : wr.ownsRow w.heap.size 60 3 v m xs
  cells : ∀ i, i < m → xs[i * 3]? = some (T i) ∧ xs[i * 3 + 1]? = some (.bool false) ∧ xs[i * 3 + 2]? = some (.slice none 0 0)
  txt : ∀ i, i < m → Own wr w.heap.size (T i) zeros
  below : Below w.heap.size w wr
theorem own_cells {N e n sz : Nat} {v : Value} {xs : List Value} (h : w.ownsRow N e sz v n xs) {g : Nat} (hg : v.ownBlock = some g) : ∃ c, w.heap[g]? = some (.cells c e (0, 0)) ∧ N ≤ g := by
  rcases h.2 with ⟨rfl, _⟩ | ⟨g0, cap, cur, rfl, h1, h2, _⟩
  · cases hg
  · cases hg
    exact ⟨cur, h2, h1⟩
theorem row_keep3 {N e n sz : Nat} {v : Value} {xs : List Value} (h : w.ownsRow N e sz v n xs) (hk : ∀ g, v.ownBlock = some g → w'.heap[g]? = w.heap[g]?) : w'.ownsRow N e sz v n xs := by
  refine ⟨h.1, ?_⟩
  rcases h.2 with h0 | ⟨g, c, cur, e1, h1, h2, h3⟩
  · exact Or.inl h0
  · subst e1
    exact Or.inr ⟨g, c, cur, rfl, h1, (hk g rfl).trans h2, h3⟩
theorem ref_start (w : World) : RN w (w.alloc (.cells #[.slice none 0 0, .bool false, .int .i64 (-1)] 58)) 0 (.slice none 0 0) (fun _ => .slice none 0 0) [] :=
  ⟨heap_alloc_last _ _, ⟨rfl, Or.inl ⟨rfl, rfl⟩⟩, fun i hi => absurd hi (by omega), fun i hi => absurd hi (by omega), (Below.refl _ w).alloc (Nat.le_refl _) _⟩
/-- One block more. -/
theorem RN.snoc {v v' u : Value} {T : Nat → Value} {xs : List Value} {wa wb wc : World} (h : RN w wr m v T xs) (ha : Below wr.heap.size wr wa) (hu : Own wa w.heap.size u zeros) (hb : Below wa.heap.size wa wb) (hg : wb.grownBy wc v.ownBlock)
    (ho : wc.ownsRow w.heap.size 60 3 v' (m + 1) (xs ++ [u, .bool false, .slice none 0 0])) : RN w (wc.setCell ⟨w.heap.size, 0, none⟩ v') (m + 1) v' (fun i => if i = m then u else T i) (xs ++ [u, .bool false, .slice none 0 0]) := by
  have hxl : xs.length = m * 3 := by have := h.own.1; omega
  have hRl : w.heap.size < wr.heap.size := some_lt h.hR
  have hs1 := ha.size
  have hs2 := hb.size
  have hblk : ∀ k, k < wa.heap.size → v.ownBlock ≠ some k → wc.heap[k]? = wa.heap[k]? := fun k hk hne => by
    rw [hg.block k (by omega) (fun e => hne e.symm), hb.block k hk]
  have hvt : ∀ {k : Nat} {c : Array Value} {e : TypeId} {fr : Nat × Nat}, wr.heap[k]? = some (.cells c e fr) → e ≠ 60 → v.ownBlock ≠ some k := fun {k c e fr} q he e2 => by
    obtain ⟨c2, q2, -⟩ := own_cells h.own e2
    rw [q2] at q
    injection q with q
    injection q with _ q
    exact he q.symm
  have hvt2 : ∀ {k : Nat} {c : Array Value} {e : TypeId} {fr : Nat × Nat}, wa.heap[k]? = some (.cells c e fr) → e ≠ 60 → v.ownBlock ≠ some k := fun {k c e fr} q he e2 => by
    obtain ⟨c2, q2, -⟩ := own_cells h.own e2
    rw [ha.block k (some_lt q2), q2] at q
    injection q with q
    injection q with _ q
    exact he q.symm
  have hRa : wa.heap[w.heap.size]? = wr.heap[w.heap.size]? := ha.block _ hRl
  have hRc : wc.heap[w.heap.size]? = some (.cells #[v, .bool false, .int .i64 (-1)] 58 (0, 0)) := by
    rw [hblk _ (by omega) (hvt h.hR (by decide)), hRa]; exact h.hR
  have hoth : ∀ k, k ≠ w.heap.size → (wc.setCell ⟨w.heap.size, 0, none⟩ v').heap[k]? = wc.heap[k]? := fun k hk => heap_setCell_other wc ⟨w.heap.size, 0, none⟩ k _ (fun e => hk e)
  have hneR : ∀ {W : World} {k : Nat} {c : Array Value} {e : TypeId} {fr : Nat × Nat}, W.heap[w.heap.size]? = some (.cells #[v, .bool false, .int .i64 (-1)] 58 (0, 0)) → W.heap[k]? = some (.cells c e fr) → e ≠ 58 → k ≠ w.heap.size := fun {W k c e fr} hW q he e2 => by
    rw [e2, hW] at q
    injection q with q
    injection q with _ q
    exact he q.symm
  have own_later : ∀ {x : Value}, Own wa w.heap.size x zeros → Own (wc.setCell ⟨w.heap.size, 0, none⟩ v') w.heap.size x zeros := fun {x} o => by
    refine ⟨o.1, row_keep o.2 (fun g hg2 => ?_)⟩
    obtain ⟨c, q, -⟩ := ownBlock_cells o.2 hg2
    rw [hoth g (hneR (hRa.trans h.hR) q (by decide)), hblk g (some_lt q) (hvt2 q (by decide))]
  refine ⟨?_, row_keep3 ho (fun g hg2 => ?_), fun i hi => ?_, fun i hi => ?_, ?_⟩
  · rw [heap_setCell_same wc w.heap.size 0 _ _ _ hRc]; rfl
  · obtain ⟨c, q, -⟩ := own_cells ho hg2
    exact hoth g (hneR hRc q (by decide))
  · by_cases e : i = m
    · subst e
      rw [if_pos rfl, List.getElem?_append_right (by omega), List.getElem?_append_right (by omega), List.getElem?_append_right (by omega), hxl]
      refine ⟨by rw [show i * 3 - i * 3 = 0 by omega]; rfl, by rw [show i * 3 + 1 - i * 3 = 1 by omega]; rfl, by rw [show i * 3 + 2 - i * 3 = 2 by omega]; rfl⟩
    · rw [if_neg e, List.getElem?_append_left (by omega), List.getElem?_append_left (by omega), List.getElem?_append_left (by omega)]
      exact h.cells i (by omega)
  · by_cases e : i = m
    · rw [if_pos e]; exact own_later hu
    · rw [if_neg e]; exact own_later ((h.txt i (by omega)).later ha)
  · refine ⟨(hg.os.trans hb.os).trans (ha.os.trans h.below.os), (hg.tape.trans hb.tape).trans (ha.tape.trans h.below.tape), (hg.output.trans hb.output).trans (ha.output.trans h.below.output), ?_, fun k hk => ?_⟩
    · have := hg.size; have := h.below.size; simp [World.setCell]; omega
    · rw [hoth k (by omega), hblk k (by have := h.below.size; omega) (fun e => ?_), ha.block k (by have := h.below.size; omega), h.below.block k hk]
      obtain ⟨c, q, q2⟩ := own_cells h.own e
      omega
end Go.Proofs.Ytdcgokkbmplihaa

/- New of package ref03: what it answers. -/
namespace Go.Proofs.Ytdcgokkbmplihaa
open Go.RowKit
variable {w w' wr : World} {R m : Nat}

theorem RN.disk {v : Value} {T : Nat → Value} {xs : List Value} (h : RN w wr m v T xs) (h1 : 1 ≤ m) (h2 : m ≤ 4096) : ∃ G, Rk wr G w.heap.size (newD m) ∧ ∀ g ∈ G, w.heap.size ≤ g := by
  have hRl : w.heap.size < wr.heap.size := some_lt h.hR
  rcases h.own.2 with ⟨_, e0⟩ | ⟨g, cap, cur, rfl, q1, q2, q3, q4, q5, q6⟩
  · omega
  · have hlen : (newD m).bs.length = m := by simp [newD]
    have hmem : ∀ k, k ∈ List.range' w.heap.size (wr.heap.size - w.heap.size) ↔ w.heap.size ≤ k ∧ k < wr.heap.size := fun k => by
      rw [List.mem_range'_1]; omega
    refine ⟨List.range' w.heap.size (wr.heap.size - w.heap.size), ⟨g, cap, T, fun _ => .slice none 0 0, ?_⟩, fun k hk => ((hmem k).1 hk).1⟩
    refine ⟨by omega, by omega, newD_ok m, by simp [newD], ?_, ⟨cur, q2, q5, by omega, fun i hi => ?_⟩, fun i hi t ht => ?_, fun i hi ht => ?_, fun i hi => ?_, fun i j _ _ _ g hg => (by cases hg), (hmem _).2 ⟨Nat.le_refl _, hRl⟩, (hmem _).2 ⟨q1, some_lt q2⟩, fun i hi g hg => ?_, fun i hi g hg => (by cases hg), fun k hk => ((hmem k).1 hk).2⟩
    · rw [hlen]; exact h.hR
    · rw [hlen] at hi
      obtain ⟨c0, c1, c2⟩ := h.cells i hi
      have hx : ∀ k, k < m * 3 → cur[k]? = xs[k]? := fun k hk => by
        rw [← q6, List.getElem?_take, if_pos (by omega), Array.getElem?_toList]
      rw [hx _ (by omega), hx _ (by omega), hx _ (by omega), new_at]
      exact ⟨c0, c1, c2⟩
    · rw [hlen] at hi
      rw [new_at] at ht
      cases ht
      exact (h.txt i hi).down (Nat.zero_le _)
    · rw [new_at] at ht
      cases ht
    · rw [new_at]
      exact ⟨[], World.ownsRow_nil _ _ _ _, fun j hj => absurd hj (by simp [b0])⟩
    · rw [hlen] at hi
      obtain ⟨c, q, q2⟩ := ownBlock_cells (h.txt i hi).2 hg
      exact (hmem _).2 ⟨q2, some_lt q⟩
theorem rn_cells {v : Value} {T : Nat → Value} {xs : List Value} {W w2 : World} (h : RN w wr m v T xs) (hb : Below wr.heap.size wr W) (hg : W.grownBy w2 v.ownBlock) : w2.cell? ⟨w.heap.size, 0, none⟩ = some v ∧ ∀ i, w2.frozen? ⟨w.heap.size, i, none⟩ = false := by
  have hRl : w.heap.size < wr.heap.size := some_lt h.hR
  have hq : w2.heap[w.heap.size]? = wr.heap[w.heap.size]? := by
    rw [hg.block _ (by have := hb.size; omega) (fun e => ?_), hb.block _ hRl]
    obtain ⟨c, q, -⟩ := own_cells h.own e.symm
    rw [h.hR] at q
    injection q with q
    injection q with _ q
    exact absurd q (by decide)
  rw [h.hR] at hq
  exact ⟨by rw [cell_of_row _ _ _ _ _ _ hq]; rfl, fun i => by simp [World.frozen?, hq]⟩
theorem rn_step {v v' : Value} {T : Nat → Value} {xs : List Value} {W w2 : World} {ZB : Obj} {b : Option Obj} {u : Value} (h : RN w wr m v T xs) (hg : W.grownBy w2 v.ownBlock) (ho : w2.ownsRow w.heap.size 60 3 v' (m + 1) (xs ++ [u, .bool false, .slice none 0 0])) (hu : Own (wr.alloc ZB) w.heap.size u zeros) {k : Nat}
    (hQ : Below wr.heap.size wr W ∧ W.ownsRow w.heap.size 60 3 v m xs ∧ W.heap[k]? = b ∧ Below (wr.alloc ZB).heap.size (wr.alloc ZB) W) : RN w (w2.setCell ⟨w.heap.size, 0, none⟩ v') (m + 1) v' (fun i => if i = m then u else T i) (xs ++ [u, .bool false, .slice none 0 0]) ∧ w2.cell? ⟨w.heap.size, 0, none⟩ = some v ∧ ∀ i, w2.frozen? ⟨w.heap.size, i, none⟩ = false :=
  ⟨h.snoc ((Below.refl _ wr).alloc (Nat.le_refl _) ZB) hu hQ.2.2.2 hg ho, rn_cells h hQ.1 hg⟩
theorem own_slice {W : World} {N e sz n : Nat} {v : Value} {xs : List Value} (h : W.ownsRow N e sz v (n + 1) xs) : ∃ p c, v = .slice p (n + 1) c := by
  rcases h.2 with ⟨_, e0⟩ | ⟨g, cap, cur, rfl, _⟩
  · omega
  · exact ⟨_, _, rfl⟩
theorem made_zeros (w : World) (N : Nat) (hN : N ≤ w.heap.size) : Own (w.alloc (.cells (madeCells #[Value.int .u8 0] 256) 5)) N (.slice (some ⟨w.heap.size, 0, none⟩) 256 256) zeros := by
  refine own_row zeros_ok.1 zeros_ok.2 ?_ hN (by unfold maxLen; omega)
  exact (World.rowIs_made w _ 256 _).congr (fun i hi => by
    unfold zeros
    rw [List.getD_eq_getElem?_getD, List.getElem?_replicate, if_pos hi]; rfl)
set_option maxRecDepth 100000 in
set_option maxHeartbeats 4000000 in
theorem refnew_ok (n : Int) (w : World) (h1 : 1 ≤ n) (h2 : n ≤ 4096) : Calls Try.prog 10 #[.int .i64 n] w fun x w' => ∃ G R, x = .returned (.pointer (some ⟨R, 0, none⟩)) ∧ Rk w' G R (newD n.toNat) ∧ (∀ g ∈ G, w.heap.size ≤ g) ∧ Below w.heap.size w w' := by
  obtain ⟨N, hN⟩ : ∃ N : Nat, n = N := ⟨n.toNat, by omega⟩
  subst hN
  rw [Int.toNat_natCast]
  obtain ⟨ZB, hZB⟩ : ∃ ZB : Obj, ZB = .cells (madeCells #[Value.int .u8 0] 256) 5 := ⟨_, rfl⟩
  have hmk : ∀ W : World, (Instr.makeSlice 32 (.int .i64 256) (.int .i64 256)).run Try.prog W = .ok (.slice (some ⟨W.heap.size, 0, none⟩) 256 256) (W.alloc ZB) := fun W => by
    rw [hZB]
    exact run_make_row' 32 5 (.int .u8 0) 1 Try.underlying32 Try.info5 rfl .i64 .i64 256 (by omega) (by omega) W
  have HZB : Hid (∀ (W : World) (N : Nat), N ≤ W.heap.size → Own (W.alloc ZB) N (.slice (some ⟨W.heap.size, 0, none⟩) 256 256) zeros) := (show Hid _ from fun W N hN => by rw [hZB]; exact made_zeros W N hN)
  clear hZB
  go_enter Try.func10, Try.ntmps10
  go_wp2_with fail
  go_loopw [4] (fun i wr => ∃ m : Nat, m ≤ N ∧ i = .int .i64 m ∧ ∃ v T xs, Hid (RN w wr m v T xs)) (fun i _ => N - (intOf i).toNat)
  case atStart => exact ⟨0, by omega, rfl, _, _, _, (show Hid _ from ref_start w)⟩
  case round =>
    obtain ⟨m, hm, rfl, v, T, xs, HN⟩ := hrel
    by_cases hlt : m < N
    · have c0 : wr.cell? ⟨w.heap.size, 0, none⟩ = some v := by rw [cell_of_row _ _ _ _ _ _ HN.out.hR]; rfl
      have f0 : ∀ i, wr.frozen? ⟨w.heap.size, i, none⟩ = false := fun i => by simp [World.frozen?, HN.out.hR]
      have hRl : w.heap.size < wr.heap.size := some_lt HN.out.hR
      go_wp2_with fail
      have hb0 : Below wr.heap.size wr (wr.alloc ZB) := (Below.refl _ wr).alloc (Nat.le_refl _) _
      have d0 := (cell_below (i := 0) hRl hb0).trans c0
      have hb1 : Below wr.heap.size wr ((wr.alloc ZB).alloc (.cells #[.slice (some ⟨wr.heap.size, 0, none⟩) 256 256, .bool false, .slice none 0 0] 60)) := hb0.alloc hb0.size _
      have d1 := (cell_below (i := 0) hRl hb1).trans c0
      have HQ : Hid (∀ W : World, W.heap = ((wr.alloc ZB).alloc (.cells #[.slice (some ⟨wr.heap.size, 0, none⟩) 256 256, .bool false, .slice none 0 0] 60)).heap → W.os = wr.os → W.tape = wr.tape → W.output = wr.output → Below wr.heap.size wr W ∧ W.ownsRow w.heap.size 60 3 v m xs ∧ W.heap[wr.heap.size + 1]? = some (.cells #[.slice (some ⟨wr.heap.size, 0, none⟩) 256 256, .bool false, .slice none 0 0] 60 (0, 0)) ∧ Below (wr.alloc ZB).heap.size (wr.alloc ZB) W) := (show Hid _ from fun W hW e1 e2 e3 => by
        have hbW : Below wr.heap.size wr W := ⟨e1, e2, e3, by rw [hW]; exact hb1.size, fun k hk => by rw [hW]; exact hb1.block k hk⟩
        have hb2 : Below (wr.alloc ZB).heap.size (wr.alloc ZB) ((wr.alloc ZB).alloc (.cells #[.slice (some ⟨wr.heap.size, 0, none⟩) 256 256, .bool false, .slice none 0 0] 60)) := (Below.refl _ _).alloc (Nat.le_refl _) _
        refine ⟨hbW, row_keep3 HN.out.own (fun g hg => ?_), ?_, ⟨e1, e2, e3, by rw [hW]; exact hb2.size, fun k hk => by rw [hW]; exact hb2.block k hk⟩⟩
        · obtain ⟨c, q, -⟩ := own_cells HN.out.own hg
          exact hbW.block g (some_lt q)
        · rw [hW]
          have := heap_alloc_last (wr.alloc ZB) (.cells #[.slice (some ⟨wr.heap.size, 0, none⟩) 256 256, .bool false, .slice none 0 0] 60)
          simpa using this)
      have hRN := HN.out.below.size
      clear hb0 hb1
      go_region_law (refine step_app_blk (by rfl) _ _ (by rfl) w.heap.size v m xs (by rfl) (HQ.out _ rfl rfl rfl rfl).2.1 (wr.heap.size + 1) (.slice (some ⟨wr.heap.size, 0, none⟩) 256 256) (.bool false) (.slice none 0 0) (by rfl) (HQ.out _ rfl rfl rfl rfl).2.2.1 ⟨rfl, rfl, rfl⟩ (by omega) (Nat.le_trans hRN (HQ.out _ rfl rfl rfl rfl).1.size) ?_; intro v2 w2 O2 g2; obtain ⟨hx, k0, k1⟩ := rn_step HN.out g2 O2 (HZB.out wr w.heap.size hRN) (HQ.out _ rfl rfl rfl rfl); have HX : Hid (RN w (w2.setCell ⟨w.heap.size, 0, none⟩ v2) (m + 1) v2 _ _) := hx; obtain ⟨p2, c2, hv2⟩ := own_slice O2; subst hv2; have k2 := k1 0; clear hx O2 g2 k1)
      all_goals
        go_wp2
        refine ⟨⟨m + 1, by omega, by go_num, _, _, _, HX⟩, by simp [intOf]; omega⟩
    · obtain rfl : m = N := by omega
      go_wp2_with fail
      go_ret
      obtain ⟨G, q1, q2⟩ := HN.out.disk (by omega) (by omega)
      exact ⟨G, _, rfl, q1, q2, HN.out.below⟩
set_option maxRecDepth 100000 in
set_option maxHeartbeats 1000000 in
theorem refnew_no (n : Int) (w : World) (h : ¬ (1 ≤ n ∧ n ≤ 4096)) : Calls Try.prog 10 #[.int .i64 n] w fun x w' => x = .returned (.pointer none) ∧ w' = w := by
  by_cases h1 : n < 1
  · go_enter Try.func10, Try.ntmps10
    go_wp2
    go_ret
    exact ⟨rfl, rfl⟩
  · have h2 : 4096 < n := by omega
    go_enter Try.func10, Try.ntmps10
    go_wp2
    go_ret
    exact ⟨rfl, rfl⟩
end Go.Proofs.Ytdcgokkbmplihaa

/- Two disks, each beside the document's: a step on one leaves the other. -/
namespace Go.Proofs.Ytdcgokkbmplihaa
open Go.RowKit
variable {w w' w0 wr : World} {A A' A1 A2 F G : List Nat} {D R D1 R1 D2 R2 N k m1 m2 m : Nat} {s t : DSt} {o : OpD}

theorem step_any (h : Mix w A D R s s) (hu : s.upTo k) (hkk : k ≤ 1073741824) (hb : Below w0.heap.size w0 w) (hA : ∀ g ∈ A, w0.heap.size ≤ g) (ho : o.ok w0) (hl : o.blen ≤ 1073741824 ∧ o.llen ≤ 1073741824) : Calls Try.prog 13 #[.pointer (some ⟨D, 0, none⟩), .pointer (some ⟨R, 0, none⟩), .agg (opV o).toArray] w (StepPost A D R k w) := by
  by_cases k0 : o.kind = 0
  · exact step_write h hu hkk k0 hb hA ho hl.1
  by_cases k1 : o.kind = 1
  · exact step_sync h hu k1
  by_cases k2 : o.kind = 2
  · exact step_cut h hu k2 ho.n2
  by_cases k3 : o.kind = 3
  · exact step_crash h k3 hb hA ho hl.2
  · exact step_read h hu ⟨by simpa using k0, by simpa using k1, by simpa using k2, by simpa using k3⟩
def One (N : Nat) (w : World) (D R k : Nat) : Prop := ∃ A s, Mix w A D R s s ∧ s.upTo k ∧ ∀ g ∈ A, N ≤ g
def Both (N : Nat) (w : World) (D1 R1 m1 D2 R2 m2 : Nat) : Prop := ∃ A1 A2 s1 s2, Mix w A1 D1 R1 s1 s1 ∧ s1.upTo m1 ∧ Mix w A2 D2 R2 s2 s2 ∧ s2.upTo m2 ∧ (∀ g ∈ A1, g ∉ A2) ∧ (∀ g ∈ A1, N ≤ g) ∧ ∀ g ∈ A2, N ≤ g
theorem One.up (h : One N w D R k) (hk : k ≤ m) : One N w D R m := by
  obtain ⟨A, s, h1, h2, h3⟩ := h
  exact ⟨A, s, h1, h2.mono hk, h3⟩
theorem Both.swap (h : Both N w D1 R1 m1 D2 R2 m2) : Both N w D2 R2 m2 D1 R1 m1 := by
  obtain ⟨A1, A2, s1, s2, h1, h2, h3, h4, h5, h6, h7⟩ := h
  exact ⟨A2, A1, s2, s1, h3, h4, h1, h2, fun g hg hg2 => h5 g hg2 hg, h7, h6⟩
theorem Both.up (h : Both N w D1 R1 m1 D2 R2 m2) (hk : m1 ≤ m) : Both N w D1 R1 m D2 R2 m2 := by
  obtain ⟨A1, A2, s1, s2, h1, h2, h3, h4, h5, h6, h7⟩ := h
  exact ⟨A1, A2, s1, s2, h1, h2.mono hk, h3, h4, h5, h6, h7⟩
theorem One.later (h : One N w D R k) (hb : Below w.heap.size w w') : One N w' D R k := by
  obtain ⟨A, s, h1, h2, h3⟩ := h
  exact ⟨A, s, h1.later hb, h2, h3⟩
theorem Both.later (h : Both N w D1 R1 m1 D2 R2 m2) (hb : Below w.heap.size w w') : Both N w' D1 R1 m1 D2 R2 m2 := by
  obtain ⟨A1, A2, s1, s2, h1, h2, h3, h4, h5, h6, h7⟩ := h
  exact ⟨A1, A2, s1, s2, h1.later hb, h2, h3.later hb, h4, h5, h6, h7⟩
theorem One.step (h : One w0.heap.size w D R k) (hkk : k ≤ 1073741824) (hb : Below w0.heap.size w0 w) (ho : o.ok w0) (hl : o.blen ≤ 1073741824 ∧ o.llen ≤ 1073741824) : Calls Try.prog 13 #[.pointer (some ⟨D, 0, none⟩), .pointer (some ⟨R, 0, none⟩), .agg (opV o).toArray] w fun e w' => e = .returned (.bool true) ∧ One w0.heap.size w' D R (k + 1) ∧ Below w0.heap.size w0 w' := by
  obtain ⟨A, s, h1, h2, h3⟩ := h
  refine (step_any h1 h2 hkk hb h3 ho hl).mono ?_
  rintro e w' ⟨rfl, A', s', q1, q2, q3⟩
  have q4 := q3.keeps h3 hb
  exact ⟨rfl, ⟨A', s', q2, q1, q4.2⟩, q4.1⟩
theorem Both.step (h : Both w0.heap.size w D1 R1 m1 D2 R2 m2) (hkk : m1 ≤ 1073741824) (hb : Below w0.heap.size w0 w) (ho : o.ok w0) (hl : o.blen ≤ 1073741824 ∧ o.llen ≤ 1073741824) : Calls Try.prog 13 #[.pointer (some ⟨D1, 0, none⟩), .pointer (some ⟨R1, 0, none⟩), .agg (opV o).toArray] w fun e w' => e = .returned (.bool true) ∧ Both w0.heap.size w' D1 R1 (m1 + 1) D2 R2 m2 ∧ Below w0.heap.size w0 w' := by
  obtain ⟨A1, A2, s1, s2, h1, h2, h3, h4, h5, h6, h7⟩ := h
  refine (step_any h1 h2 hkk hb h6 ho hl).mono ?_
  rintro e w' ⟨rfl, A', s', q1, q2, q3⟩
  have q4 := q3.keeps h6 hb
  refine ⟨rfl, ⟨A', A2, s', s2, q2, q1, h3.chg q3.chg (fun g hg hg2 => h5 g hg2 hg), h4, fun g hg hg2 => ?_, q4.2, h7⟩, q4.1⟩
  rcases q3.new g hg with e | e
  · exact h5 g e hg2
  · exact absurd (h3.lt g hg2) (by omega)
theorem Dk.ltN (h : Dk w F D s) : ∀ g ∈ F, g < w.heap.size := h.lt
theorem one_start {wa wb wc : World} (hN : N ≤ w.heap.size) (ba : Below w.heap.size w wa) (hF : Dk wa F D s) (fF : ∀ g ∈ F, w.heap.size ≤ g) (bb : Below wa.heap.size wa wb) (hG : Rk wc G R s) (fG : ∀ g ∈ G, wb.heap.size ≤ g) (bc : Below wb.heap.size wb wc) (hu : s.upTo 0) : One N wc D R 0 := by
  have hs1 := bb.size
  refine ⟨F ++ G, s, ⟨F, G, (hF.below bb).below bc, hG, fun g hg hg2 => ?_, fun g hg => List.mem_append_left _ hg, fun g hg => List.mem_append_right _ hg, fun g hg => ?_⟩, hu, fun g hg => ?_⟩
  · have := hF.lt g hg
    have := fG g hg2
    omega
  · rcases List.mem_append.1 hg with e | e
    · have := hF.lt g e
      have := bc.size
      omega
    · exact hG.lt g e
  · have := ba.size
    rcases List.mem_append.1 hg with e | e
    · have := fF g e; omega
    · have := fG g e; omega
theorem both_start {F1 F2 G1 G2 : List Nat} {s1 s2 : DSt} {wa wb wc wd : World} (hN : N ≤ w.heap.size) (ba : Below w.heap.size w wa) (hF1 : Dk wa F1 D1 s1) (f1 : ∀ g ∈ F1, w.heap.size ≤ g) (bb : Below wa.heap.size wa wb) (hF2 : Dk wb F2 D2 s2) (f2 : ∀ g ∈ F2, wa.heap.size ≤ g) (bc : Below wb.heap.size wb wc) (hG1 : Rk wc G1 R1 s1) (g1 : ∀ g ∈ G1, wb.heap.size ≤ g) (bd : Below wc.heap.size wc wd) (hG2 : Rk wd G2 R2 s2) (g2 : ∀ g ∈ G2, wc.heap.size ≤ g) (hu1 : s1.upTo 0) (hu2 : s2.upTo 0) : Both N wd D1 R1 0 D2 R2 0 := by
  have z1 := ba.size
  have z2 := bb.size
  have z3 := bc.size
  have z4 := bd.size
  have l1 := hF1.lt
  have l2 := hF2.lt
  have l3 := hG1.lt
  have l4 := hG2.lt
  refine ⟨F1 ++ G1, F2 ++ G2, s1, s2, ⟨F1, G1, ((hF1.below bb).below bc).below bd, hG1.keep (fun g hg => bd.block g (l3 g hg)) z4, fun g hg hg2 => ?_, fun g hg => List.mem_append_left _ hg, fun g hg => List.mem_append_right _ hg, fun g hg => ?_⟩, hu1, ⟨F2, G2, (hF2.below bc).below bd, hG2, fun g hg hg2 => ?_, fun g hg => List.mem_append_left _ hg, fun g hg => List.mem_append_right _ hg, fun g hg => ?_⟩, hu2, fun g hg hg2 => ?_, fun g hg => ?_, fun g hg => ?_⟩
  · have := l1 g hg; have := g1 g hg2; omega
  · rcases List.mem_append.1 hg with e | e
    · have := l1 g e; omega
    · have := l3 g e; omega
  · have := l2 g hg; have := g2 g hg2; omega
  · rcases List.mem_append.1 hg with e | e
    · have := l2 g e; omega
    · exact l4 g e
  · rcases List.mem_append.1 hg with e | e <;> rcases List.mem_append.1 hg2 with e' | e'
    · have := l1 g e; have := f2 g e'; omega
    · have := l1 g e; have := g2 g e'; omega
    · have := g1 g e; have := l2 g e'; omega
    · have := l3 g e; have := g2 g e'; omega
  · rcases List.mem_append.1 hg with e | e
    · have := f1 g e; omega
    · have := g1 g e; omega
  · rcases List.mem_append.1 hg with e | e
    · have := f2 g e; omega
    · have := g2 g e; omega
end Go.Proofs.Ytdcgokkbmplihaa

/- What DiskPlays of package law03 answers: true. -/
namespace Go.Proofs.Ytdcgokkbmplihaa
open Go.RowKit

set_option maxRecDepth 100000 in
set_option maxHeartbeats 8000000 in
theorem plays_yy (a b : Int) (ad1 : Option Addr) (len1 cap1 : Nat) (os1 : List OpD) (ad2 : Option Addr) (len2 cap2 : Nat) (os2 : List OpD) (w : World) (ho1 : OArg w os1 ad1 len1) (ho2 : OArg w os2 ad2 len2) (hlen1 : len1 ≤ 1073741824) (hlen2 : len2 ≤ 1073741824) (hl1 : ∀ m, m < len1 → (os1.getD m op0).blen ≤ 1073741824 ∧ (os1.getD m op0).llen ≤ 1073741824) (hl2 : ∀ m, m < len2 → (os2.getD m op0).blen ≤ 1073741824 ∧ (os2.getD m op0).llen ≤ 1073741824)
    (ha : 1 ≤ a ∧ a ≤ 4096) (hb : 1 ≤ b ∧ b ≤ 4096) :
    Calls Try.prog 3 #[.int .i64 a, .int .i64 b, .slice ad1 len1 cap1, .slice ad2 len2 cap2] w fun e w' => e = .returned (.bool true) ∧ Below w.heap.size w w' := by
  have HO1 : Hid (OArg w os1 ad1 len1) := ho1
  have HO2 : Hid (OArg w os2 ad2 len2) := ho2
  have HL1 : Hid (∀ m, m < len1 → (os1.getD m op0).blen ≤ 1073741824 ∧ (os1.getD m op0).llen ≤ 1073741824) := hl1
  have HL2 : Hid (∀ m, m < len2 → (os2.getD m op0).blen ≤ 1073741824 ∧ (os2.getD m op0).llen ≤ 1073741824) := hl2
  have HAA : Hid (1 ≤ a ∧ a ≤ 4096) := ha
  have HBB : Hid (1 ≤ b ∧ b ≤ 4096) := hb
  clear ho1 ho2 hl1 hl2 ha hb
  go_enter Try.func3, Try.ntmps3
  go_wp2_with fail
  refine (new_ok a w HAA.out.1 HAA.out.2).mono ?_
  rintro x w1 ⟨F1, D1, rfl, k1, f1, b1⟩
  have K1 : Hid (Dk w1 F1 D1 (newD a.toNat) ∧ (∀ g ∈ F1, w.heap.size ≤ g) ∧ Below w.heap.size w w1) := (show Hid _ from ⟨k1, f1, b1⟩)
  clear k1 f1 b1
  go_wp2_with fail
  refine (new_ok b w1 HBB.out.1 HBB.out.2).mono ?_
  rintro x w2 ⟨F2, D2, rfl, k2, f2, b2⟩
  have K2 : Hid (Dk w2 F2 D2 (newD b.toNat) ∧ (∀ g ∈ F2, w1.heap.size ≤ g) ∧ Below w1.heap.size w1 w2) := (show Hid _ from ⟨k2, f2, b2⟩)
  clear k2 f2 b2
  go_wp2_with fail
  refine (refnew_ok a w2 HAA.out.1 HAA.out.2).mono ?_
  rintro x w3 ⟨G1, R1, rfl, k3, f3, b3⟩
  have K3 : Hid (Rk w3 G1 R1 (newD a.toNat) ∧ (∀ g ∈ G1, w2.heap.size ≤ g) ∧ Below w2.heap.size w2 w3) := (show Hid _ from ⟨k3, f3, b3⟩)
  clear k3 f3 b3
  go_wp2_with fail
  refine (refnew_ok b w3 HBB.out.1 HBB.out.2).mono ?_
  rintro x w4 ⟨G2, R2, rfl, k4, f4, b4⟩
  have K4 : Hid (Rk w4 G2 R2 (newD b.toNat) ∧ (∀ g ∈ G2, w3.heap.size ≤ g) ∧ Below w3.heap.size w3 w4) := (show Hid _ from ⟨k4, f4, b4⟩)
  clear k4 f4 b4
  have BA : Hid (Below w.heap.size w w2) := (show Hid _ from K1.out.2.2.trans (K2.out.2.2.mono K1.out.2.2.size))
  have BB : Hid (Below w.heap.size w w3) := (show Hid _ from BA.out.trans (K3.out.2.2.mono BA.out.size))
  have B4 : Hid (Below w.heap.size w w4) := (show Hid _ from BB.out.trans (K4.out.2.2.mono BB.out.size))
  have P4 : Hid (Both w.heap.size w4 D1 R1 0 D2 R2 0) := both_start (Nat.le_refl _) K1.out.2.2 K1.out.1 K1.out.2.1 K2.out.2.2 K2.out.1 K2.out.2.1 K3.out.2.2 K3.out.1 K3.out.2.1 K4.out.2.2 K4.out.1 K4.out.2.1 (newD_upTo _) (newD_upTo _)
  clear K1 K2 K3 K4 BA BB HAA HBB
  go_wp2_with (go_at_call 11; refine (num3_any _ _).mono ?_; rintro e w' ⟨rfl, hw'⟩; obtain rfl := hw'.symm)
  refine (knows3_any _).mono ?_
  rintro e w5 ⟨rfl, b5⟩
  have P5 : Hid (Both w.heap.size w5 D1 R1 0 D2 R2 0) := P4.out.later b5
  have B5 : Hid (Below w.heap.size w w5) := (show Hid _ from B4.out.trans (b5.mono B4.out.size))
  clear b5 P4 B4
  go_wp2_with fail
  go_loopw [15] (fun i wr => ∃ m : Nat, m ≤ len1 + len2 ∧ i = .int .i64 m ∧ Hid (Both w.heap.size wr D1 R1 m D2 R2 m) ∧ Hid (Below w.heap.size w wr)) (fun i _ => len1 + len2 - (intOf i).toNat)
  case atStart => exact ⟨0, by omega, rfl, P5, B5⟩
  case round =>
    obtain ⟨m, hm, rfl, HPm, HBm⟩ := hrel
    clear P5 B5
    by_cases h1 : m < len1
    · by_cases h2 : m < len2
      · have hxx : True := trivial
        obtain ⟨b1, off1, hx1, hok1, -⟩ := HO1.out.cells HBm.out h1
        subst hx1
        have HC1 : Hid (∀ W, Below w.heap.size w W → W.cell? ⟨b1, off1 + m * 6, none⟩ = some (.int .i64 (os1.getD m op0).kind) ∧ W.cell? ⟨b1, off1 + m * 6 + 1, none⟩ = some (.int .i64 (os1.getD m op0).i) ∧ W.cell? ⟨b1, off1 + m * 6 + 2, none⟩ = some (.int .i64 (os1.getD m op0).n) ∧ W.cell? ⟨b1, off1 + m * 6 + 3, none⟩ = some (.slice (os1.getD m op0).b (os1.getD m op0).blen (os1.getD m op0).bcap) ∧ W.cell? ⟨b1, off1 + m * 6 + 4, none⟩ = some (.int .u8 ((os1.getD m op0).fill : Nat)) ∧ W.cell? ⟨b1, off1 + m * 6 + 5, none⟩ = some (.slice (os1.getD m op0).l (os1.getD m op0).llen (os1.getD m op0).lcap)) := (show Hid _ from fun W hW => by
          obtain ⟨b', off', e, -, hc⟩ := HO1.out.cells hW h1
          cases e
          exact ⟨hc 0 (by omega), hc 1 (by omega), hc 2 (by omega), hc 3 (by omega), hc 4 (by omega), hc 5 (by omega)⟩)
        have HL1' : Hid ((os1.getD m op0).blen ≤ 1073741824 ∧ (os1.getD m op0).llen ≤ 1073741824) := (show Hid _ from HL1.out m h1)
        have HK1 : Hid ((os1.getD m op0).ok w) := hok1
        clear hok1
        generalize os1.getD m op0 = o1 at *
        obtain ⟨b2, off2, hx2, hok2, -⟩ := HO2.out.cells HBm.out h2
        subst hx2
        have HC2 : Hid (∀ W, Below w.heap.size w W → W.cell? ⟨b2, off2 + m * 6, none⟩ = some (.int .i64 (os2.getD m op0).kind) ∧ W.cell? ⟨b2, off2 + m * 6 + 1, none⟩ = some (.int .i64 (os2.getD m op0).i) ∧ W.cell? ⟨b2, off2 + m * 6 + 2, none⟩ = some (.int .i64 (os2.getD m op0).n) ∧ W.cell? ⟨b2, off2 + m * 6 + 3, none⟩ = some (.slice (os2.getD m op0).b (os2.getD m op0).blen (os2.getD m op0).bcap) ∧ W.cell? ⟨b2, off2 + m * 6 + 4, none⟩ = some (.int .u8 ((os2.getD m op0).fill : Nat)) ∧ W.cell? ⟨b2, off2 + m * 6 + 5, none⟩ = some (.slice (os2.getD m op0).l (os2.getD m op0).llen (os2.getD m op0).lcap)) := (show Hid _ from fun W hW => by
          obtain ⟨b', off', e, -, hc⟩ := HO2.out.cells hW h2
          cases e
          exact ⟨hc 0 (by omega), hc 1 (by omega), hc 2 (by omega), hc 3 (by omega), hc 4 (by omega), hc 5 (by omega)⟩)
        have HL2' : Hid ((os2.getD m op0).blen ≤ 1073741824 ∧ (os2.getD m op0).llen ≤ 1073741824) := (show Hid _ from HL2.out m h2)
        have HK2 : Hid ((os2.getD m op0).ok w) := hok2
        clear hok2
        generalize os2.getD m op0 = o2 at *
        obtain ⟨c0, c1, c2, c3, c4, c5⟩ := HC1.out _ HBm.out
        have ST1 : Hid (Calls Try.prog 13 #[.pointer (some ⟨D1, 0, none⟩), .pointer (some ⟨R1, 0, none⟩), .agg #[.int .i64 o1.kind, .int .i64 o1.i, .int .i64 o1.n, .slice o1.b o1.blen o1.bcap, .int .u8 (o1.fill : Nat), .slice o1.l o1.llen o1.lcap]] wr fun e w' => e = .returned (.bool true) ∧ Both w.heap.size w' D1 R1 (m + 1) D2 R2 m ∧ Below w.heap.size w w') := (show Hid _ from HPm.out.step (by omega) HBm.out HK1.out HL1'.out)
        go_wp2_with (first | (go_at_call 13; (with_reducible_and_instances (refine ST2.out.mono ?_)); rintro e w7 ⟨rfl, p7, b7⟩; have P7 : Hid (Both w.heap.size w7 D2 R2 (m + 1) D1 R1 (m + 1)) := p7; have B7 : Hid (Below w.heap.size w w7) := b7; clear p7 b7) | (go_at_call 13; (with_reducible_and_instances (refine ST1.out.mono ?_)); rintro e w6 ⟨rfl, p6, b6⟩; have P6 : Hid (Both w.heap.size w6 D1 R1 (m + 1) D2 R2 m) := p6; have B6 : Hid (Below w.heap.size w w6) := b6; obtain ⟨d0, d1, d2, d3, d4, d5⟩ := HC2.out _ B6.out; have ST2 : Hid (Calls Try.prog 13 #[.pointer (some ⟨D2, 0, none⟩), .pointer (some ⟨R2, 0, none⟩), .agg #[.int .i64 o2.kind, .int .i64 o2.i, .int .i64 o2.n, .slice o2.b o2.blen o2.bcap, .int .u8 (o2.fill : Nat), .slice o2.l o2.llen o2.lcap]] w6 fun e w' => e = .returned (.bool true) ∧ Both w.heap.size w' D2 R2 (m + 1) D1 R1 (m + 1) ∧ Below w.heap.size w w') := (show Hid _ from P6.out.swap.step (by omega) B6.out HK2.out HL2'.out); clear p6 b6))
        refine ⟨⟨m + 1, by omega, by go_num, (show Hid _ from P7.out.swap), B7⟩, by simp [intOf]; omega⟩
      · have hxx : True := trivial
        obtain ⟨b1, off1, hx1, hok1, -⟩ := HO1.out.cells HBm.out h1
        subst hx1
        have HC1 : Hid (∀ W, Below w.heap.size w W → W.cell? ⟨b1, off1 + m * 6, none⟩ = some (.int .i64 (os1.getD m op0).kind) ∧ W.cell? ⟨b1, off1 + m * 6 + 1, none⟩ = some (.int .i64 (os1.getD m op0).i) ∧ W.cell? ⟨b1, off1 + m * 6 + 2, none⟩ = some (.int .i64 (os1.getD m op0).n) ∧ W.cell? ⟨b1, off1 + m * 6 + 3, none⟩ = some (.slice (os1.getD m op0).b (os1.getD m op0).blen (os1.getD m op0).bcap) ∧ W.cell? ⟨b1, off1 + m * 6 + 4, none⟩ = some (.int .u8 ((os1.getD m op0).fill : Nat)) ∧ W.cell? ⟨b1, off1 + m * 6 + 5, none⟩ = some (.slice (os1.getD m op0).l (os1.getD m op0).llen (os1.getD m op0).lcap)) := (show Hid _ from fun W hW => by
          obtain ⟨b', off', e, -, hc⟩ := HO1.out.cells hW h1
          cases e
          exact ⟨hc 0 (by omega), hc 1 (by omega), hc 2 (by omega), hc 3 (by omega), hc 4 (by omega), hc 5 (by omega)⟩)
        have HL1' : Hid ((os1.getD m op0).blen ≤ 1073741824 ∧ (os1.getD m op0).llen ≤ 1073741824) := (show Hid _ from HL1.out m h1)
        have HK1 : Hid ((os1.getD m op0).ok w) := hok1
        clear hok1
        generalize os1.getD m op0 = o1 at *
        obtain ⟨c0, c1, c2, c3, c4, c5⟩ := HC1.out _ HBm.out
        have ST1 : Hid (Calls Try.prog 13 #[.pointer (some ⟨D1, 0, none⟩), .pointer (some ⟨R1, 0, none⟩), .agg #[.int .i64 o1.kind, .int .i64 o1.i, .int .i64 o1.n, .slice o1.b o1.blen o1.bcap, .int .u8 (o1.fill : Nat), .slice o1.l o1.llen o1.lcap]] wr fun e w' => e = .returned (.bool true) ∧ Both w.heap.size w' D1 R1 (m + 1) D2 R2 m ∧ Below w.heap.size w w') := (show Hid _ from HPm.out.step (by omega) HBm.out HK1.out HL1'.out)
        go_wp2_with (first | (go_at_call 13; (with_reducible_and_instances (refine ST1.out.mono ?_)); rintro e w6 ⟨rfl, p6, b6⟩; have P6 : Hid (Both w.heap.size w6 D1 R1 (m + 1) D2 R2 m) := p6; have B6 : Hid (Below w.heap.size w w6) := b6; clear p6 b6))
        refine ⟨⟨m + 1, by omega, by go_num, (show Hid _ from (P6.out.swap.up (by omega)).swap), B6⟩, by simp [intOf]; omega⟩
    · by_cases h2 : m < len2
      · have hxx : True := trivial
        obtain ⟨b2, off2, hx2, hok2, -⟩ := HO2.out.cells HBm.out h2
        subst hx2
        have HC2 : Hid (∀ W, Below w.heap.size w W → W.cell? ⟨b2, off2 + m * 6, none⟩ = some (.int .i64 (os2.getD m op0).kind) ∧ W.cell? ⟨b2, off2 + m * 6 + 1, none⟩ = some (.int .i64 (os2.getD m op0).i) ∧ W.cell? ⟨b2, off2 + m * 6 + 2, none⟩ = some (.int .i64 (os2.getD m op0).n) ∧ W.cell? ⟨b2, off2 + m * 6 + 3, none⟩ = some (.slice (os2.getD m op0).b (os2.getD m op0).blen (os2.getD m op0).bcap) ∧ W.cell? ⟨b2, off2 + m * 6 + 4, none⟩ = some (.int .u8 ((os2.getD m op0).fill : Nat)) ∧ W.cell? ⟨b2, off2 + m * 6 + 5, none⟩ = some (.slice (os2.getD m op0).l (os2.getD m op0).llen (os2.getD m op0).lcap)) := (show Hid _ from fun W hW => by
          obtain ⟨b', off', e, -, hc⟩ := HO2.out.cells hW h2
          cases e
          exact ⟨hc 0 (by omega), hc 1 (by omega), hc 2 (by omega), hc 3 (by omega), hc 4 (by omega), hc 5 (by omega)⟩)
        have HL2' : Hid ((os2.getD m op0).blen ≤ 1073741824 ∧ (os2.getD m op0).llen ≤ 1073741824) := (show Hid _ from HL2.out m h2)
        have HK2 : Hid ((os2.getD m op0).ok w) := hok2
        clear hok2
        generalize os2.getD m op0 = o2 at *
        obtain ⟨d0, d1, d2, d3, d4, d5⟩ := HC2.out _ HBm.out
        have ST2 : Hid (Calls Try.prog 13 #[.pointer (some ⟨D2, 0, none⟩), .pointer (some ⟨R2, 0, none⟩), .agg #[.int .i64 o2.kind, .int .i64 o2.i, .int .i64 o2.n, .slice o2.b o2.blen o2.bcap, .int .u8 (o2.fill : Nat), .slice o2.l o2.llen o2.lcap]] wr fun e w' => e = .returned (.bool true) ∧ Both w.heap.size w' D2 R2 (m + 1) D1 R1 m ∧ Below w.heap.size w w') := (show Hid _ from HPm.out.swap.step (by omega) HBm.out HK2.out HL2'.out)
        go_wp2_with (first | (go_at_call 13; (with_reducible_and_instances (refine ST2.out.mono ?_)); rintro e w7 ⟨rfl, p7, b7⟩; have P7 : Hid (Both w.heap.size w7 D2 R2 (m + 1) D1 R1 m) := p7; have B7 : Hid (Below w.heap.size w w7) := b7; clear p7 b7))
        refine ⟨⟨m + 1, by omega, by go_num, (show Hid _ from (P7.out.swap.up (by omega))), B7⟩, by simp [intOf]; omega⟩
      · go_wp2_with fail
        go_ret
        exact ⟨rfl, HBm.out⟩
set_option maxRecDepth 100000 in
set_option maxHeartbeats 8000000 in
theorem plays_yn (a b : Int) (ad1 : Option Addr) (len1 cap1 : Nat) (os1 : List OpD) (ad2 : Option Addr) (len2 cap2 : Nat) (os2 : List OpD) (w : World) (ho1 : OArg w os1 ad1 len1) (ho2 : OArg w os2 ad2 len2) (hlen1 : len1 ≤ 1073741824) (hlen2 : len2 ≤ 1073741824) (hl1 : ∀ m, m < len1 → (os1.getD m op0).blen ≤ 1073741824 ∧ (os1.getD m op0).llen ≤ 1073741824) (hl2 : ∀ m, m < len2 → (os2.getD m op0).blen ≤ 1073741824 ∧ (os2.getD m op0).llen ≤ 1073741824)
    (ha : 1 ≤ a ∧ a ≤ 4096) (hb : ¬ (1 ≤ b ∧ b ≤ 4096)) :
    Calls Try.prog 3 #[.int .i64 a, .int .i64 b, .slice ad1 len1 cap1, .slice ad2 len2 cap2] w fun e w' => e = .returned (.bool true) ∧ Below w.heap.size w w' := by
  have HO1 : Hid (OArg w os1 ad1 len1) := ho1
  have HO2 : Hid (OArg w os2 ad2 len2) := ho2
  have HL1 : Hid (∀ m, m < len1 → (os1.getD m op0).blen ≤ 1073741824 ∧ (os1.getD m op0).llen ≤ 1073741824) := hl1
  have HL2 : Hid (∀ m, m < len2 → (os2.getD m op0).blen ≤ 1073741824 ∧ (os2.getD m op0).llen ≤ 1073741824) := hl2
  have HAA : Hid (1 ≤ a ∧ a ≤ 4096) := ha
  have HBB : Hid (¬ (1 ≤ b ∧ b ≤ 4096)) := hb
  clear ho1 ho2 hl1 hl2 ha hb
  go_enter Try.func3, Try.ntmps3
  go_wp2_with fail
  refine (new_ok a w HAA.out.1 HAA.out.2).mono ?_
  rintro x w1 ⟨F1, D1, rfl, k1, f1, b1⟩
  have K1 : Hid (Dk w1 F1 D1 (newD a.toNat) ∧ (∀ g ∈ F1, w.heap.size ≤ g) ∧ Below w.heap.size w w1) := (show Hid _ from ⟨k1, f1, b1⟩)
  clear k1 f1 b1
  go_wp2_with fail
  refine (new_no b w1 HBB.out).mono ?_
  rintro x w2 ⟨rfl, b2⟩
  have K2 : Hid (True ∧ True ∧ Below w1.heap.size w1 w2) := (show Hid _ from ⟨trivial, trivial, b2⟩)
  clear b2
  go_wp2_with fail
  refine (refnew_ok a w2 HAA.out.1 HAA.out.2).mono ?_
  rintro x w3 ⟨G1, R1, rfl, k3, f3, b3⟩
  have K3 : Hid (Rk w3 G1 R1 (newD a.toNat) ∧ (∀ g ∈ G1, w2.heap.size ≤ g) ∧ Below w2.heap.size w2 w3) := (show Hid _ from ⟨k3, f3, b3⟩)
  clear k3 f3 b3
  go_wp2_with fail
  refine (refnew_no b w3 HBB.out).mono ?_
  rintro x w4 ⟨rfl, hw4⟩
  have K4 : Hid (True ∧ True ∧ Below w3.heap.size w3 w4) := (show Hid _ from ⟨trivial, trivial, by rw [hw4]; exact Below.refl _ _⟩)
  clear hw4
  have BA : Hid (Below w.heap.size w w2) := (show Hid _ from K1.out.2.2.trans (K2.out.2.2.mono K1.out.2.2.size))
  have BB : Hid (Below w.heap.size w w3) := (show Hid _ from BA.out.trans (K3.out.2.2.mono BA.out.size))
  have B4 : Hid (Below w.heap.size w w4) := (show Hid _ from BB.out.trans (K4.out.2.2.mono BB.out.size))
  have P4 : Hid (One w.heap.size w4 D1 R1 0) := (show One w.heap.size w3 D1 R1 0 from one_start (Nat.le_refl _) K1.out.2.2 K1.out.1 K1.out.2.1 K2.out.2.2 K3.out.1 K3.out.2.1 K3.out.2.2 (newD_upTo _)).later K4.out.2.2
  clear K1 K2 K3 K4 BA BB HAA HBB
  go_wp2_with (go_at_call 11; refine (num3_any _ _).mono ?_; rintro e w' ⟨rfl, hw'⟩; obtain rfl := hw'.symm)
  refine (knows3_any _).mono ?_
  rintro e w5 ⟨rfl, b5⟩
  have P5 : Hid (One w.heap.size w5 D1 R1 0) := P4.out.later b5
  have B5 : Hid (Below w.heap.size w w5) := (show Hid _ from B4.out.trans (b5.mono B4.out.size))
  clear b5 P4 B4
  go_wp2_with fail
  go_loopw [15] (fun i wr => ∃ m : Nat, m ≤ len1 + len2 ∧ i = .int .i64 m ∧ Hid (One w.heap.size wr D1 R1 m) ∧ Hid (Below w.heap.size w wr)) (fun i _ => len1 + len2 - (intOf i).toNat)
  case atStart => exact ⟨0, by omega, rfl, P5, B5⟩
  case round =>
    obtain ⟨m, hm, rfl, HPm, HBm⟩ := hrel
    clear P5 B5
    by_cases h1 : m < len1
    · by_cases h2 : m < len2
      · have hxx : True := trivial
        obtain ⟨b1, off1, hx1, hok1, -⟩ := HO1.out.cells HBm.out h1
        subst hx1
        have HC1 : Hid (∀ W, Below w.heap.size w W → W.cell? ⟨b1, off1 + m * 6, none⟩ = some (.int .i64 (os1.getD m op0).kind) ∧ W.cell? ⟨b1, off1 + m * 6 + 1, none⟩ = some (.int .i64 (os1.getD m op0).i) ∧ W.cell? ⟨b1, off1 + m * 6 + 2, none⟩ = some (.int .i64 (os1.getD m op0).n) ∧ W.cell? ⟨b1, off1 + m * 6 + 3, none⟩ = some (.slice (os1.getD m op0).b (os1.getD m op0).blen (os1.getD m op0).bcap) ∧ W.cell? ⟨b1, off1 + m * 6 + 4, none⟩ = some (.int .u8 ((os1.getD m op0).fill : Nat)) ∧ W.cell? ⟨b1, off1 + m * 6 + 5, none⟩ = some (.slice (os1.getD m op0).l (os1.getD m op0).llen (os1.getD m op0).lcap)) := (show Hid _ from fun W hW => by
          obtain ⟨b', off', e, -, hc⟩ := HO1.out.cells hW h1
          cases e
          exact ⟨hc 0 (by omega), hc 1 (by omega), hc 2 (by omega), hc 3 (by omega), hc 4 (by omega), hc 5 (by omega)⟩)
        have HL1' : Hid ((os1.getD m op0).blen ≤ 1073741824 ∧ (os1.getD m op0).llen ≤ 1073741824) := (show Hid _ from HL1.out m h1)
        have HK1 : Hid ((os1.getD m op0).ok w) := hok1
        clear hok1
        generalize os1.getD m op0 = o1 at *
        obtain ⟨c0, c1, c2, c3, c4, c5⟩ := HC1.out _ HBm.out
        have ST1 : Hid (Calls Try.prog 13 #[.pointer (some ⟨D1, 0, none⟩), .pointer (some ⟨R1, 0, none⟩), .agg #[.int .i64 o1.kind, .int .i64 o1.i, .int .i64 o1.n, .slice o1.b o1.blen o1.bcap, .int .u8 (o1.fill : Nat), .slice o1.l o1.llen o1.lcap]] wr fun e w' => e = .returned (.bool true) ∧ One w.heap.size w' D1 R1 (m + 1) ∧ Below w.heap.size w w') := (show Hid _ from HPm.out.step (by omega) HBm.out HK1.out HL1'.out)
        go_wp2_with (first | (go_at_call 13; (with_reducible_and_instances (refine ST1.out.mono ?_)); rintro e w6 ⟨rfl, p6, b6⟩; have P6 : Hid (One w.heap.size w6 D1 R1 (m + 1)) := p6; have B6 : Hid (Below w.heap.size w w6) := b6; clear p6 b6))
        refine ⟨⟨m + 1, by omega, by go_num, P6, B6⟩, by simp [intOf]; omega⟩
      · have hxx : True := trivial
        obtain ⟨b1, off1, hx1, hok1, -⟩ := HO1.out.cells HBm.out h1
        subst hx1
        have HC1 : Hid (∀ W, Below w.heap.size w W → W.cell? ⟨b1, off1 + m * 6, none⟩ = some (.int .i64 (os1.getD m op0).kind) ∧ W.cell? ⟨b1, off1 + m * 6 + 1, none⟩ = some (.int .i64 (os1.getD m op0).i) ∧ W.cell? ⟨b1, off1 + m * 6 + 2, none⟩ = some (.int .i64 (os1.getD m op0).n) ∧ W.cell? ⟨b1, off1 + m * 6 + 3, none⟩ = some (.slice (os1.getD m op0).b (os1.getD m op0).blen (os1.getD m op0).bcap) ∧ W.cell? ⟨b1, off1 + m * 6 + 4, none⟩ = some (.int .u8 ((os1.getD m op0).fill : Nat)) ∧ W.cell? ⟨b1, off1 + m * 6 + 5, none⟩ = some (.slice (os1.getD m op0).l (os1.getD m op0).llen (os1.getD m op0).lcap)) := (show Hid _ from fun W hW => by
          obtain ⟨b', off', e, -, hc⟩ := HO1.out.cells hW h1
          cases e
          exact ⟨hc 0 (by omega), hc 1 (by omega), hc 2 (by omega), hc 3 (by omega), hc 4 (by omega), hc 5 (by omega)⟩)
        have HL1' : Hid ((os1.getD m op0).blen ≤ 1073741824 ∧ (os1.getD m op0).llen ≤ 1073741824) := (show Hid _ from HL1.out m h1)
        have HK1 : Hid ((os1.getD m op0).ok w) := hok1
        clear hok1
        generalize os1.getD m op0 = o1 at *
        obtain ⟨c0, c1, c2, c3, c4, c5⟩ := HC1.out _ HBm.out
        have ST1 : Hid (Calls Try.prog 13 #[.pointer (some ⟨D1, 0, none⟩), .pointer (some ⟨R1, 0, none⟩), .agg #[.int .i64 o1.kind, .int .i64 o1.i, .int .i64 o1.n, .slice o1.b o1.blen o1.bcap, .int .u8 (o1.fill : Nat), .slice o1.l o1.llen o1.lcap]] wr fun e w' => e = .returned (.bool true) ∧ One w.heap.size w' D1 R1 (m + 1) ∧ Below w.heap.size w w') := (show Hid _ from HPm.out.step (by omega) HBm.out HK1.out HL1'.out)
        go_wp2_with (first | (go_at_call 13; (with_reducible_and_instances (refine ST1.out.mono ?_)); rintro e w6 ⟨rfl, p6, b6⟩; have P6 : Hid (One w.heap.size w6 D1 R1 (m + 1)) := p6; have B6 : Hid (Below w.heap.size w w6) := b6; clear p6 b6))
        refine ⟨⟨m + 1, by omega, by go_num, P6, B6⟩, by simp [intOf]; omega⟩
    · by_cases h2 : m < len2
      · have hxx : True := trivial
        go_wp2_with fail
        refine ⟨⟨m + 1, by omega, by go_num, (show Hid _ from HPm.out.up (by omega)), HBm⟩, by simp [intOf]; omega⟩
      · go_wp2_with fail
        go_ret
        exact ⟨rfl, HBm.out⟩
set_option maxRecDepth 100000 in
set_option maxHeartbeats 8000000 in
theorem plays_ny (a b : Int) (ad1 : Option Addr) (len1 cap1 : Nat) (os1 : List OpD) (ad2 : Option Addr) (len2 cap2 : Nat) (os2 : List OpD) (w : World) (ho1 : OArg w os1 ad1 len1) (ho2 : OArg w os2 ad2 len2) (hlen1 : len1 ≤ 1073741824) (hlen2 : len2 ≤ 1073741824) (hl1 : ∀ m, m < len1 → (os1.getD m op0).blen ≤ 1073741824 ∧ (os1.getD m op0).llen ≤ 1073741824) (hl2 : ∀ m, m < len2 → (os2.getD m op0).blen ≤ 1073741824 ∧ (os2.getD m op0).llen ≤ 1073741824)
    (ha : ¬ (1 ≤ a ∧ a ≤ 4096)) (hb : 1 ≤ b ∧ b ≤ 4096) :
    Calls Try.prog 3 #[.int .i64 a, .int .i64 b, .slice ad1 len1 cap1, .slice ad2 len2 cap2] w fun e w' => e = .returned (.bool true) ∧ Below w.heap.size w w' := by
  have HO1 : Hid (OArg w os1 ad1 len1) := ho1
  have HO2 : Hid (OArg w os2 ad2 len2) := ho2
  have HL1 : Hid (∀ m, m < len1 → (os1.getD m op0).blen ≤ 1073741824 ∧ (os1.getD m op0).llen ≤ 1073741824) := hl1
  have HL2 : Hid (∀ m, m < len2 → (os2.getD m op0).blen ≤ 1073741824 ∧ (os2.getD m op0).llen ≤ 1073741824) := hl2
  have HAA : Hid (¬ (1 ≤ a ∧ a ≤ 4096)) := ha
  have HBB : Hid (1 ≤ b ∧ b ≤ 4096) := hb
  clear ho1 ho2 hl1 hl2 ha hb
  go_enter Try.func3, Try.ntmps3
  go_wp2_with fail
  refine (new_no a w HAA.out).mono ?_
  rintro x w1 ⟨rfl, b1⟩
  have K1 : Hid (True ∧ True ∧ Below w.heap.size w w1) := (show Hid _ from ⟨trivial, trivial, b1⟩)
  clear b1
  go_wp2_with fail
  refine (new_ok b w1 HBB.out.1 HBB.out.2).mono ?_
  rintro x w2 ⟨F2, D2, rfl, k2, f2, b2⟩
  have K2 : Hid (Dk w2 F2 D2 (newD b.toNat) ∧ (∀ g ∈ F2, w1.heap.size ≤ g) ∧ Below w1.heap.size w1 w2) := (show Hid _ from ⟨k2, f2, b2⟩)
  clear k2 f2 b2
  go_wp2_with fail
  refine (refnew_no a w2 HAA.out).mono ?_
  rintro x w3 ⟨rfl, hw3⟩
  have K3 : Hid (True ∧ True ∧ Below w2.heap.size w2 w3) := (show Hid _ from ⟨trivial, trivial, by rw [hw3]; exact Below.refl _ _⟩)
  clear hw3
  go_wp2_with fail
  refine (refnew_ok b w3 HBB.out.1 HBB.out.2).mono ?_
  rintro x w4 ⟨G2, R2, rfl, k4, f4, b4⟩
  have K4 : Hid (Rk w4 G2 R2 (newD b.toNat) ∧ (∀ g ∈ G2, w3.heap.size ≤ g) ∧ Below w3.heap.size w3 w4) := (show Hid _ from ⟨k4, f4, b4⟩)
  clear k4 f4 b4
  have BA : Hid (Below w.heap.size w w2) := (show Hid _ from K1.out.2.2.trans (K2.out.2.2.mono K1.out.2.2.size))
  have BB : Hid (Below w.heap.size w w3) := (show Hid _ from BA.out.trans (K3.out.2.2.mono BA.out.size))
  have B4 : Hid (Below w.heap.size w w4) := (show Hid _ from BB.out.trans (K4.out.2.2.mono BB.out.size))
  have P4 : Hid (One w.heap.size w4 D2 R2 0) := one_start K1.out.2.2.size K2.out.2.2 K2.out.1 K2.out.2.1 K3.out.2.2 K4.out.1 K4.out.2.1 K4.out.2.2 (newD_upTo _)
  clear K1 K2 K3 K4 BA BB HAA HBB
  go_wp2_with (go_at_call 11; refine (num3_any _ _).mono ?_; rintro e w' ⟨rfl, hw'⟩; obtain rfl := hw'.symm)
  refine (knows3_any _).mono ?_
  rintro e w5 ⟨rfl, b5⟩
  have P5 : Hid (One w.heap.size w5 D2 R2 0) := P4.out.later b5
  have B5 : Hid (Below w.heap.size w w5) := (show Hid _ from B4.out.trans (b5.mono B4.out.size))
  clear b5 P4 B4
  go_wp2_with fail
  go_loopw [15] (fun i wr => ∃ m : Nat, m ≤ len1 + len2 ∧ i = .int .i64 m ∧ Hid (One w.heap.size wr D2 R2 m) ∧ Hid (Below w.heap.size w wr)) (fun i _ => len1 + len2 - (intOf i).toNat)
  case atStart => exact ⟨0, by omega, rfl, P5, B5⟩
  case round =>
    obtain ⟨m, hm, rfl, HPm, HBm⟩ := hrel
    clear P5 B5
    by_cases h1 : m < len1
    · by_cases h2 : m < len2
      · have hxx : True := trivial
        obtain ⟨b2, off2, hx2, hok2, -⟩ := HO2.out.cells HBm.out h2
        subst hx2
        have HC2 : Hid (∀ W, Below w.heap.size w W → W.cell? ⟨b2, off2 + m * 6, none⟩ = some (.int .i64 (os2.getD m op0).kind) ∧ W.cell? ⟨b2, off2 + m * 6 + 1, none⟩ = some (.int .i64 (os2.getD m op0).i) ∧ W.cell? ⟨b2, off2 + m * 6 + 2, none⟩ = some (.int .i64 (os2.getD m op0).n) ∧ W.cell? ⟨b2, off2 + m * 6 + 3, none⟩ = some (.slice (os2.getD m op0).b (os2.getD m op0).blen (os2.getD m op0).bcap) ∧ W.cell? ⟨b2, off2 + m * 6 + 4, none⟩ = some (.int .u8 ((os2.getD m op0).fill : Nat)) ∧ W.cell? ⟨b2, off2 + m * 6 + 5, none⟩ = some (.slice (os2.getD m op0).l (os2.getD m op0).llen (os2.getD m op0).lcap)) := (show Hid _ from fun W hW => by
          obtain ⟨b', off', e, -, hc⟩ := HO2.out.cells hW h2
          cases e
          exact ⟨hc 0 (by omega), hc 1 (by omega), hc 2 (by omega), hc 3 (by omega), hc 4 (by omega), hc 5 (by omega)⟩)
        have HL2' : Hid ((os2.getD m op0).blen ≤ 1073741824 ∧ (os2.getD m op0).llen ≤ 1073741824) := (show Hid _ from HL2.out m h2)
        have HK2 : Hid ((os2.getD m op0).ok w) := hok2
        clear hok2
        generalize os2.getD m op0 = o2 at *
        obtain ⟨d0, d1, d2, d3, d4, d5⟩ := HC2.out _ HBm.out
        have ST2 : Hid (Calls Try.prog 13 #[.pointer (some ⟨D2, 0, none⟩), .pointer (some ⟨R2, 0, none⟩), .agg #[.int .i64 o2.kind, .int .i64 o2.i, .int .i64 o2.n, .slice o2.b o2.blen o2.bcap, .int .u8 (o2.fill : Nat), .slice o2.l o2.llen o2.lcap]] wr fun e w' => e = .returned (.bool true) ∧ One w.heap.size w' D2 R2 (m + 1) ∧ Below w.heap.size w w') := (show Hid _ from HPm.out.step (by omega) HBm.out HK2.out HL2'.out)
        go_wp2_with (first | (go_at_call 13; (with_reducible_and_instances (refine ST2.out.mono ?_)); rintro e w7 ⟨rfl, p7, b7⟩; have P7 : Hid (One w.heap.size w7 D2 R2 (m + 1)) := p7; have B7 : Hid (Below w.heap.size w w7) := b7; clear p7 b7))
        refine ⟨⟨m + 1, by omega, by go_num, P7, B7⟩, by simp [intOf]; omega⟩
      · have hxx : True := trivial
        go_wp2_with fail
        refine ⟨⟨m + 1, by omega, by go_num, (show Hid _ from HPm.out.up (by omega)), HBm⟩, by simp [intOf]; omega⟩
    · by_cases h2 : m < len2
      · have hxx : True := trivial
        obtain ⟨b2, off2, hx2, hok2, -⟩ := HO2.out.cells HBm.out h2
        subst hx2
        have HC2 : Hid (∀ W, Below w.heap.size w W → W.cell? ⟨b2, off2 + m * 6, none⟩ = some (.int .i64 (os2.getD m op0).kind) ∧ W.cell? ⟨b2, off2 + m * 6 + 1, none⟩ = some (.int .i64 (os2.getD m op0).i) ∧ W.cell? ⟨b2, off2 + m * 6 + 2, none⟩ = some (.int .i64 (os2.getD m op0).n) ∧ W.cell? ⟨b2, off2 + m * 6 + 3, none⟩ = some (.slice (os2.getD m op0).b (os2.getD m op0).blen (os2.getD m op0).bcap) ∧ W.cell? ⟨b2, off2 + m * 6 + 4, none⟩ = some (.int .u8 ((os2.getD m op0).fill : Nat)) ∧ W.cell? ⟨b2, off2 + m * 6 + 5, none⟩ = some (.slice (os2.getD m op0).l (os2.getD m op0).llen (os2.getD m op0).lcap)) := (show Hid _ from fun W hW => by
          obtain ⟨b', off', e, -, hc⟩ := HO2.out.cells hW h2
          cases e
          exact ⟨hc 0 (by omega), hc 1 (by omega), hc 2 (by omega), hc 3 (by omega), hc 4 (by omega), hc 5 (by omega)⟩)
        have HL2' : Hid ((os2.getD m op0).blen ≤ 1073741824 ∧ (os2.getD m op0).llen ≤ 1073741824) := (show Hid _ from HL2.out m h2)
        have HK2 : Hid ((os2.getD m op0).ok w) := hok2
        clear hok2
        generalize os2.getD m op0 = o2 at *
        obtain ⟨d0, d1, d2, d3, d4, d5⟩ := HC2.out _ HBm.out
        have ST2 : Hid (Calls Try.prog 13 #[.pointer (some ⟨D2, 0, none⟩), .pointer (some ⟨R2, 0, none⟩), .agg #[.int .i64 o2.kind, .int .i64 o2.i, .int .i64 o2.n, .slice o2.b o2.blen o2.bcap, .int .u8 (o2.fill : Nat), .slice o2.l o2.llen o2.lcap]] wr fun e w' => e = .returned (.bool true) ∧ One w.heap.size w' D2 R2 (m + 1) ∧ Below w.heap.size w w') := (show Hid _ from HPm.out.step (by omega) HBm.out HK2.out HL2'.out)
        go_wp2_with (first | (go_at_call 13; (with_reducible_and_instances (refine ST2.out.mono ?_)); rintro e w7 ⟨rfl, p7, b7⟩; have P7 : Hid (One w.heap.size w7 D2 R2 (m + 1)) := p7; have B7 : Hid (Below w.heap.size w w7) := b7; clear p7 b7))
        refine ⟨⟨m + 1, by omega, by go_num, P7, B7⟩, by simp [intOf]; omega⟩
      · go_wp2_with fail
        go_ret
        exact ⟨rfl, HBm.out⟩
set_option maxRecDepth 100000 in
set_option maxHeartbeats 8000000 in
theorem plays_nn (a b : Int) (ad1 : Option Addr) (len1 cap1 : Nat) (os1 : List OpD) (ad2 : Option Addr) (len2 cap2 : Nat) (os2 : List OpD) (w : World) (ho1 : OArg w os1 ad1 len1) (ho2 : OArg w os2 ad2 len2) (hlen1 : len1 ≤ 1073741824) (hlen2 : len2 ≤ 1073741824) (hl1 : ∀ m, m < len1 → (os1.getD m op0).blen ≤ 1073741824 ∧ (os1.getD m op0).llen ≤ 1073741824) (hl2 : ∀ m, m < len2 → (os2.getD m op0).blen ≤ 1073741824 ∧ (os2.getD m op0).llen ≤ 1073741824)
    (ha : ¬ (1 ≤ a ∧ a ≤ 4096)) (hb : ¬ (1 ≤ b ∧ b ≤ 4096)) :
    Calls Try.prog 3 #[.int .i64 a, .int .i64 b, .slice ad1 len1 cap1, .slice ad2 len2 cap2] w fun e w' => e = .returned (.bool true) ∧ Below w.heap.size w w' := by
  have HO1 : Hid (OArg w os1 ad1 len1) := ho1
  have HO2 : Hid (OArg w os2 ad2 len2) := ho2
  have HL1 : Hid (∀ m, m < len1 → (os1.getD m op0).blen ≤ 1073741824 ∧ (os1.getD m op0).llen ≤ 1073741824) := hl1
  have HL2 : Hid (∀ m, m < len2 → (os2.getD m op0).blen ≤ 1073741824 ∧ (os2.getD m op0).llen ≤ 1073741824) := hl2
  have HAA : Hid (¬ (1 ≤ a ∧ a ≤ 4096)) := ha
  have HBB : Hid (¬ (1 ≤ b ∧ b ≤ 4096)) := hb
  clear ho1 ho2 hl1 hl2 ha hb
  go_enter Try.func3, Try.ntmps3
  go_wp2_with fail
  refine (new_no a w HAA.out).mono ?_
  rintro x w1 ⟨rfl, b1⟩
  have K1 : Hid (True ∧ True ∧ Below w.heap.size w w1) := (show Hid _ from ⟨trivial, trivial, b1⟩)
  clear b1
  go_wp2_with fail
  refine (new_no b w1 HBB.out).mono ?_
  rintro x w2 ⟨rfl, b2⟩
  have K2 : Hid (True ∧ True ∧ Below w1.heap.size w1 w2) := (show Hid _ from ⟨trivial, trivial, b2⟩)
  clear b2
  go_wp2_with fail
  refine (refnew_no a w2 HAA.out).mono ?_
  rintro x w3 ⟨rfl, hw3⟩
  have K3 : Hid (True ∧ True ∧ Below w2.heap.size w2 w3) := (show Hid _ from ⟨trivial, trivial, by rw [hw3]; exact Below.refl _ _⟩)
  clear hw3
  go_wp2_with fail
  refine (refnew_no b w3 HBB.out).mono ?_
  rintro x w4 ⟨rfl, hw4⟩
  have K4 : Hid (True ∧ True ∧ Below w3.heap.size w3 w4) := (show Hid _ from ⟨trivial, trivial, by rw [hw4]; exact Below.refl _ _⟩)
  clear hw4
  have BA : Hid (Below w.heap.size w w2) := (show Hid _ from K1.out.2.2.trans (K2.out.2.2.mono K1.out.2.2.size))
  have BB : Hid (Below w.heap.size w w3) := (show Hid _ from BA.out.trans (K3.out.2.2.mono BA.out.size))
  have B4 : Hid (Below w.heap.size w w4) := (show Hid _ from BB.out.trans (K4.out.2.2.mono BB.out.size))
  have P4 : Hid True := (show Hid _ from trivial)
  clear K1 K2 K3 K4 BA BB HAA HBB
  go_wp2_with (go_at_call 11; refine (num3_any _ _).mono ?_; rintro e w' ⟨rfl, hw'⟩; obtain rfl := hw'.symm)
  refine (knows3_any _).mono ?_
  rintro e w5 ⟨rfl, b5⟩
  have P5 : Hid (True) := P4
  have B5 : Hid (Below w.heap.size w w5) := (show Hid _ from B4.out.trans (b5.mono B4.out.size))
  clear b5 P4 B4
  go_wp2_with fail
  go_loopw [15] (fun i wr => ∃ m : Nat, m ≤ len1 + len2 ∧ i = .int .i64 m ∧ Hid (True) ∧ Hid (Below w.heap.size w wr)) (fun i _ => len1 + len2 - (intOf i).toNat)
  case atStart => exact ⟨0, by omega, rfl, P5, B5⟩
  case round =>
    obtain ⟨m, hm, rfl, HPm, HBm⟩ := hrel
    clear P5 B5
    by_cases h1 : m < len1
    · by_cases h2 : m < len2
      · have hxx : True := trivial
        go_wp2_with fail
        refine ⟨⟨m + 1, by omega, by go_num, (show Hid _ from trivial), HBm⟩, by simp [intOf]; omega⟩
      · have hxx : True := trivial
        go_wp2_with fail
        refine ⟨⟨m + 1, by omega, by go_num, (show Hid _ from trivial), HBm⟩, by simp [intOf]; omega⟩
    · by_cases h2 : m < len2
      · have hxx : True := trivial
        go_wp2_with fail
        refine ⟨⟨m + 1, by omega, by go_num, (show Hid _ from trivial), HBm⟩, by simp [intOf]; omega⟩
      · go_wp2_with fail
        go_ret
        exact ⟨rfl, HBm.out⟩
theorem diskPlays_any (a b : Int) (ad1 : Option Addr) (len1 cap1 : Nat) (os1 : List OpD) (ad2 : Option Addr) (len2 cap2 : Nat) (os2 : List OpD) (w : World) (ho1 : OArg w os1 ad1 len1) (ho2 : OArg w os2 ad2 len2) (hlen1 : len1 ≤ 1073741824) (hlen2 : len2 ≤ 1073741824) (hl1 : ∀ m, m < len1 → (os1.getD m op0).blen ≤ 1073741824 ∧ (os1.getD m op0).llen ≤ 1073741824) (hl2 : ∀ m, m < len2 → (os2.getD m op0).blen ≤ 1073741824 ∧ (os2.getD m op0).llen ≤ 1073741824) :
    Calls Try.prog 3 #[.int .i64 a, .int .i64 b, .slice ad1 len1 cap1, .slice ad2 len2 cap2] w fun e w' => e = .returned (.bool true) ∧ Below w.heap.size w w' := by
  by_cases ha : 1 ≤ a ∧ a ≤ 4096
  · by_cases hb : 1 ≤ b ∧ b ≤ 4096
    · exact plays_yy a b ad1 len1 cap1 os1 ad2 len2 cap2 os2 w ho1 ho2 hlen1 hlen2 hl1 hl2 ha hb
    · exact plays_yn a b ad1 len1 cap1 os1 ad2 len2 cap2 os2 w ho1 ho2 hlen1 hlen2 hl1 hl2 ha hb
  · by_cases hb : 1 ≤ b ∧ b ≤ 4096
    · exact plays_ny a b ad1 len1 cap1 os1 ad2 len2 cap2 os2 w ho1 ho2 hlen1 hlen2 hl1 hl2 ha hb
    · exact plays_nn a b ad1 len1 cap1 os1 ad2 len2 cap2 os2 w ho1 ho2 hlen1 hlen2 hl1 hl2 ha hb
end Go.Proofs.Ytdcgokkbmplihaa

/- What the bound of an '..UptoSaid' gives of a slice of Ops, and of the bytes and numbers of each. -/
namespace Go.Proofs.Ytdcgokkbmplihaa
open Go.RowKit
open Go.ChangeShapes Go.WideShapes Go.ChangeAt
variable {H : Type} {enc : TypeId × Value → H} {W : World}

theorem bulk_mem {d : DataW H} {ds : List (DataW H)} (h : d ∈ ds) : Rows.uptoBulk d ≤ Rows.uptoBulkAll ds := by
  induction ds with
  | nil => cases h
  | cons x r ih =>
    rw [Rows.uptoBulkAll]
    rcases List.mem_cons.1 h with rfl | h
    · omega
    · have := ih h; omega
theorem trod6b {P : Program} {t : TypeId} {f0 f1 f2 f3 f4 f5 : Field} {fuel : Nat} {cs : List Value} {x : DataW H × List MemPlace} (ht : P.underlying t = some (.struct #[f0, f1, f2, f3, f4, f5])) (h : DataW.trod enc P W 0 (fun _ => true) true fuel t cs = some x) :
    ∃ y3 y5 n, Rows.uptoBulk y3.1 ≤ Rows.uptoBulk x.1 ∧ Rows.uptoBulk y5.1 ≤ Rows.uptoBulk x.1 ∧
      DataW.trod enc P W 0 (fun _ => true) true n f3.type ((cs.drop f3.offset).take (P.cellsOf f3.type)) = some y3 ∧
      DataW.trod enc P W 0 (fun _ => true) true n f5.type ((cs.drop f5.offset).take (P.cellsOf f5.type)) = some y5 := by
  obtain ⟨xs, n, _, rfl, hl, hlen, hf⟩ := DataW.trod_struct ht h
  obtain ⟨y0, y1, y2, y3, y4, y5, rfl⟩ := list6 (hlen.trans rfl)
  refine ⟨y3, y5, n, ?_, ?_, by simpa using hf 3 f3 rfl, by simpa using hf 5 f5 rfl⟩
  all_goals
    simp only [List.map_cons, List.map_nil, Rows.uptoBulk, Rows.uptoBulkAll]
    omega
theorem open_op2 {n : Nat} {cs : List Value} {x : DataW H × List MemPlace} (h : DataW.trod enc Try.prog W 0 (fun _ => true) true n 35 cs = some x) : ∃ o : OpD, cs = opV o ∧ o.ok W ∧ o.blen ≤ Rows.uptoBulk x.1 ∧ o.llen ≤ Rows.uptoBulk x.1 := by
  obtain ⟨o, rfl, hok⟩ := open_op h
  obtain ⟨y3, y5, m, e3, e5, f3, f5⟩ := trod6b Try.underlying35 h
  obtain ⟨-, k2, -, k4⟩ := Try.cells1
  simp only [opV, k2, k4, List.drop_succ_cons, List.drop_zero, List.take_succ_cons, List.take_zero] at f3 f5
  have b3 : o.blen ≤ Rows.uptoBulk y3.1 := bulk_slice (p := y3.2) ⟨m, f3⟩
  have b5 : o.llen ≤ Rows.uptoBulk y5.1 := bulk_nums (p := y5.2) ⟨m, f5⟩
  exact ⟨o, rfl, hok, Nat.le_trans b3 e3, Nat.le_trans b5 e5⟩
theorem open_ops2 {ad : Option Addr} {len cap : Nat} {d : DataW H} {p : List MemPlace} (h : DataW.Trod enc Try.prog W 0 (fun _ => true) true 22 (.slice ad len cap) d p) : ∃ os, OArg W os ad len ∧ len ≤ Rows.uptoBulk d ∧ ∀ m, m < len → (os.getD m op0).blen ≤ Rows.uptoBulk d ∧ (os.getD m op0).llen ≤ Rows.uptoBulk d := by
  have hbl := bulk_ops h
  obtain ⟨fuel, hf⟩ := h
  rcases Go.Deep.open_slice Try.underlying22 hf with ⟨hcs, -⟩ | ⟨a, len, cap, m, n', D, Pl, hcs, _, hl, hm, hmm, hx, hV⟩
  · simp [Value.cells] at hcs
    obtain ⟨rfl, rfl, rfl⟩ := hcs
    exact ⟨[], ⟨rfl, Or.inl rfl, fun _ h => (by cases h), by omega⟩, hbl, fun m hm => absurd hm (by omega)⟩
  · simp [Value.cells] at hcs
    obtain ⟨rfl, rfl, rfl⟩ := hcs
    simp only [if_true] at hmm
    rw [Try.cellsO] at hV
    have hD : ∀ i, i < len → Rows.uptoBulk (D i) ≤ Rows.uptoBulk d := fun i hi => by
      simp only [Prod.mk.injEq] at hx
      have h := bulk_mem (d := D i) (ds := (List.range len).map D) (List.mem_map.2 ⟨i, List.mem_range.2 hi, rfl⟩)
      rw [hx.1, Rows.uptoBulk]
      omega
    have each : ∀ i, i < len → ∃ o : OpD, (∀ j, j < 6 → W.cell? (a.add (i * 6 + j)) = (opV o)[j]?) ∧ o.ok W ∧ o.blen ≤ Rows.uptoBulk d ∧ o.llen ≤ Rows.uptoBulk d := by
      intro i hi
      obtain ⟨cs', h1, h2⟩ := hV i (by omega)
      obtain ⟨o, rfl, hok, q1, q2⟩ := open_op2 h2
      obtain ⟨_, _, hcell⟩ := World.cells?_some h1
      refine ⟨o, fun j hj => ?_, hok, Nat.le_trans q1 (hD i hi), Nat.le_trans q2 (hD i hi)⟩
      have e := hcell j hj
      rw [Go.Deep.add_add] at e
      exact e
    obtain ⟨f, hf2⟩ := @Go.Deep.choose_lt OpD ⟨op0⟩ _ _ each
    have hlen : ((List.range len).map f).length = len := by simp
    have hget : ∀ i, i < len → ((List.range len).map f).getD i op0 = f i := fun i hi => by
      rw [List.getD_eq_getElem?_getD, List.getElem?_map, List.getElem?_range hi]; rfl
    refine ⟨(List.range len).map f, ⟨hlen, ?_, ?_, by unfold maxLen at hm; omega⟩, hbl, fun m hm => by rw [hget m hm]; exact (hf2 m hm).2.2⟩
    · by_cases h0 : len = 0
      · exact Or.inl h0
      · right
        obtain ⟨b, off, spot⟩ := a
        have hc0 := (hf2 0 (by omega)).1 0 (by omega)
        have hc1 : W.cell? ((⟨b, off, spot⟩ : Addr).add (0 * 6 + 0)) = some (.int .i64 (f 0).kind) := hc0
        have hspot : spot = none := by simpa [Addr.add] using World.cell?_spot hc1
        subst hspot
        have hb : b < W.heap.size := by
          rcases Nat.lt_or_ge b W.heap.size with h | h
          · exact h
          · simp [Addr.add, World.cell?, Array.getElem?_eq_none h] at hc1
        refine ⟨b, off, rfl, hb, ?_⟩
        intro i hi j hj
        have e := (hf2 i hi).1 j hj
        rw [addr_add] at e
        rw [hget i hi, Nat.add_assoc]
        exact e
    · intro o ho
      obtain ⟨i, hi, rfl⟩ := List.mem_map.1 ho
      exact (hf2 i (List.mem_range.1 hi)).2.1
end Go.Proofs.Ytdcgokkbmplihaa
