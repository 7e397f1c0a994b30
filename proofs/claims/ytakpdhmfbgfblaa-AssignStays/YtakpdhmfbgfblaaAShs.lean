/- Shares in memory: a slice of them that the call made, each with its partitions in a row of its own. -/
import Derived.Test.YtakpdhmfbgfblaaAPickW
import Derived.Deep.RegionHeld3
import Derived.OrdersHeld
namespace Go.Proofs.Ytakpdhmfbgfblaa
open Go.RowKit Go.Sort
variable {w w' : World} {base : Nat} {v : Value}

abbrev ShA := Nm × Sl
def sh0 : ShA := ([], sl0)
/-- In w the value v is a slice of shares that was made from base on: A has their cells, P their partitions. -/
structure Shs (w : World) (base : Nat) (v : Value) (A : List ShA) (P : List (List Int)) : Prop where
  row : OwnK kSh w base v A
  len : A.length = P.length
  part : ∀ i, i < A.length → OwnK kZ w base (A.getD i sh0).2.v (P.getD i [])
  apart : ∀ i j g, i < A.length → j < A.length → i ≠ j → (A.getD i sh0).2.v.ownBlock = some g → (A.getD j sh0).2.v.ownBlock ≠ some g
theorem Sl.own {s : Sl} {l : List Int} (h : OwnK kZ w base s.v l) : s.m = l.length := by
  obtain ⟨ad, c, e, -⟩ := h.form kZ_ok.tofit
  unfold Sl.v at e
  injection e
theorem Shs.keep {A : List ShA} {P : List (List Int)} (h : Shs w base v A P) (hk : ∀ g, base ≤ g → g < w.heap.size → w'.heap[g]? = w.heap[g]?) : Shs w' base v A P :=
  ⟨h.row.keep (fun g hg => hk g (h.row.block g hg).1 (h.row.block g hg).2.1), h.len, fun i hi => (h.part i hi).keep (fun g hg => hk g ((h.part i hi).block g hg).1 ((h.part i hi).block g hg).2.1), h.apart⟩
theorem Shs.later {A : List ShA} {P : List (List Int)} (h : Shs w base v A P) (hb : Below w.heap.size w w') : Shs w' base v A P := h.keep (fun g _ hg => hb.block g hg)
theorem Shs.chg {A : List ShA} {P : List (List Int)} {F : List Nat} (h : Shs w base v A P) (hc : Chg F w w') (hF : ∀ g ∈ F, g < base) : Shs w' base v A P := h.keep (fun g hb hg => hc.block g hg (fun hm => by have := hF g hm; omega))
theorem Shs.mono {A : List ShA} {P : List (List Int)} {base' : Nat} (h : Shs w base v A P) (hb : base' ≤ base) : Shs w base' v A P := ⟨h.row.mono hb, h.len, fun i hi => (h.part i hi).mono hb, h.apart⟩
theorem map_nil_getD (s : List Nm) (i : Nat) : ((s.map (fun nm => ((nm, sl0) : ShA))).getD i sh0).2 = sl0 := by
  rw [List.getD_eq_getElem?_getD, List.getElem?_map]
  cases s[i]? <;> rfl
theorem Shs.new {s : List Nm} (h : OwnK kSh w base v (s.map (fun nm => (nm, sl0)))) : Shs w base v (s.map (fun nm => (nm, sl0))) (List.replicate s.length []) := by
  refine ⟨h, by simp, fun i hi => ?_, fun i j g _ _ _ hg => ?_⟩
  · rw [map_nil_getD, List.getD_eq_getElem?_getD, List.getElem?_replicate]
    have : OwnK kZ w base sl0.v [] := OwnK.nil (K := kZ) w base
    split <;> exact this
  · rw [map_nil_getD] at hg; cases hg
theorem getD_set_same {α : Type} (l : List α) (z x : α) (i : Nat) (h : i < l.length) : (l.set i x).getD i z = x := by
  rw [List.getD_eq_getElem?_getD, List.getElem?_set_self h]; rfl
theorem getD_set_other {α : Type} (l : List α) (z x : α) (i j : Nat) (h : i ≠ j) : (l.set i x).getD j z = l.getD j z := by
  rw [List.getD_eq_getElem?_getD, List.getElem?_set_ne h, ← List.getD_eq_getElem?_getD]
theorem Vs_set (A : List ShA) (i : Nat) (s : Sl) (hi : i < A.length) : kSh.Vs (A.set i ((A.getD i sh0).1, s)) = (kSh.Vs A).set (i * 2 + 1) s.v := by
  induction A generalizing i with
  | nil => simp at hi
  | cons a A ih =>
    cases i with
    | zero => rfl
    | succ i =>
      have e := ih i (by simp at hi; omega)
      show kSh.V a ++ kSh.Vs (A.set i ((A.getD i sh0).1, s)) = _
      rw [e]
      show _ = (.string (nmS a.1) :: .slice a.2.ad a.2.m a.2.c :: kSh.Vs A).set ((i + 1) * 2 + 1) s.v
      rw [show (i + 1) * 2 + 1 = (i * 2 + 1) + 1 + 1 by omega]
      rfl
/-- One share's partitions put into the row. -/
theorem row_set {g n c : Nat} {A : List ShA} (h : OwnK kSh w base (.slice (some ⟨g, 0, none⟩) n c) A) (i : Nat) (hi : i < A.length) (s : Sl) : OwnK kSh (w.setCell ⟨g, i * 2 + 1, none⟩ s.v) base (.slice (some ⟨g, 0, none⟩) n c) (A.set i ((A.getD i sh0).1, s)) := by
  rcases h.2 with ⟨e, -⟩ | ⟨g', cap, cur, e, hb, hg, hn, hm, hs, ht⟩
  · cases e
  · obtain ⟨rfl, rfl, rfl⟩ : g = g' ∧ n = A.length ∧ c = cap := by injection e with e1 e2 e3; injection e1 with e1; injection e1 with e1; exact ⟨e1, e2, e3⟩
    have hB : Blk w g cur 35 := hg
    refine ⟨by rw [Kd.fit.Vs_len kSh_ok.tofit], Or.inr ⟨g, c, _, by rw [List.length_set], hb, hB.set (i * 2 + 1) s.v, by rw [List.length_set]; exact hn, hm, by rw [Array.size_setIfInBounds]; exact hs, ?_⟩⟩
    rw [List.length_set, Vs_set A i s hi, ← ht]
    have hsz : kSh.sz = 2 := rfl
    rw [hsz]
    rw [Array.toList_setIfInBounds, List.take_set]
theorem run_app_empty {t ty e : TypeId} {i0 : TypeInfo} {size n c : Nat} {xs : List Value} {x : Addr} (ht : Try.prog.underlying t = some (.slice e)) (hi : Try.prog.info? e = some i0) (hown : w.ownsRow base e size v n xs) : (Builtin.append_ #[t, t] ty #[v, .slice (some x) 0 c]).run Try.prog w = .ok v w := by
  have hfc := run_firstCells_some (P := Try.prog) w i0.size 0 x 0 c [] (by simp) (fun j u hu => by simp at hu)
  rcases hown.2 with ⟨rfl, rfl⟩ | ⟨g, cap, cur, rfl, _, _, hnc, _⟩
  · simp [Builtin.append_, run_underlying ht, sizeOf, typeInfo, hi, Builtin.lenOf, hfc]
  · simp [Builtin.append_, run_underlying ht, sizeOf, typeInfo, hi, Builtin.lenOf, hfc, hnc, storeCells]
/-- 'append(v, x...)', both of the call's own, as one step of a region that draws its order; where the answer lies. -/
theorem step_app_got {ops : Array Oper} {o : Oper} {a : Act} {Kn : Act → World → Prop} {Q : Exit → Act → World → Prop} {E : Prop} (hgd : o.guard = none) (s x : Operand)
    (ho : o.op = .call { callee := .builtin .append, args := #[s, x], argTypes := #[33, 33] })
    (base base2 : Nat) (v vg : Value) (L got : List Int) (hs : a.eval s = v) (hown : OwnK kZ w base v L) (hx : a.eval x = vg) (hgot : OwnK kZ w base2 vg got)
    (hlen : L.length + got.length ≤ 1048576) (hbase : base ≤ w.heap.size)
    (h : ∀ (s' : Sl) w', s'.m = L.length + got.length → OwnK kZ w' base s'.v (L ++ got) → w.grownBy w' v.ownBlock → (∀ g, s'.v.ownBlock = some g → v.ownBlock = some g ∨ w.heap.size ≤ g) → Kn (a.put o.dst s'.v) w') :
    if Region.wanted o (yielded ops a.tmps) = true then Oper.wp Try.prog o a w Kn Q else E := by
  have hw : Region.wanted o (yielded ops a.tmps) = true := by simp [Region.wanted, hgd]
  rw [if_pos hw]
  obtain ⟨i0, hi, hz0, hz1, hz2⟩ := info_parts kZ_ok.info
  have hund : Try.prog.underlying 33 = some (.slice 3) := kZ_ok.und
  have hsame : got = [] → (Builtin.append_ #[33, 33] o.type #[v, vg]).run Try.prog w = .ok v w → Oper.wp Try.prog o a w Kn Q := fun h0 hr => by
    obtain ⟨ad, c, e, -⟩ := hown.form kZ_ok.tofit
    have hk := h ⟨ad, L.length, c⟩ w (by rw [h0]; rfl) (by rw [h0, List.append_nil]; rw [e] at hown; exact hown) (World.grownBy.refl _ _) (fun g hg => Or.inl (by rw [e]; exact hg))
    unfold Oper.wp
    simp only [execOp, ho, resolve, invoke, builtin, Sem.run_bind, Sem.run_pure, Result.andThen_ok, List.map_toArray, List.map_cons, List.map_nil, hs, hx, hr]
    rw [e]
    exact hk
  rcases hgot.2 with ⟨rfl, h0⟩ | ⟨g, cap, cur, rfl, -⟩
  · exact hsame (List.eq_nil_of_length_eq_zero h0) (run_append_owned_none (P := Try.prog) (w := w) base _ _ _ i0 1 hund hi v _ _ hown)
  · by_cases h0 : got = []
    · subst h0
      exact hsame rfl (run_app_empty hund hi hown)
    · obtain ⟨ad2, c2, e2, hA⟩ := hgot.form kZ_ok.tofit
      cases e2
      have hgl : 0 < got.length := List.length_pos_iff.2 h0
      refine wp_append_lies w s x 33 ho base 3 i0 _ 1 8 hund hi hz0 hz1 hz2 rfl (by decide) v L.length _ hs hown ⟨g, 0, none⟩ got.length cap (kZ.Vs got) hx (by rw [kZ_ok.tofit.Vs_len]) (hA.row.cells kZ_ok.tofit _ rfl) (kZ_ok.Vs_ones _) hgl (by unfold maxLen; omega) (by omega) hbase w.heap.size rfl ?_
      intro b cap' w' h1 h2 h3 _
      refine h ⟨some ⟨b, 0, none⟩, L.length + got.length, cap'⟩ w' rfl ?_ h2 (fun g' hg' => ?_)
      · unfold OwnK
        rw [List.length_append, Kd.Vs_append]
        exact h1
      · have : b = g' := by cases hg'; rfl
        subst this
        rcases h3 with h3 | h3
        · exact Or.inl h3
        · exact Or.inr (by omega)
/-- What one step leaves of the shares: i's partitions are more. -/
theorem Shs.step {W w3 : World} {g n c i : Nat} {A : List ShA} {P : List (List Int)} {s' : Sl} {got : List Int} (h : Shs W base (.slice (some ⟨g, 0, none⟩) n c) A P) (hi : i < A.length) (hO : OwnK kZ w3 base s'.v (P.getD i [] ++ got)) (hg : W.grownBy w3 (A.getD i sh0).2.v.ownBlock) (hl : ∀ b, s'.v.ownBlock = some b → (A.getD i sh0).2.v.ownBlock = some b ∨ W.heap.size ≤ b) :
    Shs (w3.setCell ⟨g, i * 2 + 1, none⟩ s'.v) base (.slice (some ⟨g, 0, none⟩) n c) (A.set i ((A.getD i sh0).1, s')) (P.set i (P.getD i [] ++ got)) := by
  have hgr := h.row.block g rfl
  obtain ⟨cur, hgc⟩ := hgr.2.2
  have hgc' : W.heap[g]? = some (.cells cur 35 (0, 0)) := hgc
  have hne : ∀ j b, j < A.length → (A.getD j sh0).2.v.ownBlock = some b → b ≠ g := fun j b hj hb e => by
    obtain ⟨cur2, h2⟩ := ((h.part j hj).block b hb).2.2
    rw [e, hgc'] at h2
    simp at h2
  have hne' : ∀ b, s'.v.ownBlock = some b → b ≠ g := fun b hb e => by
    rcases hl b hb with h1 | h1
    · exact hne i b hi h1 e
    · have := hgr.2.1; omega
  have hrow3 : OwnK kSh w3 base (.slice (some ⟨g, 0, none⟩) n c) A := h.row.keep (fun g' hg' => hg.block g' (h.row.block g' hg').2.1 (fun e => hne i g' hi e.symm (by cases hg'; rfl)))
  have hset : ∀ k, k ≠ g → (w3.setCell ⟨g, i * 2 + 1, none⟩ s'.v).heap[k]? = w3.heap[k]? := fun k hk => Below.heap_setCell _ _ _ _ hk
  refine ⟨row_set hrow3 i hi s', by rw [List.length_set, List.length_set]; exact h.len, fun j hj => ?_, fun j k b hj hk hjk hb => ?_⟩
  · rw [List.length_set] at hj
    by_cases e : i = j
    · subst e
      rw [getD_set_same _ _ _ _ hi, getD_set_same _ _ _ _ (by rw [← h.len]; exact hi)]
      exact hO.keep (fun b hb => hset b (hne' b hb))
    · rw [getD_set_other _ _ _ _ _ e, getD_set_other _ _ _ _ _ e]
      have hp := h.part j hj
      refine (hp.keep (w' := w3) (fun b hb => hg.block b (hp.block b hb).2.1 (fun e2 => h.apart i j b hi hj e e2.symm hb))).keep (fun b hb => hset b (hne j b hj hb))
  · rw [List.length_set] at hj hk
    by_cases e1 : i = j
    · subst e1
      rw [getD_set_same _ _ _ _ hi] at hb
      rw [getD_set_other _ _ _ _ _ hjk]
      intro hk2
      rcases hl b hb with h1 | h1
      · exact h.apart i k b hi hk hjk h1 hk2
      · have := ((h.part k hk).block b hk2).2.1; omega
    · rw [getD_set_other _ _ _ _ _ e1] at hb
      by_cases e2 : i = k
      · subst e2
        rw [getD_set_same _ _ _ _ hi]
        intro hk2
        rcases hl b hk2 with h1 | h1
        · exact h.apart j i b hj hi (fun e => e1 e.symm) hb h1
        · have := ((h.part j hj).block b hb).2.1; omega
      · rw [getD_set_other _ _ _ _ _ e2]
        exact h.apart j k b hj hk hjk hb
/-- What a sort of i's partitions leaves. -/
theorem Shs.sorted {W w3 : World} {i : Nat} {A : List ShA} {P : List (List Int)} {q : List Int} (h : Shs W base v A P) (hi : i < A.length) (hO : OwnK kZ w3 base (A.getD i sh0).2.v q) (hg : W.grownBy w3 (A.getD i sh0).2.v.ownBlock) : Shs w3 base v A (P.set i q) := by
  have hne : ∀ b, (A.getD i sh0).2.v.ownBlock = some b → v.ownBlock ≠ some b := fun b hb e => by
    obtain ⟨cur, hgc⟩ := (h.row.block b e).2.2
    obtain ⟨cur2, h2⟩ := ((h.part i hi).block b hb).2.2
    have hgc' : W.heap[b]? = some (.cells cur 35 (0, 0)) := hgc
    rw [hgc'] at h2
    simp at h2
  refine ⟨h.row.keep (fun g hg' => hg.block g (h.row.block g hg').2.1 (fun e => hne g e.symm hg')), by rw [List.length_set]; exact h.len, fun j hj => ?_, h.apart⟩
  by_cases e : i = j
  · subst e
    rw [getD_set_same _ _ _ _ (by rw [← h.len]; exact hi)]
    exact hO
  · rw [getD_set_other _ _ _ _ _ e]
    have hp := h.part j hj
    exact hp.keep (fun b hb => hg.block b (hp.block b hb).2.1 (fun e2 => h.apart i j b hi hj e e2.symm hb))
end Go.Proofs.Ytakpdhmfbgfblaa
