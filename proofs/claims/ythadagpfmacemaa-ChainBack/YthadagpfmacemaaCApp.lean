/- Slices of parts, and of numbers, that the call made; what is appended to them. -/
import Derived.Test.YthadagpfmacemaaCRow
namespace Go.Proofs.Ythadagpfmacemaa
open Go.RowKit

/-- A part's cells. -/
def partV (p : Pt) (s : Sl) : List Value := [.int .i64 p.first, .int .i64 p.id, .slice s.ad s.m s.c]
def partsV (A : Nat → Sl) : List Pt → List Value
  | [] => []
  | p :: l => partV p (A 0) ++ partsV (fun i => A (i + 1)) l
theorem partsV_length (A : Nat → Sl) (l : List Pt) : (partsV A l).length = l.length * 3 := by
  induction l generalizing A with
  | nil => rfl
  | cons p l ih => rw [partsV, List.length_append, ih, List.length_cons]; simp [partV]; omega
theorem partsV_snoc (A : Nat → Sl) (l : List Pt) (p : Pt) : partsV A (l ++ [p]) = partsV A l ++ partV p (A l.length) := by
  induction l generalizing A with
  | nil => simp [partsV]
  | cons q l ih => rw [List.cons_append, partsV, ih, partsV, List.append_assoc, List.length_cons]
theorem partsV_congr (A B : Nat → Sl) (l : List Pt) (h : ∀ i, i < l.length → A i = B i) : partsV A l = partsV B l := by
  induction l generalizing A B with
  | nil => rfl
  | cons p l ih => rw [partsV, partsV, h 0 (by simp), ih _ _ (fun i hi => h (i + 1) (by simp; omega))]
theorem partsV_get (A : Nat → Sl) (l : List Pt) (i : Nat) (h : i < l.length) :
    (partsV A l)[i * 3]? = some (.int .i64 (ptAt l i).first) ∧ (partsV A l)[i * 3 + 1]? = some (.int .i64 (ptAt l i).id) ∧ (partsV A l)[i * 3 + 2]? = some (.slice (A i).ad (A i).m (A i).c) := by
  induction l generalizing A i with
  | nil => simp at h
  | cons p l ih =>
    cases i with
    | zero => simp [partsV, partV, ptAt]
    | succ i =>
      have h2 := ih (fun i => A (i + 1)) i (by simp at h; omega)
      have e : (i + 1) * 3 = i * 3 + 3 := by omega
      have e2 : ptAt (p :: l) (i + 1) = ptAt l i := by simp [ptAt]
      rw [partsV, e, e2]
      refine ⟨?_, ?_, ?_⟩
      · rw [List.getElem?_append_right (by simp [partV])]
        simpa [partV] using h2.1
      · rw [show i * 3 + 3 + 1 = (i * 3 + 1) + 3 by omega, List.getElem?_append_right (by simp [partV])]
        simpa [partV] using h2.2.1
      · rw [show i * 3 + 3 + 2 = (i * 3 + 2) + 3 by omega, List.getElem?_append_right (by simp [partV])]
        simpa [partV] using h2.2.2
theorem partsV_one (A : Nat → Sl) (l : List Pt) : ∀ u ∈ partsV A l, u.oneCell' = true := by
  induction l generalizing A with
  | nil => intro u hu; cases hu
  | cons p l ih =>
    intro u hu
    rw [partsV, List.mem_append] at hu
    rcases hu with hu | hu
    · simp [partV] at hu
      rcases hu with rfl | rfl | rfl <;> rfl
    · exact ih _ u hu
theorem crow_cells {w : World} {l : List Pt} {A : Nat → Sl} {ad : Option Addr} {m c : Nat} (h : CArg w l A ad m c) : ∀ a, ad = some a → ∀ j u, (partsV A l)[j]? = some u → w.cell? (a.add j) = some u := by
  intro a ha j u hu
  have hl := h.len
  have hj : j < l.length * 3 := by rw [← partsV_length A]; exact (List.getElem?_eq_some_iff.1 hu).1
  obtain ⟨b, off, e, _, hc⟩ := h.cells (by omega)
  rw [ha] at e
  cases e
  obtain ⟨i, k, hi, hk, rfl⟩ : ∃ i k, i < l.length ∧ k < 3 ∧ j = i * 3 + k := ⟨j / 3, j % 3, by omega, by omega, by omega⟩
  obtain ⟨q0, q1, q2⟩ := hc i (by omega)
  obtain ⟨g0, g1, g2⟩ := partsV_get A l i hi
  rw [addr_add]
  rcases (show k = 0 ∨ k = 1 ∨ k = 2 by omega) with rfl | rfl | rfl
  · rw [Nat.add_zero] at hu ⊢
    rw [q0, ← g0, hu]
  · rw [show off + (i * 3 + 1) = off + i * 3 + 1 by omega, q1, ← g1, hu]
  · rw [show off + (i * 3 + 2) = off + i * 3 + 2 by omega, q2, ← g2, hu]
/-- What a type of parts is. -/
structure PType (S E : TypeId) : Prop where
  under : Try.prog.underlying S = some (.slice E)
  info : (Try.prog.info? E).map (fun i => (i.zero, i.size, i.bytes)) = some (some (.agg #[.int .i64 0, .int .i64 0, .slice none 0 0]), 3, 40)
theorem ptypeC : PType 26 61 := ⟨Try.underlying26, by kernel_rfl⟩
/-- The parts l as a slice in blocks from base on that the call made (the nodes lie anywhere). -/
def OwnP (E : TypeId) (w : World) (base : Nat) (v : Value) (l : List Pt) (A : Nat → Sl) : Prop := w.ownsRow base E 3 v l.length (partsV A l)
theorem OwnP.nil (E : TypeId) (w : World) (base : Nat) (A : Nat → Sl) : OwnP E w base (.slice none 0 0) [] A := World.ownsRow_nil _ _ _ _
theorem OwnP.form {E : TypeId} {w : World} {base : Nat} {v : Value} {l : List Pt} {A : Nat → Sl} (h : OwnP E w base v l A)
    (hi : ∀ i, i < l.length → Ints w (ptAt l i).nodes (A i).ad (A i).m (A i).c ∧ ((A i).ad = none → (A i).m = 0 ∧ (A i).c = 0))
    (hr : ∀ i, i < l.length → (-9223372036854775808 ≤ (ptAt l i).first ∧ (ptAt l i).first ≤ 9223372036854775807) ∧ (-9223372036854775808 ≤ (ptAt l i).id ∧ (ptAt l i).id ≤ 9223372036854775807)) :
    ∃ ad cap, v = .slice ad l.length cap ∧ CArg w l A ad l.length cap ∧ ∀ b off, ad = some ⟨b, off, none⟩ → base ≤ b := by
  rcases h.2 with ⟨hv, h0⟩ | ⟨g, cap, cur, hv, hb, hg, hn, hm, hs, ht⟩
  · exact ⟨none, 0, by rw [hv, h0], ⟨rfl, fun _ => ⟨h0, rfl⟩, by omega, by unfold maxLen; omega, Or.inl h0, hi, hr⟩, fun b off e => by cases e⟩
  · refine ⟨some ⟨g, 0, none⟩, cap, hv, ⟨rfl, fun e => (by cases e), hn, hm, Or.inr ⟨g, 0, rfl, ?_, ?_⟩, hi, hr⟩, fun b off e => by cases e; exact hb⟩
    · rcases Nat.lt_or_ge g w.heap.size with hlt | hge
      · exact hlt
      · rw [Array.getElem?_eq_none hge] at hg; cases hg
    · intro i hi
      have hc := World.ownsRow.cells h (g := g) (by rw [hv]; rfl)
      obtain ⟨g0, g1, g2⟩ := partsV_get A l i hi
      have c0 := hc _ _ g0
      have c1 := hc _ _ g1
      have c2 := hc _ _ g2
      rw [addr_add] at c0 c1 c2
      exact ⟨c0, by rw [show 0 + i * 3 + 1 = 0 + (i * 3 + 1) by omega]; exact c1, by rw [show 0 + i * 3 + 2 = 0 + (i * 3 + 2) by omega]; exact c2⟩
theorem OwnP.later {E : TypeId} {w w' : World} {base : Nat} {v : Value} {l : List Pt} {A : Nat → Sl} (h : OwnP E w base v l A) (hb : Below w.heap.size w w') : OwnP E w' base v l A := own_kept h hb
/-- 'append(v, p)': a row of one behind those of the call's own. -/
theorem run_app_part {S E : TypeId} (hT : PType S E) {w : World} {base : Nat} {v : Value} {l : List Pt} {A : Nat → Sl} (hown : OwnP E w base v l A) (ty : TypeId) (x : Nat) (p : Pt) (s : Sl) (hx : Blk w x #[.int .i64 p.first, .int .i64 p.id, .slice s.ad s.m s.c] E)
    (hbytes : (l.length + 1) * 40 ≤ 140737488355328) (hbase : base ≤ w.heap.size) :
    ∃ v' w', (Builtin.append_ #[S, S] ty #[v, .slice (some ⟨x, 0, none⟩) 1 1]).run Try.prog w = .ok v' w' ∧ OwnP E w' base v' (l ++ [p]) (fun i => if i < l.length then A i else s) ∧ w.grownBy w' v.ownBlock ∧ ∀ g ∈ v'.ownBlock.toList, g ∈ v.ownBlock.toList ∨ w.heap.size ≤ g := by
  obtain ⟨i0, hi, hz0, hz1, hz2⟩ := info_parts hT.info
  have hcell : ∀ j u, (partV p s)[j]? = some u → w.cell? ((⟨x, 0, none⟩ : Addr).add j) = some u := by
    intro j u hu
    rw [addr_add, Nat.zero_add, hx.cell j, ← hu]
    simp [partV]
  obtain ⟨v', w', hr, h2, h3, -⟩ := run_append_own (P := Try.prog) w base S ty E i0 _ 3 40 hT.under hi hz0 hz1 hz2 rfl (by decide) v l.length _ hown ⟨x, 0, none⟩ 1 1 (partV p s) rfl hcell (fun u hu => by simp [partV] at hu; rcases hu with rfl | rfl | rfl <;> rfl) (by unfold maxLen; omega) hbytes hbase
  have hone : ∀ u ∈ partV p s, u.oneCell' = true := fun u hu => by simp [partV] at hu; rcases hu with rfl | rfl | rfl <;> rfl
  have hx : ∀ g ∈ v'.ownBlock.toList, g ∈ v.ownBlock.toList ∨ w.heap.size ≤ g := by
    rcases hown.2 with ⟨e, h0⟩ | ⟨g0, cap0, cur, e, hbg, hg, hnc, hcm, hcs, htake⟩
    · have hl : l = [] := List.eq_nil_of_length_eq_zero h0
      subst hl e
      obtain ⟨v2, w2, hr2, h22, -, -⟩ := run_append_own (P := Try.prog) w w.heap.size S ty E i0 _ 3 40 hT.under hi hz0 hz1 hz2 rfl (by decide) (.slice none 0 0) 0 [] (World.ownsRow_nil _ _ _ _) ⟨x, 0, none⟩ 1 1 (partV p s) rfl hcell hone (by unfold maxLen; omega) (by omega) (Nat.le_refl _)
      rw [hr] at hr2
      cases hr2
      intro g hg
      rcases h22.2 with ⟨rfl, -⟩ | ⟨g', cap, cur, rfl, hb, -⟩
      · cases hg
      · simp [Value.ownBlock] at hg; subst hg; exact Or.inr hb
    · subst e
      by_cases hroom : l.length + 1 ≤ cap0
      · have hq := run_append_room (P := Try.prog) w S ty E i0 hT.under hi g0 l.length cap0 cur hg ⟨x, 0, none⟩ 1 1 (partV p s) (by rw [hz1]; rfl) hcell hone hroom (by rw [hz1, hcs]; simp [partV]; omega)
        rw [hr] at hq
        cases hq
        exact fun g hg => Or.inl hg
      · have holds : ∀ j u, (partsV A l)[j]? = some u → w.cell? ((⟨g0, 0, none⟩ : Addr).add j) = some u := World.ownsRow.cells hown (g := g0) rfl
        have hq := run_append_grow (P := Try.prog) w S ty E i0 _ hT.under hi hz0 ⟨g0, 0, none⟩ l.length cap0 (partsV A l) (by rw [hz1]; exact hown.1) holds ⟨x, 0, none⟩ 1 1 (partV p s) (by rw [hz1]; rfl) hcell (by omega) (by omega) (growslice_fits (by omega) (by rw [hz2]; omega))
        rw [hr] at hq
        cases hq
        exact fun g hg => by simp [Value.ownBlock] at hg; subst hg; exact Or.inr (Nat.le_refl _)
  refine ⟨v', w', hr, ?_, h3, hx⟩
  unfold OwnP
  rw [partsV_snoc, List.length_append, partsV_congr _ A l (fun i hi => by simp only [hi, if_true])]
  simp only [Nat.lt_irrefl, if_false]
  exact h2

/-- Numbers as cells. -/
def intsV (l : List Int) : List Value := l.map (fun x => Value.int .i64 x)
theorem Try.infoI : (Try.prog.info? 3).map (fun i => (i.zero, i.size, i.bytes)) = some (some (.int .i64 0), 1, 8) := by kernel_rfl
/-- The numbers l as a slice in blocks from base on that the call made. -/
def OwnI (w : World) (base : Nat) (v : Value) (l : List Int) : Prop := w.ownsRow base 3 1 v l.length (intsV l)
theorem OwnI.form {w : World} {base : Nat} {v : Value} {l : List Int} (h : OwnI w base v l) (hr : ∀ x ∈ l, -9223372036854775808 ≤ x ∧ x ≤ 9223372036854775807) :
    ∃ s : Sl, v = .slice s.ad s.m s.c ∧ s.m = l.length ∧ Ints w l s.ad s.m s.c ∧ (s.ad = none → s.m = 0 ∧ s.c = 0) ∧ ∀ b off, s.ad = some ⟨b, off, none⟩ → base ≤ b ∧ ∃ cur, w.heap[b]? = some (.cells cur 3) := by
  rcases h.2 with ⟨hv, h0⟩ | ⟨g, cap, cur, hv, hb, hg, hn, hm, hs, ht⟩
  · exact ⟨⟨none, 0, 0⟩, hv, h0.symm, ⟨h0, Nat.le_refl _, by show 0 ≤ maxLen; unfold maxLen; omega, Or.inl rfl, hr⟩, fun _ => ⟨rfl, rfl⟩, fun b off e => by cases e⟩
  · refine ⟨⟨some ⟨g, 0, none⟩, l.length, cap⟩, hv, rfl, ⟨rfl, hn, hm, Or.inr ⟨g, 0, rfl, ?_, ?_⟩, hr⟩, (fun e => by cases e), (fun b off e => by cases e; exact ⟨hb, cur, hg⟩)⟩
    · rcases Nat.lt_or_ge g w.heap.size with hlt | hge
      · exact hlt
      · rw [Array.getElem?_eq_none hge] at hg; cases hg
    · intro i hi
      have hc := World.ownsRow.cells h (g := g) (by rw [hv]; rfl) i (.int .i64 (l.getD i 0)) (by
        unfold intsV
        rw [List.getElem?_map, List.getElem?_eq_getElem hi, List.getD_eq_getElem?_getD, List.getElem?_eq_getElem hi]; rfl)
      rw [addr_add] at hc
      exact hc
theorem ints_cells {w : World} {l : List Int} {ad : Option Addr} {m c : Nat} (h : Ints w l ad m c) : ∀ a, ad = some a → ∀ j u, (intsV l)[j]? = some u → w.cell? (a.add j) = some u := by
  intro a ha j u hu
  have hj : j < l.length := by have := (List.getElem?_eq_some_iff.1 hu).1; simpa [intsV] using this
  unfold intsV at hu
  rw [List.getElem?_map, List.getElem?_eq_getElem hj] at hu
  obtain ⟨b, off, e, hs, hc⟩ := h.row.resolve_left (by have := h.len; omega)
  rw [ha] at e
  cases e
  rw [addr_add, hc j (by have := h.len; omega), List.getD_eq_getElem?_getD, List.getElem?_eq_getElem hj, ← hu]
  rfl
/-- 'append(v, x...)', v of the call's own, x whatever numbers. -/
theorem run_app_ints {w : World} {base n : Nat} {v : Value} {L : List Int} (hown : w.ownsRow base 3 1 v n (intsV L)) (ty : TypeId) (ad : Option Addr) (m c : Nat) (l : List Int) (hx : Ints w l ad m c) (hnone : ad = none → m = 0 ∧ c = 0)
    (hbytes : (n + m) * 8 ≤ 140737488355328) (hbase : base ≤ w.heap.size) :
    ∃ v' w', (Builtin.append_ #[47, 47] ty #[v, .slice ad m c]).run Try.prog w = .ok v' w' ∧ w'.ownsRow base 3 1 v' (n + m) (intsV (L ++ l)) ∧ w.grownBy w' v.ownBlock := by
  obtain ⟨i0, hi, hz0, hz1, hz2⟩ := info_parts Try.infoI
  cases ad with
  | none =>
    obtain ⟨rfl, rfl⟩ := hnone rfl
    obtain rfl : l = [] := List.eq_nil_of_length_eq_zero hx.len
    have hrun := run_append_owned_none (P := Try.prog) (w := w) base 47 ty 3 i0 1 Try.underlying47 hi v n _ hown
    exact ⟨v, w, hrun, by simpa using hown, World.grownBy.refl _ _⟩
  | some ad =>
    obtain ⟨v', w', hr, h2, h3, -⟩ := run_append_own (P := Try.prog) w base 47 ty 3 i0 (.int .i64 0) 1 8 Try.underlying47 hi hz0 hz1 hz2 rfl (by decide) v n _ hown ad m c (intsV l) (by simp [intsV, hx.len]) (ints_cells hx ad rfl) (fun u hu => by obtain ⟨z, _, rfl⟩ := List.mem_map.1 hu; rfl) (by unfold maxLen; omega) hbytes hbase
    exact ⟨v', w', hr, by unfold intsV at *; rw [List.map_append]; exact h2, h3⟩
/-- The walk's law of 'append(v, x...)', of numbers. -/
theorem app_ints {w : World} {ops : Array Oper} {rest : List Oper} {o : Oper} {a : Act} {Q : Exit → Act → World → Prop} (hgd : o.guard = none) (s x : Operand) (ho : o.op = .call { callee := .builtin .append, args := #[s, x], argTypes := #[47, 47] })
    (base n : Nat) (v : Value) (L : List Int) (hs : a.eval s = v) (hown : w.ownsRow base 3 1 v n (intsV L)) (ad : Option Addr) (m c : Nat) (l : List Int) (hx : a.eval x = .slice ad m c) (hi : Ints w l ad m c) (hnone : ad = none → m = 0 ∧ c = 0)
    (hbytes : (n + m) * 8 ≤ 140737488355328) (hbase : base ≤ w.heap.size)
    (h : ∀ v' w', w'.ownsRow base 3 1 v' (n + m) (intsV (L ++ l)) → w.grownBy w' v.ownBlock → wpList Try.prog ops Q rest (a.put o.dst v') w') : wpList Try.prog ops Q (o :: rest) a w := by
  obtain ⟨v', w', hrun, h1, h2⟩ := run_app_ints hown o.type ad m c l hi hnone hbytes hbase
  refine wpList_plain hgd fun K hK' => ?_
  unfold Oper.wp
  simp [execOp, ho, resolve, invoke, builtin, hs, hx, hrun, Result.andThen]
  exact hK' _ _ (h v' w' h1 h2)
/-- The walk's law of 'append(v, p)', of parts. -/
theorem app_part {S E : TypeId} (hT : PType S E) {w : World} {ops : Array Oper} {rest : List Oper} {o : Oper} {a : Act} {Q : Exit → Act → World → Prop} (hgd : o.guard = none) (s x : Operand) (ho : o.op = .call { callee := .builtin .append, args := #[s, x], argTypes := #[S, S] })
    (base : Nat) (v : Value) (l : List Pt) (A : Nat → Sl) (hs : a.eval s = v) (hown : OwnP E w base v l A) (g : Nat) (p : Pt) (sl : Sl) (hx : a.eval x = .slice (some ⟨g, 0, none⟩) 1 1) (hb : Blk w g #[.int .i64 p.first, .int .i64 p.id, .slice sl.ad sl.m sl.c] E)
    (hbytes : (l.length + 1) * 40 ≤ 140737488355328) (hbase : base ≤ w.heap.size)
    (h : ∀ v' w', OwnP E w' base v' (l ++ [p]) (fun i => if i < l.length then A i else sl) → w.grownBy w' v.ownBlock → (∀ g ∈ v'.ownBlock.toList, g ∈ v.ownBlock.toList ∨ w.heap.size ≤ g) → wpList Try.prog ops Q rest (a.put o.dst v') w') : wpList Try.prog ops Q (o :: rest) a w := by
  obtain ⟨v', w', hrun, h1, h2, h3⟩ := run_app_part hT hown o.type g p sl hb hbytes hbase
  refine wpList_plain hgd fun K hK' => ?_
  unfold Oper.wp
  simp [execOp, ho, resolve, invoke, builtin, hs, hx, hrun, Result.andThen]
  exact hK' _ _ (h v' w' h1 h2 h3)
theorem step_app_ints {w : World} {ops : Array Oper} {o : Oper} {a : Act} {K : Act → World → Prop} {Q : Exit → Act → World → Prop} {E : Prop} (hgd : o.guard = none) (s x : Operand) (ho : o.op = .call { callee := .builtin .append, args := #[s, x], argTypes := #[47, 47] })
    (base n : Nat) (v : Value) (L : List Int) (hs : a.eval s = v) (hown : w.ownsRow base 3 1 v n (intsV L)) (ad : Option Addr) (m c : Nat) (l : List Int) (hx : a.eval x = .slice ad m c) (hi : Ints w l ad m c) (hnone : ad = none → m = 0 ∧ c = 0)
    (hbytes : (n + m) * 8 ≤ 140737488355328) (hbase : base ≤ w.heap.size)
    (h : ∀ v' w', w'.ownsRow base 3 1 v' (n + m) (intsV (L ++ l)) → w.grownBy w' v.ownBlock → K (a.put o.dst v') w') : if Region.wanted o (yielded ops a.tmps) = true then Oper.wp Try.prog o a w K Q else E := by
  obtain ⟨v', w', hrun, h1, h2⟩ := run_app_ints hown o.type ad m c l hi hnone hbytes hbase
  rw [if_pos (by simp [Region.wanted, hgd])]
  unfold Oper.wp
  simp [execOp, ho, resolve, invoke, builtin, hs, hx, hrun, Result.andThen]
  exact h v' w' h1 h2
theorem step_app_part {S E : TypeId} (hT : PType S E) {w : World} {ops : Array Oper} {o : Oper} {a : Act} {K : Act → World → Prop} {Q : Exit → Act → World → Prop} {E' : Prop} (hgd : o.guard = none) (s x : Operand) (ho : o.op = .call { callee := .builtin .append, args := #[s, x], argTypes := #[S, S] })
    (base : Nat) (v : Value) (l : List Pt) (A : Nat → Sl) (hs : a.eval s = v) (hown : OwnP E w base v l A) (g : Nat) (p : Pt) (sl : Sl) (hx : a.eval x = .slice (some ⟨g, 0, none⟩) 1 1) (hb : Blk w g #[.int .i64 p.first, .int .i64 p.id, .slice sl.ad sl.m sl.c] E)
    (hbytes : (l.length + 1) * 40 ≤ 140737488355328) (hbase : base ≤ w.heap.size)
    (h : ∀ v' w', OwnP E w' base v' (l ++ [p]) (fun i => if i < l.length then A i else sl) → w.grownBy w' v.ownBlock → (∀ g ∈ v'.ownBlock.toList, g ∈ v.ownBlock.toList ∨ w.heap.size ≤ g) → K (a.put o.dst v') w') : if Region.wanted o (yielded ops a.tmps) = true then Oper.wp Try.prog o a w K Q else E' := by
  obtain ⟨v', w', hrun, h1, h2, h3⟩ := run_app_part hT hown o.type g p sl hb hbytes hbase
  rw [if_pos (by simp [Region.wanted, hgd])]
  unfold Oper.wp
  simp [execOp, ho, resolve, invoke, builtin, hs, hx, hrun, Result.andThen]
  exact h v' w' h1 h2 h3
theorem emptyI_own (w : World) (base : Nat) (hb : base ≤ w.heap.size) : (w.alloc (.cells #[] 3)).ownsRow base 3 1 (.slice (some ⟨w.heap.size, 0, none⟩) 0 0) 0 (intsV []) := World.ownsRow_lit w #[] 0 hb (by unfold maxLen; omega) rfl
theorem grown_below {w w' : World} {base : Nat} {v : Value} (h : w.grownBy w' v.ownBlock) (hv : ∀ g, v.ownBlock = some g → base ≤ g) (hb : base ≤ w.heap.size) : Below base w w' :=
  ⟨h.os, h.tape, h.output, h.size, fun k hk => h.block k (Nat.lt_of_lt_of_le hk hb) (fun e => by have := hv k e.symm; omega)⟩
theorem owns_base {w : World} {base E z n : Nat} {v : Value} {xs : List Value} (h : w.ownsRow base E z v n xs) : ∀ g, v.ownBlock = some g → base ≤ g := by
  intro g hg
  rcases h.2 with ⟨rfl, -⟩ | ⟨g', cap, cur, rfl, hb, -⟩
  · cases hg
  · cases hg; exact hb
end Go.Proofs.Ythadagpfmacemaa
