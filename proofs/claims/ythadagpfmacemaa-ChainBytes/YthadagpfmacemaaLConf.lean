/- Slices of parts, and of numbers, that the call made; what is appended to them. -/
import Derived.Test.YthadagpfmacemaaCTrim
import Derived.Deep.RegionHeld
namespace Go.Proofs.Ythadagpfmacemaa
open Go.RowKit

/-- A part's cells. -/
def partV (p : Pt) (s : Sl) : List Value := [.int .i64 p.first, .int .i64 p.id, .slice s.ad s.m s.c]
def partsV (A : Nat → Sl) : List Pt → List Value
  | [] => []
  | p :: l => partV p (A 0) ++ partsV (fun i => A (i + 1)) l
theorem partsV_length (A : Nat → Sl) (l : List Pt) : (partsV A l).length = l.length * 3 := by
  induction l generalizing A with
  | nil => rfl
  | cons p l ih => rw [partsV, List.length_append, ih, List.length_cons]; simp [partV]; omega
theorem partsV_snoc (A : Nat → Sl) (l : List Pt) (p : Pt) : partsV A (l ++ [p]) = partsV A l ++ partV p (A l.length) := by
  induction l generalizing A with
  | nil => simp [partsV]
  | cons q l ih => rw [List.cons_append, partsV, ih, partsV, List.append_assoc, List.length_cons]
theorem partsV_congr (A B : Nat → Sl) (l : List Pt) (h : ∀ i, i < l.length → A i = B i) : partsV A l = partsV B l := by
  induction l generalizing A B with
  | nil => rfl
  | cons p l ih => rw [partsV, partsV, h 0 (by simp), ih _ _ (fun i hi => h (i + 1) (by simp; omega))]
theorem partsV_get (A : Nat → Sl) (l : List Pt) (i : Nat) (h : i < l.length) :
    (partsV A l)[i * 3]? = some (.int .i64 (ptAt l i).first) ∧ (partsV A l)[i * 3 + 1]? = some (.int .i64 (ptAt l i).id) ∧ (partsV A l)[i * 3 + 2]? = some (.slice (A i).ad (A i).m (A i).c) := by
  induction l generalizing A i with
  | nil => simp at h
  | cons p l ih =>
    cases i with
    | zero => simp [partsV, partV, ptAt]
    | succ i =>
      have h2 := ih (fun i => A (i + 1)) i (by simp at h; omega)
      have e : (i + 1) * 3 = i * 3 + 3 := by omega
      have e2 : ptAt (p :: l) (i + 1) = ptAt l i := by simp [ptAt]
      rw [partsV, e, e2]
      refine ⟨?_, ?_, ?_⟩
      · rw [List.getElem?_append_right (by simp [partV])]
        simpa [partV] using h2.1
      · rw [show i * 3 + 3 + 1 = (i * 3 + 1) + 3 by omega, List.getElem?_append_right (by simp [partV])]
        simpa [partV] using h2.2.1
      · rw [show i * 3 + 3 + 2 = (i * 3 + 2) + 3 by omega, List.getElem?_append_right (by simp [partV])]
        simpa [partV] using h2.2.2
theorem partsV_one (A : Nat → Sl) (l : List Pt) : ∀ u ∈ partsV A l, u.oneCell' = true := by
  induction l generalizing A with
  | nil => intro u hu; cases hu
  | cons p l ih =>
    intro u hu
    rw [partsV, List.mem_append] at hu
    rcases hu with hu | hu
    · simp [partV] at hu
      rcases hu with rfl | rfl | rfl <;> rfl
    · exact ih _ u hu
theorem crow_cells {w : World} {l : List Pt} {A : Nat → Sl} {ad : Option Addr} {m c : Nat} (h : CArg w l A ad m c) : ∀ a, ad = some a → ∀ j u, (partsV A l)[j]? = some u → w.cell? (a.add j) = some u := by
  intro a ha j u hu
  have hl := h.len
  have hj : j < l.length * 3 := by rw [← partsV_length A]; exact (List.getElem?_eq_some_iff.1 hu).1
  obtain ⟨b, off, e, _, hc⟩ := h.cells (by omega)
  rw [ha] at e
  cases e
  obtain ⟨i, k, hi, hk, rfl⟩ : ∃ i k, i < l.length ∧ k < 3 ∧ j = i * 3 + k := ⟨j / 3, j % 3, by omega, by omega, by omega⟩
  obtain ⟨q0, q1, q2⟩ := hc i (by omega)
  obtain ⟨g0, g1, g2⟩ := partsV_get A l i hi
  rw [addr_add]
  rcases (show k = 0 ∨ k = 1 ∨ k = 2 by omega) with rfl | rfl | rfl
  · rw [Nat.add_zero] at hu ⊢
    rw [q0, ← g0, hu]
  · rw [show off + (i * 3 + 1) = off + i * 3 + 1 by omega, q1, ← g1, hu]
  · rw [show off + (i * 3 + 2) = off + i * 3 + 2 by omega, q2, ← g2, hu]
/-- What a type of parts is. -/
structure PType (S E : TypeId) : Prop where
  under : Try.prog.underlying S = some (.slice E)
  info : (Try.prog.info? E).map (fun i => (i.zero, i.size, i.bytes)) = some (some (.agg #[.int .i64 0, .int .i64 0, .slice none 0 0]), 3, 40)
theorem ptypeC : PType 26 61 := ⟨Try.underlying26, by kernel_rfl⟩
/-- The parts l as a slice in blocks from base on that the call made (the nodes lie anywhere). -/
def OwnP (E : TypeId) (w : World) (base : Nat) (v : Value) (l : List Pt) (A : Nat → Sl) : Prop := w.ownsRow base E 3 v l.length (partsV A l)
theorem OwnP.nil (E : TypeId) (w : World) (base : Nat) (A : Nat → Sl) : OwnP E w base (.slice none 0 0) [] A := World.ownsRow_nil _ _ _ _
theorem OwnP.form {E : TypeId} {w : World} {base : Nat} {v : Value} {l : List Pt} {A : Nat → Sl} (h : OwnP E w base v l A)
    (hi : ∀ i, i < l.length → Ints w (ptAt l i).nodes (A i).ad (A i).m (A i).c ∧ ((A i).ad = none → (A i).m = 0 ∧ (A i).c = 0))
    (hr : ∀ i, i < l.length → (-9223372036854775808 ≤ (ptAt l i).first ∧ (ptAt l i).first ≤ 9223372036854775807) ∧ (-9223372036854775808 ≤ (ptAt l i).id ∧ (ptAt l i).id ≤ 9223372036854775807)) :
    ∃ ad cap, v = .slice ad l.length cap ∧ CArg w l A ad l.length cap ∧ ∀ b off, ad = some ⟨b, off, none⟩ → base ≤ b := by
  rcases h.2 with ⟨hv, h0⟩ | ⟨g, cap, cur, hv, hb, hg, hn, hm, hs, ht⟩
  · exact ⟨none, 0, by rw [hv, h0], ⟨rfl, fun _ => ⟨h0, rfl⟩, by omega, by unfold maxLen; omega, Or.inl h0, hi, hr⟩, fun b off e => by cases e⟩
  · refine ⟨some ⟨g, 0, none⟩, cap, hv, ⟨rfl, fun e => (by cases e), hn, hm, Or.inr ⟨g, 0, rfl, ?_, ?_⟩, hi, hr⟩, fun b off e => by cases e; exact hb⟩
    · rcases Nat.lt_or_ge g w.heap.size with hlt | hge
      · exact hlt
      · rw [Array.getElem?_eq_none hge] at hg; cases hg
    · intro i hi
      have hc := World.ownsRow.cells h (g := g) (by rw [hv]; rfl)
      obtain ⟨g0, g1, g2⟩ := partsV_get A l i hi
      have c0 := hc _ _ g0
      have c1 := hc _ _ g1
      have c2 := hc _ _ g2
      rw [addr_add] at c0 c1 c2
      exact ⟨c0, by rw [show 0 + i * 3 + 1 = 0 + (i * 3 + 1) by omega]; exact c1, by rw [show 0 + i * 3 + 2 = 0 + (i * 3 + 2) by omega]; exact c2⟩
theorem OwnP.later {E : TypeId} {w w' : World} {base : Nat} {v : Value} {l : List Pt} {A : Nat → Sl} (h : OwnP E w base v l A) (hb : Below w.heap.size w w') : OwnP E w' base v l A := own_kept h hb
/-- 'append(v, p)': a row of one behind those of the call's own. -/
theorem run_app_part {S E : TypeId} (hT : PType S E) {w : World} {base : Nat} {v : Value} {l : List Pt} {A : Nat → Sl} (hown : OwnP E w base v l A) (ty : TypeId) (x : Nat) (p : Pt) (s : Sl) (hx : Blk w x #[.int .i64 p.first, .int .i64 p.id, .slice s.ad s.m s.c] E)
    (hbytes : (l.length + 1) * 40 ≤ 140737488355328) (hbase : base ≤ w.heap.size) :
    ∃ v' w', (Builtin.append_ #[S, S] ty #[v, .slice (some ⟨x, 0, none⟩) 1 1]).run Try.prog w = .ok v' w' ∧ OwnP E w' base v' (l ++ [p]) (fun i => if i < l.length then A i else s) ∧ w.grownBy w' v.ownBlock ∧ ∀ g ∈ v'.ownBlock.toList, g ∈ v.ownBlock.toList ∨ w.heap.size ≤ g := by
  obtain ⟨i0, hi, hz0, hz1, hz2⟩ := info_parts hT.info
  have hcell : ∀ j u, (partV p s)[j]? = some u → w.cell? ((⟨x, 0, none⟩ : Addr).add j) = some u := by
    intro j u hu
    rw [addr_add, Nat.zero_add, hx.cell j, ← hu]
    simp [partV]
  obtain ⟨v', w', hr, h2, h3, -⟩ := run_append_own (P := Try.prog) w base S ty E i0 _ 3 40 hT.under hi hz0 hz1 hz2 rfl (by decide) v l.length _ hown ⟨x, 0, none⟩ 1 1 (partV p s) rfl hcell (fun u hu => by simp [partV] at hu; rcases hu with rfl | rfl | rfl <;> rfl) (by unfold maxLen; omega) hbytes hbase
  have hone : ∀ u ∈ partV p s, u.oneCell' = true := fun u hu => by simp [partV] at hu; rcases hu with rfl | rfl | rfl <;> rfl
  have hx : ∀ g ∈ v'.ownBlock.toList, g ∈ v.ownBlock.toList ∨ w.heap.size ≤ g := by
    rcases hown.2 with ⟨e, h0⟩ | ⟨g0, cap0, cur, e, hbg, hg, hnc, hcm, hcs, htake⟩
    · have hl : l = [] := List.eq_nil_of_length_eq_zero h0
      subst hl e
      obtain ⟨v2, w2, hr2, h22, -, -⟩ := run_append_own (P := Try.prog) w w.heap.size S ty E i0 _ 3 40 hT.under hi hz0 hz1 hz2 rfl (by decide) (.slice none 0 0) 0 [] (World.ownsRow_nil _ _ _ _) ⟨x, 0, none⟩ 1 1 (partV p s) rfl hcell hone (by unfold maxLen; omega) (by omega) (Nat.le_refl _)
      rw [hr] at hr2
      cases hr2
      intro g hg
      rcases h22.2 with ⟨rfl, -⟩ | ⟨g', cap, cur, rfl, hb, -⟩
      · cases hg
      · simp [Value.ownBlock] at hg; subst hg; exact Or.inr hb
    · subst e
      by_cases hroom : l.length + 1 ≤ cap0
      · have hq := run_append_room (P := Try.prog) w S ty E i0 hT.under hi g0 l.length cap0 cur hg ⟨x, 0, none⟩ 1 1 (partV p s) (by rw [hz1]; rfl) hcell hone hroom (by rw [hz1, hcs]; simp [partV]; omega)
        rw [hr] at hq
        cases hq
        exact fun g hg => Or.inl hg
      · have holds : ∀ j u, (partsV A l)[j]? = some u → w.cell? ((⟨g0, 0, none⟩ : Addr).add j) = some u := World.ownsRow.cells hown (g := g0) rfl
        have hq := run_append_grow (P := Try.prog) w S ty E i0 _ hT.under hi hz0 ⟨g0, 0, none⟩ l.length cap0 (partsV A l) (by rw [hz1]; exact hown.1) holds ⟨x, 0, none⟩ 1 1 (partV p s) (by rw [hz1]; rfl) hcell (by omega) (by omega) (growslice_fits (by omega) (by rw [hz2]; omega))
        rw [hr] at hq
        cases hq
        exact fun g hg => by simp [Value.ownBlock] at hg; subst hg; exact Or.inr (Nat.le_refl _)
  refine ⟨v', w', hr, ?_, h3, hx⟩
  unfold OwnP
  rw [partsV_snoc, List.length_append, partsV_congr _ A l (fun i hi => by simp only [hi, if_true])]
  simp only [Nat.lt_irrefl, if_false]
  exact h2

/-- Numbers as cells. -/
def intsV (l : List Int) : List Value := l.map (fun x => Value.int .i64 x)
theorem Try.infoI : (Try.prog.info? 3).map (fun i => (i.zero, i.size, i.bytes)) = some (some (.int .i64 0), 1, 8) := by kernel_rfl
/-- The numbers l as a slice in blocks from base on that the call made. -/
def OwnI (w : World) (base : Nat) (v : Value) (l : List Int) : Prop := w.ownsRow base 3 1 v l.length (intsV l)
theorem OwnI.form {w : World} {base : Nat} {v : Value} {l : List Int} (h : OwnI w base v l) (hr : ∀ x ∈ l, -9223372036854775808 ≤ x ∧ x ≤ 9223372036854775807) :
    ∃ s : Sl, v = .slice s.ad s.m s.c ∧ s.m = l.length ∧ Ints w l s.ad s.m s.c ∧ (s.ad = none → s.m = 0 ∧ s.c = 0) ∧ ∀ b off, s.ad = some ⟨b, off, none⟩ → base ≤ b ∧ ∃ cur, w.heap[b]? = some (.cells cur 3) := by
  rcases h.2 with ⟨hv, h0⟩ | ⟨g, cap, cur, hv, hb, hg, hn, hm, hs, ht⟩
  · exact ⟨⟨none, 0, 0⟩, hv, h0.symm, ⟨h0, Nat.le_refl _, by show 0 ≤ maxLen; unfold maxLen; omega, Or.inl rfl, hr⟩, fun _ => ⟨rfl, rfl⟩, fun b off e => by cases e⟩
  · refine ⟨⟨some ⟨g, 0, none⟩, l.length, cap⟩, hv, rfl, ⟨rfl, hn, hm, Or.inr ⟨g, 0, rfl, ?_, ?_⟩, hr⟩, (fun e => by cases e), (fun b off e => by cases e; exact ⟨hb, cur, hg⟩)⟩
    · rcases Nat.lt_or_ge g w.heap.size with hlt | hge
      · exact hlt
      · rw [Array.getElem?_eq_none hge] at hg; cases hg
    · intro i hi
      have hc := World.ownsRow.cells h (g := g) (by rw [hv]; rfl) i (.int .i64 (l.getD i 0)) (by
        unfold intsV
        rw [List.getElem?_map, List.getElem?_eq_getElem hi, List.getD_eq_getElem?_getD, List.getElem?_eq_getElem hi]; rfl)
      rw [addr_add] at hc
      exact hc
theorem ints_cells {w : World} {l : List Int} {ad : Option Addr} {m c : Nat} (h : Ints w l ad m c) : ∀ a, ad = some a → ∀ j u, (intsV l)[j]? = some u → w.cell? (a.add j) = some u := by
  intro a ha j u hu
  have hj : j < l.length := by have := (List.getElem?_eq_some_iff.1 hu).1; simpa [intsV] using this
  unfold intsV at hu
  rw [List.getElem?_map, List.getElem?_eq_getElem hj] at hu
  obtain ⟨b, off, e, hs, hc⟩ := h.row.resolve_left (by have := h.len; omega)
  rw [ha] at e
  cases e
  rw [addr_add, hc j (by have := h.len; omega), List.getD_eq_getElem?_getD, List.getElem?_eq_getElem hj, ← hu]
  rfl
/-- 'append(v, x...)', v of the call's own, x whatever numbers. -/
theorem run_app_ints {w : World} {base n : Nat} {v : Value} {L : List Int} (hown : w.ownsRow base 3 1 v n (intsV L)) (ty : TypeId) (ad : Option Addr) (m c : Nat) (l : List Int) (hx : Ints w l ad m c) (hnone : ad = none → m = 0 ∧ c = 0)
    (hbytes : (n + m) * 8 ≤ 140737488355328) (hbase : base ≤ w.heap.size) :
    ∃ v' w', (Builtin.append_ #[47, 47] ty #[v, .slice ad m c]).run Try.prog w = .ok v' w' ∧ w'.ownsRow base 3 1 v' (n + m) (intsV (L ++ l)) ∧ w.grownBy w' v.ownBlock := by
  obtain ⟨i0, hi, hz0, hz1, hz2⟩ := info_parts Try.infoI
  cases ad with
  | none =>
    obtain ⟨rfl, rfl⟩ := hnone rfl
    obtain rfl : l = [] := List.eq_nil_of_length_eq_zero hx.len
    have hrun := run_append_owned_none (P := Try.prog) (w := w) base 47 ty 3 i0 1 Try.underlying47 hi v n _ hown
    exact ⟨v, w, hrun, by simpa using hown, World.grownBy.refl _ _⟩
  | some ad =>
    obtain ⟨v', w', hr, h2, h3, -⟩ := run_append_own (P := Try.prog) w base 47 ty 3 i0 (.int .i64 0) 1 8 Try.underlying47 hi hz0 hz1 hz2 rfl (by decide) v n _ hown ad m c (intsV l) (by simp [intsV, hx.len]) (ints_cells hx ad rfl) (fun u hu => by obtain ⟨z, _, rfl⟩ := List.mem_map.1 hu; rfl) (by unfold maxLen; omega) hbytes hbase
    exact ⟨v', w', hr, by unfold intsV at *; rw [List.map_append]; exact h2, h3⟩
/-- The walk's law of 'append(v, x...)', of numbers. -/
theorem app_ints {w : World} {ops : Array Oper} {rest : List Oper} {o : Oper} {a : Act} {Q : Exit → Act → World → Prop} (hgd : o.guard = none) (s x : Operand) (ho : o.op = .call { callee := .builtin .append, args := #[s, x], argTypes := #[47, 47] })
    (base n : Nat) (v : Value) (L : List Int) (hs : a.eval s = v) (hown : w.ownsRow base 3 1 v n (intsV L)) (ad : Option Addr) (m c : Nat) (l : List Int) (hx : a.eval x = .slice ad m c) (hi : Ints w l ad m c) (hnone : ad = none → m = 0 ∧ c = 0)
    (hbytes : (n + m) * 8 ≤ 140737488355328) (hbase : base ≤ w.heap.size)
    (h : ∀ v' w', w'.ownsRow base 3 1 v' (n + m) (intsV (L ++ l)) → w.grownBy w' v.ownBlock → wpList Try.prog ops Q rest (a.put o.dst v') w') : wpList Try.prog ops Q (o :: rest) a w := by
  obtain ⟨v', w', hrun, h1, h2⟩ := run_app_ints hown o.type ad m c l hi hnone hbytes hbase
  refine wpList_plain hgd fun K hK' => ?_
  unfold Oper.wp
  simp [execOp, ho, resolve, invoke, builtin, hs, hx, hrun, Result.andThen]
  exact hK' _ _ (h v' w' h1 h2)
/-- The walk's law of 'append(v, p)', of parts. -/
theorem app_part {S E : TypeId} (hT : PType S E) {w : World} {ops : Array Oper} {rest : List Oper} {o : Oper} {a : Act} {Q : Exit → Act → World → Prop} (hgd : o.guard = none) (s x : Operand) (ho : o.op = .call { callee := .builtin .append, args := #[s, x], argTypes := #[S, S] })
    (base : Nat) (v : Value) (l : List Pt) (A : Nat → Sl) (hs : a.eval s = v) (hown : OwnP E w base v l A) (g : Nat) (p : Pt) (sl : Sl) (hx : a.eval x = .slice (some ⟨g, 0, none⟩) 1 1) (hb : Blk w g #[.int .i64 p.first, .int .i64 p.id, .slice sl.ad sl.m sl.c] E)
    (hbytes : (l.length + 1) * 40 ≤ 140737488355328) (hbase : base ≤ w.heap.size)
    (h : ∀ v' w', OwnP E w' base v' (l ++ [p]) (fun i => if i < l.length then A i else sl) → w.grownBy w' v.ownBlock → (∀ g ∈ v'.ownBlock.toList, g ∈ v.ownBlock.toList ∨ w.heap.size ≤ g) → wpList Try.prog ops Q rest (a.put o.dst v') w') : wpList Try.prog ops Q (o :: rest) a w := by
  obtain ⟨v', w', hrun, h1, h2, h3⟩ := run_app_part hT hown o.type g p sl hb hbytes hbase
  refine wpList_plain hgd fun K hK' => ?_
  unfold Oper.wp
  simp [execOp, ho, resolve, invoke, builtin, hs, hx, hrun, Result.andThen]
  exact hK' _ _ (h v' w' h1 h2 h3)
theorem step_app_ints {w : World} {ops : Array Oper} {o : Oper} {a : Act} {K : Act → World → Prop} {Q : Exit → Act → World → Prop} {E : Prop} (hgd : o.guard = none) (s x : Operand) (ho : o.op = .call { callee := .builtin .append, args := #[s, x], argTypes := #[47, 47] })
    (base n : Nat) (v : Value) (L : List Int) (hs : a.eval s = v) (hown : w.ownsRow base 3 1 v n (intsV L)) (ad : Option Addr) (m c : Nat) (l : List Int) (hx : a.eval x = .slice ad m c) (hi : Ints w l ad m c) (hnone : ad = none → m = 0 ∧ c = 0)
    (hbytes : (n + m) * 8 ≤ 140737488355328) (hbase : base ≤ w.heap.size)
    (h : ∀ v' w', w'.ownsRow base 3 1 v' (n + m) (intsV (L ++ l)) → w.grownBy w' v.ownBlock → K (a.put o.dst v') w') : if Region.wanted o (yielded ops a.tmps) = true then Oper.wp Try.prog o a w K Q else E := by
  obtain ⟨v', w', hrun, h1, h2⟩ := run_app_ints hown o.type ad m c l hi hnone hbytes hbase
  rw [if_pos (by simp [Region.wanted, hgd])]
  unfold Oper.wp
  simp [execOp, ho, resolve, invoke, builtin, hs, hx, hrun, Result.andThen]
  exact h v' w' h1 h2
theorem step_app_part {S E : TypeId} (hT : PType S E) {w : World} {ops : Array Oper} {o : Oper} {a : Act} {K : Act → World → Prop} {Q : Exit → Act → World → Prop} {E' : Prop} (hgd : o.guard = none) (s x : Operand) (ho : o.op = .call { callee := .builtin .append, args := #[s, x], argTypes := #[S, S] })
    (base : Nat) (v : Value) (l : List Pt) (A : Nat → Sl) (hs : a.eval s = v) (hown : OwnP E w base v l A) (g : Nat) (p : Pt) (sl : Sl) (hx : a.eval x = .slice (some ⟨g, 0, none⟩) 1 1) (hb : Blk w g #[.int .i64 p.first, .int .i64 p.id, .slice sl.ad sl.m sl.c] E)
    (hbytes : (l.length + 1) * 40 ≤ 140737488355328) (hbase : base ≤ w.heap.size)
    (h : ∀ v' w', OwnP E w' base v' (l ++ [p]) (fun i => if i < l.length then A i else sl) → w.grownBy w' v.ownBlock → (∀ g ∈ v'.ownBlock.toList, g ∈ v.ownBlock.toList ∨ w.heap.size ≤ g) → K (a.put o.dst v') w') : if Region.wanted o (yielded ops a.tmps) = true then Oper.wp Try.prog o a w K Q else E' := by
  obtain ⟨v', w', hrun, h1, h2, h3⟩ := run_app_part hT hown o.type g p sl hb hbytes hbase
  rw [if_pos (by simp [Region.wanted, hgd])]
  unfold Oper.wp
  simp [execOp, ho, resolve, invoke, builtin, hs, hx, hrun, Result.andThen]
  exact h v' w' h1 h2 h3
theorem emptyI_own (w : World) (base : Nat) (hb : base ≤ w.heap.size) : (w.alloc (.cells #[] 3)).ownsRow base 3 1 (.slice (some ⟨w.heap.size, 0, none⟩) 0 0) 0 (intsV []) := World.ownsRow_lit w #[] 0 hb (by unfold maxLen; omega) rfl
theorem grown_below {w w' : World} {base : Nat} {v : Value} (h : w.grownBy w' v.ownBlock) (hv : ∀ g, v.ownBlock = some g → base ≤ g) (hb : base ≤ w.heap.size) : Below base w w' :=
  ⟨h.os, h.tape, h.output, h.size, fun k hk => h.block k (Nat.lt_of_lt_of_le hk hb) (fun e => by have := hv k e.symm; omega)⟩
theorem owns_base {w : World} {base E z n : Nat} {v : Value} {xs : List Value} (h : w.ownsRow base E z v n xs) : ∀ g, v.ownBlock = some g → base ≤ g := by
  intro g hg
  rcases h.2 with ⟨rfl, -⟩ | ⟨g', cap, cur, rfl, hb, -⟩
  · cases hg
  · cases hg; exact hb
end Go.Proofs.Ythadagpfmacemaa

/- slices.Clone of numbers. -/
namespace Go.Proofs.Ythadagpfmacemaa
open Go.RowKit
variable {w w' : World} {l : List Int} {ad : Option Addr} {m c : Nat}

/-- New numbers: in blocks from base on. -/
structure NewI (w : World) (base : Nat) (l : List Int) (s : Sl) : Prop where
  ints : Ints w l s.ad s.m s.c
  nil : s.ad = none → s.m = 0 ∧ s.c = 0
  new : s.m ≠ 0 → ∀ b off, s.ad = some ⟨b, off, none⟩ → base ≤ b ∧ ∃ cur, w.heap[b]? = some (.cells cur 3)
theorem NewI.chg {base : Nat} {s : Sl} {F : List Nat} (h : NewI w base l s) (hb : Chg F w w') (hF : ∀ g ∈ F, ∀ cur, w.heap[g]? ≠ some (.cells cur 3)) : NewI w' base l s := by
  have hn : s.m ≠ 0 → ∀ b off, s.ad = some ⟨b, off, none⟩ → b ∉ F := fun h0 b off e hm => by
    obtain ⟨-, cur, hc⟩ := h.new h0 b off e
    exact hF b hm cur hc
  refine ⟨h.ints.chg hb hn, h.nil, fun h0 b off e => ?_⟩
  obtain ⟨h1, cur, hc⟩ := h.new h0 b off e
  have hlt : b < w.heap.size := by
    rcases Nat.lt_or_ge b w.heap.size with hlt | hge
    · exact hlt
    · rw [Array.getElem?_eq_none hge] at hc; cases hc
  exact ⟨h1, cur, (hb.block b hlt (hn h0 b off e)).trans hc⟩
theorem NewI.later {base : Nat} {s : Sl} (h : NewI w base l s) (hb : Below w.heap.size w w') : NewI w' base l s := h.chg (F := []) (Chg.of hb) (fun g hg => by cases hg)
theorem NewI.down {base b' : Nat} {s : Sl} (h : NewI w base l s) (hb : b' ≤ base) : NewI w b' l s := ⟨h.ints, h.nil, fun h0 b off e => ⟨Nat.le_trans hb (h.new h0 b off e).1, (h.new h0 b off e).2⟩⟩
set_option maxRecDepth 100000 in
theorem clone_any (h : Ints w l ad m c) (hnone : ad = none → m = 0 ∧ c = 0) (hbytes : m * 8 ≤ 140737488355328) : Calls Try.prog 63 #[.slice ad m c] w fun e w' => ∃ s : Sl, e = .returned (.slice s.ad s.m s.c) ∧ Hid (NewI w' w.heap.size l s) ∧ Below w.heap.size w w' := by
  cases ad with
  | none =>
    obtain ⟨rfl, rfl⟩ := hnone rfl
    have e0 : l = [] := List.eq_nil_of_length_eq_zero h.len
    have HI : Hid (NewI w w.heap.size l ⟨none, 0, 0⟩) := ⟨h, fun _ => ⟨rfl, rfl⟩, fun _ b off e => (by cases e)⟩
    have hn : ∀ w : World, (binOp BinOp.eql 47 (.slice none 0 0) (.slice none 0 0)).run Try.prog w = .ok (.bool true) w := fun _ => by kernel_rfl
    clear h hnone e0
    go_enter Try.func63, Try.ntmps63
    go_wp2_with fail
    go_ret
    exact ⟨⟨none, 0, 0⟩, rfl, HI, Below.refl _ _⟩
  | some a =>
    have HB : Below w.heap.size w (w.alloc (.cells #[] 3)) := (Below.refl _ _).alloc (Nat.le_refl _) _
    have HI : Hid (Ints (w.alloc (.cells #[] 3)) l (some a) m c) := h.later HB
    have HL : Hid (∀ x ∈ l, -9223372036854775808 ≤ x ∧ x ≤ 9223372036854775807) := h.rng
    have hl : Hid (l.length = m) := h.len
    have HBh : Hid (Below w.heap.size w (w.alloc (.cells #[] 3))) := HB
    have q : ∀ w, (binOp .eql 47 (.slice (some a) m c) (.slice none 0 0)).run Try.prog w = .ok (.bool false) w := fun w => Lib.run_eql_slice_nil w _ _ _ m c 0 0 Try.underlying47
    clear h hnone HB
    go_enter Try.func63, Try.ntmps63
    go_wp2_with (at_builtin; refine app_ints rfl _ _ rfl w.heap.size 0 _ [] rfl (emptyI_own w _ (Nat.le_refl _)) (some a) m c l rfl HI.out (fun e => by cases e) (by omega) (by simp) ?_; intro v' w2 r1 r2; have HO : Hid (OwnI w2 w.heap.size v' l) := (show Hid _ from by rw [Nat.zero_add, List.nil_append] at r1; unfold OwnI; rw [hl.out]; exact r1); have HG : Hid (Below w.heap.size (w.alloc (.cells #[] 3)) w2) := (show Hid _ from grown_below r2 (fun g hg => by cases hg; exact Nat.le_refl _) (by simp)); clear r1 r2)
    go_ret
    obtain ⟨s, rfl, hm, hi, hn, hnew⟩ := HO.out.form HL.out
    exact ⟨s, rfl, ⟨hi, hn, fun _ => hnew⟩, HBh.out.trans HG.out⟩
end Go.Proofs.Ythadagpfmacemaa

/- grow of package chain. -/
namespace Go.Proofs.Ythadagpfmacemaa
open Go.RowKit
variable {w w' : World} {l : List Pt} {A : Nat → Sl} {ad : Option Addr} {m c : Nat}

theorem owns_typed {w : World} {base E z n : Nat} {v : Value} {xs : List Value} (h : w.ownsRow base E z v n xs) : ∀ g ∈ v.ownBlock.toList, ∃ cur, w.heap[g]? = some (.cells cur E) := by
  intro g hg
  rcases h.2 with ⟨rfl, -⟩ | ⟨g', cap, cur, rfl, hb, hc, -⟩
  · cases hg
  · simp [Value.ownBlock] at hg; subst hg; exact ⟨cur, hc⟩
theorem OwnP.chg {E : TypeId} {base : Nat} {v : Value} {l : List Pt} {A : Nat → Sl} {F : List Nat} (h : OwnP E w base v l A) (hb : Chg F w w') (hn : ∀ g ∈ v.ownBlock.toList, g ∉ F) : OwnP E w' base v l A := by
  refine ⟨h.1, ?_⟩
  rcases h.2 with h2 | ⟨g, cap, cur, hv, hgb, hg, r⟩
  · exact Or.inl h2
  · refine Or.inr ⟨g, cap, cur, hv, hgb, ?_, r⟩
    have hlt : g < w.heap.size := by
      rcases Nat.lt_or_ge g w.heap.size with hlt | hge
      · exact hlt
      · rw [Array.getElem?_eq_none hge] at hg; cases hg
    rw [hb.block g hlt (hn g (by rw [hv]; simp [Value.ownBlock]))]
    exact hg
theorem grown_chg {w w' : World} {v : Value} (h : w.grownBy w' v.ownBlock) : Chg v.ownBlock.toList w w' :=
  ⟨h.os, h.tape, h.output, h.size, fun k hk hn => h.block k hk (fun e => hn (by rw [← e]; simp))⟩
/-- grow in its midst: j parts of l stand behind those of l0. -/
structure GrowI (w : World) (base : Nat) (F : List Nat) (l0 : List Pt) (A0 : Nat → Sl) (l : List Pt) (j : Nat) (v : Value) (A' : Nat → Sl) (W : World) : Prop where
  own : OwnP 61 W base v (l0 ++ l.take j) A'
  old : ∀ i, i < l0.length → A' i = A0 i
  new : ∀ i, i < j → NewI W w.heap.size (ptAt l i).nodes (A' (l0.length + i))
  chg : Chg F w W
  blk : ∀ g ∈ v.ownBlock.toList, g ∈ F ∨ w.heap.size ≤ g
theorem GrowI.start {base : Nat} {l0 : List Pt} {A0 : Nat → Sl} {v : Value} (h : OwnP 61 w base v l0 A0) : GrowI w base v.ownBlock.toList l0 A0 l 0 v A0 w :=
  ⟨by simpa using h, fun _ _ => rfl, fun i hi => absurd hi (Nat.not_lt_zero _), Chg.refl _ _, fun g hg => Or.inl hg⟩
theorem part_ne_int {w : World} {g : Nat} {cs : Array Value} (h : w.heap[g]? = some (.cells cs 61)) : ∀ cur, w.heap[g]? ≠ some (.cells cur 3) := by
  intro cur e
  rw [h] at e
  simp at e
/-- One round. -/
theorem GrowI.step {base : Nat} {F : List Nat} {l0 : List Pt} {A0 A' : Nat → Sl} {j : Nat} {v v' : Value} {W w2 w5 : World} {s : Sl} {cs : Array Value} (h : GrowI w base F l0 A0 l j v A' W) (hj : j < l.length)
    (h2 : Below (W.alloc (.cells cs 61)).heap.size (W.alloc (.cells cs 61)) w2) (hs : NewI w2 (W.alloc (.cells cs 61)).heap.size (ptAt l j).nodes s) (u : Value) (o : Obj)
    (h5 : OwnP 61 w5 base v' ((l0 ++ l.take j) ++ [ptAt l j]) (fun i => if i < (l0 ++ l.take j).length then A' i else s)) (hg : ((w2.setCell ⟨W.heap.size, 2, none⟩ u).alloc o).grownBy w5 v.ownBlock) (hv : ∀ g ∈ v'.ownBlock.toList, g ∈ v.ownBlock.toList ∨ W.heap.size ≤ g) :
    GrowI w base F l0 A0 l (j + 1) v' (fun i => if i < (l0 ++ l.take j).length then A' i else s) w5 := by
  have hlen : (l0 ++ l.take j).length = l0.length + j := by simp; omega
  have hbx : Blk (W.alloc (.cells cs 61)) W.heap.size cs 61 := heap_alloc_new W _
  have hb2 := hbx.later h2
  have hw : w.heap.size ≤ W.heap.size := h.chg.size
  -- the worlds, one behind the other
  have c1 : Chg [] W (W.alloc (.cells cs 61)) := Chg.of ((Below.refl _ _).alloc (Nat.le_refl _) _)
  have c2 : Chg [] (W.alloc (.cells cs 61)) w2 := Chg.of h2
  have c3 : Chg [W.heap.size] w2 (w2.setCell ⟨W.heap.size, 2, none⟩ u) := (Chg.refl _ _).set (Or.inl (by simp)) _ _
  have c4 : Chg [] (w2.setCell ⟨W.heap.size, 2, none⟩ u) ((w2.setCell ⟨W.heap.size, 2, none⟩ u).alloc o) := Chg.of ((Below.refl _ _).alloc (Nat.le_refl _) _)
  have c5 := grown_chg hg
  -- v's block is a block of parts in each of them
  have t0 := owns_typed h.own
  have hvlt : ∀ g ∈ v.ownBlock.toList, g < W.heap.size := fun g hg => by
    obtain ⟨cur, hc⟩ := t0 g hg
    rcases Nat.lt_or_ge g W.heap.size with hlt | hge
    · exact hlt
    · rw [Array.getElem?_eq_none hge] at hc; cases hc
  have t4 : ∀ g ∈ v.ownBlock.toList, ∃ cur, ((w2.setCell ⟨W.heap.size, 2, none⟩ u).alloc o).heap[g]? = some (.cells cur 61) := fun g hg => by
    obtain ⟨cur, hc⟩ := t0 g hg
    have l0 := hvlt g hg
    refine ⟨cur, ?_⟩
    rw [c4.block g (by have := c1.size; have := c2.size; have := c3.size; omega) (by simp), c3.block g (by have := c1.size; have := c2.size; omega) (by simp; omega), c2.block g (by have := c1.size; omega) (by simp), c1.block g l0 (by simp)]
    exact hc
  have keep : ∀ {lst : List Int} {sl : Sl} {b : Nat}, NewI w2 b lst sl → NewI w5 b lst sl := fun {lst sl b} hn => by
    have e3 := hn.chg c3 (fun g hg cur => by simp at hg; subst hg; exact part_ne_int hb2 cur)
    have e4 := e3.chg c4 (fun g hg => by cases hg)
    exact e4.chg c5 (fun g hg cur => by obtain ⟨c0, hc⟩ := t4 g hg; exact part_ne_int hc cur)
  refine ⟨?_, fun i hi => ?_, fun i hi => ?_, ?_, fun g hg => ?_⟩
  · rw [take_snocP l j hj, ← List.append_assoc]; exact h5
  · simp only [hlen, show i < l0.length + j by omega, if_true]; exact h.old i hi
  · by_cases e : i = j
    · subst e
      simp only [hlen, Nat.lt_irrefl, if_false]
      exact (keep hs).down (by have := c1.size; omega)
    · simp only [hlen, show l0.length + i < l0.length + j by omega, if_true]
      exact keep (((h.new i (by omega)).chg c1 (fun g hg => by cases hg)).chg c2 (fun g hg => by cases hg))
  · have d1 := h.chg.trans c1 (fun k hk => by cases hk)
    have d2 := d1.trans c2 (fun k hk => by cases hk)
    have d3 := d2.trans c3 (fun k hk => by simp at hk; subst hk; exact Or.inr hw)
    have d4 := d3.trans c4 (fun k hk => by cases hk)
    exact d4.trans c5 (fun k hk => h.blk k hk)
  · rcases hv g hg with h1 | h1
    · exact h.blk g h1
    · exact Or.inr (by omega)
theorem heap_alloc_new' (w : World) (g : Nat) (cs : Array Value) {T : TypeId} (h : w.heap.size = g) : Blk (w.alloc (.cells cs T)) g cs T := by
  subst h
  exact heap_alloc_new w _
theorem OwnP.setNew {E : TypeId} {base : Nat} {v : Value} {l : List Pt} {A : Nat → Sl} {N : Nat} (h : OwnP E w base v l A) (hv : ∀ g ∈ v.ownBlock.toList, g < N) (i : Nat) (u : Value) (o : Obj) : OwnP E ((w.setCell ⟨N, i, none⟩ u).alloc o) base v l A :=
  (h.chg (F := [N]) ((Chg.refl _ _).set (Or.inl (by simp)) _ _) (fun g hg => by have := hv g hg; simp; omega)).later ((Below.refl _ _).alloc (Nat.le_refl _) _)
set_option maxRecDepth 100000 in
set_option maxHeartbeats 2000000 in
theorem grow_any {base : Nat} {l0 : List Pt} {A0 : Nat → Sl} {v0 : Value} (h0 : OwnP 61 w base v0 l0 A0) (h : CArg w l A ad m c) (hbase : base ≤ w.heap.size) (hn : l0.length + m ≤ 1000000) (hni : ∀ i, i < m → (A i).m * 8 ≤ 140737488355328)
    (hF : CBlk (fun b => b ∉ v0.ownBlock.toList) A ad m) :
    Calls Try.prog 46 #[v0, .slice ad m c] w fun e w' => ∃ v' A', e = .returned v' ∧ Hid (GrowI w base v0.ownBlock.toList l0 A0 l m v' A' w') := by
  have H : Hid (CArg w l A ad m c) := h
  have HS : Hid (GrowI w base v0.ownBlock.toList l0 A0 l 0 v0 A0 w) := GrowI.start h0
  have HF : Hid (CBlk (fun b => b ∉ v0.ownBlock.toList) A ad m) := hF
  have HN : Hid (∀ i, i < m → (A i).m * 8 ≤ 140737488355328) := hni
  have hl := h.len
  have hb : Hid (base ≤ w.heap.size) := hbase
  have hm : m ≤ 9223372036854775807 := by omega
  clear h h0 hF hni hbase
  generalize v0.ownBlock.toList = F at *
  go_enter Try.func46, Try.ntmps46
  go_wp2_with fail
  go_loopw [0, 9] (fun vv i wr => ∃ j : Nat, j ≤ m ∧ i = .int .i64 j ∧ ∃ A', Hid (GrowI w base F l0 A0 l j vv A' wr)) (fun _ i _ => m - (intOf i).toNat)
  case atStart => exact ⟨0, by omega, rfl, A0, HS⟩
  case round =>
    obtain ⟨j, hj, rfl, A', HG⟩ := hrel
    by_cases hlt : j < m
    · have hlti : decide ((j : Int) < (m : Int)) = true := by simp; omega
      have h2 := H.out.chg HG.out.chg HF.out
      obtain ⟨b, off, rfl, hs, hc⟩ := h2.cells (by omega)
      obtain ⟨r0, r1, r2⟩ := hc j hlt
      have HB1 : Hid (Below wr.heap.size wr (wr.alloc (.cells #[.int .i64 (ptAt l j).first, .int .i64 (ptAt l j).id, .slice (A j).ad (A j).m (A j).c] 61))) := (show Hid _ from (Below.refl _ _).alloc (Nat.le_refl _) _)
      have HK : Hid (Blk (wr.alloc (.cells #[.int .i64 (ptAt l j).first, .int .i64 (ptAt l j).id, .slice (A j).ad (A j).m (A j).c] 61)) wr.heap.size #[.int .i64 (ptAt l j).first, .int .i64 (ptAt l j).id, .slice (A j).ad (A j).m (A j).c] 61) := (show Hid _ from heap_alloc_new wr _)
      have HC := clone_any ((h2.ints j hlt).1.later HB1.out) (h2.ints j hlt).2 (HN.out j hlt)
      have HO : Hid (OwnP 61 wr base u0 (l0 ++ l.take j) A') := HG.out.own
      have hlen : Hid ((l0 ++ l.take j).length = l0.length + j) := hid (by rw [List.length_append, List.length_take]; omega)
      have hsz : Hid (w.heap.size ≤ wr.heap.size) := HG.out.chg.size
      have hvlt : Hid (∀ g ∈ u0.ownBlock.toList, g < wr.heap.size) := (show Hid _ from fun g hg => by
        obtain ⟨cur, hc⟩ := owns_typed HO.out g hg
        rcases Nat.lt_or_ge g wr.heap.size with hlt | hge
        · exact hlt
        · rw [Array.getElem?_eq_none hge] at hc; cases hc)
      have HST : Hid (∀ (w2 w5 : World) (sl : Sl) (v' u : Value) (o : Obj), Below (wr.alloc (.cells #[.int .i64 (ptAt l j).first, .int .i64 (ptAt l j).id, .slice (A j).ad (A j).m (A j).c] 61)).heap.size (wr.alloc (.cells #[.int .i64 (ptAt l j).first, .int .i64 (ptAt l j).id, .slice (A j).ad (A j).m (A j).c] 61)) w2 → NewI w2 (wr.alloc (.cells #[.int .i64 (ptAt l j).first, .int .i64 (ptAt l j).id, .slice (A j).ad (A j).m (A j).c] 61)).heap.size (ptAt l j).nodes sl → OwnP 61 w5 base v' ((l0 ++ l.take j) ++ [ptAt l j]) (fun i => if i < (l0 ++ l.take j).length then A' i else sl) → ((w2.setCell ⟨wr.heap.size, 2, none⟩ u).alloc o).grownBy w5 u0.ownBlock → (∀ g ∈ v'.ownBlock.toList, g ∈ u0.ownBlock.toList ∨ wr.heap.size ≤ g) → ∃ A'', GrowI w base F l0 A0 l (j + 1) v' A'' w5) := (show Hid _ from fun w2 w5 sl v' u o a1 a2 a3 a4 a5 => ⟨_, HG.out.step (by omega) a1 a2 u o a3 a4 a5⟩)
      have HP : Hid (∃ p : Pt, p = ptAt l j ∧ p.first = (ptAt l j).first ∧ p.id = (ptAt l j).id) := (show Hid _ from ⟨_, rfl, rfl, rfl⟩)
      clear hc hs h2 HS HN
      generalize hf : (ptAt l j).first = f at *
      generalize hid' : (ptAt l j).id = id at *
      generalize (A j).ad = ad1 at *
      generalize (A j).m = m1 at *
      generalize (A j).c = c1 at *
      have Hf : Hid ((ptAt l j).first = f ∧ (ptAt l j).id = id) := ⟨hf, hid'⟩
      clear hf hid'
      go_wp2_with first
        | (go_at_call 63; refine HC.mono ?_; rintro e w2 ⟨sl, rfl, hnew, hb2⟩; have HB2 := hid hb2; have HK2 := hid (HK.out.later hb2); have k0 : w2.cell? ⟨wr.heap.size, 0, none⟩ = some (.int .i64 f) := HK2.out.cell 0; have k1 : w2.cell? ⟨wr.heap.size, 1, none⟩ = some (.int .i64 id) := HK2.out.cell 1; have k2 : w2.cell? ⟨wr.heap.size, 2, none⟩ = some (.slice ad1 m1 c1) := HK2.out.cell 2; have f2 := HK2.out.free 2; have kl := HK2.out.lt; have hsz2 : Hid (wr.heap.size ≤ ((w2.setCell ⟨wr.heap.size, 2, none⟩ (.slice sl.ad sl.m sl.c)).alloc (.cells #[.int .i64 f, .int .i64 id, .slice sl.ad sl.m sl.c] 61)).heap.size) := hid (by simp [World.setCell]; omega); have hba2 : Hid (base ≤ ((w2.setCell ⟨wr.heap.size, 2, none⟩ (.slice sl.ad sl.m sl.c)).alloc (.cells #[.int .i64 f, .int .i64 id, .slice sl.ad sl.m sl.c] 61)).heap.size) := hid (Nat.le_trans hb.out (Nat.le_trans hsz.out hsz2.out)); clear hb2)
        | (at_builtin; refine app_part ptypeC rfl _ _ rfl base u0 (l0 ++ l.take j) A' rfl ?ho w2.heap.size (ptAt l j) sl rfl ?hb (by rw [hlen.out]; omega) ?hba ?_; (case ho => exact ((HO.out.later HB1.out).later HB2.out).setNew hvlt.out _ _ _); (case hb => rw [Hf.out.1, Hf.out.2]; exact heap_alloc_new' _ _ _ (by simp [World.setCell])); (case hba => exact hba2.out); intro v' w5 r1 r2 r3; have HR := hid (HST.out w2 w5 sl v' _ _ HB2.out hnew.out r1 r2 (fun g hg => (r3 g hg).imp (fun h => h) (fun h => Nat.le_trans hsz2.out h))); clear r1 r2 r3)
      obtain ⟨A'', hr⟩ := HR.out
      exact ⟨⟨j + 1, by omega, by go_num, A'', hr⟩, by simp [intOf]; omega⟩
    · obtain rfl : j = m := by omega
      have hlti : decide ((j : Int) < (j : Int)) = false := by simp
      go_wp2_with fail
      go_ret
      exact ⟨_, _, rfl, HG⟩
end Go.Proofs.Ythadagpfmacemaa

/- config of the law's package (by genown.py). -/
namespace Go.Proofs.Ythadagpfmacemaa
open Go.RowKit
variable {w : World} {ad : Option Addr} {m c : Nat} {ns : List Int}

set_option maxRecDepth 100000 in
set_option maxHeartbeats 1000000 in
theorem config_any (hx : Ints w ns ad m c) (hx0 : ad = none → m = 0 ∧ c = 0) (hb : m * 8 ≤ 140737488355328) (id : Int) : Calls Try.prog 22 #[.agg #[.int .i64 id, .slice ad m c]] w fun x w' => ∃ s : Sl, x = .returned (.agg #[.int .i64 id, .slice s.ad s.m s.c]) ∧ Hid (NewI w' w.heap.size ns s ∧ s.m = m) ∧ Below w.heap.size w w' := by
  obtain ⟨W2, hW2⟩ : ∃ W2, ((w.alloc (.cells #[.int .i64 id, .slice ad m c] 49)).alloc (.cells #[.int .i64 0, .slice none 0 0] 54)) = W2 := ⟨_, rfl⟩
  have hb2 : Below w.heap.size w W2 := by rw [← hW2]; exact ((Below.refl _ w).alloc (Nat.le_refl _) _).alloc (by simp) _
  have hs2 : W2.heap.size = w.heap.size + 2 := by rw [← hW2]; simp
  have q0 : Blk W2 w.heap.size #[.int .i64 id, .slice ad m c] 49 := by rw [← hW2]; exact (show Blk _ w.heap.size _ _ from heap_alloc_new w _).later ((Below.refl _ _).alloc (Nat.le_refl _) _)
  have q1 : Blk W2 (w.heap.size + 1) #[.int .i64 0, .slice none 0 0] 54 := by rw [← hW2]; exact heap_alloc_new' _ _ _ (by simp)
  have HS : Hid (∀ X, Below W2.heap.size W2 X → X.cell? ⟨w.heap.size, 0, none⟩ = some (.int .i64 id) ∧ X.cell? ⟨w.heap.size, 1, none⟩ = some (.slice ad m c)) := hid (fun X hX => ⟨(q0.later hX).cell 0, (q0.later hX).cell 1⟩)
  have HZ : Hid (∀ X, Below W2.heap.size W2 X → X.cell? ⟨w.heap.size + 1, 0, none⟩ = some (.int .i64 0) ∧ X.cell? ⟨w.heap.size + 1, 1, none⟩ = some (.slice none 0 0) ∧ X.frozen? ⟨w.heap.size + 1, 0, none⟩ = false ∧ X.frozen? ⟨w.heap.size + 1, 1, none⟩ = false) := hid (fun X hX => ⟨(q1.later hX).cell 0, (q1.later hX).cell 1, (q1.later hX).free 0, (q1.later hX).free 1⟩)
  have HQ1 : Hid (∀ X, Below W2.heap.size W2 X → Blk X (w.heap.size + 1) #[.int .i64 0, .slice none 0 0] 54) := hid (fun X hX => q1.later hX)
  have HS2 : Hid (∀ X, Below W2.heap.size W2 X → ∀ s : Sl, (((X.setCell ⟨w.heap.size + 1, 0, none⟩ (.int .i64 id)).setCell ⟨w.heap.size + 1, 1, none⟩ (.slice s.ad s.m s.c)).cell? ⟨w.heap.size, 0, none⟩ = some (.int .i64 id) ∧ ((X.setCell ⟨w.heap.size + 1, 0, none⟩ (.int .i64 id)).setCell ⟨w.heap.size + 1, 1, none⟩ (.slice s.ad s.m s.c)).cell? ⟨w.heap.size, 1, none⟩ = some (.slice ad m c))) := hid (fun X hX s => by
    have q := ((q0.later hX).other (C := w.heap.size + 1) (by omega) 0 (.int .i64 id)).other (C := w.heap.size + 1) (by omega) 1 (.slice s.ad s.m s.c)
    exact ⟨q.cell 0, q.cell 1⟩)
  have HI : Hid (∀ X, Below W2.heap.size W2 X → Ints X ns ad m c) := hid (fun X hX => (hx.later hb2).later hX)
  have HL : Hid (∀ x ∈ ns, -9223372036854775808 ≤ x ∧ x ≤ 9223372036854775807) := hx.rng
  have hl : Hid (ns.length = m) := hx.len
  have Hx0 := hid hx0
  have HB2 := hid hb2
  have Hs2 := hid hs2
  clear hx hx0 q0 q1 hb2 hs2
  go_enter Try.func22, Try.ntmps22
  go_wp2_with fail
  refine wp_region_held_drew (S := fun W => W.cell? ⟨w.heap.size, 0, none⟩ = some (.int .i64 id) ∧ W.cell? ⟨w.heap.size, 1, none⟩ = some (.slice ad m c)) (by kernel_rfl) (HS.out _ (Below.refl _ _).drew) (fun hHeld => ?_)
  refine wpAnyH_take (i := 0) (oi := { dst := some 3, op := Op.fieldAddr 49 (Operand.tmp 1) 0, type := 0, pos := "law.go:17", after := #[], guard := none }) (v := ?_) rfl (by kernel_rfl) (by kernel_rfl) (by kernel_rfl) (fun _ _ _ h => h) (Or.inl ⟨by rfl, ?_⟩) hHeld ?_
  rotate_left
  · intro w hSw; (try dsimp only at hSw); go_simp; try with_reducible rfl
  try simp only [Act.put, List.setIfInBounds_toArray, List.set_cons_zero, List.set_cons_succ]
  refine wpAnyH_take (i := 1) (oi := { dst := some 4, op := Op.load 3 (Operand.tmp 3), type := 3, pos := "law.go:17", after := #[{ on := 0, ground := Ground.data }], guard := none }) (v := ?_) rfl (by kernel_rfl) (by kernel_rfl) (by kernel_rfl) (fun _ _ _ h => h) (Or.inl ⟨by rfl, ?_⟩) hHeld ?_
  rotate_left
  · intro w hSw; (try dsimp only at hSw); go_simp; try with_reducible rfl
  try simp only [Act.put, List.setIfInBounds_toArray, List.set_cons_zero, List.set_cons_succ]
  refine wpAnyH_take (i := 3) (oi := { dst := some 6, op := Op.fieldAddr 49 (Operand.tmp 1) 1, type := 0, pos := "law.go:17", after := #[], guard := none }) (v := ?_) rfl (by kernel_rfl) (by kernel_rfl) (by kernel_rfl) (fun _ _ _ h => h) (Or.inl ⟨by rfl, ?_⟩) hHeld ?_
  rotate_left
  · intro w hSw; (try dsimp only at hSw); go_simp; try with_reducible rfl
  try simp only [Act.put, List.setIfInBounds_toArray, List.set_cons_zero, List.set_cons_succ]
  refine wpAnyH_take (i := 4) (oi := { dst := some 7, op := Op.load 47 (Operand.tmp 6), type := 47, pos := "law.go:17", after := #[{ on := 3, ground := Ground.data }], guard := none }) (v := ?_) rfl (by kernel_rfl) (by kernel_rfl) (by kernel_rfl) (fun _ _ _ h => h) (Or.inl ⟨by rfl, ?_⟩) hHeld ?_
  rotate_left
  · intro w hSw; (try dsimp only at hSw); go_simp; try with_reducible rfl
  try simp only [Act.put, List.setIfInBounds_toArray, List.set_cons_zero, List.set_cons_succ]
  refine wpAnyH_ready (rs := [2]) (by kernel_rfl) (by simp) ?_
  refine AllReadyH.cons rfl (fun K hK => ?_) (AllReadyH.nil)
  go_simp
  refine hK.out _ _ (HS.out _ ((Below.refl _ W2).alloc (Nat.le_refl _) _).drew) (fun hHeld => ?_)
  clear hK K
  try simp only [Act.put, List.setIfInBounds_toArray, List.set_cons_zero, List.set_cons_succ]
  refine wpAnyH_ready (rs := [5]) (by kernel_rfl) (by simp) ?_
  refine AllReadyH.cons rfl (fun K hK => ?_) (AllReadyH.nil)
  refine step_app_ints rfl _ _ rfl W2.heap.size 0 (.slice (some ⟨W2.heap.size, 0, none⟩) 0 0) [] rfl (emptyI_own W2 _ (Nat.le_refl _)) ad m c ns rfl (HI.out _ ((Below.refl _ W2).alloc (Nat.le_refl _) _).drew) Hx0.out (by omega) (by simp) ?_
  intro v' w5 r1 r2
  have HO : Hid (OwnI w5 W2.heap.size v' ns) := hid (by rw [Nat.zero_add, List.nil_append] at r1; unfold OwnI; rw [hl.out]; exact r1)
  have HG : Hid (Below W2.heap.size W2 w5) := hid (((Below.refl _ W2).alloc (Nat.le_refl _) _).drew.trans (grown_below r2 (fun g hg => by cases hg; exact Nat.le_refl _) (by simp)))
  clear r1 r2
  obtain ⟨s, rfl, hsm, hi, hn, hnew⟩ := HO.out.form HL.out
  have HN : Hid (NewI w5 W2.heap.size ns s ∧ s.m = m) := hid ⟨⟨hi, hn, fun _ => hnew⟩, by rw [hsm, hl.out]⟩
  obtain ⟨z0, z1, y0, y1⟩ := HZ.out w5 HG.out
  clear hi hn hnew HO hsm
  refine hK.out _ _ (HS.out _ HG.out) (fun hHeld => ?_)
  clear hK K
  refine wpAnyH_take (i := 6) (oi := { dst := some 9, op := Op.build 54 #[(0, Operand.tmp 4), (1, Operand.tmp 8)], type := 54, pos := "law.go:17", after := #[{ on := 1, ground := Ground.data }, { on := 5, ground := Ground.data }], guard := none }) (v := ?_) rfl (by kernel_rfl) (by kernel_rfl) (by kernel_rfl) (fun _ _ _ h => h) (Or.inl ⟨by rfl, ?_⟩) hHeld ?_
  rotate_left
  · intro w hSw; (try dsimp only at hSw); go_simp; try with_reducible rfl
  refine wpAnyH_ready (rs := [7]) (by kernel_rfl) (by simp) ?_
  refine AllReadyH.cons rfl (fun K hK => ?_) (AllReadyH.nil)
  go_simp
  refine hK.out _ _ (HS2.out _ HG.out s) (fun hHeld => ?_)
  clear hK K
  refine wpAnyH_done (by kernel_rfl) ?_ _

  go_wp2_with fail
  have m0 := ((HQ1.out w5 HG.out).set 0 (.int .i64 id)).set 1 (.slice s.ad s.m s.c)
  have s0 : ((w5.setCell ⟨w.heap.size + 1, 0, none⟩ (.int .i64 id)).setCell ⟨w.heap.size + 1, 1, none⟩ (.slice s.ad s.m s.c)).cell? ⟨w.heap.size + 1, 0, none⟩ = some (.int .i64 id) := m0.cell 0
  have s1 : ((w5.setCell ⟨w.heap.size + 1, 0, none⟩ (.int .i64 id)).setCell ⟨w.heap.size + 1, 1, none⟩ (.slice s.ad s.m s.c)).cell? ⟨w.heap.size + 1, 1, none⟩ = some (.slice s.ad s.m s.c) := m0.cell 1
  have hcg : Chg [w.heap.size + 1] w5 ((w5.setCell ⟨w.heap.size + 1, 0, none⟩ (.int .i64 id)).setCell ⟨w.heap.size + 1, 1, none⟩ (.slice s.ad s.m s.c)) := ((Chg.refl _ w5).set (Or.inl (by simp)) _ _).set (Or.inl (by simp)) _ _
  have hbw : Below w.heap.size w w5 := HB2.out.trans (HG.out.mono HB2.out.size)
  refine bodyPost_ret (v := .agg #[.int .i64 id, .slice s.ad s.m s.c]) (by simp [results, Try.results22, go_sem, s0, s1]) rfl ⟨s, rfl, hid ⟨?_, HN.out.2⟩, ?_⟩
  · refine (HN.out.1.chg hcg (fun g hg cur => ?_)).down HB2.out.size
    simp at hg
    subst hg
    rw [HQ1.out w5 HG.out]
    simp
  · exact hbw.trans (hcg.below (fun k hk => by simp at hk; omega) hbw.size)
end Go.Proofs.Ythadagpfmacemaa
