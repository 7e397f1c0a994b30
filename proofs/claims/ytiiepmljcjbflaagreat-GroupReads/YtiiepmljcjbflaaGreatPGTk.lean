/- Values of many cells: loaded, stored, made. No function of the program is named here. -/
import Derived.Test.YtiiepmljcjbflaaGreatPGOwn
import Derived.Deep.WholeRow
import Derived.Deep.OwnRows
import Derived.Deep.DeepAppendWide
import Derived.Laws.CopyRow
import Derived.Laws.CopyOwn
import Derived.Maps.OwnSet
import Derived.OrdersHeld
import Derived.WalkLawsBesides
import Derived.Deep.RegionLaw
import Derived.Deep.RegionHeld3
namespace Go.Proofs.YtiiepmljcjbflaaGreat
open Go.RowKit

/-! ### The operations as runs -/
def isWide : TypeDesc → Bool
  | .struct _ | .array _ _ => true
  | _ => false
section
variable {P : Program}
theorem run_loadVar_cells (w : World) (ty : TypeId) (d : TypeDesc) (hu : P.underlying ty = some d) (hd : isWide d = true)
    (l : List Value) (hi : (P.info? ty).map (·.size) = some l.length) (g off : Nat) (hc : ∀ j, j < l.length → w.cell? ⟨g, off + j, none⟩ = l[j]?) :
    (loadVar ty ⟨g, off, none⟩).run P w = .ok (.agg l.toArray) w := by
  have hl : (loadCells ⟨g, off, none⟩ l.length).run P w = .ok l.toArray w :=
    run_loadCells_list (P := P) w ⟨g, off, none⟩ l (fun j v hv => by
      have hj : j < l.length := (List.getElem?_eq_some_iff.1 hv).1
      rw [addr_add, hc j hj, hv])
  cases hq : P.info? ty with
  | none => simp [hq] at hi
  | some i =>
    have hs : i.size = l.length := by simpa [hq] using hi
    have hagg : (isAgg ty).run P w = .ok true w := by
      unfold isAgg
      rw [Sem.run_bind, run_underlying hu w]
      cases d <;> simp_all [isWide]
    simp [loadVar, Sem.run_bind, hagg, sizeOf, typeInfo, hq, hs, hl]
theorem run_storeVar_cells (w : World) (ty : TypeId) (l : List Value) (hi : (P.info? ty).map (·.size) = some l.length) (g off : Nat) (t : TypeId) (cur : Array Value)
    (hg : w.heap[g]? = some (.cells cur t (0, 0))) (hfit : off + l.length ≤ cur.size) (h1 : ∀ v ∈ l, v.oneCell' = true) :
    (storeVar ty ⟨g, off, none⟩ (.agg l.toArray)).run P w = .ok () (w.setRow g (cur.toList.take off ++ l ++ cur.toList.drop (off + l.length)).toArray) := by
  have hst := run_storeCells_at P g off t l 0 cur w hg (by simpa using hfit) h1
  cases hq : P.info? ty with
  | none => simp [hq] at hi
  | some i =>
    have hs : i.size = l.length := by simpa [hq] using hi
    simp [storeVar, sizeOf, typeInfo, hq, Value.cells, hs]
    simpa using hst
end
variable {ops : Array Oper} {rest : List Oper} {o : Oper} {a : Act} {w : World} {Q : Exit → Act → World → Prop}
theorem load_wide (hgd : o.guard = none) (ty : TypeId) (x : Operand) (ho : o.op = .load ty x) (d : TypeDesc) (hu : Tryz.prog.underlying ty = some d) (hd : isWide d = true)
    (l : List Value) (hi : (Tryz.prog.info? ty).map (·.size) = some l.length) (g off : Nat) (hx : a.eval x = .pointer (some ⟨g, off, none⟩)) (hc : ∀ j, j < l.length → w.cell? ⟨g, off + j, none⟩ = l[j]?)
    (h : wpList Tryz.prog ops Q rest (a.put o.dst (.agg l.toArray)) w) : wpList Tryz.prog ops Q (o :: rest) a w := by
  refine wpList_plain hgd fun K hK => ?_
  unfold Oper.wp execOp
  simp only [ho, hx, Instr.loadAt, Instr.sureAddr, Sem.run_bind, Sem.run_pure, Result.andThen_ok, run_loadVar_cells w ty d hu hd l hi g off hc]
  exact hK _ _ h
theorem store_wide (hgd : o.guard = none) (ty : TypeId) (x y : Operand) (ho : o.op = .store ty x y) (l : List Value) (hi : (Tryz.prog.info? ty).map (·.size) = some l.length) (g off : Nat) (hx : a.eval x = .pointer (some ⟨g, off, none⟩)) (hy : a.eval y = .agg l.toArray)
    (t : TypeId) (cur : Array Value) (hg : w.heap[g]? = some (.cells cur t (0, 0))) (hfit : off + l.length ≤ cur.size) (h1 : ∀ v ∈ l, v.oneCell' = true)
    (h : wpList Tryz.prog ops Q rest (a.put o.dst undef) (w.setRow g (cur.toList.take off ++ l ++ cur.toList.drop (off + l.length)).toArray)) : wpList Tryz.prog ops Q (o :: rest) a w := by
  refine wpList_plain hgd fun K hK => ?_
  unfold Oper.wp execOp
  simp only [ho, hx, hy, Instr.storeAt, Instr.sureAddr, Sem.run_bind, Sem.run_pure, Result.andThen_ok, run_storeVar_cells w ty l hi g off t cur hg hfit h1]
  exact hK _ _ h
/-- .. into the block that was made last, whole. -/
theorem store_new {w0 : World} (hgd : o.guard = none) (ty : TypeId) (x y : Operand) (ho : o.op = .store ty x y) (l : List Value) (hi : (Tryz.prog.info? ty).map (·.size) = some l.length) (hx : a.eval x = .pointer (some ⟨w0.heap.size, 0, none⟩)) (hy : a.eval y = .agg l.toArray)
    (t : TypeId) (cur : Array Value) (hw : w = w0.alloc (.cells cur t)) (hfit : l.length = cur.size) (h1 : ∀ v ∈ l, v.oneCell' = true)
    (h : wpList Tryz.prog ops Q rest (a.put o.dst undef) (w0.alloc (.cells l.toArray t))) : wpList Tryz.prog ops Q (o :: rest) a w := by
  subst hw
  refine store_wide hgd ty x y ho l hi w0.heap.size 0 hx hy t cur (heap_alloc_last _ _) (by omega) h1 ?_
  have e : (cur.toList.take 0 ++ l ++ cur.toList.drop (0 + l.length)) = l := by rw [List.drop_of_length_le (by simp; omega)]; simp
  rw [e, World.setRow_alloc_new]
  exact h
end Go.Proofs.YtiiepmljcjbflaaGreat

/- Slices of structs whose cells are one value each, whatever the struct: as they lie somewhere, as they are of the call's own. -/
namespace Go.Proofs.YtiiepmljcjbflaaGreat
open Go.RowKit
theorem hid {p : Prop} (h : p) : Hid p := h
theorem once {T G : Prop} (main : T → G) (rest : T) : G := main rest
variable {α : Type} {w w' : World}

/-- A struct as plain data: its cells. -/
structure Kd (α : Type) where
  T : TypeId
  S : TypeId
  sz : Nat
  bytes : Nat
  V : α → List Value
  z : α
  zero : Value
structure Kd.fit (K : Kd α) : Prop where
  len : ∀ a, (K.V a).length = K.sz
  pos : 0 < K.sz
structure Kd.ok (K : Kd α) : Prop extends Kd.fit K where
  one : ∀ a, ∀ v ∈ K.V a, v.oneCell' = true
  info : (Tryz.prog.info? K.T).map (fun i => (i.zero, i.size, i.bytes)) = some (some K.zero, K.sz, K.bytes)
  zsz : K.zero.cells.size = K.sz
  und : Tryz.prog.underlying K.S = some (.slice K.T)
variable {K : Kd α}
def Kd.Vs (K : Kd α) (l : List α) : List Value := l.flatMap K.V
theorem Kd.Vs_append (l m : List α) : K.Vs (l ++ m) = K.Vs l ++ K.Vs m := by unfold Kd.Vs; simp
theorem Kd.Vs_one (a : α) : K.Vs [a] = K.V a := by unfold Kd.Vs; simp
theorem Kd.fit.Vs_len (hK : K.fit) (l : List α) : (K.Vs l).length = l.length * K.sz := by
  induction l with
  | nil => simp [Kd.Vs]
  | cons a l ih => have : K.Vs (a :: l) = K.V a ++ K.Vs l := rfl
                   rw [this, List.length_append, ih, hK.len, List.length_cons, Nat.add_mul]; omega
theorem Kd.fit.Vs_get (hK : K.fit) (l : List α) (i c : Nat) (hi : i < l.length) (hc : c < K.sz) : (K.Vs l)[i * K.sz + c]? = (K.V (l.getD i K.z))[c]? := by
  induction l generalizing i with
  | nil => simp at hi
  | cons a l ih =>
    have e : K.Vs (a :: l) = K.V a ++ K.Vs l := rfl
    have h1 := hK.len a
    rw [e]
    cases i with
    | zero => rw [List.getElem?_append_left (by omega)]; simp
    | succ i =>
      have h2 : (i + 1) * K.sz + c = i * K.sz + c + K.sz := by rw [Nat.add_mul]; omega
      rw [List.getElem?_append_right (by omega), h2, h1, Nat.add_sub_cancel, ih i (by simp at hi; omega)]
      simp [List.getD_eq_getElem?_getD]
theorem Kd.fit.Vs_cell (hK : K.fit) (l : List α) (j : Nat) (u : Value) (h : (K.Vs l)[j]? = some u) : ∃ i c, i < l.length ∧ c < K.sz ∧ j = i * K.sz + c ∧ (K.V (l.getD i K.z))[c]? = some u := by
  have hj : j < l.length * K.sz := by rw [← hK.Vs_len]; exact (List.getElem?_eq_some_iff.1 h).1
  have hp := hK.pos
  have h1 : j / K.sz < l.length := Nat.div_lt_of_lt_mul (by rw [Nat.mul_comm]; exact hj)
  have h2 : j % K.sz < K.sz := Nat.mod_lt _ hp
  have h3 : j = j / K.sz * K.sz + j % K.sz := by rw [Nat.mul_comm]; exact (Nat.div_add_mod j K.sz).symm
  refine ⟨j / K.sz, j % K.sz, h1, h2, h3, ?_⟩
  rw [← hK.Vs_get l _ _ h1 h2, ← h3]
  exact h
theorem Kd.ok.Vs_ones (hK : K.ok) (l : List α) : ∀ u ∈ K.Vs l, u.oneCell' = true := by
  intro u hu
  unfold Kd.Vs at hu
  rw [List.mem_flatMap] at hu
  obtain ⟨a, _, h⟩ := hu
  exact hK.one a u h
/-- In w the structs l lie from the address ad on. -/
def RowK (K : Kd α) (w : World) (ad : Option Addr) (l : List α) : Prop :=
  l = [] ∨ ∃ b off, ad = some ⟨b, off, none⟩ ∧ b < w.heap.size ∧ ∀ i, i < l.length → ∀ c, c < K.sz → w.cell? ⟨b, off + i * K.sz + c, none⟩ = (K.V (l.getD i K.z))[c]?
/-- .. as a slice. -/
structure ArgK (K : Kd α) (w : World) (l : List α) (ad : Option Addr) (m c : Nat) : Prop where
  len : l.length = m
  nil : ad = none → m = 0 ∧ c = 0
  cap : m ≤ c
  room : c ≤ maxLen
  row : RowK K w ad l
theorem RowK.keep {ad : Option Addr} {l : List α} (h : RowK K w ad l) (hs : w.heap.size ≤ w'.heap.size) (hk : ∀ b off, ad = some ⟨b, off, none⟩ → b < w.heap.size → l ≠ [] → w'.heap[b]? = w.heap[b]?) : RowK K w' ad l := by
  by_cases h0 : l = []
  · exact Or.inl h0
  · rcases h with h | ⟨b, off, e, hb, hc⟩
    · exact Or.inl h
    · refine Or.inr ⟨b, off, e, Nat.lt_of_lt_of_le hb hs, fun i hi c hcc => ?_⟩
      rw [← hc i hi c hcc]
      simp only [World.cell?, hk b off e hb h0]
theorem RowK.later {ad : Option Addr} {l : List α} (h : RowK K w ad l) (hb : Below w.heap.size w w') : RowK K w' ad l := h.keep hb.size (fun b _ _ hlt _ => hb.block b hlt)
theorem ArgK.later {l : List α} {ad : Option Addr} {m c : Nat} (h : ArgK K w l ad m c) (hb : Below w.heap.size w w') : ArgK K w' l ad m c := ⟨h.len, h.nil, h.cap, h.room, h.row.later hb⟩
theorem ArgK.cells {l : List α} {ad : Option Addr} {m c : Nat} (h : ArgK K w l ad m c) (hm : 0 < m) : ∃ b off, ad = some ⟨b, off, none⟩ ∧ b < w.heap.size ∧ ∀ i, i < m → ∀ c, c < K.sz → w.cell? ⟨b, off + i * K.sz + c, none⟩ = (K.V (l.getD i K.z))[c]? := by
  have hl := h.len
  obtain ⟨b, off, e, hb, hc⟩ := h.row.resolve_left (fun e => by rw [e] at hl; simp at hl; omega)
  exact ⟨b, off, e, hb, fun i hi => hc i (by omega)⟩
theorem RowK.cells {ad : Option Addr} {l : List α} (hK : K.fit) (h : RowK K w ad l) : ∀ a, ad = some a → ∀ j u, (K.Vs l)[j]? = some u → w.cell? (a.add j) = some u := by
  intro a ha j u hu
  obtain ⟨i, c, hi, hc, rfl, hv⟩ := hK.Vs_cell l j u hu
  rcases h with h | ⟨b, off, e, _, hcc⟩
  · subst h; simp at hi
  · rw [ha] at e; cases e
    rw [addr_add, ← Nat.add_assoc, hcc i hi c hc, hv]
/-- In w the value v is a slice of the structs l, in a block from base on that is its own. -/
def OwnK (K : Kd α) (w : World) (base : Nat) (v : Value) (l : List α) : Prop := w.ownsRow base K.T K.sz v l.length (K.Vs l)
theorem OwnK.form (hK : K.fit) {base : Nat} {v : Value} {l : List α} (h : OwnK K w base v l) : ∃ ad c, v = .slice ad l.length c ∧ ArgK K w l ad l.length c := by
  rcases h.2 with ⟨hv, h0⟩ | ⟨g, cap, cur, hv, hb, hg, hn, hm, hs, ht⟩
  · exact ⟨none, 0, by rw [hv, h0], rfl, fun _ => ⟨h0, rfl⟩, by omega, by unfold maxLen; omega, Or.inl (List.eq_nil_of_length_eq_zero h0)⟩
  · refine ⟨some ⟨g, 0, none⟩, cap, hv, rfl, fun e => (by cases e), hn, hm, Or.inr ⟨g, 0, rfl, (Array.getElem?_eq_some_iff.1 hg).1, fun i hi c hc => ?_⟩⟩
    have hc2 := World.ownsRow.cells h (g := g) (by rw [hv]; rfl)
    have h1 := hK.Vs_get l i c hi hc
    cases hq : (K.V (l.getD i K.z))[c]? with
    | none => have := hK.len (l.getD i K.z); rw [List.getElem?_eq_none_iff] at hq; omega
    | some u =>
      have := hc2 _ _ (h1.trans hq)
      rw [addr_add] at this
      rw [Nat.add_assoc]
      exact this
theorem OwnK.later {base : Nat} {v : Value} {l : List α} (h : OwnK K w base v l) (hb : Below w.heap.size w w') : OwnK K w' base v l := own_kept h hb
theorem OwnK.keep {base : Nat} {v : Value} {l : List α} (h : OwnK K w base v l) (hk : ∀ g, v.ownBlock = some g → w'.heap[g]? = w.heap[g]?) : OwnK K w' base v l := by
  refine ⟨h.1, ?_⟩
  rcases h.2 with h2 | ⟨g, cap, cur, hv, hgb, hg, r⟩
  · exact Or.inl h2
  · exact Or.inr ⟨g, cap, cur, hv, hgb, (hk g (by rw [hv]; rfl)).trans hg, r⟩
theorem OwnK.block {base : Nat} {v : Value} {l : List α} (h : OwnK K w base v l) : ∀ g, v.ownBlock = some g → base ≤ g ∧ g < w.heap.size ∧ ∃ cur, w.heap[g]? = some (.cells cur K.T (0, 0)) := by
  intro g hg
  rcases h.2 with ⟨e, -⟩ | ⟨g', cap, cur, e, hgb, hgc, -⟩
  · rw [e] at hg; cases hg
  · rw [e] at hg; cases hg
    exact ⟨hgb, (Array.getElem?_eq_some_iff.1 hgc).1, cur, hgc⟩
theorem OwnK.mono {base base' : Nat} {v : Value} {l : List α} (h : OwnK K w base v l) (hb : base' ≤ base) : OwnK K w base' v l := by
  refine ⟨h.1, ?_⟩
  rcases h.2 with h2 | ⟨g, cap, cur, hv, hgb, r⟩
  · exact Or.inl h2
  · exact Or.inr ⟨g, cap, cur, hv, Nat.le_trans hb hgb, r⟩
theorem OwnK.nil (w : World) (base : Nat) : OwnK K w base (.slice none 0 0) [] := World.ownsRow_nil _ _ _ _
/-- 'append(v, x...)', v of one's own. -/
theorem app_kd {ops : Array Oper} {rest : List Oper} {o : Oper} {a : Act} {Q : Exit → Act → World → Prop} (hK : K.ok) (hgd : o.guard = none) (s x : Operand)
    (ho : o.op = .call { callee := .builtin .append, args := #[s, x], argTypes := #[K.S, K.S] })
    (base : Nat) (v : Value) (L : List α) (hs : a.eval s = v) (hown : OwnK K w base v L)
    (ad : Option Addr) (m c : Nat) (l : List α) (hx : a.eval x = .slice ad m c) (hl : l.length = m) (hnone : ad = none → m = 0 ∧ c = 0) (hrow : RowK K w ad l)
    (hlen : L.length + m ≤ maxLen) (hbytes : (L.length + m) * K.bytes ≤ 140737488355328) (hbase : base ≤ w.heap.size)
    (h : ∀ v' w', OwnK K w' base v' (L ++ l) → w.grownBy w' v.ownBlock → wpList Tryz.prog ops Q rest (a.put o.dst v') w') : wpList Tryz.prog ops Q (o :: rest) a w := by
  obtain ⟨i0, hi, hz0, hz1, hz2⟩ := info_parts hK.info
  cases ad with
  | none =>
    obtain ⟨rfl, rfl⟩ := hnone rfl
    obtain rfl : l = [] := List.eq_nil_of_length_eq_zero hl
    refine wpList_append_own_none hgd s x K.S ho base K.T i0 K.sz hK.und hi v L.length _ hs hown hx ?_
    exact h v w (by simpa using hown) (World.grownBy.refl _ _)
  | some ad =>
    refine wpList_append_own w hgd s x K.S ho base K.T i0 _ K.sz K.bytes hK.und hi hz0 hz1 hz2 hK.zsz hK.pos v L.length _ hs hown ad m c (K.Vs l) hx (by rw [hK.tofit.Vs_len, hl]) (hrow.cells hK.tofit ad rfl) (hK.Vs_ones l) hlen hbytes hbase ?_
    intro v' w' h1 h2 _
    rw [← Kd.Vs_append, ← hl, ← List.length_append] at h1
    exact h v' w' h1 h2
/-- 'append(v, X{..})' as one step of a region that draws its order. -/
theorem step_app_kd {ops : Array Oper} {o : Oper} {a : Act} {Kn : Act → World → Prop} {Q : Exit → Act → World → Prop} {E : Prop} (hK : K.ok) (hgd : o.guard = none) (s x : Operand)
    (ho : o.op = .call { callee := .builtin .append, args := #[s, x], argTypes := #[K.S, K.S] })
    (base : Nat) (v : Value) (L : List α) (hs : a.eval s = v) (hown : OwnK K w base v L)
    (g : Nat) (y : α) (hx : a.eval x = .slice (some ⟨g, 0, none⟩) 1 1) (hob : RowK K w (some ⟨g, 0, none⟩) [y])
    (hlen : L.length + 1 ≤ maxLen) (hbytes : (L.length + 1) * K.bytes ≤ 140737488355328) (hbase : base ≤ w.heap.size)
    (h : ∀ b cap w', OwnK K w' base (.slice (some ⟨b, 0, none⟩) (L.length + 1) cap) (L ++ [y]) → w.grownBy w' v.ownBlock → (v.ownBlock = some b ∨ b = w.heap.size) → Kn (a.put o.dst (.slice (some ⟨b, 0, none⟩) (L.length + 1) cap)) w') :
    if Region.wanted o (yielded ops a.tmps) = true then Oper.wp Tryz.prog o a w Kn Q else E := by
  have hw : Region.wanted o (yielded ops a.tmps) = true := by simp [Region.wanted, hgd]
  rw [if_pos hw]
  obtain ⟨i0, hi, hz0, hz1, hz2⟩ := info_parts hK.info
  refine wp_append_lies w s x K.S ho base K.T i0 _ K.sz K.bytes hK.und hi hz0 hz1 hz2 hK.zsz hK.pos v L.length _ hs hown ⟨g, 0, none⟩ 1 1 (K.Vs [y]) hx (by rw [hK.tofit.Vs_len]; rfl) (hob.cells hK.tofit _ rfl) (hK.Vs_ones _) (by omega) hlen hbytes hbase w.heap.size rfl ?_
  intro b cap w' h1 h2 h3 _
  rw [← Kd.Vs_append] at h1
  refine h b cap w' ?_ h2 h3
  unfold OwnK
  rw [List.length_append]
  exact h1
/-- What an append leaves as it was. -/
theorem grown_chg {v : Value} (hg : w.grownBy w' v.ownBlock) (F : List Nat) (hF : ∀ g, v.ownBlock = some g → g ∈ F) : Chg F w w' := by
  refine ⟨hg.os, hg.tape, hg.output, hg.size, fun k hk hn => hg.block k hk (fun e => hn (hF k e.symm))⟩
theorem OwnK.chg {base : Nat} {v : Value} {l : List α} {F : List Nat} (h : OwnK K w base v l) (hc : Chg F w w') (hn : ∀ g, v.ownBlock = some g → g ∉ F) : OwnK K w' base v l := h.keep (fun g hg => hc.block g (h.block g hg).2.1 (hn g hg))
theorem take_snoc_any {α : Type} (l : List α) (z : α) (k : Nat) (h : k < l.length) : l.take (k + 1) = l.take k ++ [l.getD k z] := by
  rw [List.take_succ_eq_append_getElem h, List.getD_eq_getElem?_getD, List.getElem?_eq_getElem h]; rfl
/-! ### The kinds of this package: numbers, names, shares -/
abbrev Nm := List UInt8
/-- A name's text. -/
def nmS (s : Nm) : ByteArray := ⟨s.toArray⟩
abbrev kZ : Kd Int := ⟨3, 57, 1, 8, fun z => [.int .i64 z], 0, .int .i64 0⟩
theorem kZ_ok : kZ.ok := ⟨⟨fun _ => rfl, by decide⟩, fun a v hv => by (have : v = .int .i64 a := by simpa using hv); subst this; rfl, by kernel_rfl, rfl, Tryz.underlying57⟩
abbrev kS : Kd Nm := ⟨9, 50, 1, 16, fun s => [.string (nmS s)], [], .string ⟨#[]⟩⟩
theorem kS_ok : kS.ok := ⟨⟨fun _ => rfl, by decide⟩, fun a v hv => by (have : v = .string (nmS a) := by simpa using hv); subst this; rfl, by kernel_rfl, rfl, Tryz.underlying50⟩
/-- A slice, as the model has it. -/
structure Sl where
  ad : Option Addr
  m : Nat
  c : Nat
def Sl.v (s : Sl) : Value := .slice s.ad s.m s.c
def sl0 : Sl := ⟨none, 0, 0⟩
abbrev kSh : Kd (Nm × Sl) := ⟨157, 155, 2, 40, fun x => [.string (nmS x.1), .slice x.2.ad x.2.m x.2.c], ([], sl0), .agg #[.string ⟨#[]⟩, .slice none 0 0]⟩
theorem kSh_ok : kSh.ok := ⟨⟨fun _ => rfl, by decide⟩, fun a v hv => by (have : v = .string (nmS a.1) ∨ v = .slice a.2.ad a.2.m a.2.c := by simpa using hv); rcases this with rfl | rfl <;> rfl, by kernel_rfl, rfl, Tryz.underlying155⟩
end Go.Proofs.YtiiepmljcjbflaaGreat

/- An event of package group as plain data. No function of the program is named here. What is small of the events of package group: insist, isName, isMembers, numbers. -/
namespace Go.Proofs.YtiiepmljcjbflaaGreat
open Go.RowKit

/-- An event. -/
structure Ev where
  kind : Int
  mem : Nm
  gen : Int
  part : Int
  off : Int
  prod : Int
  ep : Int
  now : Int
  yes : Bool
deriving DecidableEq
/-- What a Kind takes of an event. -/
def Ev.taken (x : Ev) : Ev :=
  if x.kind = 1 then ⟨x.kind, x.mem, 0, 0, 0, 0, 0, x.now, false⟩
  else if x.kind = 2 then ⟨x.kind, x.mem, 0, 0, 0, 0, 0, x.now, false⟩
  else if x.kind = 3 then ⟨x.kind, x.mem, x.gen, 0, 0, 0, 0, x.now, false⟩
  else if x.kind = 4 then ⟨x.kind, x.mem, x.gen, x.part, x.off, 0, 0, 0, false⟩
  else if x.kind = 5 then ⟨x.kind, [], 0, 0, 0, 0, 0, x.now, false⟩
  else if x.kind = 6 then ⟨x.kind, x.mem, x.gen, x.part, x.off, x.prod, x.ep, 0, false⟩
  else if x.kind = 7 then ⟨x.kind, [], 0, 0, 0, x.prod, x.ep, 0, x.yes⟩
  else ⟨x.kind, [], 0, 0, 0, 0, 0, 0, false⟩
def inN (n : Int) : Prop := 0 ≤ n ∧ n < 281474976710656
instance (n : Int) : Decidable (inN n) := by unfold inN; infer_instance
def nameOk (s : Nm) : Bool := decide (1 ≤ s.length) && decide (s.length ≤ 64)
def Ev.isM (x : Ev) : Bool := !(x.kind == 5) && !(x.kind == 7)
/-- May an event be? -/
def Ev.may (x : Ev) : Prop := (1 ≤ x.kind ∧ x.kind < 8) ∧ x = x.taken ∧ nameOk x.mem = x.isM ∧ (inN x.gen ∧ inN x.part ∧ inN x.off ∧ inN x.prod ∧ inN x.ep ∧ inN x.now) ∧ x.part < 32 ∧ x.ep ≤ 2147483647
instance (x : Ev) : Decidable x.may := by unfold Ev.may; infer_instance
end Go.Proofs.YtiiepmljcjbflaaGreat
namespace Go.Proofs.YtiiepmljcjbflaaGreat
open Go.RowKit
variable {w w' : World}

/-- What a refusal raises. -/
abbrev refusal (y : Int) : List PanicEntry := [{ v := .iface 101 (.agg #[.int .i64 y]), recovered := false }]
theorem insist_ok (y : Int) (w : World) : Calls Tryz.prog 34 #[.bool true, .int .i64 y] w fun e w' => e = .returned (.tuple #[]) ∧ w' = w := by
  go_enter Tryz.func34, Tryz.ntmps34
  go_wp2_with fail
  go_end0
  exact ⟨rfl, rfl⟩
theorem insist_no (y : Int) (w : World) : Calls Tryz.prog 34 #[.bool false, .int .i64 y] w fun e w' => e = .panicked (refusal y) ∧ w' = w := by
  go_enter Tryz.func34, Tryz.ntmps34
  go_wp2_with fail
  exact ⟨rfl, rfl, rfl⟩
/-- How an insist ends. -/
def insC (b : Bool) (y : Int) : Ending := if b then .returned (.tuple #[]) else .panicked (refusal y)
theorem insC_no {p : Prop} [Decidable p] {y : Int} (h : ¬ p) : insC (decide p) y = .panicked (refusal y) := by unfold insC; rw [decide_eq_false h]; rfl
theorem insC_ok {p : Prop} [Decidable p] {y : Int} (h : p) : insC (decide p) y = .returned (.tuple #[]) := by unfold insC; rw [decide_eq_true h]; rfl
/-- How a decider ends. -/
def decC (y : Int) (d : Bool) : Ending := if y = 0 then .returned (.bool d) else .panicked (refusal y)
/-- An event's cells. -/
abbrev evA (x : Ev) : Array Value := #[.int .i64 x.kind, .string (nmS x.mem), .int .i64 x.gen, .int .i64 x.part, .int .i64 x.off, .int .i64 x.prod, .int .i64 x.ep, .int .i64 x.now, .bool x.yes]
abbrev TEv : TypeId := 29
abbrev TEn : TypeId := 26
theorem isName_any (s : Nm) (w : World) : Calls Tryz.prog 50 #[.string (nmS s)] w fun e w' => e = .returned (.bool (nameOk s)) ∧ w' = w := by
  have hz : (nmS s).size = s.length := by simp [nmS, ByteArray.size]
  have HV : Hid (nameOk s = (decide (1 ≤ s.length) && decide (s.length ≤ 64))) := hid rfl
  by_cases h : 1 ≤ s.length
  · have d1 : decide (1 ≤ s.length) = true := by simpa using h
    generalize nmS s = t at *
    generalize s.length = m at *
    subst hz
    go_enter Tryz.func50, Tryz.ntmps50
    go_wp2_with fail
    go_ret
    exact ⟨by rw [HV.out, d1]; simp; omega, rfl⟩
  · have d1 : decide (1 ≤ s.length) = false := by simpa using h
    generalize nmS s = t at *
    generalize s.length = m at *
    subst hz
    go_enter Tryz.func50, Tryz.ntmps50
    go_wp2_with fail
    go_ret
    exact ⟨by rw [HV.out, d1]; simp, rfl⟩
theorem isMembers_any (x : Ev) (w : World) : Calls Tryz.prog 51 #[.agg (evA x)] w fun e w' => e = .returned (.bool x.isM) ∧ w' = w.alloc (.cells (evA x) TEv) := by
  obtain ⟨k, s, a, b, c, d, e, f, y⟩ := x
  show Calls Tryz.prog 51 #[.agg #[.int .i64 k, .string (nmS s), .int .i64 a, .int .i64 b, .int .i64 c, .int .i64 d, .int .i64 e, .int .i64 f, .bool y]] w fun r w' => r = .returned (.bool (!(k == 5) && !(k == 7))) ∧ w' = w.alloc (.cells #[.int .i64 k, .string (nmS s), .int .i64 a, .int .i64 b, .int .i64 c, .int .i64 d, .int .i64 e, .int .i64 f, .bool y] TEv)
  generalize nmS s = t
  by_cases h : k = 5
  · subst h
    go_enter Tryz.func51, Tryz.ntmps51
    go_wp2_with fail
    go_ret
    exact ⟨rfl, rfl⟩
  · have h5 : (k == 5) = false := by simpa using h
    rw [h5]
    go_enter Tryz.func51, Tryz.ntmps51
    go_wp2_with fail
    go_ret
    exact ⟨by simp [h, bne], rfl⟩
theorem numbers_any (x : Ev) (w : World) : Calls Tryz.prog 52 #[.agg (evA x)] w fun e w' => e = .returned (.agg #[.int .i64 x.gen, .int .i64 x.part, .int .i64 x.off, .int .i64 x.prod, .int .i64 x.ep, .int .i64 x.now]) ∧ Below w.heap.size w w' := by
  obtain ⟨k, s, a, b, c, d, e, f, y⟩ := x
  show Calls Tryz.prog 52 #[.agg #[.int .i64 k, .string (nmS s), .int .i64 a, .int .i64 b, .int .i64 c, .int .i64 d, .int .i64 e, .int .i64 f, .bool y]] w fun r w' => r = .returned (.agg #[.int .i64 a, .int .i64 b, .int .i64 c, .int .i64 d, .int .i64 e, .int .i64 f]) ∧ Below w.heap.size w w'
  generalize nmS s = t
  go_enter Tryz.func52, Tryz.ntmps52
  go_wp2_with fail
  refine bodyPost_ret (v := .agg #[.int .i64 a, .int .i64 b, .int .i64 c, .int .i64 d, .int .i64 e, .int .i64 f]) (by simp [results, Tryz.results52, go_sem]) rfl ⟨rfl, ?_⟩
  exact ((Below.refl _ w).alloc (Nat.le_refl _) _).alloc (by simp) _
end Go.Proofs.YtiiepmljcjbflaaGreat

/- taken of package group, one Kind of event (by gentaken15.py). taken of package group, one Kind of event (by gentaken15.py). taken of package group, one Kind of event (by gentaken15.py). taken of package group, one Kind of event (by gentaken15.py). taken of package group, one Kind of event (by gentaken15.py). taken of package group, one Kind of event (by gentaken15.py). taken of package group, one Kind of event (by gentaken15.py). taken of package group, one Kind of event (by gentaken15.py). taken of package group. -/
namespace Go.Proofs.YtiiepmljcjbflaaGreat
open Go.RowKit
variable {w w' : World}

set_option maxRecDepth 100000 in
set_option maxHeartbeats 1000000 in
theorem taken0 (k : Int) (hk : (k == 1) = false ∧ (k == 2) = false ∧ (k == 3) = false ∧ (k == 4) = false ∧ (k == 5) = false ∧ (k == 6) = false ∧ (k == 7) = false) (s : ByteArray) (a b c d e f : Int) (y : Bool) (w : World) : Calls Tryz.prog 49 #[.agg #[.int .i64 k, .string s, .int .i64 a, .int .i64 b, .int .i64 c, .int .i64 d, .int .i64 e, .int .i64 f, .bool y]] w fun r w' => r = .returned (.agg #[.int .i64 k, .string ⟨#[]⟩, .int .i64 0, .int .i64 0, .int .i64 0, .int .i64 0, .int .i64 0, .int .i64 0, .bool false]) ∧ Below w.heap.size w w' := by
  obtain ⟨k1, k2, k3, k4, k5, k6, k7⟩ := hk
  go_enter Tryz.func49, Tryz.ntmps49
  go_wp2_with fail
  refine bodyPost_ret (v := .agg #[.int .i64 k, .string ⟨#[]⟩, .int .i64 0, .int .i64 0, .int .i64 0, .int .i64 0, .int .i64 0, .int .i64 0, .bool false]) (by simp [results, Tryz.results49, go_sem]) rfl ⟨rfl, ?_⟩
  repeat (first | exact Below.refl _ _ | refine Below.drew ?_ | refine Below.alloc ?_ (by simp; try omega) _)
end Go.Proofs.YtiiepmljcjbflaaGreat
namespace Go.Proofs.YtiiepmljcjbflaaGreat
open Go.RowKit
variable {w w' : World}

set_option maxRecDepth 100000 in
set_option maxHeartbeats 1000000 in
theorem taken1 (s : ByteArray) (a b c d e f : Int) (y : Bool) (w : World) : Calls Tryz.prog 49 #[.agg #[.int .i64 1, .string s, .int .i64 a, .int .i64 b, .int .i64 c, .int .i64 d, .int .i64 e, .int .i64 f, .bool y]] w fun r w' => r = .returned (.agg #[.int .i64 1, .string s, .int .i64 0, .int .i64 0, .int .i64 0, .int .i64 0, .int .i64 0, .int .i64 f, .bool false]) ∧ Below w.heap.size w w' := by
  go_enter Tryz.func49, Tryz.ntmps49
  go_wp2_with fail
  apply once
  case main =>
    intro hm
    go_region_law (fail)
    all_goals exact hm
  go_wp2_with fail
  refine bodyPost_ret (v := .agg #[.int .i64 1, .string s, .int .i64 0, .int .i64 0, .int .i64 0, .int .i64 0, .int .i64 0, .int .i64 f, .bool false]) (by simp [results, Tryz.results49, go_sem]) rfl ⟨rfl, ?_⟩
  repeat (first | exact Below.refl _ _ | refine Below.drew ?_ | refine Below.alloc ?_ (by simp; try omega) _)
end Go.Proofs.YtiiepmljcjbflaaGreat
namespace Go.Proofs.YtiiepmljcjbflaaGreat
open Go.RowKit
variable {w w' : World}

set_option maxRecDepth 100000 in
set_option maxHeartbeats 1000000 in
theorem taken2 (s : ByteArray) (a b c d e f : Int) (y : Bool) (w : World) : Calls Tryz.prog 49 #[.agg #[.int .i64 2, .string s, .int .i64 a, .int .i64 b, .int .i64 c, .int .i64 d, .int .i64 e, .int .i64 f, .bool y]] w fun r w' => r = .returned (.agg #[.int .i64 2, .string s, .int .i64 0, .int .i64 0, .int .i64 0, .int .i64 0, .int .i64 0, .int .i64 f, .bool false]) ∧ Below w.heap.size w w' := by
  go_enter Tryz.func49, Tryz.ntmps49
  go_wp2_with fail
  apply once
  case main =>
    intro hm
    go_region_law (fail)
    all_goals exact hm
  go_wp2_with fail
  refine bodyPost_ret (v := .agg #[.int .i64 2, .string s, .int .i64 0, .int .i64 0, .int .i64 0, .int .i64 0, .int .i64 0, .int .i64 f, .bool false]) (by simp [results, Tryz.results49, go_sem]) rfl ⟨rfl, ?_⟩
  repeat (first | exact Below.refl _ _ | refine Below.drew ?_ | refine Below.alloc ?_ (by simp; try omega) _)
end Go.Proofs.YtiiepmljcjbflaaGreat
namespace Go.Proofs.YtiiepmljcjbflaaGreat
open Go.RowKit
variable {w w' : World}

set_option maxRecDepth 100000 in
set_option maxHeartbeats 1000000 in
theorem taken3 (s : ByteArray) (a b c d e f : Int) (y : Bool) (w : World) : Calls Tryz.prog 49 #[.agg #[.int .i64 3, .string s, .int .i64 a, .int .i64 b, .int .i64 c, .int .i64 d, .int .i64 e, .int .i64 f, .bool y]] w fun r w' => r = .returned (.agg #[.int .i64 3, .string s, .int .i64 a, .int .i64 0, .int .i64 0, .int .i64 0, .int .i64 0, .int .i64 f, .bool false]) ∧ Below w.heap.size w w' := by
  go_enter Tryz.func49, Tryz.ntmps49
  go_wp2_with fail
  apply once
  case main =>
    intro hm
    go_region_law (fail)
    all_goals exact hm
  go_wp2_with fail
  refine bodyPost_ret (v := .agg #[.int .i64 3, .string s, .int .i64 a, .int .i64 0, .int .i64 0, .int .i64 0, .int .i64 0, .int .i64 f, .bool false]) (by simp [results, Tryz.results49, go_sem]) rfl ⟨rfl, ?_⟩
  repeat (first | exact Below.refl _ _ | refine Below.drew ?_ | refine Below.alloc ?_ (by simp; try omega) _)
end Go.Proofs.YtiiepmljcjbflaaGreat
namespace Go.Proofs.YtiiepmljcjbflaaGreat
open Go.RowKit
variable {w w' : World}

set_option maxRecDepth 100000 in
set_option maxHeartbeats 1000000 in
theorem taken4 (s : ByteArray) (a b c d e f : Int) (y : Bool) (w : World) : Calls Tryz.prog 49 #[.agg #[.int .i64 4, .string s, .int .i64 a, .int .i64 b, .int .i64 c, .int .i64 d, .int .i64 e, .int .i64 f, .bool y]] w fun r w' => r = .returned (.agg #[.int .i64 4, .string s, .int .i64 a, .int .i64 b, .int .i64 c, .int .i64 0, .int .i64 0, .int .i64 0, .bool false]) ∧ Below w.heap.size w w' := by
  go_enter Tryz.func49, Tryz.ntmps49
  go_wp2_with fail
  refine wp_region_held_drew (S := fun W => W.cell? ⟨w.heap.size, 1, none⟩ = some (.string s) ∧ W.cell? ⟨w.heap.size, 2, none⟩ = some (.int .i64 a) ∧ W.cell? ⟨w.heap.size, 3, none⟩ = some (.int .i64 b) ∧ W.cell? ⟨w.heap.size, 4, none⟩ = some (.int .i64 c)) (by kernel_rfl) (by simp [go_sem]) (fun hHeld => ?_)
  refine wpAnyH_take (i := 0) (oi := { dst := some 31, op := Op.fieldAddr 29 (Operand.tmp 1) 1, type := 0, pos := "event.go:84", after := #[], guard := none }) (v := ?_) rfl (by kernel_rfl) (by kernel_rfl) (by kernel_rfl) (fun _ _ _ h => h) (Or.inl ⟨by rfl, ?_⟩) hHeld ?_
  rotate_left
  · intro w hSw; (try dsimp only at hSw); go_simp; try with_reducible rfl
  try simp only [Act.put, List.setIfInBounds_toArray, List.set_cons_zero, List.set_cons_succ]
  refine wpAnyH_take (i := 1) (oi := { dst := some 32, op := Op.load 9 (Operand.tmp 31), type := 9, pos := "event.go:84", after := #[{ on := 0, ground := Ground.data }], guard := none }) (v := ?_) rfl (by kernel_rfl) (by kernel_rfl) (by kernel_rfl) (fun _ _ _ h => h) (Or.inl ⟨by rfl, ?_⟩) hHeld ?_
  rotate_left
  · intro w hSw; (try dsimp only at hSw); go_simp; try with_reducible rfl
  try simp only [Act.put, List.setIfInBounds_toArray, List.set_cons_zero, List.set_cons_succ]
  refine wpAnyH_take (i := 2) (oi := { dst := some 33, op := Op.fieldAddr 29 (Operand.tmp 1) 2, type := 0, pos := "event.go:84", after := #[{ on := 9, ground := Ground.gcOnly Departure.lateStores }], guard := none }) (v := ?_) rfl (by kernel_rfl) (by kernel_rfl) (by kernel_rfl) (fun _ _ _ h => h) (Or.inl ⟨by rfl, ?_⟩) hHeld ?_
  rotate_left
  · intro w hSw; (try dsimp only at hSw); go_simp; try with_reducible rfl
  try simp only [Act.put, List.setIfInBounds_toArray, List.set_cons_zero, List.set_cons_succ]
  refine wpAnyH_take (i := 3) (oi := { dst := some 34, op := Op.load 3 (Operand.tmp 33), type := 3, pos := "event.go:84", after := #[{ on := 2, ground := Ground.data }, { on := 9, ground := Ground.gcOnly Departure.lateStores }], guard := none }) (v := ?_) rfl (by kernel_rfl) (by kernel_rfl) (by kernel_rfl) (fun _ _ _ h => h) (Or.inl ⟨by rfl, ?_⟩) hHeld ?_
  rotate_left
  · intro w hSw; (try dsimp only at hSw); go_simp; try with_reducible rfl
  try simp only [Act.put, List.setIfInBounds_toArray, List.set_cons_zero, List.set_cons_succ]
  refine wpAnyH_take (i := 4) (oi := { dst := some 35, op := Op.fieldAddr 29 (Operand.tmp 1) 3, type := 0, pos := "event.go:84", after := #[{ on := 11, ground := Ground.gcOnly Departure.lateStores }], guard := none }) (v := ?_) rfl (by kernel_rfl) (by kernel_rfl) (by kernel_rfl) (fun _ _ _ h => h) (Or.inl ⟨by rfl, ?_⟩) hHeld ?_
  rotate_left
  · intro w hSw; (try dsimp only at hSw); go_simp; try with_reducible rfl
  try simp only [Act.put, List.setIfInBounds_toArray, List.set_cons_zero, List.set_cons_succ]
  refine wpAnyH_take (i := 5) (oi := { dst := some 36, op := Op.load 3 (Operand.tmp 35), type := 3, pos := "event.go:84", after := #[{ on := 4, ground := Ground.data }, { on := 11, ground := Ground.gcOnly Departure.lateStores }], guard := none }) (v := ?_) rfl (by kernel_rfl) (by kernel_rfl) (by kernel_rfl) (fun _ _ _ h => h) (Or.inl ⟨by rfl, ?_⟩) hHeld ?_
  rotate_left
  · intro w hSw; (try dsimp only at hSw); go_simp; try with_reducible rfl
  try simp only [Act.put, List.setIfInBounds_toArray, List.set_cons_zero, List.set_cons_succ]
  refine wpAnyH_take (i := 6) (oi := { dst := some 37, op := Op.fieldAddr 29 (Operand.tmp 1) 4, type := 0, pos := "event.go:84", after := #[{ on := 13, ground := Ground.gcOnly Departure.lateStores }], guard := none }) (v := ?_) rfl (by kernel_rfl) (by kernel_rfl) (by kernel_rfl) (fun _ _ _ h => h) (Or.inl ⟨by rfl, ?_⟩) hHeld ?_
  rotate_left
  · intro w hSw; (try dsimp only at hSw); go_simp; try with_reducible rfl
  try simp only [Act.put, List.setIfInBounds_toArray, List.set_cons_zero, List.set_cons_succ]
  refine wpAnyH_take (i := 7) (oi := { dst := some 38, op := Op.load 3 (Operand.tmp 37), type := 3, pos := "event.go:84", after := #[{ on := 6, ground := Ground.data }, { on := 13, ground := Ground.gcOnly Departure.lateStores }], guard := none }) (v := ?_) rfl (by kernel_rfl) (by kernel_rfl) (by kernel_rfl) (fun _ _ _ h => h) (Or.inl ⟨by rfl, ?_⟩) hHeld ?_
  rotate_left
  · intro w hSw; (try dsimp only at hSw); go_simp; try with_reducible rfl
  try simp only [Act.put, List.setIfInBounds_toArray, List.set_cons_zero, List.set_cons_succ]
  refine wpAnyH_take (i := 8) (oi := { dst := some 39, op := Op.fieldAddr 29 (Operand.tmp 3) 1, type := 0, pos := "event.go:84", after := #[{ on := 0, ground := Ground.phase }, { on := 1, ground := Ground.phase }, { on := 2, ground := Ground.textOnly Departure.lateStores }, { on := 3, ground := Ground.textOnly Departure.lateStores }, { on := 4, ground := Ground.textOnly Departure.lateStores }, { on := 5, ground := Ground.textOnly Departure.lateStores }, { on := 6, ground := Ground.textOnly Departure.lateStores }, { on := 7, ground := Ground.textOnly Departure.lateStores }], guard := none }) (v := ?_) rfl (by kernel_rfl) (by kernel_rfl) (by kernel_rfl) (fun _ _ _ h => h) (Or.inl ⟨by rfl, ?_⟩) hHeld ?_
  rotate_left
  · intro w hSw; (try dsimp only at hSw); go_simp; try with_reducible rfl
  try simp only [Act.put, List.setIfInBounds_toArray, List.set_cons_zero, List.set_cons_succ]
  refine wpAnyH_ready (rs := [9]) (by kernel_rfl) (by simp) ?_
  refine AllReadyH.cons rfl (fun K hK => ?_) (AllReadyH.nil)
  go_simp
  refine hK.out _ _ (by simp [go_sem]) (fun hHeld => ?_)
  clear hK K
  try simp only [Act.put, List.setIfInBounds_toArray, List.set_cons_zero, List.set_cons_succ]
  refine wpAnyH_take (i := 10) (oi := { dst := some 40, op := Op.fieldAddr 29 (Operand.tmp 3) 2, type := 0, pos := "event.go:84", after := #[{ on := 0, ground := Ground.phase }, { on := 1, ground := Ground.phase }, { on := 2, ground := Ground.phase }, { on := 3, ground := Ground.phase }, { on := 4, ground := Ground.textOnly Departure.lateStores }, { on := 5, ground := Ground.textOnly Departure.lateStores }, { on := 6, ground := Ground.textOnly Departure.lateStores }, { on := 7, ground := Ground.textOnly Departure.lateStores }, { on := 8, ground := Ground.phase }, { on := 9, ground := Ground.phase }], guard := none }) (v := ?_) rfl (by kernel_rfl) (by kernel_rfl) (by kernel_rfl) (fun _ _ _ h => h) (Or.inl ⟨by rfl, ?_⟩) hHeld ?_
  rotate_left
  · intro w hSw; (try dsimp only at hSw); go_simp; try with_reducible rfl
  try simp only [Act.put, List.setIfInBounds_toArray, List.set_cons_zero, List.set_cons_succ]
  refine wpAnyH_ready (rs := [11]) (by kernel_rfl) (by simp) ?_
  refine AllReadyH.cons rfl (fun K hK => ?_) (AllReadyH.nil)
  go_simp
  refine hK.out _ _ (by simp [go_sem]) (fun hHeld => ?_)
  clear hK K
  try simp only [Act.put, List.setIfInBounds_toArray, List.set_cons_zero, List.set_cons_succ]
  refine wpAnyH_take (i := 12) (oi := { dst := some 41, op := Op.fieldAddr 29 (Operand.tmp 3) 3, type := 0, pos := "event.go:84", after := #[{ on := 0, ground := Ground.phase }, { on := 1, ground := Ground.phase }, { on := 2, ground := Ground.phase }, { on := 3, ground := Ground.phase }, { on := 4, ground := Ground.phase }, { on := 5, ground := Ground.phase }, { on := 6, ground := Ground.textOnly Departure.lateStores }, { on := 7, ground := Ground.textOnly Departure.lateStores }, { on := 8, ground := Ground.phase }, { on := 9, ground := Ground.phase }, { on := 10, ground := Ground.phase }, { on := 11, ground := Ground.phase }], guard := none }) (v := ?_) rfl (by kernel_rfl) (by kernel_rfl) (by kernel_rfl) (fun _ _ _ h => h) (Or.inl ⟨by rfl, ?_⟩) hHeld ?_
  rotate_left
  · intro w hSw; (try dsimp only at hSw); go_simp; try with_reducible rfl
  try simp only [Act.put, List.setIfInBounds_toArray, List.set_cons_zero, List.set_cons_succ]
  refine wpAnyH_ready (rs := [13]) (by kernel_rfl) (by simp) ?_
  refine AllReadyH.cons rfl (fun K hK => ?_) (AllReadyH.nil)
  go_simp
  refine hK.out _ _ (by simp [go_sem]) (fun hHeld => ?_)
  clear hK K
  try simp only [Act.put, List.setIfInBounds_toArray, List.set_cons_zero, List.set_cons_succ]
  refine wpAnyH_take (i := 14) (oi := { dst := some 42, op := Op.fieldAddr 29 (Operand.tmp 3) 4, type := 0, pos := "event.go:84", after := #[{ on := 0, ground := Ground.phase }, { on := 1, ground := Ground.phase }, { on := 2, ground := Ground.phase }, { on := 3, ground := Ground.phase }, { on := 4, ground := Ground.phase }, { on := 5, ground := Ground.phase }, { on := 6, ground := Ground.phase }, { on := 7, ground := Ground.phase }, { on := 8, ground := Ground.phase }, { on := 9, ground := Ground.phase }, { on := 10, ground := Ground.phase }, { on := 11, ground := Ground.phase }, { on := 12, ground := Ground.phase }, { on := 13, ground := Ground.phase }], guard := none }) (v := ?_) rfl (by kernel_rfl) (by kernel_rfl) (by kernel_rfl) (fun _ _ _ h => h) (Or.inl ⟨by rfl, ?_⟩) hHeld ?_
  rotate_left
  · intro w hSw; (try dsimp only at hSw); go_simp; try with_reducible rfl
  try simp only [Act.put, List.setIfInBounds_toArray, List.set_cons_zero, List.set_cons_succ]
  refine wpAnyH_ready (rs := [15]) (by kernel_rfl) (by simp) ?_
  refine AllReadyH.cons rfl (fun K hK => ?_) (AllReadyH.nil)
  go_simp
  refine hK.out _ _ (by simp [go_sem]) (fun hHeld => ?_)
  clear hK K
  try simp only [Act.put, List.setIfInBounds_toArray, List.set_cons_zero, List.set_cons_succ]
  refine wpAnyH_done (by kernel_rfl) ?_ _
  clear hHeld
  go_wp2_with fail
  refine bodyPost_ret (v := .agg #[.int .i64 4, .string s, .int .i64 a, .int .i64 b, .int .i64 c, .int .i64 0, .int .i64 0, .int .i64 0, .bool false]) (by simp [results, Tryz.results49, go_sem]) rfl ⟨rfl, ?_⟩
  repeat (first | exact Below.refl _ _ | refine Below.drew ?_ | refine Below.alloc ?_ (by simp; try omega) _)
end Go.Proofs.YtiiepmljcjbflaaGreat
namespace Go.Proofs.YtiiepmljcjbflaaGreat
open Go.RowKit
variable {w w' : World}

set_option maxRecDepth 100000 in
set_option maxHeartbeats 1000000 in
theorem taken5 (s : ByteArray) (a b c d e f : Int) (y : Bool) (w : World) : Calls Tryz.prog 49 #[.agg #[.int .i64 5, .string s, .int .i64 a, .int .i64 b, .int .i64 c, .int .i64 d, .int .i64 e, .int .i64 f, .bool y]] w fun r w' => r = .returned (.agg #[.int .i64 5, .string ⟨#[]⟩, .int .i64 0, .int .i64 0, .int .i64 0, .int .i64 0, .int .i64 0, .int .i64 f, .bool false]) ∧ Below w.heap.size w w' := by
  go_enter Tryz.func49, Tryz.ntmps49
  go_wp2_with fail
  refine bodyPost_ret (v := .agg #[.int .i64 5, .string ⟨#[]⟩, .int .i64 0, .int .i64 0, .int .i64 0, .int .i64 0, .int .i64 0, .int .i64 f, .bool false]) (by simp [results, Tryz.results49, go_sem]) rfl ⟨rfl, ?_⟩
  repeat (first | exact Below.refl _ _ | refine Below.drew ?_ | refine Below.alloc ?_ (by simp; try omega) _)
end Go.Proofs.YtiiepmljcjbflaaGreat
namespace Go.Proofs.YtiiepmljcjbflaaGreat
open Go.RowKit
variable {w w' : World}

set_option maxRecDepth 100000 in
set_option maxHeartbeats 1000000 in
theorem taken6 (s : ByteArray) (a b c d e f : Int) (y : Bool) (w : World) : Calls Tryz.prog 49 #[.agg #[.int .i64 6, .string s, .int .i64 a, .int .i64 b, .int .i64 c, .int .i64 d, .int .i64 e, .int .i64 f, .bool y]] w fun r w' => r = .returned (.agg #[.int .i64 6, .string s, .int .i64 a, .int .i64 b, .int .i64 c, .int .i64 d, .int .i64 e, .int .i64 0, .bool false]) ∧ Below w.heap.size w w' := by
  go_enter Tryz.func49, Tryz.ntmps49
  go_wp2_with fail
  refine wp_region_held_drew (S := fun W => W.cell? ⟨w.heap.size, 1, none⟩ = some (.string s) ∧ W.cell? ⟨w.heap.size, 2, none⟩ = some (.int .i64 a) ∧ W.cell? ⟨w.heap.size, 3, none⟩ = some (.int .i64 b) ∧ W.cell? ⟨w.heap.size, 4, none⟩ = some (.int .i64 c)) (by kernel_rfl) (by simp [go_sem]) (fun hHeld => ?_)
  refine wpAnyH_take (i := 0) (oi := { dst := some 50, op := Op.fieldAddr 29 (Operand.tmp 1) 1, type := 0, pos := "event.go:88", after := #[], guard := none }) (v := ?_) rfl (by kernel_rfl) (by kernel_rfl) (by kernel_rfl) (fun _ _ _ h => h) (Or.inl ⟨by rfl, ?_⟩) hHeld ?_
  rotate_left
  · intro w hSw; (try dsimp only at hSw); go_simp; try with_reducible rfl
  try simp only [Act.put, List.setIfInBounds_toArray, List.set_cons_zero, List.set_cons_succ]
  refine wpAnyH_take (i := 1) (oi := { dst := some 51, op := Op.load 9 (Operand.tmp 50), type := 9, pos := "event.go:88", after := #[{ on := 0, ground := Ground.data }], guard := none }) (v := ?_) rfl (by kernel_rfl) (by kernel_rfl) (by kernel_rfl) (fun _ _ _ h => h) (Or.inl ⟨by rfl, ?_⟩) hHeld ?_
  rotate_left
  · intro w hSw; (try dsimp only at hSw); go_simp; try with_reducible rfl
  try simp only [Act.put, List.setIfInBounds_toArray, List.set_cons_zero, List.set_cons_succ]
  refine wpAnyH_take (i := 2) (oi := { dst := some 52, op := Op.fieldAddr 29 (Operand.tmp 1) 2, type := 0, pos := "event.go:88", after := #[{ on := 9, ground := Ground.gcOnly Departure.lateStores }], guard := none }) (v := ?_) rfl (by kernel_rfl) (by kernel_rfl) (by kernel_rfl) (fun _ _ _ h => h) (Or.inl ⟨by rfl, ?_⟩) hHeld ?_
  rotate_left
  · intro w hSw; (try dsimp only at hSw); go_simp; try with_reducible rfl
  try simp only [Act.put, List.setIfInBounds_toArray, List.set_cons_zero, List.set_cons_succ]
  refine wpAnyH_take (i := 3) (oi := { dst := some 53, op := Op.load 3 (Operand.tmp 52), type := 3, pos := "event.go:88", after := #[{ on := 2, ground := Ground.data }, { on := 9, ground := Ground.gcOnly Departure.lateStores }], guard := none }) (v := ?_) rfl (by kernel_rfl) (by kernel_rfl) (by kernel_rfl) (fun _ _ _ h => h) (Or.inl ⟨by rfl, ?_⟩) hHeld ?_
  rotate_left
  · intro w hSw; (try dsimp only at hSw); go_simp; try with_reducible rfl
  try simp only [Act.put, List.setIfInBounds_toArray, List.set_cons_zero, List.set_cons_succ]
  refine wpAnyH_take (i := 4) (oi := { dst := some 54, op := Op.fieldAddr 29 (Operand.tmp 1) 3, type := 0, pos := "event.go:88", after := #[{ on := 11, ground := Ground.gcOnly Departure.lateStores }], guard := none }) (v := ?_) rfl (by kernel_rfl) (by kernel_rfl) (by kernel_rfl) (fun _ _ _ h => h) (Or.inl ⟨by rfl, ?_⟩) hHeld ?_
  rotate_left
  · intro w hSw; (try dsimp only at hSw); go_simp; try with_reducible rfl
  try simp only [Act.put, List.setIfInBounds_toArray, List.set_cons_zero, List.set_cons_succ]
  refine wpAnyH_take (i := 5) (oi := { dst := some 55, op := Op.load 3 (Operand.tmp 54), type := 3, pos := "event.go:88", after := #[{ on := 4, ground := Ground.data }, { on := 11, ground := Ground.gcOnly Departure.lateStores }], guard := none }) (v := ?_) rfl (by kernel_rfl) (by kernel_rfl) (by kernel_rfl) (fun _ _ _ h => h) (Or.inl ⟨by rfl, ?_⟩) hHeld ?_
  rotate_left
  · intro w hSw; (try dsimp only at hSw); go_simp; try with_reducible rfl
  try simp only [Act.put, List.setIfInBounds_toArray, List.set_cons_zero, List.set_cons_succ]
  refine wpAnyH_take (i := 6) (oi := { dst := some 56, op := Op.fieldAddr 29 (Operand.tmp 1) 4, type := 0, pos := "event.go:88", after := #[{ on := 13, ground := Ground.gcOnly Departure.lateStores }], guard := none }) (v := ?_) rfl (by kernel_rfl) (by kernel_rfl) (by kernel_rfl) (fun _ _ _ h => h) (Or.inl ⟨by rfl, ?_⟩) hHeld ?_
  rotate_left
  · intro w hSw; (try dsimp only at hSw); go_simp; try with_reducible rfl
  try simp only [Act.put, List.setIfInBounds_toArray, List.set_cons_zero, List.set_cons_succ]
  refine wpAnyH_take (i := 7) (oi := { dst := some 57, op := Op.load 3 (Operand.tmp 56), type := 3, pos := "event.go:88", after := #[{ on := 6, ground := Ground.data }, { on := 13, ground := Ground.gcOnly Departure.lateStores }], guard := none }) (v := ?_) rfl (by kernel_rfl) (by kernel_rfl) (by kernel_rfl) (fun _ _ _ h => h) (Or.inl ⟨by rfl, ?_⟩) hHeld ?_
  rotate_left
  · intro w hSw; (try dsimp only at hSw); go_simp; try with_reducible rfl
  try simp only [Act.put, List.setIfInBounds_toArray, List.set_cons_zero, List.set_cons_succ]
  refine wpAnyH_take (i := 8) (oi := { dst := some 58, op := Op.fieldAddr 29 (Operand.tmp 3) 1, type := 0, pos := "event.go:88", after := #[{ on := 0, ground := Ground.phase }, { on := 1, ground := Ground.phase }, { on := 2, ground := Ground.textOnly Departure.lateStores }, { on := 3, ground := Ground.textOnly Departure.lateStores }, { on := 4, ground := Ground.textOnly Departure.lateStores }, { on := 5, ground := Ground.textOnly Departure.lateStores }, { on := 6, ground := Ground.textOnly Departure.lateStores }, { on := 7, ground := Ground.textOnly Departure.lateStores }], guard := none }) (v := ?_) rfl (by kernel_rfl) (by kernel_rfl) (by kernel_rfl) (fun _ _ _ h => h) (Or.inl ⟨by rfl, ?_⟩) hHeld ?_
  rotate_left
  · intro w hSw; (try dsimp only at hSw); go_simp; try with_reducible rfl
  try simp only [Act.put, List.setIfInBounds_toArray, List.set_cons_zero, List.set_cons_succ]
  refine wpAnyH_ready (rs := [9]) (by kernel_rfl) (by simp) ?_
  refine AllReadyH.cons rfl (fun K hK => ?_) (AllReadyH.nil)
  go_simp
  refine hK.out _ _ (by simp [go_sem]) (fun hHeld => ?_)
  clear hK K
  try simp only [Act.put, List.setIfInBounds_toArray, List.set_cons_zero, List.set_cons_succ]
  refine wpAnyH_take (i := 10) (oi := { dst := some 59, op := Op.fieldAddr 29 (Operand.tmp 3) 2, type := 0, pos := "event.go:88", after := #[{ on := 0, ground := Ground.phase }, { on := 1, ground := Ground.phase }, { on := 2, ground := Ground.phase }, { on := 3, ground := Ground.phase }, { on := 4, ground := Ground.textOnly Departure.lateStores }, { on := 5, ground := Ground.textOnly Departure.lateStores }, { on := 6, ground := Ground.textOnly Departure.lateStores }, { on := 7, ground := Ground.textOnly Departure.lateStores }, { on := 8, ground := Ground.phase }, { on := 9, ground := Ground.phase }], guard := none }) (v := ?_) rfl (by kernel_rfl) (by kernel_rfl) (by kernel_rfl) (fun _ _ _ h => h) (Or.inl ⟨by rfl, ?_⟩) hHeld ?_
  rotate_left
  · intro w hSw; (try dsimp only at hSw); go_simp; try with_reducible rfl
  try simp only [Act.put, List.setIfInBounds_toArray, List.set_cons_zero, List.set_cons_succ]
  refine wpAnyH_ready (rs := [11]) (by kernel_rfl) (by simp) ?_
  refine AllReadyH.cons rfl (fun K hK => ?_) (AllReadyH.nil)
  go_simp
  refine hK.out _ _ (by simp [go_sem]) (fun hHeld => ?_)
  clear hK K
  try simp only [Act.put, List.setIfInBounds_toArray, List.set_cons_zero, List.set_cons_succ]
  refine wpAnyH_take (i := 12) (oi := { dst := some 60, op := Op.fieldAddr 29 (Operand.tmp 3) 3, type := 0, pos := "event.go:88", after := #[{ on := 0, ground := Ground.phase }, { on := 1, ground := Ground.phase }, { on := 2, ground := Ground.phase }, { on := 3, ground := Ground.phase }, { on := 4, ground := Ground.phase }, { on := 5, ground := Ground.phase }, { on := 6, ground := Ground.textOnly Departure.lateStores }, { on := 7, ground := Ground.textOnly Departure.lateStores }, { on := 8, ground := Ground.phase }, { on := 9, ground := Ground.phase }, { on := 10, ground := Ground.phase }, { on := 11, ground := Ground.phase }], guard := none }) (v := ?_) rfl (by kernel_rfl) (by kernel_rfl) (by kernel_rfl) (fun _ _ _ h => h) (Or.inl ⟨by rfl, ?_⟩) hHeld ?_
  rotate_left
  · intro w hSw; (try dsimp only at hSw); go_simp; try with_reducible rfl
  try simp only [Act.put, List.setIfInBounds_toArray, List.set_cons_zero, List.set_cons_succ]
  refine wpAnyH_ready (rs := [13]) (by kernel_rfl) (by simp) ?_
  refine AllReadyH.cons rfl (fun K hK => ?_) (AllReadyH.nil)
  go_simp
  refine hK.out _ _ (by simp [go_sem]) (fun hHeld => ?_)
  clear hK K
  try simp only [Act.put, List.setIfInBounds_toArray, List.set_cons_zero, List.set_cons_succ]
  refine wpAnyH_take (i := 14) (oi := { dst := some 61, op := Op.fieldAddr 29 (Operand.tmp 3) 4, type := 0, pos := "event.go:88", after := #[{ on := 0, ground := Ground.phase }, { on := 1, ground := Ground.phase }, { on := 2, ground := Ground.phase }, { on := 3, ground := Ground.phase }, { on := 4, ground := Ground.phase }, { on := 5, ground := Ground.phase }, { on := 6, ground := Ground.phase }, { on := 7, ground := Ground.phase }, { on := 8, ground := Ground.phase }, { on := 9, ground := Ground.phase }, { on := 10, ground := Ground.phase }, { on := 11, ground := Ground.phase }, { on := 12, ground := Ground.phase }, { on := 13, ground := Ground.phase }], guard := none }) (v := ?_) rfl (by kernel_rfl) (by kernel_rfl) (by kernel_rfl) (fun _ _ _ h => h) (Or.inl ⟨by rfl, ?_⟩) hHeld ?_
  rotate_left
  · intro w hSw; (try dsimp only at hSw); go_simp; try with_reducible rfl
  try simp only [Act.put, List.setIfInBounds_toArray, List.set_cons_zero, List.set_cons_succ]
  refine wpAnyH_ready (rs := [15]) (by kernel_rfl) (by simp) ?_
  refine AllReadyH.cons rfl (fun K hK => ?_) (AllReadyH.nil)
  go_simp
  refine hK.out _ _ (by simp [go_sem]) (fun hHeld => ?_)
  clear hK K
  try simp only [Act.put, List.setIfInBounds_toArray, List.set_cons_zero, List.set_cons_succ]
  refine wpAnyH_done (by kernel_rfl) ?_ _
  clear hHeld
  go_wp2_with fail
  apply once
  case main =>
    intro hm
    go_region_law (fail)
    all_goals exact hm
  go_wp2_with fail
  refine bodyPost_ret (v := .agg #[.int .i64 6, .string s, .int .i64 a, .int .i64 b, .int .i64 c, .int .i64 d, .int .i64 e, .int .i64 0, .bool false]) (by simp [results, Tryz.results49, go_sem]) rfl ⟨rfl, ?_⟩
  repeat (first | exact Below.refl _ _ | refine Below.drew ?_ | refine Below.alloc ?_ (by simp; try omega) _)
end Go.Proofs.YtiiepmljcjbflaaGreat
namespace Go.Proofs.YtiiepmljcjbflaaGreat
open Go.RowKit
variable {w w' : World}

set_option maxRecDepth 100000 in
set_option maxHeartbeats 1000000 in
theorem taken7 (s : ByteArray) (a b c d e f : Int) (y : Bool) (w : World) : Calls Tryz.prog 49 #[.agg #[.int .i64 7, .string s, .int .i64 a, .int .i64 b, .int .i64 c, .int .i64 d, .int .i64 e, .int .i64 f, .bool y]] w fun r w' => r = .returned (.agg #[.int .i64 7, .string ⟨#[]⟩, .int .i64 0, .int .i64 0, .int .i64 0, .int .i64 d, .int .i64 e, .int .i64 0, .bool y]) ∧ Below w.heap.size w w' := by
  go_enter Tryz.func49, Tryz.ntmps49
  go_wp2_with fail
  apply once
  case main =>
    intro hm
    go_region_law (fail)
    all_goals exact hm
  go_wp2_with fail
  refine bodyPost_ret (v := .agg #[.int .i64 7, .string ⟨#[]⟩, .int .i64 0, .int .i64 0, .int .i64 0, .int .i64 d, .int .i64 e, .int .i64 0, .bool y]) (by simp [results, Tryz.results49, go_sem]) rfl ⟨rfl, ?_⟩
  repeat (first | exact Below.refl _ _ | refine Below.drew ?_ | refine Below.alloc ?_ (by simp; try omega) _)
end Go.Proofs.YtiiepmljcjbflaaGreat
namespace Go.Proofs.YtiiepmljcjbflaaGreat
open Go.RowKit

theorem taken_any (x : Ev) (w : World) : Calls Tryz.prog 49 #[.agg (evA x)] w fun r w' => r = .returned (.agg (evA x.taken)) ∧ Below w.heap.size w w' := by
  obtain ⟨k, s, a, b, c, d, e, f, y⟩ := x
  by_cases h1 : k = 1
  · subst h1; exact taken1 (nmS s) a b c d e f y w
  by_cases h2 : k = 2
  · subst h2; exact taken2 (nmS s) a b c d e f y w
  by_cases h3 : k = 3
  · subst h3; exact taken3 (nmS s) a b c d e f y w
  by_cases h4 : k = 4
  · subst h4; exact taken4 (nmS s) a b c d e f y w
  by_cases h5 : k = 5
  · subst h5; exact taken5 (nmS s) a b c d e f y w
  by_cases h6 : k = 6
  · subst h6; exact taken6 (nmS s) a b c d e f y w
  by_cases h7 : k = 7
  · subst h7; exact taken7 (nmS s) a b c d e f y w
  have e1 : Ev.taken ⟨k, s, a, b, c, d, e, f, y⟩ = ⟨k, [], 0, 0, 0, 0, 0, 0, false⟩ := by simp [Ev.taken, h1, h2, h3, h4, h5, h6, h7]
  rw [e1]
  exact taken0 k ⟨by simpa using h1, by simpa using h2, by simpa using h3, by simpa using h4, by simpa using h5, by simpa using h6, by simpa using h7⟩ (nmS s) a b c d e f y w
end Go.Proofs.YtiiepmljcjbflaaGreat
