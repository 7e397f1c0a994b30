/- Slices of structs whose cells are one value each, whatever the struct: as they lie somewhere, as they are of the call's own. -/
import Derived.Test.YtpjemifoilbjeaaPWide
import Derived.Deep.DeepAppendWide
namespace Go.Proofs.Ytpjemifoilbjeaa
open Go.RowKit
theorem hid {p : Prop} (h : p) : Hid p := h
theorem once {T G : Prop} (main : T → G) (rest : T) : G := main rest
variable {α : Type} {w w' : World}

/-- A struct as plain data: its cells. -/
structure Kd (α : Type) where
  T : TypeId
  S : TypeId
  sz : Nat
  bytes : Nat
  V : α → List Value
  z : α
  zero : Value
structure Kd.fit (K : Kd α) : Prop where
  len : ∀ a, (K.V a).length = K.sz
  pos : 0 < K.sz
structure Kd.ok (K : Kd α) : Prop extends Kd.fit K where
  one : ∀ a, ∀ v ∈ K.V a, v.oneCell' = true
  info : (Try.prog.info? K.T).map (fun i => (i.zero, i.size, i.bytes)) = some (some K.zero, K.sz, K.bytes)
  zsz : K.zero.cells.size = K.sz
  und : Try.prog.underlying K.S = some (.slice K.T)
variable {K : Kd α}
def Kd.Vs (K : Kd α) (l : List α) : List Value := l.flatMap K.V
theorem Kd.Vs_append (l m : List α) : K.Vs (l ++ m) = K.Vs l ++ K.Vs m := by unfold Kd.Vs; simp
theorem Kd.Vs_one (a : α) : K.Vs [a] = K.V a := by unfold Kd.Vs; simp
theorem Kd.fit.Vs_len (hK : K.fit) (l : List α) : (K.Vs l).length = l.length * K.sz := by
  induction l with
  | nil => simp [Kd.Vs]
  | cons a l ih => have : K.Vs (a :: l) = K.V a ++ K.Vs l := rfl
                   rw [this, List.length_append, ih, hK.len, List.length_cons, Nat.add_mul]; omega
theorem Kd.fit.Vs_get (hK : K.fit) (l : List α) (i c : Nat) (hi : i < l.length) (hc : c < K.sz) : (K.Vs l)[i * K.sz + c]? = (K.V (l.getD i K.z))[c]? := by
  induction l generalizing i with
  | nil => simp at hi
  | cons a l ih =>
    have e : K.Vs (a :: l) = K.V a ++ K.Vs l := rfl
    have h1 := hK.len a
    rw [e]
    cases i with
    | zero => rw [List.getElem?_append_left (by omega)]; simp
    | succ i =>
      have h2 : (i + 1) * K.sz + c = i * K.sz + c + K.sz := by rw [Nat.add_mul]; omega
      rw [List.getElem?_append_right (by omega), h2, h1, Nat.add_sub_cancel, ih i (by simp at hi; omega)]
      simp [List.getD_eq_getElem?_getD]
theorem Kd.fit.Vs_cell (hK : K.fit) (l : List α) (j : Nat) (u : Value) (h : (K.Vs l)[j]? = some u) : ∃ i c, i < l.length ∧ c < K.sz ∧ j = i * K.sz + c ∧ (K.V (l.getD i K.z))[c]? = some u := by
  have hj : j < l.length * K.sz := by rw [← hK.Vs_len]; exact (List.getElem?_eq_some_iff.1 h).1
  have hp := hK.pos
  have h1 : j / K.sz < l.length := Nat.div_lt_of_lt_mul (by rw [Nat.mul_comm]; exact hj)
  have h2 : j % K.sz < K.sz := Nat.mod_lt _ hp
  have h3 : j = j / K.sz * K.sz + j % K.sz := by rw [Nat.mul_comm]; exact (Nat.div_add_mod j K.sz).symm
  refine ⟨j / K.sz, j % K.sz, h1, h2, h3, ?_⟩
  rw [← hK.Vs_get l _ _ h1 h2, ← h3]
  exact h
theorem Kd.ok.Vs_ones (hK : K.ok) (l : List α) : ∀ u ∈ K.Vs l, u.oneCell' = true := by
  intro u hu
  unfold Kd.Vs at hu
  rw [List.mem_flatMap] at hu
  obtain ⟨a, _, h⟩ := hu
  exact hK.one a u h
/-- In w the structs l lie from the address ad on. -/
def RowK (K : Kd α) (w : World) (ad : Option Addr) (l : List α) : Prop :=
  l = [] ∨ ∃ b off, ad = some ⟨b, off, none⟩ ∧ b < w.heap.size ∧ ∀ i, i < l.length → ∀ c, c < K.sz → w.cell? ⟨b, off + i * K.sz + c, none⟩ = (K.V (l.getD i K.z))[c]?
/-- .. as a slice. -/
structure ArgK (K : Kd α) (w : World) (l : List α) (ad : Option Addr) (m c : Nat) : Prop where
  len : l.length = m
  nil : ad = none → m = 0 ∧ c = 0
  cap : m ≤ c
  room : c ≤ maxLen
  row : RowK K w ad l
theorem RowK.keep {ad : Option Addr} {l : List α} (h : RowK K w ad l) (hs : w.heap.size ≤ w'.heap.size) (hk : ∀ b off, ad = some ⟨b, off, none⟩ → b < w.heap.size → l ≠ [] → w'.heap[b]? = w.heap[b]?) : RowK K w' ad l := by
  by_cases h0 : l = []
  · exact Or.inl h0
  · rcases h with h | ⟨b, off, e, hb, hc⟩
    · exact Or.inl h
    · refine Or.inr ⟨b, off, e, Nat.lt_of_lt_of_le hb hs, fun i hi c hcc => ?_⟩
      rw [← hc i hi c hcc]
      simp only [World.cell?, hk b off e hb h0]
theorem RowK.later {ad : Option Addr} {l : List α} (h : RowK K w ad l) (hb : Below w.heap.size w w') : RowK K w' ad l := h.keep hb.size (fun b _ _ hlt _ => hb.block b hlt)
theorem ArgK.later {l : List α} {ad : Option Addr} {m c : Nat} (h : ArgK K w l ad m c) (hb : Below w.heap.size w w') : ArgK K w' l ad m c := ⟨h.len, h.nil, h.cap, h.room, h.row.later hb⟩
theorem ArgK.cells {l : List α} {ad : Option Addr} {m c : Nat} (h : ArgK K w l ad m c) (hm : 0 < m) : ∃ b off, ad = some ⟨b, off, none⟩ ∧ b < w.heap.size ∧ ∀ i, i < m → ∀ c, c < K.sz → w.cell? ⟨b, off + i * K.sz + c, none⟩ = (K.V (l.getD i K.z))[c]? := by
  have hl := h.len
  obtain ⟨b, off, e, hb, hc⟩ := h.row.resolve_left (fun e => by rw [e] at hl; simp at hl; omega)
  exact ⟨b, off, e, hb, fun i hi => hc i (by omega)⟩
theorem RowK.cells {ad : Option Addr} {l : List α} (hK : K.fit) (h : RowK K w ad l) : ∀ a, ad = some a → ∀ j u, (K.Vs l)[j]? = some u → w.cell? (a.add j) = some u := by
  intro a ha j u hu
  obtain ⟨i, c, hi, hc, rfl, hv⟩ := hK.Vs_cell l j u hu
  rcases h with h | ⟨b, off, e, _, hcc⟩
  · subst h; simp at hi
  · rw [ha] at e; cases e
    rw [addr_add, ← Nat.add_assoc, hcc i hi c hc, hv]
/-- In w the value v is a slice of the structs l, in a block from base on that is its own. -/
def OwnK (K : Kd α) (w : World) (base : Nat) (v : Value) (l : List α) : Prop := w.ownsRow base K.T K.sz v l.length (K.Vs l)
theorem OwnK.form (hK : K.fit) {base : Nat} {v : Value} {l : List α} (h : OwnK K w base v l) : ∃ ad c, v = .slice ad l.length c ∧ ArgK K w l ad l.length c := by
  rcases h.2 with ⟨hv, h0⟩ | ⟨g, cap, cur, hv, hb, hg, hn, hm, hs, ht⟩
  · exact ⟨none, 0, by rw [hv, h0], rfl, fun _ => ⟨h0, rfl⟩, by omega, by unfold maxLen; omega, Or.inl (List.eq_nil_of_length_eq_zero h0)⟩
  · refine ⟨some ⟨g, 0, none⟩, cap, hv, rfl, fun e => (by cases e), hn, hm, Or.inr ⟨g, 0, rfl, (Array.getElem?_eq_some_iff.1 hg).1, fun i hi c hc => ?_⟩⟩
    have hc2 := World.ownsRow.cells h (g := g) (by rw [hv]; rfl)
    have h1 := hK.Vs_get l i c hi hc
    cases hq : (K.V (l.getD i K.z))[c]? with
    | none => have := hK.len (l.getD i K.z); rw [List.getElem?_eq_none_iff] at hq; omega
    | some u =>
      have := hc2 _ _ (h1.trans hq)
      rw [addr_add] at this
      rw [Nat.add_assoc]
      exact this
theorem OwnK.later {base : Nat} {v : Value} {l : List α} (h : OwnK K w base v l) (hb : Below w.heap.size w w') : OwnK K w' base v l := own_kept h hb
theorem OwnK.keep {base : Nat} {v : Value} {l : List α} (h : OwnK K w base v l) (hk : ∀ g, v.ownBlock = some g → w'.heap[g]? = w.heap[g]?) : OwnK K w' base v l := by
  refine ⟨h.1, ?_⟩
  rcases h.2 with h2 | ⟨g, cap, cur, hv, hgb, hg, r⟩
  · exact Or.inl h2
  · exact Or.inr ⟨g, cap, cur, hv, hgb, (hk g (by rw [hv]; rfl)).trans hg, r⟩
theorem OwnK.block {base : Nat} {v : Value} {l : List α} (h : OwnK K w base v l) : ∀ g, v.ownBlock = some g → base ≤ g ∧ g < w.heap.size ∧ ∃ cur, w.heap[g]? = some (.cells cur K.T (0, 0)) := by
  intro g hg
  rcases h.2 with ⟨e, -⟩ | ⟨g', cap, cur, e, hgb, hgc, -⟩
  · rw [e] at hg; cases hg
  · rw [e] at hg; cases hg
    exact ⟨hgb, (Array.getElem?_eq_some_iff.1 hgc).1, cur, hgc⟩
theorem OwnK.mono {base base' : Nat} {v : Value} {l : List α} (h : OwnK K w base v l) (hb : base' ≤ base) : OwnK K w base' v l := by
  refine ⟨h.1, ?_⟩
  rcases h.2 with h2 | ⟨g, cap, cur, hv, hgb, r⟩
  · exact Or.inl h2
  · exact Or.inr ⟨g, cap, cur, hv, Nat.le_trans hb hgb, r⟩
theorem OwnK.nil (w : World) (base : Nat) : OwnK K w base (.slice none 0 0) [] := World.ownsRow_nil _ _ _ _
/-- 'append(v, x...)', v of one's own. -/
theorem app_kd {ops : Array Oper} {rest : List Oper} {o : Oper} {a : Act} {Q : Exit → Act → World → Prop} (hK : K.ok) (hgd : o.guard = none) (s x : Operand)
    (ho : o.op = .call { callee := .builtin .append, args := #[s, x], argTypes := #[K.S, K.S] })
    (base : Nat) (v : Value) (L : List α) (hs : a.eval s = v) (hown : OwnK K w base v L)
    (ad : Option Addr) (m c : Nat) (l : List α) (hx : a.eval x = .slice ad m c) (hl : l.length = m) (hnone : ad = none → m = 0 ∧ c = 0) (hrow : RowK K w ad l)
    (hlen : L.length + m ≤ maxLen) (hbytes : (L.length + m) * K.bytes ≤ 140737488355328) (hbase : base ≤ w.heap.size)
    (h : ∀ v' w', OwnK K w' base v' (L ++ l) → w.grownBy w' v.ownBlock → wpList Try.prog ops Q rest (a.put o.dst v') w') : wpList Try.prog ops Q (o :: rest) a w := by
  obtain ⟨i0, hi, hz0, hz1, hz2⟩ := info_parts hK.info
  cases ad with
  | none =>
    obtain ⟨rfl, rfl⟩ := hnone rfl
    obtain rfl : l = [] := List.eq_nil_of_length_eq_zero hl
    refine wpList_append_own_none hgd s x K.S ho base K.T i0 K.sz hK.und hi v L.length _ hs hown hx ?_
    exact h v w (by simpa using hown) (World.grownBy.refl _ _)
  | some ad =>
    refine wpList_append_own w hgd s x K.S ho base K.T i0 _ K.sz K.bytes hK.und hi hz0 hz1 hz2 hK.zsz hK.pos v L.length _ hs hown ad m c (K.Vs l) hx (by rw [hK.tofit.Vs_len, hl]) (hrow.cells hK.tofit ad rfl) (hK.Vs_ones l) hlen hbytes hbase ?_
    intro v' w' h1 h2 _
    rw [← Kd.Vs_append, ← hl, ← List.length_append] at h1
    exact h v' w' h1 h2
/-- 'append(v, X{..})' as one step of a region that draws its order. -/
theorem step_app_kd {ops : Array Oper} {o : Oper} {a : Act} {Kn : Act → World → Prop} {Q : Exit → Act → World → Prop} {E : Prop} (hK : K.ok) (hgd : o.guard = none) (s x : Operand)
    (ho : o.op = .call { callee := .builtin .append, args := #[s, x], argTypes := #[K.S, K.S] })
    (base : Nat) (v : Value) (L : List α) (hs : a.eval s = v) (hown : OwnK K w base v L)
    (g : Nat) (y : α) (hx : a.eval x = .slice (some ⟨g, 0, none⟩) 1 1) (hob : RowK K w (some ⟨g, 0, none⟩) [y])
    (hlen : L.length + 1 ≤ maxLen) (hbytes : (L.length + 1) * K.bytes ≤ 140737488355328) (hbase : base ≤ w.heap.size)
    (h : ∀ b cap w', OwnK K w' base (.slice (some ⟨b, 0, none⟩) (L.length + 1) cap) (L ++ [y]) → w.grownBy w' v.ownBlock → (v.ownBlock = some b ∨ b = w.heap.size) → Kn (a.put o.dst (.slice (some ⟨b, 0, none⟩) (L.length + 1) cap)) w') :
    if Region.wanted o (yielded ops a.tmps) = true then Oper.wp Try.prog o a w Kn Q else E := by
  have hw : Region.wanted o (yielded ops a.tmps) = true := by simp [Region.wanted, hgd]
  rw [if_pos hw]
  obtain ⟨i0, hi, hz0, hz1, hz2⟩ := info_parts hK.info
  refine wp_append_lies w s x K.S ho base K.T i0 _ K.sz K.bytes hK.und hi hz0 hz1 hz2 hK.zsz hK.pos v L.length _ hs hown ⟨g, 0, none⟩ 1 1 (K.Vs [y]) hx (by rw [hK.tofit.Vs_len]; rfl) (hob.cells hK.tofit _ rfl) (hK.Vs_ones _) (by omega) hlen hbytes hbase w.heap.size rfl ?_
  intro b cap w' h1 h2 h3 _
  rw [← Kd.Vs_append] at h1
  refine h b cap w' ?_ h2 h3
  unfold OwnK
  rw [List.length_append]
  exact h1
/-- What an append leaves as it was. -/
theorem grown_chg {v : Value} (hg : w.grownBy w' v.ownBlock) (F : List Nat) (hF : ∀ g, v.ownBlock = some g → g ∈ F) : Chg F w w' := by
  refine ⟨hg.os, hg.tape, hg.output, hg.size, fun k hk hn => hg.block k hk (fun e => hn (hF k e.symm))⟩
theorem OwnK.chg {base : Nat} {v : Value} {l : List α} {F : List Nat} (h : OwnK K w base v l) (hc : Chg F w w') (hn : ∀ g, v.ownBlock = some g → g ∉ F) : OwnK K w' base v l := h.keep (fun g hg => hc.block g (h.block g hg).2.1 (hn g hg))
theorem take_snoc_any {α : Type} (l : List α) (z : α) (k : Nat) (h : k < l.length) : l.take (k + 1) = l.take k ++ [l.getD k z] := by
  rw [List.take_succ_eq_append_getElem h, List.getD_eq_getElem?_getD, List.getElem?_eq_getElem h]; rfl
/-! ### The kinds of this package: numbers, names, shares -/
abbrev Nm := List UInt8
/-- A name's text. -/
def nmS (s : Nm) : ByteArray := ⟨s.toArray⟩
abbrev kZ : Kd Int := ⟨3, 40, 1, 8, fun z => [.int .i64 z], 0, .int .i64 0⟩
theorem kZ_ok : kZ.ok := ⟨⟨fun _ => rfl, by decide⟩, fun a v hv => by (have : v = .int .i64 a := by simpa using hv); subst this; rfl, by kernel_rfl, rfl, Try.underlying40⟩
abbrev kS : Kd Nm := ⟨9, 32, 1, 16, fun s => [.string (nmS s)], [], .string ⟨#[]⟩⟩
theorem kS_ok : kS.ok := ⟨⟨fun _ => rfl, by decide⟩, fun a v hv => by (have : v = .string (nmS a) := by simpa using hv); subst this; rfl, by kernel_rfl, rfl, Try.underlying32⟩
/-- A slice, as the model has it. -/
structure Sl where
  ad : Option Addr
  m : Nat
  c : Nat
def Sl.v (s : Sl) : Value := .slice s.ad s.m s.c
def sl0 : Sl := ⟨none, 0, 0⟩
end Go.Proofs.Ytpjemifoilbjeaa
