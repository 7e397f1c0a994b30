/- Slices of bytes in memory: where they lie, what owns them, what is appended to them, what they are as texts. No function of the program is named here. -/
import Derived.Test.YthadagpfmacemaaChecked
import Derived.WalkKit
import Derived.WalkSpells
import Derived.WalkLawsBesides
import Derived.Laws.BitsAllLaws
import Derived.Laws.AppendOwnNone
import Derived.Laws.BytesArg
import Derived.Deep.AppendLies
import Derived.BigQuiet
import Derived.Deep.QuietTactic
import Derived.Deep.RegionHeld3
namespace Go.Proofs.Ythadagpfmacemaa
open Go.RowKit

theorem ret_int {k : IntKind} {a b : Int} (h : a = b) : Ending.returned (.int k a) = .returned (.int k b) := by rw [h]
theorem val_int {k : IntKind} {a b : Int} (h : a = b) : Value.int k a = .int k b := by rw [h]
/-- In w the bytes l lie from the address ad on. -/
def Row (w : World) (ad : Option Addr) (l : List Nat) : Prop :=
  (∀ x ∈ l, x < 256) ∧ (l = [] ∨ ∃ b off, ad = some ⟨b, off, none⟩ ∧ b < w.heap.size ∧ ∀ i, i < l.length → w.cell? ⟨b, off + i, none⟩ = some (.int .u8 (l.getD i 0 : Nat)))
theorem Row.later {w w' : World} {ad : Option Addr} {l : List Nat} (h : Row w ad l) (hb : Below w.heap.size w w') : Row w' ad l := by
  refine ⟨h.1, ?_⟩
  rcases h.2 with h | ⟨b, off, e, hs, hc⟩
  · exact Or.inl h
  · exact Or.inr ⟨b, off, e, Nat.lt_of_lt_of_le hs hb.size, fun i hi => by rw [hb.cell (p := ⟨b, off + i, none⟩) hs]; exact hc i hi⟩
theorem getD_lt {l : List Nat} (h : ∀ x ∈ l, x < 256) (k : Nat) : l.getD k 0 < 256 := by
  rw [List.getD_eq_getElem?_getD]
  by_cases hk : k < l.length
  · rw [List.getElem?_eq_getElem hk]; exact h _ (List.getElem_mem hk)
  · rw [List.getElem?_eq_none (by omega)]; simp
theorem take_snoc (l : List Nat) (k : Nat) (h : k < l.length) : l.take (k + 1) = l.take k ++ [l.getD k 0] := by
  rw [List.take_succ_eq_append_getElem h, List.getD_eq_getElem?_getD, List.getElem?_eq_getElem h]; rfl
theorem take_mem {l : List Nat} (h : ∀ x ∈ l, x < 256) (k : Nat) : ∀ x ∈ l.take k, x < 256 := fun x hx => h x (List.mem_of_mem_take hx)
/-- A byte as a value. -/
def bv (x : Nat) : Value := .int .u8 (x : Int)
theorem Try.info5 : (Try.prog.info? 5).map (fun i => (i.zero, i.size, i.bytes)) = some (some (.int .u8 0), 1, 1) := by kernel_rfl
/-- In w the value v is a slice of the bytes l, in blocks from base on that the call made. -/
def Own (w : World) (base : Nat) (v : Value) (l : List Nat) : Prop := (∀ x ∈ l, x < 256) ∧ w.ownsRow base 5 1 v l.length (l.map bv)
/-- A slice of bytes as a part: where it lies, its length, its room, its bytes. -/
structure Part where
  ad : Option Addr
  len : Nat
  cap : Nat
  l : List Nat
/-- In w the part's value is a slice of just its bytes. -/
def Part.ok (w : World) (p : Part) : Prop := p.l.length = p.len ∧ (p.ad = none → p.len = 0 ∧ p.cap = 0) ∧ Row w p.ad p.l
theorem Part.ok.later {w w' : World} {p : Part} (h : p.ok w) (hb : Below w.heap.size w w') : p.ok w' := ⟨h.1, h.2.1, h.2.2.later hb⟩
theorem addr_add (b off j : Nat) : (⟨b, off, none⟩ : Addr).add j = ⟨b, off + j, none⟩ := by
  by_cases h : j = 0
  · subst h; simp [Addr.add]
  · simp [Addr.add, h]
theorem row_cells {w : World} {ad : Option Addr} {l : List Nat} (h : Row w ad l) : ∀ a, ad = some a → ∀ j u, (l.map bv)[j]? = some u → w.cell? (a.add j) = some u := by
  intro a ha j u hu
  rw [List.getElem?_map] at hu
  rcases h.2 with h | ⟨b, off, e, _, hc⟩
  · subst h; simp at hu
  · rw [ha] at e
    cases e
    cases hj : l[j]? with
    | none => rw [hj] at hu; simp at hu
    | some x =>
      rw [hj] at hu
      have hl : j < l.length := (List.getElem?_eq_some_iff.1 hj).1
      have := hc j hl
      rw [List.getD_eq_getElem?_getD, hj] at this
      simp at hu
      subst hu
      rw [addr_add]
      exact this
theorem bv_one (l : List Nat) : ∀ u ∈ l.map bv, u.oneCell' = true := by
  intro u hu
  rw [List.mem_map] at hu
  obtain ⟨x, _, rfl⟩ := hu
  rfl
/-- The text of some bytes. -/
def bstr (l : List Nat) : ByteArray := strOfNums (l.map Int.ofNat)
theorem Own.form {w : World} {base : Nat} {v : Value} {l : List Nat} (h : Own w base v l) :
    ∃ ad cap, v = .slice ad l.length cap ∧ (ad = none → l.length = 0 ∧ cap = 0) ∧ l.length ≤ cap ∧ cap ≤ maxLen ∧ Row w ad l := by
  rcases h.2.2 with ⟨hv, h0⟩ | ⟨g, cap, cur, hv, hb, hg, hn, hm, hs, ht⟩
  · refine ⟨none, 0, by rw [hv, h0], fun _ => ⟨h0, rfl⟩, by omega, by unfold maxLen; omega, h.1, Or.inl (List.eq_nil_of_length_eq_zero h0)⟩
  · refine ⟨some ⟨g, 0, none⟩, cap, hv, fun e => (by cases e), hn, hm, h.1, Or.inr ⟨g, 0, rfl, ?_, ?_⟩⟩
    · rcases Nat.lt_or_ge g w.heap.size with hlt | hge
      · exact hlt
      · rw [Array.getElem?_eq_none hge] at hg; cases hg
    · intro i hi
      have h2 := h.2
      rw [hv] at h2
      have e := h2.cellAt i (by omega)
      rw [Nat.zero_add, e, List.getElem?_map, List.getElem?_eq_getElem hi, List.getD_eq_getElem?_getD, List.getElem?_eq_getElem hi]
      rfl
theorem Own.nil (w : World) (base : Nat) : Own w base (.slice none 0 0) [] := ⟨fun _ h => (by cases h), World.ownsRow_nil _ _ _ _⟩
theorem Own.later {w w' : World} {base : Nat} {v : Value} {l : List Nat} (h : Own w base v l) (hb : Below w.heap.size w w') : Own w' base v l := by
  refine ⟨h.1, h.2.1, ?_⟩
  rcases h.2.2 with h2 | ⟨g, cap, cur, hv, hgb, hg, r⟩
  · exact Or.inl h2
  · refine Or.inr ⟨g, cap, cur, hv, hgb, ?_, r⟩
    rw [hb.block g ?_]
    · exact hg
    · rcases Nat.lt_or_ge g w.heap.size with hlt | hge
      · exact hlt
      · rw [Array.getElem?_eq_none hge] at hg; cases hg
theorem Own.down {w : World} {base base' : Nat} {v : Value} {l : List Nat} (h : Own w base v l) (hb : base' ≤ base) : Own w base' v l := by
  refine ⟨h.1, h.2.1, ?_⟩
  rcases h.2.2 with h2 | ⟨g, cap, cur, hv, hgb, r⟩
  · exact Or.inl h2
  · exact Or.inr ⟨g, cap, cur, hv, Nat.le_trans hb hgb, r⟩
theorem Own.slice {w : World} {base : Nat} {v : Value} {l : List Nat} (h : Own w base v l) (n : Nat) (hn : l.length = n) :
    ∃ ad cap, v = .slice ad n cap ∧ Part.ok w ⟨ad, n, cap, l⟩ ∧ n ≤ cap ∧ cap ≤ maxLen := by
  subst hn
  obtain ⟨ad, cap, hv, h1, h2, h3, h4⟩ := h.form
  exact ⟨ad, cap, hv, ⟨rfl, h1, h4⟩, h2, h3⟩
theorem Own.slice_n {w : World} {base n : Nat} {v : Value} {l : List Nat} (h : (∀ x ∈ l, x < 256) ∧ w.ownsRow base 5 1 v l.length (l.map bv)) (hn : l.length = n) :
    ∃ ad cap, v = .slice ad n cap ∧ Part.ok w ⟨ad, n, cap, l⟩ ∧ n ≤ cap ∧ cap ≤ maxLen := Own.slice h n hn
theorem Part.ok.cells {w : World} {ad : Option Addr} {n cap : Nat} {l : List Nat} (h : Part.ok w ⟨ad, n, cap, l⟩) (hn : 0 < n) :
    ∃ b off, ad = some ⟨b, off, none⟩ ∧ b < w.heap.size ∧ ∀ i, i < n → w.cell? ⟨b, off + i, none⟩ = some (.int .u8 (l.getD i 0 : Nat)) := by
  have hl : l.length = n := h.1
  obtain ⟨b, off, e, hb, hc⟩ := h.2.2.2.resolve_left (fun e => by have e2 : l = [] := e; rw [e2] at hl; simp at hl; omega)
  exact ⟨b, off, e, hb, fun i hi => hc i (by show i < l.length; omega)⟩
/-- 'append(v, x...)', v of the call's own, x whatever slice of bytes. -/
theorem app_any {w : World} {ops : Array Oper} {rest : List Oper} {o : Oper} {a : Act} {Q : Exit → Act → World → Prop} (hgd : o.guard = none) (s x : Operand)
    (ho : o.op = .call { callee := .builtin .append, args := #[s, x], argTypes := #[25, 25] })
    (base : Nat) (v : Value) (n : Nat) (L : List Nat) (hs : a.eval s = v) (hown : w.ownsRow base 5 1 v n (L.map bv))
    (ad : Option Addr) (m c : Nat) (l : List Nat) (hx : a.eval x = .slice ad m c) (hl : l.length = m) (hnone : ad = none → m = 0 ∧ c = 0) (hrow : Row w ad l)
    (hbytes : n + m ≤ 140737488355328) (hbase : base ≤ w.heap.size)
    (h : ∀ v' w', w'.ownsRow base 5 1 v' (n + m) ((L ++ l).map bv) → w.grownBy w' v.ownBlock → wpList Try.prog ops Q rest (a.put o.dst v') w') : wpList Try.prog ops Q (o :: rest) a w := by
  obtain ⟨i0, hi, hz0, hz1, hz2⟩ := info_parts Try.info5
  cases ad with
  | none =>
    obtain ⟨rfl, rfl⟩ := hnone rfl
    obtain rfl : l = [] := List.eq_nil_of_length_eq_zero hl
    refine wpList_append_own_none hgd s x 25 ho base 5 i0 1 Try.underlying25 hi v n _ hs hown hx ?_
    exact h v w (by simpa using hown) (World.grownBy.refl _ _)
  | some ad =>
    refine wpList_append_own w hgd s x 25 ho base 5 i0 (.int .u8 0) 1 1 Try.underlying25 hi hz0 hz1 hz2 rfl (by decide) v n _ hs hown ad m c (l.map bv) hx (by simp [hl]) (row_cells hrow ad rfl) (bv_one l) (by unfold maxLen; omega) (by omega) hbase ?_
    intro v' w' h1 h2 _
    rw [← List.map_append] at h1
    exact h v' w' h1 h2
/-- Bytes as a text. -/
theorem conv_any {w : World} {ad : Option Addr} {l : List Nat} (hrow : Row w ad l) (len cap : Nat) (hlen : l.length = len) :
    (convert 25 9 (.slice ad len cap)).run Try.prog w = .ok (.string (bstr l)) w := by
  rcases hrow.2 with rfl | ⟨b, off, rfl, _, hc⟩
  · obtain rfl : len = 0 := by simpa using hlen.symm
    rw [run_convert_bytes_string w 25 9 5 _ 0 cap Try.underlying25 Try.underlying5 Try.underlying9]
    cases ad with
    | none => simp [Conv.bytesToString, bstr, strOfNums]; rfl
    | some a =>
      rw [run_bytesToString w a 0 cap [] (by rfl)]
      rfl
  · refine run_convert_bytes_arg w 25 5 Try.underlying25 Try.underlying5 b off len cap _ (by simpa using hlen) ?_ 9 Try.underlying9
    intro i hi
    rw [hc i (by omega), List.getD_eq_getElem?_getD, List.getD_eq_getElem?_getD, List.getElem?_map, List.getElem?_eq_getElem (by omega)]
    rfl
theorem Part.of_own {w : World} {base : Nat} {v : Value} {l : List Nat} (h : Own w base v l) : ∃ p : Part, v = .slice p.ad p.len p.cap ∧ p.l = l ∧ p.ok w := by
  obtain ⟨ad, cap, hv, hn, _, _, hr⟩ := h.form
  exact ⟨⟨ad, l.length, cap, l⟩, hv, rfl, rfl, hn, hr⟩
/-- The first bytes of what is owned. -/
theorem Own.cut {w : World} {base : Nat} {g n m cap : Nat} {l l2 : List Nat} (h : Own w base (.slice (some ⟨g, 0, none⟩) m cap) (l ++ l2)) (hn : l.length = n) (hm : (l ++ l2).length = m) : Part.ok w ⟨some ⟨g, 0, none⟩, n, cap, l⟩ := by
  obtain ⟨ad, c, e, hp, -, -⟩ := h.slice m hm
  cases e
  refine ⟨hn, fun e => (by cases e), fun x hx => h.1 x (by simp [hx]), ?_⟩
  by_cases h0 : l = []
  · exact Or.inl h0
  · right
    have hl : 0 < l.length := List.length_pos_iff.2 h0
    obtain ⟨b, off, e, hb, hc⟩ := hp.cells (by simp at hm; omega)
    refine ⟨b, off, e, hb, fun i hi => ?_⟩
    have hi' : i < l.length := hi
    rw [hc i (by simp at hm; omega), List.getD_eq_getElem?_getD, List.getD_eq_getElem?_getD, List.getElem?_append_left hi']
theorem empty_own (w : World) (base : Nat) (hb : base ≤ w.heap.size) : (w.alloc (.cells #[] 5)).ownsRow base 5 1 (.slice (some ⟨w.heap.size, 0, none⟩) 0 0) 0 (([] : List Nat).map bv) :=
  World.ownsRow_lit w #[] 0 hb (by unfold maxLen; omega) rfl
theorem own_room {w : World} {base e size g n cap : Nat} {xs : List Value} (h : w.ownsRow base e size (.slice (some ⟨g, 0, none⟩) n cap) n xs) : n ≤ cap ∧ cap ≤ maxLen := by
  rcases h.2 with ⟨e, _⟩ | ⟨g', c', cur, e, _, _, h1, h2, _⟩
  · cases e
  · cases e; exact ⟨h1, h2⟩
theorem drop_take_snoc (l : List Nat) (p k : Nat) (h : p + k < l.length) : (l.drop p).take (k + 1) = (l.drop p).take k ++ [l.getD (p + k) 0] := by
  rw [take_snoc (l.drop p) k (by simp; omega)]
  simp [List.getD_eq_getElem?_getD]
theorem drop_take_lt {l : List Nat} (h : ∀ x ∈ l, x < 256) (p k : Nat) : ∀ x ∈ (l.drop p).take k, x < 256 := fun x hx => h x (List.mem_of_mem_drop (List.mem_of_mem_take hx))
theorem drop_take_length (l : List Nat) (p k : Nat) (h : p + k ≤ l.length) : ((l.drop p).take k).length = k := by simp; omega
/-- What 'x[p : p+n]' is. -/
def cutP (P : Part) (p n : Nat) : Part := if P.cap = p then ⟨P.ad, n, 0, (P.l.drop p).take n⟩ else ⟨P.ad.map (fun x => x.add p), n, P.cap - p, (P.l.drop p).take n⟩
theorem cutP_l (P : Part) (p n : Nat) : (cutP P p n).l = (P.l.drop p).take n := by unfold cutP; split <;> rfl
theorem cutP_len (P : Part) (p n : Nat) : (cutP P p n).len = n := by unfold cutP; split <;> rfl
theorem cutP_cap (P : Part) (p n : Nat) : (cutP P p n).cap = P.cap - p := by
  unfold cutP; split
  · show 0 = _; omega
  · rfl
theorem cutP_ok {w : World} {P : Part} (h : P.ok w) (p n : Nat) (hn : p + n ≤ P.len) (hc : P.len ≤ P.cap) : (cutP P p n).ok w := by
  obtain ⟨ad, len, cap, l⟩ := P
  obtain ⟨h1, h2, h3, h4⟩ := h
  simp only at h1 h2 h3 h4 hn hc
  unfold cutP
  simp only
  by_cases e : cap = p
  · rw [if_pos e]
    have hn0 : n = 0 := by omega
    subst hn0
    exact ⟨by simp, fun _ => ⟨rfl, rfl⟩, by simp, Or.inl (by simp)⟩
  · rw [if_neg e]
    refine ⟨by simp; omega, ?_, drop_take_lt h3 p n, ?_⟩
    · intro hz
      cases ad with
      | none => have := h2 rfl; simp only; omega
      | some a => simp at hz
    · by_cases hn0 : n = 0
      · subst hn0; exact Or.inl (by simp)
      · right
        rcases h4 with h4 | ⟨b, off, rfl, hb, hcell⟩
        · subst h4; simp at h1; omega
        · refine ⟨b, off + p, by simp [addr_add], hb, ?_⟩
          intro i hi
          simp only [List.length_take, List.length_drop] at hi
          have e2 := hcell (p + i) (by omega)
          rw [Nat.add_assoc, e2]
          congr 3
          rw [List.getD_eq_getElem?_getD, List.getD_eq_getElem?_getD, List.getElem?_take, if_pos (by omega), List.getElem?_drop]
theorem below_drewN' {B : Nat} {w0 w : World} (h : Below B w0 w) (m : Nat) : Below B w0 (w.drewN m) := by
  induction m with
  | zero => exact h
  | succ m ih => exact ih.drew
theorem conv_drewN {w : World} {ad : Option Addr} {l : List Nat} (hrow : Row w ad l) (len cap : Nat) (hlen : l.length = len) :
    ∀ nq, (convert 25 9 (.slice ad len cap)).run Try.prog (w.drewN nq) = .ok (.string (bstr l)) (w.drewN nq) := fun nq => conv_any (hrow.later (below_drewN' (Below.refl _ _) nq)) len cap hlen
/-- 'append(v, x...)' as one step of a region that draws its order. -/
theorem step_app_any {w : World} {ops : Array Oper} {o : Oper} {a : Act} {K : Act → World → Prop} {Q : Exit → Act → World → Prop} {E : Prop} (hgd : o.guard = none) (s x : Operand)
    (ho : o.op = .call { callee := .builtin .append, args := #[s, x], argTypes := #[25, 25] })
    (base : Nat) (v : Value) (n : Nat) (L : List Nat) (hs : a.eval s = v) (hown : w.ownsRow base 5 1 v n (L.map bv))
    (ad : Option Addr) (m c : Nat) (l : List Nat) (hx : a.eval x = .slice ad m c) (hl : l.length = m) (hnone : ad = none → m = 0 ∧ c = 0) (hrow : Row w ad l)
    (hbytes : n + m ≤ 140737488355328) (hbase : base ≤ w.heap.size)
    (h : ∀ v' w', w'.ownsRow base 5 1 v' (n + m) ((L ++ l).map bv) → w.grownBy w' v.ownBlock → K (a.put o.dst v') w') :
    if Region.wanted o (yielded ops a.tmps) = true then Oper.wp Try.prog o a w K Q else E := by
  have hw : Region.wanted o (yielded ops a.tmps) = true := by simp [Region.wanted, hgd]
  rw [if_pos hw]
  obtain ⟨i0, hi, hz0, hz1, hz2⟩ := info_parts Try.info5
  cases ad with
  | none =>
    obtain ⟨rfl, rfl⟩ := hnone rfl
    obtain rfl : l = [] := List.eq_nil_of_length_eq_zero hl
    have hrun := run_append_owned_none (P := Try.prog) (w := w) base 25 o.type 5 i0 1 Try.underlying25 hi v n _ hown
    unfold Oper.wp
    simp [execOp, ho, resolve, invoke, builtin, hs, hx, hrun, Result.andThen]
    exact h v w (by simpa using hown) (World.grownBy.refl _ _)
  | some ad =>
    refine wp_append_own w s x 25 ho base 5 i0 (.int .u8 0) 1 1 Try.underlying25 hi hz0 hz1 hz2 rfl (by decide) v n _ hs hown ad m c (l.map bv) hx (by simp [hl]) (row_cells hrow ad rfl) (bv_one l) (by unfold maxLen; omega) (by omega) hbase ?_
    intro v' w' h1 h2 _
    rw [← List.map_append] at h1
    exact h v' w' h1 h2
theorem results_tmp4 {fn : Func} {t u v x : Tmp} (h : fn.results = #[.tmp t, .tmp u, .tmp v, .tmp x]) (tmps : Array Value) (P : Program) (w : World) :
    (results fn tmps).run P w = .ok (.tuple #[tmps.getD t undef, tmps.getD u undef, tmps.getD v undef, tmps.getD x undef]) w := by
  simp [results, h]
theorem own_kept {w w' : World} {base e size n : Nat} {v : Value} {xs : List Value} (h : w.ownsRow base e size v n xs) (hb : Below w.heap.size w w') : w'.ownsRow base e size v n xs := by
  refine ⟨h.1, ?_⟩
  rcases h.2 with h2 | ⟨g, cap, cur, hv, hgb, hg, r⟩
  · exact Or.inl h2
  · refine Or.inr ⟨g, cap, cur, hv, hgb, ?_, r⟩
    rw [hb.block g ?_]
    · exact hg
    · rcases Nat.lt_or_ge g w.heap.size with hlt | hge
      · exact hlt
      · rw [Array.getElem?_eq_none hge] at hg; cases hg
end Go.Proofs.Ythadagpfmacemaa

/- What a call leaves as it was: all but the blocks of a list. -/
namespace Go.Proofs.Ythadagpfmacemaa
open Go.RowKit

/-- Behind w' all that was there in w is as it was, but the blocks F. -/
structure Chg (F : List Nat) (w w' : World) : Prop where
  os : w'.os = w.os
  tape : w'.tape = w.tape
  output : w'.output = w.output
  size : w.heap.size ≤ w'.heap.size
  block : ∀ k, k < w.heap.size → k ∉ F → w'.heap[k]? = w.heap[k]?
variable {w w' w'' : World} {F G : List Nat}
theorem Chg.refl (F : List Nat) (w : World) : Chg F w w := ⟨rfl, rfl, rfl, Nat.le_refl _, fun _ _ _ => rfl⟩
theorem Chg.of (h : Below w.heap.size w w') : Chg F w w' := ⟨h.os, h.tape, h.output, h.size, fun k hk _ => h.block k hk⟩
theorem Chg.mono (h : Chg F w w') (hs : ∀ k ∈ F, k ∈ G) : Chg G w w' := ⟨h.os, h.tape, h.output, h.size, fun k hk hn => h.block k hk (fun hm => hn (hs k hm))⟩
/-- One behind the other: what the second may change was in F, or is new. -/
theorem Chg.trans (h : Chg F w w') (h' : Chg G w' w'') (hs : ∀ k ∈ G, k ∈ F ∨ w.heap.size ≤ k) : Chg F w w'' :=
  ⟨h'.os.trans h.os, h'.tape.trans h.tape, h'.output.trans h.output, Nat.le_trans h.size h'.size, fun k hk hn => (h'.block k (Nat.lt_of_lt_of_le hk h.size) (fun hm => (hs k hm).elim hn (by omega))).trans (h.block k hk hn)⟩
theorem Chg.below (h : Chg F w w') {N : Nat} (hk : ∀ k ∈ F, N ≤ k) (hN : N ≤ w.heap.size) : Below N w w' :=
  ⟨h.os, h.tape, h.output, h.size, fun k h1 => h.block k (Nat.lt_of_lt_of_le h1 hN) (fun hm => absurd (hk k hm) (by omega))⟩
theorem Chg.set (h : Chg F w w') {g : Nat} (hg : g ∈ F ∨ w.heap.size ≤ g) (i : Nat) (u : Value) : Chg F w (w'.setCell ⟨g, i, none⟩ u) :=
  ⟨h.os, h.tape, h.output, by simpa [World.setCell] using h.size, fun k hk hn => (Below.heap_setCell _ _ _ _ (fun e => by rcases hg with hg | hg; exact hn (by rw [e]; exact hg); simp only at e; omega)).trans (h.block k hk hn)⟩
theorem Chg.drew (h : Chg F w w') : Chg F w w'.drew := ⟨h.os, h.tape, h.output, h.size, h.block⟩
theorem Chg.cell (h : Chg F w w') {g i : Nat} (hg : g < w.heap.size) (hn : g ∉ F) : w'.cell? ⟨g, i, none⟩ = w.cell? ⟨g, i, none⟩ := by
  have h1 := h.block g hg hn
  simp only [World.cell?, h1]
theorem Row.chg {ad : Option Addr} {l : List Nat} (h : Row w ad l) (hb : Chg F w w') (hn : ∀ b off, ad = some ⟨b, off, none⟩ → l ≠ [] → b ∉ F) : Row w' ad l := by
  refine ⟨h.1, ?_⟩
  rcases h.2 with h | ⟨b, off, e, hs, hc⟩
  · exact Or.inl h
  · by_cases h0 : l = []
    · exact Or.inl h0
    · exact Or.inr ⟨b, off, e, Nat.lt_of_lt_of_le hs hb.size, fun i hi => by rw [hb.cell hs (hn b off e h0)]; exact hc i hi⟩
theorem Part.ok.chg {p : Part} (h : p.ok w) (hb : Chg F w w') (hn : ∀ b off, p.ad = some ⟨b, off, none⟩ → p.l ≠ [] → b ∉ F) : p.ok w' := ⟨h.1, h.2.1, h.2.2.chg hb hn⟩
theorem Own.chg {N : Nat} {v : Value} {l : List Nat} (h : Own w N v l) (hb : Chg F w w') (hn : ∀ g, v.ownBlock = some g → g ∉ F) : Own w' N v l := by
  refine ⟨h.1, h.2.1, ?_⟩
  rcases h.2.2 with h2 | ⟨g, cap, cur, hv, hgb, hg, r⟩
  · exact Or.inl h2
  · refine Or.inr ⟨g, cap, cur, hv, hgb, ?_, r⟩
    have hlt : g < w.heap.size := by
      rcases Nat.lt_or_ge g w.heap.size with hlt | hge
      · exact hlt
      · rw [Array.getElem?_eq_none hge] at hg; cases hg
    rw [hb.block g hlt (hn g (by rw [hv]; rfl))]
    exact hg
/-- A block of cells. -/
def Blk (w : World) (B : Nat) (cs : Array Value) (T : TypeId) : Prop := w.heap[B]? = some (.cells cs T (0, 0))
theorem Blk.lt {B : Nat} {cs : Array Value} {T : TypeId} (h : Blk w B cs T) : B < w.heap.size := by
  rcases Nat.lt_or_ge B w.heap.size with hlt | hge
  · exact hlt
  · unfold Blk at h; rw [Array.getElem?_eq_none hge] at h; cases h
theorem Blk.chg {B : Nat} {cs : Array Value} {T : TypeId} (h : Blk w B cs T) (hb : Chg F w w') (hn : B ∉ F) : Blk w' B cs T := (hb.block B h.lt hn).trans h
theorem Blk.later {B : Nat} {cs : Array Value} {T : TypeId} (h : Blk w B cs T) (hb : Below w.heap.size w w') : Blk w' B cs T := (hb.block B h.lt).trans h
theorem Blk.cell {B : Nat} {cs : Array Value} {T : TypeId} (h : Blk w B cs T) (i : Nat) : w.cell? ⟨B, i, none⟩ = cs[i]? := cell_of_row w B i _ _ _ h
theorem Blk.free {B : Nat} {cs : Array Value} {T : TypeId} (h : Blk w B cs T) (i : Nat) : w.frozen? ⟨B, i, none⟩ = false := by
  unfold Blk at h; simp [World.frozen?, h]
theorem Blk.set {B : Nat} {cs : Array Value} {T : TypeId} (h : Blk w B cs T) (i : Nat) (v : Value) : Blk (w.setCell ⟨B, i, none⟩ v) B (cs.setIfInBounds i v) T := by
  unfold Blk at *
  rw [setCell_eq_setRow w B i cs T (0, 0) v h]
  exact setRow_heap w B _ _ T _ h
theorem Blk.other {B C : Nat} {cs : Array Value} {T : TypeId} (h : Blk w B cs T) (hne : B ≠ C) (i : Nat) (v : Value) : Blk (w.setCell ⟨C, i, none⟩ v) B cs T := by
  unfold Blk at *
  rw [Below.heap_setCell _ _ _ _ (by exact hne)]
  exact h
end Go.Proofs.Ythadagpfmacemaa

/- Numbers that came in as a slice; slices.Index and Contains of them; Quorum and Check of package loglet. -/
namespace Go.Proofs.Ythadagpfmacemaa
open Go.RowKit
variable {w w' : World} {l : List Int} {ad : Option Addr} {m c : Nat}

/-- The numbers l lie as a slice that came in. -/
structure Ints (w : World) (l : List Int) (ad : Option Addr) (m c : Nat) : Prop where
  len : l.length = m
  cap : m ≤ c
  room : c ≤ maxLen
  row : m = 0 ∨ ∃ b off, ad = some ⟨b, off, none⟩ ∧ b < w.heap.size ∧ ∀ i, i < m → w.cell? ⟨b, off + i, none⟩ = some (.int .i64 (l.getD i 0))
  rng : ∀ x ∈ l, -9223372036854775808 ≤ x ∧ x ≤ 9223372036854775807
theorem Ints.later (h : Ints w l ad m c) (hb : Below w.heap.size w w') : Ints w' l ad m c := by
  refine ⟨h.len, h.cap, h.room, ?_, h.rng⟩
  rcases h.row with h0 | ⟨b, off, e, hs, hc⟩
  · exact Or.inl h0
  · exact Or.inr ⟨b, off, e, Nat.lt_of_lt_of_le hs hb.size, fun i hi => (hb.cell (p := ⟨b, off + i, none⟩) hs).trans (hc i hi)⟩
theorem getD_take_int (l : List Int) (j i : Nat) (h : i < j) : (l.take j).getD i 0 = l.getD i 0 := by
  rw [List.getD_eq_getElem?_getD, List.getD_eq_getElem?_getD, List.getElem?_take, if_pos h]
theorem getD_mem_int (l : List Int) (j : Nat) (h : j < l.length) : l.getD j 0 ∈ l := by
  rw [List.getD_eq_getElem?_getD, List.getElem?_eq_getElem h]
  exact List.getElem_mem h
theorem take_snoc_int (l : List Int) (j : Nat) (h : j < l.length) : l.take (j + 1) = l.take j ++ [l.getD j 0] := by
  rw [List.take_succ_eq_append_getElem h, List.getD_eq_getElem?_getD, List.getElem?_eq_getElem h]
  rfl
theorem Ints.ahead (h : Ints w l ad m c) (j : Nat) (hj : j ≤ m) : Ints w (l.take j) ad j c := by
  have hl := h.len
  refine ⟨by rw [List.length_take]; omega, Nat.le_trans hj h.cap, h.room, ?_, fun x hx => h.rng x (List.mem_of_mem_take hx)⟩
  rcases h.row with h0 | ⟨b, off, e, hs, hc⟩
  · exact Or.inl (by omega)
  · exact Or.inr ⟨b, off, e, hs, fun i hi => by rw [getD_take_int l j i hi]; exact hc i (by omega)⟩
set_option maxHeartbeats 1000000 in
theorem index_any (h : Ints w l ad m c) (x : Int) : Calls Try.prog 70 #[.slice ad m c, .int .i64 x] w fun e w' => (∃ q : Int, e = .returned (.int .i64 q) ∧ -1 ≤ q ∧ q ≤ 9223372036854775807 ∧ (0 ≤ q ↔ x ∈ l)) ∧ w' = w := by
  have H : Hid (Ints w l ad m c) := h
  have hm : m ≤ 9223372036854775807 := by have := h.cap; have := h.room; unfold maxLen at this; omega
  clear h
  go_enter Try.func70, Try.ntmps70
  go_wp2_with fail
  go_loopw [8] (fun i wr => ∃ j : Nat, j ≤ m ∧ i = .int .i64 j ∧ Hid (x ∉ l.take j) ∧ wr = w) (fun i _ => m - (intOf i).toNat)
  case atStart => exact ⟨0, by omega, rfl, (show Hid (x ∉ l.take 0) by simp [Hid]), rfl⟩
  case round =>
    obtain ⟨j, hj, rfl, HT, rfl⟩ := hrel
    by_cases hlt : j < m
    · obtain ⟨b, off, rfl, hs, hc⟩ : ∃ b off, ad = some ⟨b, off, none⟩ ∧ b < wr.heap.size ∧ ∀ i, i < m → wr.cell? ⟨b, off + i, none⟩ = some (.int .i64 (l.getD i 0)) := H.out.row.resolve_left (by omega)
      have r0 := hc j hlt
      have HS : Hid (l.take (j + 1) = l.take j ++ [l.getD j 0]) := take_snoc_int l j (by rw [H.out.len]; exact hlt)
      have HM : Hid (l.getD j 0 ∈ l) := getD_mem_int l j (by rw [H.out.len]; exact hlt)
      clear hc hs
      generalize l.getD j 0 = y at *
      by_cases hxy : x = y
      · subst hxy
        go_wp2_with fail
        go_ret
        exact ⟨⟨_, rfl, by omega, by omega, by constructor <;> intro _; exact HM.out; omega⟩, rfl⟩
      · have hq : (x == y) = false := by simpa using hxy
        go_wp2_with fail
        refine ⟨⟨j + 1, by omega, by go_num, (show Hid (x ∉ l.take (j + 1)) by rw [HS.out]; simp only [Hid, List.mem_append, List.mem_singleton]; rintro (a | a); exact HT.out a; exact hxy a), by first | rfl | trivial⟩, by simp [intOf]; omega⟩
    · obtain rfl : j = m := by omega
      go_wp2_with fail
      go_ret
      refine ⟨⟨_, rfl, by omega, by omega, ?_⟩, rfl⟩
      have h2 := HT.out
      rw [List.take_of_length_le (by rw [H.out.len]; exact Nat.le_refl _)] at h2
      constructor
      · intro a; omega
      · intro a; exact absurd a h2
theorem contains_any (h : Ints w l ad m c) (x : Int) : Calls Try.prog 64 #[.slice ad m c, .int .i64 x] w fun e w' => e = .returned (.bool (decide (x ∈ l))) ∧ w' = w := by
  have HC := index_any h x
  clear h
  go_enter Try.func64, Try.ntmps64
  go_wp2_with (go_at_call 70; refine HC.mono ?_; rintro e w1 ⟨⟨q, rfl, q1, q2, q3⟩, rfl⟩)
  go_ret
  have e1 : decide (0 ≤ q) = decide (x ∈ l) := by by_cases hx : x ∈ l <;> simp [hx, q3]
  rw [← e1]
  exact ⟨by first | rfl | simp, rfl⟩

/-- The numbers ahead of place j are numbers of n nodes, each once. -/
def goodN (n : Int) (l : List Int) (j : Nat) : Prop := ∀ i, i < j → 0 ≤ l.getD i 0 ∧ l.getD i 0 < n ∧ l.getD i 0 ∉ l.take i
instance (n : Int) (l : List Int) (j : Nat) : Decidable (goodN n l j) := by unfold goodN; infer_instance
/-- Check's answer. -/
def checkL (id : Int) (l : List Int) (n : Int) : Int := if 0 ≤ id ∧ id < 281474976710656 ∧ 1 ≤ l.length ∧ l.length ≤ 9 ∧ goodN n l l.length then 0 else 1
theorem checkL_id {id n : Int} (h : id < 0 ∨ 281474976710656 ≤ id) : checkL id l n = 1 := by unfold checkL; rw [if_neg]; omega
theorem checkL_len {id n : Int} (h : l.length = 0 ∨ 9 < l.length) : checkL id l n = 1 := by unfold checkL; rw [if_neg]; omega
theorem checkL_not {id n : Int} {j : Nat} (hj : j < l.length) (h : l.getD j 0 < 0 ∨ n ≤ l.getD j 0 ∨ l.getD j 0 ∈ l.take j) : checkL id l n = 1 := by
  unfold checkL
  rw [if_neg]
  rintro ⟨-, -, -, -, hg⟩
  obtain ⟨a, b, d⟩ := hg j hj
  rcases h with h | h | h
  · omega
  · omega
  · exact d h
theorem checkL_ok {id n : Int} (h1 : 0 ≤ id) (h2 : id < 281474976710656) (h3 : 1 ≤ l.length) (h4 : l.length ≤ 9) (h : goodN n l l.length) : checkL id l n = 0 := by
  unfold checkL; rw [if_pos ⟨h1, h2, h3, h4, h⟩]
theorem goodN.more {n : Int} {j : Nat} (h : goodN n l j) (h1 : 0 ≤ l.getD j 0) (h2 : l.getD j 0 < n) (h3 : l.getD j 0 ∉ l.take j) : goodN n l (j + 1) := by
  intro i hi
  by_cases e : i = j
  · subst e; exact ⟨h1, h2, h3⟩
  · exact h i (by omega)

set_option maxHeartbeats 1000000 in
theorem check_any (h : Ints w l ad m c) (id n : Int) : Calls Try.prog 52 #[.agg #[.int .i64 id, .slice ad m c], .int .i64 n] w fun e w' => e = .returned (.int .i64 (checkL id l n)) ∧ Below w.heap.size w w' := by
  have b0 : Below w.heap.size w (w.alloc (.cells #[.int .i64 id, .slice ad m c] 54)) := (Below.refl _ _).alloc (Nat.le_refl _) _
  have H : Hid (Ints w l ad m c) := h
  have hl := h.len
  have hm : m ≤ 9223372036854775807 := by have := h.cap; have := h.room; unfold maxLen at this; omega
  have hmc := h.cap
  clear h
  by_cases a1 : id < 0
  · rw [checkL_id (Or.inl a1)]
    go_enter Try.func52, Try.ntmps52
    go_wp2_with fail
    go_ret
    exact ⟨rfl, b0⟩
  have d1 : decide (id < 0) = false := by simpa using a1
  by_cases a2 : 281474976710656 ≤ id
  · rw [checkL_id (Or.inr a2)]
    go_enter Try.func52, Try.ntmps52
    go_wp2_with fail
    go_ret
    exact ⟨rfl, b0⟩
  have d2 : decide (281474976710656 ≤ id) = false := by simpa using a2
  by_cases a3 : m = 0
  · rw [checkL_len (Or.inl (by omega))]
    subst a3
    go_enter Try.func52, Try.ntmps52
    go_wp2_with fail
    go_ret
    exact ⟨rfl, b0⟩
  have d3 : ((m : Int) == 0) = false := by simp; omega
  by_cases a4 : 9 < m
  · rw [checkL_len (Or.inr (by omega))]
    go_enter Try.func52, Try.ntmps52
    go_wp2_with fail
    go_ret
    exact ⟨rfl, b0⟩
  have d4 : decide ((9 : Int) < (m : Int)) = false := by simp; omega
  obtain ⟨b, off, rfl, hs, hc⟩ : ∃ b off, ad = some ⟨b, off, none⟩ ∧ b < w.heap.size ∧ ∀ i, i < m → w.cell? ⟨b, off + i, none⟩ = some (.int .i64 (l.getD i 0)) := H.out.row.resolve_left a3
  have HC : Hid (∀ i, i < m → (w.alloc (.cells #[.int .i64 id, .slice (some ⟨b, off, none⟩) m c] 54)).cell? ⟨b, off + i, none⟩ = some (.int .i64 (l.getD i 0))) := fun i hi => (b0.cell (p := ⟨b, off + i, none⟩) hs).trans (hc i hi)
  have HI := H.out.later b0
  have HJ : Hid (Ints (w.alloc (.cells #[.int .i64 id, .slice (some ⟨b, off, none⟩) m c] 54)) l (some ⟨b, off, none⟩) m c) := HI
  clear hc hs HI
  go_enter Try.func52, Try.ntmps52
  go_wp2_with fail
  go_loopw [30] (fun i wr => ∃ j : Nat, j ≤ m ∧ i = .int .i64 j ∧ Hid (goodN n l j) ∧ wr = w.alloc (.cells #[.int .i64 id, .slice (some ⟨b, off, none⟩) m c] 54)) (fun i _ => m - (intOf i).toNat)
  case atStart => exact ⟨0, by omega, rfl, (show Hid (goodN n l 0) from fun i hi => absurd hi (Nat.not_lt_zero _)), rfl⟩
  case round =>
    obtain ⟨j, hj, rfl, HT, rfl⟩ := hrel
    by_cases hlt : j < m
    · have r0 := HC.out j hlt
      have HN : Hid (∀ id n, l.getD j 0 < 0 ∨ n ≤ l.getD j 0 ∨ l.getD j 0 ∈ l.take j → checkL id l n = 1) := fun id n => checkL_not (by rw [hl]; exact hlt)
      have HO : Hid (0 ≤ l.getD j 0 → l.getD j 0 < n → l.getD j 0 ∉ l.take j → goodN n l (j + 1)) := HT.out.more
      have HK := contains_any (HJ.out.ahead j hj) (l.getD j 0)
      generalize l.getD j 0 = y at *
      by_cases p1 : y < 0
      · go_wp2_with fail
        go_ret
        rw [HN.out id n (Or.inl p1)]
        exact ⟨rfl, b0⟩
      have e1 : decide (y < 0) = false := by simpa using p1
      by_cases p2 : n ≤ y
      · go_wp2_with fail
        go_ret
        rw [HN.out id n (Or.inr (Or.inl p2))]
        exact ⟨rfl, b0⟩
      have e2 : decide (n ≤ y) = false := by simpa using p2
      by_cases p3 : y ∈ l.take j
      · rw [decide_eq_true p3] at HK
        go_wp2_with (go_at_call 64; refine HK.mono ?_; rintro e w1 ⟨rfl, rfl⟩)
        go_ret
        rw [HN.out id n (Or.inr (Or.inr p3))]
        exact ⟨rfl, b0⟩
      · rw [decide_eq_false p3] at HK
        have HG : Hid (goodN n l (j + 1)) := HO.out (by omega) (by omega) p3
        go_wp2_with (go_at_call 64; refine HK.mono ?_; rintro e w1 ⟨rfl, rfl⟩)
        refine ⟨⟨j + 1, by omega, by go_num, HG, by first | rfl | trivial⟩, by simp [intOf]; omega⟩
    · obtain rfl : j = m := by omega
      go_wp2_with fail
      go_ret
      rw [checkL_ok (by omega) (by omega) (by omega) (by omega) (by rw [hl]; exact HT.out)]
      exact ⟨rfl, b0⟩
end Go.Proofs.Ythadagpfmacemaa

/- Chains as plain data: which may be, where addresses are, what becomes of them. -/
namespace Go.Proofs.Ythadagpfmacemaa
open Go.RowKit

theorem hid {p : Prop} (h : p) : Hid p := h
/-- A part. -/
structure Pt where
  first : Int
  id : Int
  nodes : List Int
/-- No part. -/
def pt0 : Pt := ⟨0, 0, []⟩
/-- A chain. -/
structure Ch where
  owner : Int
  trim : Int
  parts : List Pt
def ptAt (l : List Pt) (i : Nat) : Pt := l.getD i pt0
theorem ptAt_take (l : List Pt) (j i : Nat) (h : i < j) : ptAt (l.take j) i = ptAt l i := by
  unfold ptAt; rw [List.getD_eq_getElem?_getD, List.getD_eq_getElem?_getD, List.getElem?_take, if_pos h]
theorem ptAt_drop (l : List Pt) (j i : Nat) : ptAt (l.drop j) i = ptAt l (j + i) := by
  unfold ptAt; rw [List.getD_eq_getElem?_getD, List.getD_eq_getElem?_getD, List.getElem?_drop]
theorem ptAt_mem (l : List Pt) (j : Nat) (h : j < l.length) : ptAt l j ∈ l := by
  unfold ptAt; rw [List.getD_eq_getElem?_getD, List.getElem?_eq_getElem h]; exact List.getElem_mem h
theorem ptAt_snoc (l : List Pt) (p : Pt) : ptAt (l ++ [p]) l.length = p := by
  unfold ptAt; rw [List.getD_eq_getElem?_getD, List.getElem?_append_right (Nat.le_refl _)]; simp
theorem ptAt_left (l m : List Pt) (i : Nat) (h : i < l.length) : ptAt (l ++ m) i = ptAt l i := by
  unfold ptAt; rw [List.getD_eq_getElem?_getD, List.getD_eq_getElem?_getD, List.getElem?_append_left h]
theorem take_snocP (l : List Pt) (j : Nat) (h : j < l.length) : l.take (j + 1) = l.take j ++ [ptAt l j] := by
  unfold ptAt; rw [List.take_succ_eq_append_getElem h, List.getD_eq_getElem?_getD, List.getElem?_eq_getElem h]; rfl
theorem mem_ptAt {l : List Pt} {p : Pt} (h : p ∈ l) : ∃ i, i < l.length ∧ ptAt l i = p := by
  obtain ⟨i, hi, e⟩ := List.getElem_of_mem h
  exact ⟨i, hi, by unfold ptAt; rw [List.getD_eq_getElem?_getD, List.getElem?_eq_getElem hi]; exact e⟩
/-- The last First; 0 without parts. -/
def lastF (l : List Pt) : Int := if l.length = 0 then 0 else (ptAt l (l.length - 1)).first
/-- Where the parts end if the last one is full. -/
def farF (l : List Pt) : Int := if l.length = 0 then 0 else lastF l + 4096
/-- Number n is one. -/
def isN (n : Int) : Prop := 0 ≤ n ∧ n < 281474976710656
instance (n : Int) : Decidable (isN n) := by unfold isN; infer_instance
/-- No part has that ID. -/
def newId (id : Int) (l : List Pt) : Prop := ∀ q ∈ l, q.id ≠ id
instance (id : Int) (l : List Pt) : Decidable (newId id l) := by unfold newId; infer_instance
/-- A part may begin at f behind those of l. -/
def followsP (f : Int) (l : List Pt) : Prop := l.length = 0 ∨ (lastF l ≤ f ∧ f ≤ farF l)
instance (f : Int) (l : List Pt) : Decidable (followsP f l) := by unfold followsP; infer_instance
/-- Part i may be. -/
def partOk (n : Int) (l : List Pt) (i : Nat) : Prop := isN (ptAt l i).first ∧ checkL (ptAt l i).id (ptAt l i).nodes n = 0 ∧ newId (ptAt l i).id (l.take i) ∧ followsP (ptAt l i).first (l.take i)
instance (n : Int) (l : List Pt) (i : Nat) : Decidable (partOk n l i) := by unfold partOk; infer_instance
/-- The Trim lies in the first part. -/
def trimOk (t : Int) (l : List Pt) : Prop := if l.length = 0 then t = 0 else ¬ (1 < l.length ∧ (ptAt l 1).first ≤ t) ∧ (ptAt l 0).first ≤ t ∧ t ≤ farF l
instance (t : Int) (l : List Pt) : Decidable (trimOk t l) := by unfold trimOk; infer_instance
/-- The first j parts may be. -/
def partsOk (n : Int) (l : List Pt) (j : Nat) : Prop := ∀ i, i < j → partOk n l i
instance (n : Int) (l : List Pt) (j : Nat) : Decidable (partsOk n l j) := by unfold partsOk; infer_instance
/-- A chain that may be. -/
def mayC (o t : Int) (l : List Pt) (n : Int) : Prop := (0 ≤ o ∧ o ≤ 15) ∧ (isN t ∧ l.length ≤ 64) ∧ partsOk n l l.length ∧ trimOk t l
instance (o t : Int) (l : List Pt) (n : Int) : Decidable (mayC o t l n) := by unfold mayC; infer_instance
theorem isN_dec (n : Int) : decide (isN n) = (decide (0 ≤ n) && decide (n < 281474976710656)) := by rw [Bool.eq_iff_iff]; simp only [decide_eq_true_eq, Bool.and_eq_true]; exact Iff.rfl
theorem follows_dec {f : Int} {l : List Pt} (h : l.length ≠ 0) : decide (followsP f l) = (decide (lastF l ≤ f) && decide (f ≤ farF l)) := by rw [Bool.eq_iff_iff]; simp [followsP, h]
theorem trim_dec0 {t : Int} {l : List Pt} (h : l.length = 0) : decide (trimOk t l) = (t == 0) := by rw [Bool.eq_iff_iff]; simp [trimOk, h]
theorem trim_dec1 {t : Int} {l : List Pt} (h : 1 < l.length) (h1 : (ptAt l 1).first ≤ t) : decide (trimOk t l) = false := decide_eq_false (fun h2 => by unfold trimOk at h2; rw [if_neg (by omega)] at h2; exact h2.1 ⟨h, h1⟩)
theorem trim_dec {t : Int} {l : List Pt} (h : l.length ≠ 0) (h1 : ¬ (1 < l.length ∧ (ptAt l 1).first ≤ t)) : decide (trimOk t l) = (decide ((ptAt l 0).first ≤ t) && decide (t ≤ farF l)) := by rw [Bool.eq_iff_iff]; simp only [trimOk, h, if_false]; simp [h1]
theorem partsOk.more {n : Int} {l : List Pt} {j : Nat} (h : partsOk n l j) (h1 : partOk n l j) : partsOk n l (j + 1) := by
  intro i hi
  by_cases e : i = j
  · subst e; exact h1
  · exact h i (by omega)
theorem lastF_take (l : List Pt) (j : Nat) (h0 : 0 < j) (hj : j ≤ l.length) : lastF (l.take j) = (ptAt l (j - 1)).first := by
  unfold lastF
  have e : (l.take j).length = j := by simp; omega
  rw [e, if_neg (by omega), ptAt_take l j (j - 1) (by omega)]
theorem lastF_take_rng {n : Int} {l : List Pt} {j : Nat} (h : partsOk n l j) (hj : j ≤ l.length) : 0 ≤ lastF (l.take j) ∧ lastF (l.take j) < 281474976710656 := by
  by_cases h0 : j = 0
  · subst h0; unfold lastF; simp
  · rw [lastF_take l j (by omega) hj]
    exact (h (j - 1) (by omega)).1
theorem lastF_rng {n : Int} {l : List Pt} (h : partsOk n l l.length) : 0 ≤ lastF l ∧ lastF l < 281474976710656 := by
  have := lastF_take_rng h (Nat.le_refl _)
  rwa [List.take_length] at this
end Go.Proofs.Ythadagpfmacemaa

/- Parts in memory. -/
namespace Go.Proofs.Ythadagpfmacemaa
open Go.RowKit
variable {w w' : World} {l : List Pt} {ad : Option Addr} {m c : Nat}

/-- A slice, wherever it lies. -/
structure Sl where
  ad : Option Addr
  m : Nat
  c : Nat
/-- The parts l lie as a slice; A: where the nodes of each lie. -/
structure CArg (w : World) (l : List Pt) (A : Nat → Sl) (ad : Option Addr) (m c : Nat) : Prop where
  len : l.length = m
  nil : ad = none → m = 0 ∧ c = 0
  cap : m ≤ c
  room : c ≤ maxLen
  row : m = 0 ∨ ∃ b off, ad = some ⟨b, off, none⟩ ∧ b < w.heap.size ∧ ∀ i, i < m → w.cell? ⟨b, off + i * 3, none⟩ = some (.int .i64 (ptAt l i).first) ∧ w.cell? ⟨b, off + i * 3 + 1, none⟩ = some (.int .i64 (ptAt l i).id) ∧ w.cell? ⟨b, off + i * 3 + 2, none⟩ = some (.slice (A i).ad (A i).m (A i).c)
  ints : ∀ i, i < m → Ints w (ptAt l i).nodes (A i).ad (A i).m (A i).c ∧ ((A i).ad = none → (A i).m = 0 ∧ (A i).c = 0)
  rng : ∀ i, i < m → (-9223372036854775808 ≤ (ptAt l i).first ∧ (ptAt l i).first ≤ 9223372036854775807) ∧ (-9223372036854775808 ≤ (ptAt l i).id ∧ (ptAt l i).id ≤ 9223372036854775807)
variable {A : Nat → Sl}
theorem CArg.later (h : CArg w l A ad m c) (hb : Below w.heap.size w w') : CArg w' l A ad m c := by
  refine ⟨h.len, h.nil, h.cap, h.room, ?_, fun i hi => ⟨(h.ints i hi).1.later hb, (h.ints i hi).2⟩, h.rng⟩
  rcases h.row with h0 | ⟨b, off, e, hs, hc⟩
  · exact Or.inl h0
  · refine Or.inr ⟨b, off, e, Nat.lt_of_lt_of_le hs hb.size, fun i hi => ?_⟩
    rw [hb.cell (p := ⟨b, off + i * 3, none⟩) hs, hb.cell (p := ⟨b, off + i * 3 + 1, none⟩) hs, hb.cell (p := ⟨b, off + i * 3 + 2, none⟩) hs]
    exact hc i hi
/-- What holds of all blocks that a slice of parts lies in. -/
structure CBlk (Q : Nat → Prop) (A : Nat → Sl) (ad : Option Addr) (m : Nat) : Prop where
  row : m ≠ 0 → ∀ b off, ad = some ⟨b, off, none⟩ → Q b
  ints : ∀ i, i < m → (A i).m ≠ 0 → ∀ b off, (A i).ad = some ⟨b, off, none⟩ → Q b
theorem Ints.chg {l : List Int} {F : List Nat} (h : Ints w l ad m c) (hb : Chg F w w') (hn : m ≠ 0 → ∀ b off, ad = some ⟨b, off, none⟩ → b ∉ F) : Ints w' l ad m c := by
  refine ⟨h.len, h.cap, h.room, ?_, h.rng⟩
  by_cases h0 : m = 0
  · exact Or.inl h0
  · obtain ⟨b, off, e, hs, hc⟩ := h.row.resolve_left h0
    exact Or.inr ⟨b, off, e, Nat.lt_of_lt_of_le hs hb.size, fun i hi => by rw [hb.cell hs (hn h0 b off e)]; exact hc i hi⟩
theorem CArg.chg {F : List Nat} (h : CArg w l A ad m c) (hb : Chg F w w') (hn : CBlk (fun b => b ∉ F) A ad m) : CArg w' l A ad m c := by
  refine ⟨h.len, h.nil, h.cap, h.room, ?_, fun i hi => ⟨(h.ints i hi).1.chg hb (hn.ints i hi), (h.ints i hi).2⟩, h.rng⟩
  by_cases h0 : m = 0
  · exact Or.inl h0
  · obtain ⟨b, off, e, hs, hc⟩ := h.row.resolve_left h0
    refine Or.inr ⟨b, off, e, Nat.lt_of_lt_of_le hs hb.size, fun i hi => ?_⟩
    have hf := hn.row h0 b off e
    rw [hb.cell hs hf, hb.cell hs hf, hb.cell hs hf]
    exact hc i hi
theorem CBlk.mono {Q R : Nat → Prop} (h : CBlk Q A ad m) (hr : ∀ b, Q b → R b) : CBlk R A ad m := ⟨fun h0 b off e => hr b (h.row h0 b off e), fun i hi h0 b off e => hr b (h.ints i hi h0 b off e)⟩
theorem CArg.ahead (h : CArg w l A ad m c) (j : Nat) (hj : j ≤ m) : CArg w (l.take j) A ad j c := by
  have hl := h.len
  refine ⟨by rw [List.length_take]; omega, fun e => ⟨by have := (h.nil e).1; omega, (h.nil e).2⟩, Nat.le_trans hj h.cap, h.room, ?_, fun i hi => by rw [ptAt_take l j i hi]; exact h.ints i (by omega), fun i hi => by rw [ptAt_take l j i hi]; exact h.rng i (by omega)⟩
  rcases h.row with h0 | ⟨b, off, e, hs, hc⟩
  · exact Or.inl (by omega)
  · exact Or.inr ⟨b, off, e, hs, fun i hi => by rw [ptAt_take l j i hi]; exact hc i (by omega)⟩
theorem CArg.lt (h : CArg w l A ad m c) : CBlk (fun b => b < w.heap.size) A ad m := by
  refine ⟨fun h0 b off e => ?_, fun i hi h0 b off e => ?_⟩
  · obtain ⟨b', off', e', hs, -⟩ := h.row.resolve_left h0
    rw [e] at e'; cases e'; exact hs
  · obtain ⟨b', off', e', hs, -⟩ := (h.ints i hi).1.row.resolve_left h0
    rw [e] at e'; cases e'; exact hs
/-- No parts. -/
theorem CArg.none (w : World) (A : Nat → Sl) : CArg w [] A none 0 0 := ⟨rfl, fun _ => ⟨rfl, rfl⟩, Nat.le_refl _, by unfold maxLen; omega, Or.inl rfl, fun i hi => absurd hi (Nat.not_lt_zero _), fun i hi => absurd hi (Nat.not_lt_zero _)⟩
theorem CArg.cells (h : CArg w l A ad m c) (h0 : 0 < m) : ∃ b off, ad = some ⟨b, off, Option.none⟩ ∧ b < w.heap.size ∧ ∀ i, i < m → w.cell? ⟨b, off + i * 3, Option.none⟩ = some (.int .i64 (ptAt l i).first) ∧ w.cell? ⟨b, off + i * 3 + 1, Option.none⟩ = some (.int .i64 (ptAt l i).id) ∧ w.cell? ⟨b, off + i * 3 + 2, Option.none⟩ = some (.slice (A i).ad (A i).m (A i).c) := h.row.resolve_left (by omega)
end Go.Proofs.Ythadagpfmacemaa

/- What is small in package chain: insist, isNumber, lastFirst, farthest, follows. -/
namespace Go.Proofs.Ythadagpfmacemaa
open Go.RowKit
variable {w w' : World} {l : List Pt} {A : Nat → Sl} {ad : Option Addr} {m c : Nat}

/-- What a refusal raises. -/
abbrev refusal (y : Int) : List PanicEntry := [{ v := .iface 90 (.agg #[.int .i64 y]), recovered := false }]
theorem insist_ok (y : Int) (w : World) : Calls Try.prog 31 #[.bool true, .int .i64 y] w fun e w' => e = .returned (.tuple #[]) ∧ w' = w := by
  go_enter Try.func31, Try.ntmps31
  go_wp2_with fail
  go_end0
  exact ⟨rfl, rfl⟩
theorem insist_no (y : Int) (w : World) : Calls Try.prog 31 #[.bool false, .int .i64 y] w fun e w' => e = .panicked (refusal y) ∧ w' = w := by
  go_enter Try.func31, Try.ntmps31
  go_wp2_with fail
  exact ⟨rfl, rfl, rfl⟩
theorem isNumber_any (n : Int) (w : World) : Calls Try.prog 51 #[.int .i64 n] w fun e w' => e = .returned (.bool (decide (isN n))) ∧ w' = w := by
  rw [isN_dec]
  by_cases h : 0 ≤ n
  · go_enter Try.func51, Try.ntmps51
    go_wp2_with fail
    go_ret
    exact ⟨by simp [h], rfl⟩
  · rw [show decide (0 ≤ n) = false from decide_eq_false h]
    go_enter Try.func51, Try.ntmps51
    go_wp2_with fail
    go_ret
    exact ⟨rfl, rfl⟩
theorem lastFirst_any (h : CArg w l A ad m c) : Calls Try.prog 44 #[.slice ad m c] w fun e w' => e = .returned (.int .i64 (lastF l)) ∧ w' = w := by
  have hl := h.len
  have hm : m ≤ 9223372036854775807 := by have := h.cap; have := h.room; unfold maxLen at this; omega
  by_cases h0 : m = 0
  · have e : lastF l = 0 := by unfold lastF; rw [hl, if_pos h0]
    rw [e]
    subst h0
    go_enter Try.func44, Try.ntmps44
    go_wp2_with fail
    go_ret
    exact ⟨rfl, rfl⟩
  · have e : lastF l = (ptAt l (m - 1)).first := by unfold lastF; rw [hl, if_neg h0]
    rw [e]
    obtain ⟨b, off, rfl, hs, hc⟩ := h.cells (by omega)
    have r0 := (hc (m - 1) (by omega)).1
    have hq : ((m : Int) == 0) = false := by simp; omega
    have hix : ((m : Int) - 1).toNat = m - 1 := by omega
    clear h hc hl
    generalize (ptAt l (m - 1)).first = x at *
    go_enter Try.func44, Try.ntmps44
    go_wp2_with fail
    go_ret
    exact ⟨rfl, rfl⟩
theorem farthest_any (h : CArg w l A ad m c) (hb : -1 ≤ lastF l ∧ lastF l < 281474976710656) : Calls Try.prog 45 #[.slice ad m c] w fun e w' => e = .returned (.int .i64 (farF l)) ∧ w' = w := by
  have hl := h.len
  have hm : m ≤ 9223372036854775807 := by have := h.cap; have := h.room; unfold maxLen at this; omega
  have HL := lastFirst_any h
  by_cases h0 : m = 0
  · have e : farF l = 0 := by unfold farF; rw [hl, if_pos h0]
    rw [e]
    subst h0
    go_enter Try.func45, Try.ntmps45
    go_wp2_with fail
    go_ret
    exact ⟨rfl, rfl⟩
  · have e : farF l = lastF l + 4096 := by unfold farF; rw [hl, if_neg h0]
    rw [e]
    have hq : ((m : Int) == 0) = false := by simp; omega
    clear h e hl
    generalize lastF l = x at *
    go_enter Try.func45, Try.ntmps45
    go_wp2_with (go_at_call 44; refine HL.mono ?_; rintro e w1 ⟨rfl, rfl⟩)
    go_ret
    exact ⟨by go_num, rfl⟩
theorem follows_any (f : Int) (h : CArg w l A ad m c) (hb : -1 ≤ lastF l ∧ lastF l < 281474976710656) : Calls Try.prog 54 #[.int .i64 f, .slice ad m c] w fun e w' => e = .returned (.bool (decide (followsP f l))) ∧ w' = w := by
  have hl := h.len
  have hm : m ≤ 9223372036854775807 := by have := h.cap; have := h.room; unfold maxLen at this; omega
  have HL := lastFirst_any h
  have HF := farthest_any h hb
  by_cases h0 : m = 0
  · have e : decide (followsP f l) = true := by simp [followsP, hl, h0]
    rw [e]
    subst h0
    go_enter Try.func54, Try.ntmps54
    go_wp2_with fail
    go_ret
    exact ⟨rfl, rfl⟩
  · have hq : ((m : Int) == 0) = false := by simp; omega
    rw [follows_dec (by rw [hl]; exact h0)]
    clear h hl
    generalize lastF l = x at *
    generalize farF l = y at *
    by_cases h1 : x ≤ f
    · go_enter Try.func54, Try.ntmps54
      go_wp2_with first | (go_at_call 44; refine HL.mono ?_; rintro e w1 ⟨rfl, rfl⟩) | (go_at_call 45; refine HF.mono ?_; rintro e w1 ⟨rfl, rfl⟩)
      go_ret
      exact ⟨by simp [h1], rfl⟩
    · rw [show decide (x ≤ f) = false from decide_eq_false h1]
      go_enter Try.func54, Try.ntmps54
      go_wp2_with (go_at_call 44; refine HL.mono ?_; rintro e w1 ⟨rfl, rfl⟩)
      go_ret
      exact ⟨rfl, rfl⟩
end Go.Proofs.Ythadagpfmacemaa

/- mayTrim of package chain. -/
namespace Go.Proofs.Ythadagpfmacemaa
open Go.RowKit
variable {w w' : World} {l : List Pt} {A : Nat → Sl} {ad : Option Addr} {m c : Nat}

set_option maxHeartbeats 1000000 in
theorem mayTrim_any (h : CArg w l A ad m c) (o t : Int) (hb : -1 ≤ lastF l ∧ lastF l < 281474976710656) : Calls Try.prog 55 #[.agg #[.int .i64 o, .int .i64 t, .slice ad m c]] w fun e w' => e = .returned (.bool (decide (trimOk t l))) ∧ Below w.heap.size w w' := by
  have hl := h.len
  have hm : m ≤ 9223372036854775807 := by have := h.cap; have := h.room; unfold maxLen at this; omega
  have HB : Hid (Below w.heap.size w (w.alloc (.cells #[.int .i64 o, .int .i64 t, .slice ad m c] 28))) := (show Hid _ from (Below.refl _ _).alloc (Nat.le_refl _) _)
  by_cases h0 : m = 0
  · rw [trim_dec0 (hl.trans h0)]
    subst h0
    clear h
    go_enter Try.func55, Try.ntmps55
    go_wp2_with fail
    go_ret
    exact ⟨rfl, HB.out⟩
  have hq : ((m : Int) == 0) = false := by simp; omega
  have hp : 0 < m := by omega
  have h2 := h.later HB.out
  have HF : Hid (∀ nq, Calls Try.prog 45 #[.slice ad m c] ((w.alloc (.cells #[.int .i64 o, .int .i64 t, .slice ad m c] 28)).drewN nq) fun e w' => e = .returned (.int .i64 (farF l)) ∧ w' = (w.alloc (.cells #[.int .i64 o, .int .i64 t, .slice ad m c] 28)).drewN nq) := fun nq => farthest_any (h2.later (below_drewN' (Below.refl _ _) nq)) hb
  have k0 : (w.alloc (.cells #[.int .i64 o, .int .i64 t, .slice ad m c] 28)).cell? ⟨w.heap.size, 0, none⟩ = some (.int .i64 o) := by simp [go_sem]
  have k1 : (w.alloc (.cells #[.int .i64 o, .int .i64 t, .slice ad m c] 28)).cell? ⟨w.heap.size, 1, none⟩ = some (.int .i64 t) := by simp [go_sem]
  have k2 : (w.alloc (.cells #[.int .i64 o, .int .i64 t, .slice ad m c] 28)).cell? ⟨w.heap.size, 2, none⟩ = some (.slice ad m c) := by simp [go_sem]
  obtain ⟨b, off, rfl, hs, hc⟩ := h2.cells (by omega)
  have r0 := (hc 0 (by omega)).1
  simp only [Nat.zero_mul, Nat.add_zero] at r0
  have HT : Hid (¬ (1 < m ∧ (ptAt l 1).first ≤ t) → decide (trimOk t l) = (decide ((ptAt l 0).first ≤ t) && decide (t ≤ farF l))) := fun h1 => trim_dec (by rw [hl]; exact h0) (by rw [hl]; exact h1)
  by_cases h1 : 1 < m
  · have d1 : decide ((1 : Int) < (m : Int)) = true := by simp; omega
    have r1 := (hc 1 h1).1
    simp only [Nat.one_mul] at r1
    have HT1 : Hid ((ptAt l 1).first ≤ t → decide (trimOk t l) = false) := fun h2 => trim_dec1 (by rw [hl]; exact h1) h2
    clear h h2 hc hs hb hl
    generalize (ptAt l 0).first = x at *
    generalize (ptAt l 1).first = y at *
    by_cases h3 : y ≤ t
    · have d2 : decide (y ≤ t) = true := by simpa using h3
      rw [HT1.out h3]
      clear HT HT1 h3
      go_enter Try.func55, Try.ntmps55
      go_wp2_with fail
      generalize (w.alloc (.cells #[.int .i64 o, .int .i64 t, .slice (some ⟨b, off, none⟩) m c] 28)) = W at *
      go_quiet (fail)
      go_wp2_with fail
      go_ret
      exact ⟨rfl, below_drewN' HB.out _⟩
    · have d2 : decide (y ≤ t) = false := by simpa using h3
      rw [HT.out (fun a => h3 a.2)]
      clear HT HT1 h3
      by_cases h4 : x ≤ t
      · have d3 : decide (x ≤ t) = true := by simpa using h4
        rw [d3]
        clear h4
        generalize farF l = z at *
        go_enter Try.func55, Try.ntmps55
        go_wp2_with fail
        generalize (w.alloc (.cells #[.int .i64 o, .int .i64 t, .slice (some ⟨b, off, none⟩) m c] 28)) = W at *
        go_quiet (fail)
        go_wp2_with fail
        go_quiet (first | (go_at_call 45; exact (HF.out _).mono (fun _ _ hh => ⟨hh.1, _, hh.2⟩)) | (go_at_call 45; exact Calls.quiet_of_same (HF.out _)))
        go_wp2_with fail
        go_ret
        exact ⟨by first | rfl | simp, by first | exact below_drewN' HB.out _ | exact below_drewN' (below_drewN' HB.out _) _⟩
      · have d3 : decide (x ≤ t) = false := by simpa using h4
        rw [d3]
        clear h4
        generalize farF l = z at *
        go_enter Try.func55, Try.ntmps55
        go_wp2_with fail
        generalize (w.alloc (.cells #[.int .i64 o, .int .i64 t, .slice (some ⟨b, off, none⟩) m c] 28)) = W at *
        go_quiet (fail)
        go_wp2_with fail
        go_quiet (fail)
        go_wp2_with fail
        go_ret
        exact ⟨by first | rfl | simp, by first | exact below_drewN' HB.out _ | exact below_drewN' (below_drewN' HB.out _) _⟩
  · have d1 : decide ((1 : Int) < (m : Int)) = false := by simp; omega
    rw [HT.out (fun a => h1 a.1)]
    clear HT h h2 hc hs hb hl
    generalize (ptAt l 0).first = x at *
    by_cases h4 : x ≤ t
    · have d3 : decide (x ≤ t) = true := by simpa using h4
      rw [d3]
      clear h4
      generalize farF l = z at *
      go_enter Try.func55, Try.ntmps55
      go_wp2_with fail
      generalize (w.alloc (.cells #[.int .i64 o, .int .i64 t, .slice (some ⟨b, off, none⟩) m c] 28)) = W at *
      go_quiet (fail)
      go_wp2_with fail
      go_quiet (first | (go_at_call 45; exact (HF.out _).mono (fun _ _ hh => ⟨hh.1, _, hh.2⟩)) | (go_at_call 45; exact Calls.quiet_of_same (HF.out _)))
      go_wp2_with fail
      go_ret
      exact ⟨by first | rfl | simp, by first | exact below_drewN' HB.out _ | exact below_drewN' (below_drewN' HB.out _) _⟩
    · have d3 : decide (x ≤ t) = false := by simpa using h4
      rw [d3]
      clear h4
      generalize farF l = z at *
      go_enter Try.func55, Try.ntmps55
      go_wp2_with fail
      generalize (w.alloc (.cells #[.int .i64 o, .int .i64 t, .slice (some ⟨b, off, none⟩) m c] 28)) = W at *
      go_quiet (fail)
      go_wp2_with fail
      go_quiet (fail)
      go_wp2_with fail
      go_ret
      exact ⟨by first | rfl | simp, by first | exact below_drewN' HB.out _ | exact below_drewN' (below_drewN' HB.out _) _⟩
end Go.Proofs.Ythadagpfmacemaa
