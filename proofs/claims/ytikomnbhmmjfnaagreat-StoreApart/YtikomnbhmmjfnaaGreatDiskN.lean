/- Slices of bytes in memory: where they lie, what owns them, what is appended to them, what they are as texts. No function of the program is named here. -/
import Derived.Test.YtikomnbhmmjfnaaGreatChecked
import Derived.WalkKit
import Derived.WalkSpells
import Derived.WalkLawsBesides
import Derived.Laws.BitsAllLaws
import Derived.Laws.AppendOwnNone
import Derived.Laws.BytesArg
import Derived.Deep.AppendLies
import Derived.BigQuiet
import Derived.Deep.QuietTactic
import Derived.Deep.RegionHeld3
namespace Go.Proofs.YtikomnbhmmjfnaaGreat
open Go.RowKit

theorem ret_int {k : IntKind} {a b : Int} (h : a = b) : Ending.returned (.int k a) = .returned (.int k b) := by rw [h]
theorem val_int {k : IntKind} {a b : Int} (h : a = b) : Value.int k a = .int k b := by rw [h]
/-- In w the bytes l lie from the address ad on. -/
def Row (w : World) (ad : Option Addr) (l : List Nat) : Prop :=
  (∀ x ∈ l, x < 256) ∧ (l = [] ∨ ∃ b off, ad = some ⟨b, off, none⟩ ∧ b < w.heap.size ∧ ∀ i, i < l.length → w.cell? ⟨b, off + i, none⟩ = some (.int .u8 (l.getD i 0 : Nat)))
theorem Row.later {w w' : World} {ad : Option Addr} {l : List Nat} (h : Row w ad l) (hb : Below w.heap.size w w') : Row w' ad l := by
  refine ⟨h.1, ?_⟩
  rcases h.2 with h | ⟨b, off, e, hs, hc⟩
  · exact Or.inl h
  · exact Or.inr ⟨b, off, e, Nat.lt_of_lt_of_le hs hb.size, fun i hi => by rw [hb.cell (p := ⟨b, off + i, none⟩) hs]; exact hc i hi⟩
theorem getD_lt {l : List Nat} (h : ∀ x ∈ l, x < 256) (k : Nat) : l.getD k 0 < 256 := by
  rw [List.getD_eq_getElem?_getD]
  by_cases hk : k < l.length
  · rw [List.getElem?_eq_getElem hk]; exact h _ (List.getElem_mem hk)
  · rw [List.getElem?_eq_none (by omega)]; simp
theorem take_snoc (l : List Nat) (k : Nat) (h : k < l.length) : l.take (k + 1) = l.take k ++ [l.getD k 0] := by
  rw [List.take_succ_eq_append_getElem h, List.getD_eq_getElem?_getD, List.getElem?_eq_getElem h]; rfl
theorem take_mem {l : List Nat} (h : ∀ x ∈ l, x < 256) (k : Nat) : ∀ x ∈ l.take k, x < 256 := fun x hx => h x (List.mem_of_mem_take hx)
/-- A byte as a value. -/
def bv (x : Nat) : Value := .int .u8 (x : Int)
theorem Tryz.info5 : (Tryz.prog.info? 5).map (fun i => (i.zero, i.size, i.bytes)) = some (some (.int .u8 0), 1, 1) := by kernel_rfl
/-- In w the value v is a slice of the bytes l, in blocks from base on that the call made. -/
def Own (w : World) (base : Nat) (v : Value) (l : List Nat) : Prop := (∀ x ∈ l, x < 256) ∧ w.ownsRow base 5 1 v l.length (l.map bv)
/-- A slice of bytes as a part: where it lies, its length, its room, its bytes. -/
structure Part where
  ad : Option Addr
  len : Nat
  cap : Nat
  l : List Nat
/-- In w the part's value is a slice of just its bytes. -/
def Part.ok (w : World) (p : Part) : Prop := p.l.length = p.len ∧ (p.ad = none → p.len = 0 ∧ p.cap = 0) ∧ Row w p.ad p.l
theorem Part.ok.later {w w' : World} {p : Part} (h : p.ok w) (hb : Below w.heap.size w w') : p.ok w' := ⟨h.1, h.2.1, h.2.2.later hb⟩
theorem addr_add (b off j : Nat) : (⟨b, off, none⟩ : Addr).add j = ⟨b, off + j, none⟩ := by
  by_cases h : j = 0
  · subst h; simp [Addr.add]
  · simp [Addr.add, h]
theorem row_cells {w : World} {ad : Option Addr} {l : List Nat} (h : Row w ad l) : ∀ a, ad = some a → ∀ j u, (l.map bv)[j]? = some u → w.cell? (a.add j) = some u := by
  intro a ha j u hu
  rw [List.getElem?_map] at hu
  rcases h.2 with h | ⟨b, off, e, _, hc⟩
  · subst h; simp at hu
  · rw [ha] at e
    cases e
    cases hj : l[j]? with
    | none => rw [hj] at hu; simp at hu
    | some x =>
      rw [hj] at hu
      have hl : j < l.length := (List.getElem?_eq_some_iff.1 hj).1
      have := hc j hl
      rw [List.getD_eq_getElem?_getD, hj] at this
      simp at hu
      subst hu
      rw [addr_add]
      exact this
theorem bv_one (l : List Nat) : ∀ u ∈ l.map bv, u.oneCell' = true := by
  intro u hu
  rw [List.mem_map] at hu
  obtain ⟨x, _, rfl⟩ := hu
  rfl
/-- The text of some bytes. -/
def bstr (l : List Nat) : ByteArray := strOfNums (l.map Int.ofNat)
theorem Own.form {w : World} {base : Nat} {v : Value} {l : List Nat} (h : Own w base v l) :
    ∃ ad cap, v = .slice ad l.length cap ∧ (ad = none → l.length = 0 ∧ cap = 0) ∧ l.length ≤ cap ∧ cap ≤ maxLen ∧ Row w ad l := by
  rcases h.2.2 with ⟨hv, h0⟩ | ⟨g, cap, cur, hv, hb, hg, hn, hm, hs, ht⟩
  · refine ⟨none, 0, by rw [hv, h0], fun _ => ⟨h0, rfl⟩, by omega, by unfold maxLen; omega, h.1, Or.inl (List.eq_nil_of_length_eq_zero h0)⟩
  · refine ⟨some ⟨g, 0, none⟩, cap, hv, fun e => (by cases e), hn, hm, h.1, Or.inr ⟨g, 0, rfl, ?_, ?_⟩⟩
    · rcases Nat.lt_or_ge g w.heap.size with hlt | hge
      · exact hlt
      · rw [Array.getElem?_eq_none hge] at hg; cases hg
    · intro i hi
      have h2 := h.2
      rw [hv] at h2
      have e := h2.cellAt i (by omega)
      rw [Nat.zero_add, e, List.getElem?_map, List.getElem?_eq_getElem hi, List.getD_eq_getElem?_getD, List.getElem?_eq_getElem hi]
      rfl
theorem Own.nil (w : World) (base : Nat) : Own w base (.slice none 0 0) [] := ⟨fun _ h => (by cases h), World.ownsRow_nil _ _ _ _⟩
theorem Own.later {w w' : World} {base : Nat} {v : Value} {l : List Nat} (h : Own w base v l) (hb : Below w.heap.size w w') : Own w' base v l := by
  refine ⟨h.1, h.2.1, ?_⟩
  rcases h.2.2 with h2 | ⟨g, cap, cur, hv, hgb, hg, r⟩
  · exact Or.inl h2
  · refine Or.inr ⟨g, cap, cur, hv, hgb, ?_, r⟩
    rw [hb.block g ?_]
    · exact hg
    · rcases Nat.lt_or_ge g w.heap.size with hlt | hge
      · exact hlt
      · rw [Array.getElem?_eq_none hge] at hg; cases hg
theorem Own.down {w : World} {base base' : Nat} {v : Value} {l : List Nat} (h : Own w base v l) (hb : base' ≤ base) : Own w base' v l := by
  refine ⟨h.1, h.2.1, ?_⟩
  rcases h.2.2 with h2 | ⟨g, cap, cur, hv, hgb, r⟩
  · exact Or.inl h2
  · exact Or.inr ⟨g, cap, cur, hv, Nat.le_trans hb hgb, r⟩
theorem Own.slice {w : World} {base : Nat} {v : Value} {l : List Nat} (h : Own w base v l) (n : Nat) (hn : l.length = n) :
    ∃ ad cap, v = .slice ad n cap ∧ Part.ok w ⟨ad, n, cap, l⟩ ∧ n ≤ cap ∧ cap ≤ maxLen := by
  subst hn
  obtain ⟨ad, cap, hv, h1, h2, h3, h4⟩ := h.form
  exact ⟨ad, cap, hv, ⟨rfl, h1, h4⟩, h2, h3⟩
theorem Own.slice_n {w : World} {base n : Nat} {v : Value} {l : List Nat} (h : (∀ x ∈ l, x < 256) ∧ w.ownsRow base 5 1 v l.length (l.map bv)) (hn : l.length = n) :
    ∃ ad cap, v = .slice ad n cap ∧ Part.ok w ⟨ad, n, cap, l⟩ ∧ n ≤ cap ∧ cap ≤ maxLen := Own.slice h n hn
theorem Part.ok.cells {w : World} {ad : Option Addr} {n cap : Nat} {l : List Nat} (h : Part.ok w ⟨ad, n, cap, l⟩) (hn : 0 < n) :
    ∃ b off, ad = some ⟨b, off, none⟩ ∧ b < w.heap.size ∧ ∀ i, i < n → w.cell? ⟨b, off + i, none⟩ = some (.int .u8 (l.getD i 0 : Nat)) := by
  have hl : l.length = n := h.1
  obtain ⟨b, off, e, hb, hc⟩ := h.2.2.2.resolve_left (fun e => by have e2 : l = [] := e; rw [e2] at hl; simp at hl; omega)
  exact ⟨b, off, e, hb, fun i hi => hc i (by show i < l.length; omega)⟩
/-- 'append(v, x...)', v of the call's own, x whatever slice of bytes. -/
theorem app_any {w : World} {ops : Array Oper} {rest : List Oper} {o : Oper} {a : Act} {Q : Exit → Act → World → Prop} (hgd : o.guard = none) (s x : Operand)
    (ho : o.op = .call { callee := .builtin .append, args := #[s, x], argTypes := #[28, 28] })
    (base : Nat) (v : Value) (n : Nat) (L : List Nat) (hs : a.eval s = v) (hown : w.ownsRow base 5 1 v n (L.map bv))
    (ad : Option Addr) (m c : Nat) (l : List Nat) (hx : a.eval x = .slice ad m c) (hl : l.length = m) (hnone : ad = none → m = 0 ∧ c = 0) (hrow : Row w ad l)
    (hbytes : n + m ≤ 140737488355328) (hbase : base ≤ w.heap.size)
    (h : ∀ v' w', w'.ownsRow base 5 1 v' (n + m) ((L ++ l).map bv) → w.grownBy w' v.ownBlock → wpList Tryz.prog ops Q rest (a.put o.dst v') w') : wpList Tryz.prog ops Q (o :: rest) a w := by
  obtain ⟨i0, hi, hz0, hz1, hz2⟩ := info_parts Tryz.info5
  cases ad with
  | none =>
    obtain ⟨rfl, rfl⟩ := hnone rfl
    obtain rfl : l = [] := List.eq_nil_of_length_eq_zero hl
    refine wpList_append_own_none hgd s x 28 ho base 5 i0 1 Tryz.underlying28 hi v n _ hs hown hx ?_
    exact h v w (by simpa using hown) (World.grownBy.refl _ _)
  | some ad =>
    refine wpList_append_own w hgd s x 28 ho base 5 i0 (.int .u8 0) 1 1 Tryz.underlying28 hi hz0 hz1 hz2 rfl (by decide) v n _ hs hown ad m c (l.map bv) hx (by simp [hl]) (row_cells hrow ad rfl) (bv_one l) (by unfold maxLen; omega) (by omega) hbase ?_
    intro v' w' h1 h2 _
    rw [← List.map_append] at h1
    exact h v' w' h1 h2
/-- Bytes as a text. -/
theorem conv_any {w : World} {ad : Option Addr} {l : List Nat} (hrow : Row w ad l) (len cap : Nat) (hlen : l.length = len) :
    (convert 28 9 (.slice ad len cap)).run Tryz.prog w = .ok (.string (bstr l)) w := by
  rcases hrow.2 with rfl | ⟨b, off, rfl, _, hc⟩
  · obtain rfl : len = 0 := by simpa using hlen.symm
    rw [run_convert_bytes_string w 28 9 5 _ 0 cap Tryz.underlying28 Tryz.underlying5 Tryz.underlying9]
    cases ad with
    | none => simp [Conv.bytesToString, bstr, strOfNums]; rfl
    | some a =>
      rw [run_bytesToString w a 0 cap [] (by rfl)]
      rfl
  · refine run_convert_bytes_arg w 28 5 Tryz.underlying28 Tryz.underlying5 b off len cap _ (by simpa using hlen) ?_ 9 Tryz.underlying9
    intro i hi
    rw [hc i (by omega), List.getD_eq_getElem?_getD, List.getD_eq_getElem?_getD, List.getElem?_map, List.getElem?_eq_getElem (by omega)]
    rfl
theorem Part.of_own {w : World} {base : Nat} {v : Value} {l : List Nat} (h : Own w base v l) : ∃ p : Part, v = .slice p.ad p.len p.cap ∧ p.l = l ∧ p.ok w := by
  obtain ⟨ad, cap, hv, hn, _, _, hr⟩ := h.form
  exact ⟨⟨ad, l.length, cap, l⟩, hv, rfl, rfl, hn, hr⟩
/-- The first bytes of what is owned. -/
theorem Own.cut {w : World} {base : Nat} {g n m cap : Nat} {l l2 : List Nat} (h : Own w base (.slice (some ⟨g, 0, none⟩) m cap) (l ++ l2)) (hn : l.length = n) (hm : (l ++ l2).length = m) : Part.ok w ⟨some ⟨g, 0, none⟩, n, cap, l⟩ := by
  obtain ⟨ad, c, e, hp, -, -⟩ := h.slice m hm
  cases e
  refine ⟨hn, fun e => (by cases e), fun x hx => h.1 x (by simp [hx]), ?_⟩
  by_cases h0 : l = []
  · exact Or.inl h0
  · right
    have hl : 0 < l.length := List.length_pos_iff.2 h0
    obtain ⟨b, off, e, hb, hc⟩ := hp.cells (by simp at hm; omega)
    refine ⟨b, off, e, hb, fun i hi => ?_⟩
    have hi' : i < l.length := hi
    rw [hc i (by simp at hm; omega), List.getD_eq_getElem?_getD, List.getD_eq_getElem?_getD, List.getElem?_append_left hi']
theorem empty_own (w : World) (base : Nat) (hb : base ≤ w.heap.size) : (w.alloc (.cells #[] 5)).ownsRow base 5 1 (.slice (some ⟨w.heap.size, 0, none⟩) 0 0) 0 (([] : List Nat).map bv) :=
  World.ownsRow_lit w #[] 0 hb (by unfold maxLen; omega) rfl
theorem own_room {w : World} {base e size g n cap : Nat} {xs : List Value} (h : w.ownsRow base e size (.slice (some ⟨g, 0, none⟩) n cap) n xs) : n ≤ cap ∧ cap ≤ maxLen := by
  rcases h.2 with ⟨e, _⟩ | ⟨g', c', cur, e, _, _, h1, h2, _⟩
  · cases e
  · cases e; exact ⟨h1, h2⟩
theorem drop_take_snoc (l : List Nat) (p k : Nat) (h : p + k < l.length) : (l.drop p).take (k + 1) = (l.drop p).take k ++ [l.getD (p + k) 0] := by
  rw [take_snoc (l.drop p) k (by simp; omega)]
  simp [List.getD_eq_getElem?_getD]
theorem drop_take_lt {l : List Nat} (h : ∀ x ∈ l, x < 256) (p k : Nat) : ∀ x ∈ (l.drop p).take k, x < 256 := fun x hx => h x (List.mem_of_mem_drop (List.mem_of_mem_take hx))
theorem drop_take_length (l : List Nat) (p k : Nat) (h : p + k ≤ l.length) : ((l.drop p).take k).length = k := by simp; omega
/-- What 'x[p : p+n]' is. -/
def cutP (P : Part) (p n : Nat) : Part := if P.cap = p then ⟨P.ad, n, 0, (P.l.drop p).take n⟩ else ⟨P.ad.map (fun x => x.add p), n, P.cap - p, (P.l.drop p).take n⟩
theorem cutP_l (P : Part) (p n : Nat) : (cutP P p n).l = (P.l.drop p).take n := by unfold cutP; split <;> rfl
theorem cutP_len (P : Part) (p n : Nat) : (cutP P p n).len = n := by unfold cutP; split <;> rfl
theorem cutP_cap (P : Part) (p n : Nat) : (cutP P p n).cap = P.cap - p := by
  unfold cutP; split
  · show 0 = _; omega
  · rfl
theorem cutP_ok {w : World} {P : Part} (h : P.ok w) (p n : Nat) (hn : p + n ≤ P.len) (hc : P.len ≤ P.cap) : (cutP P p n).ok w := by
  obtain ⟨ad, len, cap, l⟩ := P
  obtain ⟨h1, h2, h3, h4⟩ := h
  simp only at h1 h2 h3 h4 hn hc
  unfold cutP
  simp only
  by_cases e : cap = p
  · rw [if_pos e]
    have hn0 : n = 0 := by omega
    subst hn0
    exact ⟨by simp, fun _ => ⟨rfl, rfl⟩, by simp, Or.inl (by simp)⟩
  · rw [if_neg e]
    refine ⟨by simp; omega, ?_, drop_take_lt h3 p n, ?_⟩
    · intro hz
      cases ad with
      | none => have := h2 rfl; simp only; omega
      | some a => simp at hz
    · by_cases hn0 : n = 0
      · subst hn0; exact Or.inl (by simp)
      · right
        rcases h4 with h4 | ⟨b, off, rfl, hb, hcell⟩
        · subst h4; simp at h1; omega
        · refine ⟨b, off + p, by simp [addr_add], hb, ?_⟩
          intro i hi
          simp only [List.length_take, List.length_drop] at hi
          have e2 := hcell (p + i) (by omega)
          rw [Nat.add_assoc, e2]
          congr 3
          rw [List.getD_eq_getElem?_getD, List.getD_eq_getElem?_getD, List.getElem?_take, if_pos (by omega), List.getElem?_drop]
theorem below_drewN' {B : Nat} {w0 w : World} (h : Below B w0 w) (m : Nat) : Below B w0 (w.drewN m) := by
  induction m with
  | zero => exact h
  | succ m ih => exact ih.drew
theorem conv_drewN {w : World} {ad : Option Addr} {l : List Nat} (hrow : Row w ad l) (len cap : Nat) (hlen : l.length = len) :
    ∀ nq, (convert 28 9 (.slice ad len cap)).run Tryz.prog (w.drewN nq) = .ok (.string (bstr l)) (w.drewN nq) := fun nq => conv_any (hrow.later (below_drewN' (Below.refl _ _) nq)) len cap hlen
/-- 'append(v, x...)' as one step of a region that draws its order. -/
theorem step_app_any {w : World} {ops : Array Oper} {o : Oper} {a : Act} {K : Act → World → Prop} {Q : Exit → Act → World → Prop} {E : Prop} (hgd : o.guard = none) (s x : Operand)
    (ho : o.op = .call { callee := .builtin .append, args := #[s, x], argTypes := #[28, 28] })
    (base : Nat) (v : Value) (n : Nat) (L : List Nat) (hs : a.eval s = v) (hown : w.ownsRow base 5 1 v n (L.map bv))
    (ad : Option Addr) (m c : Nat) (l : List Nat) (hx : a.eval x = .slice ad m c) (hl : l.length = m) (hnone : ad = none → m = 0 ∧ c = 0) (hrow : Row w ad l)
    (hbytes : n + m ≤ 140737488355328) (hbase : base ≤ w.heap.size)
    (h : ∀ v' w', w'.ownsRow base 5 1 v' (n + m) ((L ++ l).map bv) → w.grownBy w' v.ownBlock → K (a.put o.dst v') w') :
    if Region.wanted o (yielded ops a.tmps) = true then Oper.wp Tryz.prog o a w K Q else E := by
  have hw : Region.wanted o (yielded ops a.tmps) = true := by simp [Region.wanted, hgd]
  rw [if_pos hw]
  obtain ⟨i0, hi, hz0, hz1, hz2⟩ := info_parts Tryz.info5
  cases ad with
  | none =>
    obtain ⟨rfl, rfl⟩ := hnone rfl
    obtain rfl : l = [] := List.eq_nil_of_length_eq_zero hl
    have hrun := run_append_owned_none (P := Tryz.prog) (w := w) base 28 o.type 5 i0 1 Tryz.underlying28 hi v n _ hown
    unfold Oper.wp
    simp [execOp, ho, resolve, invoke, builtin, hs, hx, hrun, Result.andThen]
    exact h v w (by simpa using hown) (World.grownBy.refl _ _)
  | some ad =>
    refine wp_append_own w s x 28 ho base 5 i0 (.int .u8 0) 1 1 Tryz.underlying28 hi hz0 hz1 hz2 rfl (by decide) v n _ hs hown ad m c (l.map bv) hx (by simp [hl]) (row_cells hrow ad rfl) (bv_one l) (by unfold maxLen; omega) (by omega) hbase ?_
    intro v' w' h1 h2 _
    rw [← List.map_append] at h1
    exact h v' w' h1 h2
theorem results_tmp4 {fn : Func} {t u v x : Tmp} (h : fn.results = #[.tmp t, .tmp u, .tmp v, .tmp x]) (tmps : Array Value) (P : Program) (w : World) :
    (results fn tmps).run P w = .ok (.tuple #[tmps.getD t undef, tmps.getD u undef, tmps.getD v undef, tmps.getD x undef]) w := by
  simp [results, h]
theorem own_kept {w w' : World} {base e size n : Nat} {v : Value} {xs : List Value} (h : w.ownsRow base e size v n xs) (hb : Below w.heap.size w w') : w'.ownsRow base e size v n xs := by
  refine ⟨h.1, ?_⟩
  rcases h.2 with h2 | ⟨g, cap, cur, hv, hgb, hg, r⟩
  · exact Or.inl h2
  · refine Or.inr ⟨g, cap, cur, hv, hgb, ?_, r⟩
    rw [hb.block g ?_]
    · exact hg
    · rcases Nat.lt_or_ge g w.heap.size with hlt | hge
      · exact hlt
      · rw [Array.getElem?_eq_none hge] at hg; cases hg
end Go.Proofs.YtikomnbhmmjfnaaGreat

/- What a call leaves as it was: all but the blocks of a list. -/
namespace Go.Proofs.YtikomnbhmmjfnaaGreat
open Go.RowKit

/-- Behind w' all that was there in w is as it was, but the blocks F. -/
structure Chg (F : List Nat) (w w' : World) : Prop where
  os : w'.os = w.os
  tape : w'.tape = w.tape
  output : w'.output = w.output
  size : w.heap.size ≤ w'.heap.size
  block : ∀ k, k < w.heap.size → k ∉ F → w'.heap[k]? = w.heap[k]?
variable {w w' w'' : World} {F G : List Nat}
theorem Chg.refl (F : List Nat) (w : World) : Chg F w w := ⟨rfl, rfl, rfl, Nat.le_refl _, fun _ _ _ => rfl⟩
theorem Chg.of (h : Below w.heap.size w w') : Chg F w w' := ⟨h.os, h.tape, h.output, h.size, fun k hk _ => h.block k hk⟩
theorem Chg.mono (h : Chg F w w') (hs : ∀ k ∈ F, k ∈ G) : Chg G w w' := ⟨h.os, h.tape, h.output, h.size, fun k hk hn => h.block k hk (fun hm => hn (hs k hm))⟩
/-- One behind the other: what the second may change was in F, or is new. -/
theorem Chg.trans (h : Chg F w w') (h' : Chg G w' w'') (hs : ∀ k ∈ G, k ∈ F ∨ w.heap.size ≤ k) : Chg F w w'' :=
  ⟨h'.os.trans h.os, h'.tape.trans h.tape, h'.output.trans h.output, Nat.le_trans h.size h'.size, fun k hk hn => (h'.block k (Nat.lt_of_lt_of_le hk h.size) (fun hm => (hs k hm).elim hn (by omega))).trans (h.block k hk hn)⟩
theorem Chg.below (h : Chg F w w') {N : Nat} (hk : ∀ k ∈ F, N ≤ k) (hN : N ≤ w.heap.size) : Below N w w' :=
  ⟨h.os, h.tape, h.output, h.size, fun k h1 => h.block k (Nat.lt_of_lt_of_le h1 hN) (fun hm => absurd (hk k hm) (by omega))⟩
theorem Chg.set (h : Chg F w w') {g : Nat} (hg : g ∈ F ∨ w.heap.size ≤ g) (i : Nat) (u : Value) : Chg F w (w'.setCell ⟨g, i, none⟩ u) :=
  ⟨h.os, h.tape, h.output, by simpa [World.setCell] using h.size, fun k hk hn => (Below.heap_setCell _ _ _ _ (fun e => by rcases hg with hg | hg; exact hn (by rw [e]; exact hg); simp only at e; omega)).trans (h.block k hk hn)⟩
theorem Chg.drew (h : Chg F w w') : Chg F w w'.drew := ⟨h.os, h.tape, h.output, h.size, h.block⟩
theorem Chg.cell (h : Chg F w w') {g i : Nat} (hg : g < w.heap.size) (hn : g ∉ F) : w'.cell? ⟨g, i, none⟩ = w.cell? ⟨g, i, none⟩ := by
  have h1 := h.block g hg hn
  simp only [World.cell?, h1]
theorem Row.chg {ad : Option Addr} {l : List Nat} (h : Row w ad l) (hb : Chg F w w') (hn : ∀ b off, ad = some ⟨b, off, none⟩ → l ≠ [] → b ∉ F) : Row w' ad l := by
  refine ⟨h.1, ?_⟩
  rcases h.2 with h | ⟨b, off, e, hs, hc⟩
  · exact Or.inl h
  · by_cases h0 : l = []
    · exact Or.inl h0
    · exact Or.inr ⟨b, off, e, Nat.lt_of_lt_of_le hs hb.size, fun i hi => by rw [hb.cell hs (hn b off e h0)]; exact hc i hi⟩
theorem Part.ok.chg {p : Part} (h : p.ok w) (hb : Chg F w w') (hn : ∀ b off, p.ad = some ⟨b, off, none⟩ → p.l ≠ [] → b ∉ F) : p.ok w' := ⟨h.1, h.2.1, h.2.2.chg hb hn⟩
theorem Own.chg {N : Nat} {v : Value} {l : List Nat} (h : Own w N v l) (hb : Chg F w w') (hn : ∀ g, v.ownBlock = some g → g ∉ F) : Own w' N v l := by
  refine ⟨h.1, h.2.1, ?_⟩
  rcases h.2.2 with h2 | ⟨g, cap, cur, hv, hgb, hg, r⟩
  · exact Or.inl h2
  · refine Or.inr ⟨g, cap, cur, hv, hgb, ?_, r⟩
    have hlt : g < w.heap.size := by
      rcases Nat.lt_or_ge g w.heap.size with hlt | hge
      · exact hlt
      · rw [Array.getElem?_eq_none hge] at hg; cases hg
    rw [hb.block g hlt (hn g (by rw [hv]; rfl))]
    exact hg
/-- A block of cells. -/
def Blk (w : World) (B : Nat) (cs : Array Value) (T : TypeId) : Prop := w.heap[B]? = some (.cells cs T (0, 0))
theorem Blk.lt {B : Nat} {cs : Array Value} {T : TypeId} (h : Blk w B cs T) : B < w.heap.size := by
  rcases Nat.lt_or_ge B w.heap.size with hlt | hge
  · exact hlt
  · unfold Blk at h; rw [Array.getElem?_eq_none hge] at h; cases h
theorem Blk.chg {B : Nat} {cs : Array Value} {T : TypeId} (h : Blk w B cs T) (hb : Chg F w w') (hn : B ∉ F) : Blk w' B cs T := (hb.block B h.lt hn).trans h
theorem Blk.later {B : Nat} {cs : Array Value} {T : TypeId} (h : Blk w B cs T) (hb : Below w.heap.size w w') : Blk w' B cs T := (hb.block B h.lt).trans h
theorem Blk.cell {B : Nat} {cs : Array Value} {T : TypeId} (h : Blk w B cs T) (i : Nat) : w.cell? ⟨B, i, none⟩ = cs[i]? := cell_of_row w B i _ _ _ h
theorem Blk.free {B : Nat} {cs : Array Value} {T : TypeId} (h : Blk w B cs T) (i : Nat) : w.frozen? ⟨B, i, none⟩ = false := by
  unfold Blk at h; simp [World.frozen?, h]
theorem Blk.set {B : Nat} {cs : Array Value} {T : TypeId} (h : Blk w B cs T) (i : Nat) (v : Value) : Blk (w.setCell ⟨B, i, none⟩ v) B (cs.setIfInBounds i v) T := by
  unfold Blk at *
  rw [setCell_eq_setRow w B i cs T (0, 0) v h]
  exact setRow_heap w B _ _ T _ h
theorem Blk.other {B C : Nat} {cs : Array Value} {T : TypeId} (h : Blk w B cs T) (hne : B ≠ C) (i : Nat) (v : Value) : Blk (w.setCell ⟨C, i, none⟩ v) B cs T := by
  unfold Blk at *
  rw [Below.heap_setCell _ _ _ _ (by exact hne)]
  exact h
end Go.Proofs.YtikomnbhmmjfnaaGreat

/- Chapter 3 as functions over plain lists: a disk's blocks, its power, its fuse (P302 to P305), and what follows of them (P306 to P308). -/
namespace Go.Proofs.YtikomnbhmmjfnaaGreat
open Go.RowKit

/-- A block: its durable text (none: unreadable), its versions. -/
structure DBlock where
  dur : Option (List Nat)
  vs : List (List Nat)
/-- A disk: its blocks, whether the power is gone, its fuse (below 0: none). -/
structure DSt where
  bs : List DBlock
  off : Bool
  fuse : Int
def zeros : List Nat := List.replicate 256 0
def fullN (c : Nat) : List Nat := List.replicate 256 c
def b0 : DBlock := ⟨some zeros, []⟩
def newD (n : Nat) : DSt := ⟨List.replicate n b0, false, -1⟩
/-- May an operation be done, and the disk behind it. -/
def opD (s : DSt) : Bool × DSt :=
  if s.off then (false, s)
  else if s.fuse = 0 then (false, ⟨s.bs, true, -1⟩)
  else if 0 < s.fuse then (true, ⟨s.bs, false, s.fuse - 1⟩)
  else (true, s)
def DBlock.add (x : DBlock) (b : List Nat) : DBlock := ⟨x.dur, x.vs ++ [b]⟩
def DSt.setB (s : DSt) (i : Nat) (x : DBlock) : DSt := ⟨s.bs.set i x, s.off, s.fuse⟩
def DSt.at (s : DSt) (i : Nat) : DBlock := s.bs.getD i b0
def DSt.has (s : DSt) (i : Int) : Bool := decide (0 ≤ i) && decide (i < s.bs.length)
/-- P303, Write. -/
def writeD (s : DSt) (i : Int) (b : List Nat) : Int × DSt :=
  if s.has i && b.length == 256 then
    (if (opD s).1 then (0, (opD s).2.setB i.toNat (((opD s).2.at i.toNat).add b)) else (8, (opD s).2))
  else (1, s)
def DBlock.sync (x : DBlock) : DBlock := if x.vs = [] then x else ⟨x.vs.getLast?, []⟩
/-- P303, Sync. -/
def syncD (s : DSt) : Int × DSt :=
  if (opD s).1 then (0, ⟨(opD s).2.bs.map DBlock.sync, (opD s).2.off, (opD s).2.fuse⟩) else (8, (opD s).2)
/-- P303, Cut. -/
def cutD (s : DSt) (n : Int) : DSt := if s.off then s else ⟨s.bs, false, if n < 0 then -1 else n⟩
/-- The present text. -/
def DBlock.now (x : DBlock) : Option (List Nat) := if x.vs = [] then x.dur else x.vs.getLast?
/-- P304, Read. -/
def readD (s : DSt) (i : Int) : List Nat × Int :=
  if s.has i then
    (if s.off then ([], 8) else match (s.at i.toNat).now with
      | some t => (t, 0)
      | none => ([], 22))
  else ([], 1)
def dirtyBs : List DBlock → Nat
  | [] => 0
  | x :: xs => (if x.vs = [] then 0 else 1) + dirtyBs xs
def dirtyD (s : DSt) : Nat := dirtyBs s.bs
def DBlock.crash (x : DBlock) (c : Int) : DBlock :=
  if c = 0 then ⟨x.dur, []⟩ else if 0 < c ∧ c ≤ x.vs.length then ⟨some (x.vs.getD (c.toNat - 1) []), []⟩ else ⟨none, []⟩
def crashBs : List DBlock → List Int → List DBlock
  | [], _ => []
  | x :: xs, cs => if x.vs = [] then x :: crashBs xs cs else x.crash (cs.headD 0) :: crashBs xs cs.tail
/-- P305. -/
def crashD (s : DSt) (cs : List Int) : DSt := ⟨crashBs s.bs cs, false, -1⟩
/-- Texts are of 256 bytes; a fuse is -1 or more; no power: no fuse. -/
structure DSt.ok (s : DSt) : Prop where
  dur : ∀ x ∈ s.bs, ∀ t, x.dur = some t → t.length = 256 ∧ ∀ y ∈ t, y < 256
  vs : ∀ x ∈ s.bs, ∀ t ∈ x.vs, t.length = 256 ∧ ∀ y ∈ t, y < 256
  fuse : -1 ≤ s.fuse
theorem zeros_ok : zeros.length = 256 ∧ ∀ y ∈ zeros, y < 256 := ⟨List.length_replicate, fun y hy => by rw [zeros, List.mem_replicate] at hy; omega⟩
theorem fullN_ok (c : Nat) (h : c < 256) : (fullN c).length = 256 ∧ ∀ y ∈ fullN c, y < 256 := ⟨List.length_replicate, fun y hy => by rw [fullN, List.mem_replicate] at hy; omega⟩
theorem newD_ok (n : Nat) : (newD n).ok := by
  refine ⟨?_, ?_, by simp [newD]⟩
  · intro x hx t ht
    rw [newD, List.mem_replicate] at hx
    rw [hx.2] at ht
    cases ht
    exact zeros_ok
  · intro x hx t ht
    rw [newD, List.mem_replicate] at hx
    rw [hx.2] at ht
    cases ht
theorem opD_bs (s : DSt) : (opD s).2.bs = s.bs := by
  unfold opD
  split
  · rfl
  · split
    · rfl
    · split <;> rfl
theorem opD_ok {s : DSt} (h : s.ok) : (opD s).2.ok := by
  refine ⟨by rw [opD_bs]; exact h.1, by rw [opD_bs]; exact h.2, ?_⟩
  have := h.fuse
  unfold opD
  split
  · exact h.fuse
  · split
    · simp
    · split
      · simp; omega
      · exact h.fuse
theorem mem_set {α : Type} {l : List α} {i : Nat} {a x : α} (h : x ∈ l.set i a) : x = a ∨ x ∈ l := by
  rcases List.mem_or_eq_of_mem_set h with h | h
  · exact Or.inr h
  · exact Or.inl h
theorem at_mem {s : DSt} {i : Nat} (h : i < s.bs.length) : s.at i ∈ s.bs := by
  rw [DSt.at, List.getD_eq_getElem?_getD, List.getElem?_eq_getElem h]; exact List.getElem_mem h
theorem has_lt {s : DSt} {i : Int} (h : s.has i = true) : 0 ≤ i ∧ i.toNat < s.bs.length := by
  simp only [DSt.has, Bool.and_eq_true, decide_eq_true_eq] at h; omega
theorem writeD_ok {s : DSt} (h : s.ok) (i : Int) (b : List Nat) (hb : ∀ y ∈ b, y < 256) : (writeD s i b).2.ok := by
  unfold writeD
  split
  · rename_i hc
    simp only [Bool.and_eq_true, beq_iff_eq] at hc
    have ho := opD_ok h
    split
    · have hl : i.toNat < (opD s).2.bs.length := by rw [opD_bs]; exact (has_lt hc.1).2
      refine ⟨?_, ?_, ho.fuse⟩
      · intro x hx t ht
        rcases mem_set hx with rfl | hx
        · exact ho.dur _ (at_mem hl) t ht
        · exact ho.dur x hx t ht
      · intro x hx t ht
        rcases mem_set hx with rfl | hx
        · rw [DBlock.add, List.mem_append] at ht
          rcases ht with ht | ht
          · exact ho.vs _ (at_mem hl) t ht
          · simp at ht; rw [ht]; exact ⟨hc.2, hb⟩
        · exact ho.vs x hx t ht
    · exact ho
  · exact h
theorem getLast_mem {l : List (List Nat)} {t : List Nat} (h : l.getLast? = some t) : t ∈ l := List.mem_of_getLast? h
theorem syncD_ok {s : DSt} (h : s.ok) : (syncD s).2.ok := by
  have ho := opD_ok h
  unfold syncD
  split
  · refine ⟨?_, ?_, ho.fuse⟩
    · intro x hx t ht
      obtain ⟨y, hy, rfl⟩ := List.mem_map.1 hx
      unfold DBlock.sync at ht
      split at ht
      · exact ho.dur y hy t ht
      · exact ho.vs y hy t (getLast_mem ht)
    · intro x hx t ht
      obtain ⟨y, hy, rfl⟩ := List.mem_map.1 hx
      unfold DBlock.sync at ht
      split at ht
      · rename_i h0; rw [h0] at ht; cases ht
      · cases ht
  · exact ho
theorem cutD_ok {s : DSt} (h : s.ok) (n : Int) : (cutD s n).ok := by
  unfold cutD
  split
  · exact h
  · exact ⟨h.1, h.2, by simp only; split <;> omega⟩
theorem crash_ok {x : DBlock} (c : Int) (h1 : ∀ t, x.dur = some t → t.length = 256 ∧ ∀ y ∈ t, y < 256) (h2 : ∀ t ∈ x.vs, t.length = 256 ∧ ∀ y ∈ t, y < 256) :
    (∀ t, (x.crash c).dur = some t → t.length = 256 ∧ ∀ y ∈ t, y < 256) ∧ (x.crash c).vs = [] := by
  unfold DBlock.crash
  split
  · exact ⟨h1, rfl⟩
  · split
    · rename_i hc
      refine ⟨fun t ht => ?_, rfl⟩
      cases ht
      rw [List.getD_eq_getElem?_getD, List.getElem?_eq_getElem (by omega)]
      exact h2 _ (List.getElem_mem _)
    · exact ⟨fun t ht => (by cases ht), rfl⟩
theorem crashBs_mem (bs : List DBlock) : ∀ (cs : List Int), ∀ x ∈ crashBs bs cs, x ∈ bs ∨ ∃ y ∈ bs, ∃ c, x = y.crash c := by
  induction bs with
  | nil => intro cs x hx; cases hx
  | cons b bs ih =>
    intro cs x hx
    rw [crashBs] at hx
    split at hx
    · rcases List.mem_cons.1 hx with rfl | hx
      · exact Or.inl (by simp)
      · rcases ih cs x hx with h | ⟨y, hy, c, hc⟩
        · exact Or.inl (by simp [h])
        · exact Or.inr ⟨y, by simp [hy], c, hc⟩
    · rcases List.mem_cons.1 hx with rfl | hx
      · exact Or.inr ⟨b, by simp, _, rfl⟩
      · rcases ih cs.tail x hx with h | ⟨y, hy, c, hc⟩
        · exact Or.inl (by simp [h])
        · exact Or.inr ⟨y, by simp [hy], c, hc⟩
theorem crashD_ok {s : DSt} (h : s.ok) (cs : List Int) : (crashD s cs).ok := by
  refine ⟨?_, ?_, by simp [crashD]⟩
  · intro x hx t ht
    rcases crashBs_mem _ _ x hx with h1 | ⟨y, hy, c, rfl⟩
    · exact h.dur x h1 t ht
    · exact (crash_ok c (h.dur y hy) (h.vs y hy)).1 t ht
  · intro x hx t ht
    rcases crashBs_mem _ _ x hx with h1 | ⟨y, hy, c, rfl⟩
    · exact h.vs x h1 t ht
    · rw [(crash_ok c (h.dur y hy) (h.vs y hy)).2] at ht; cases ht
theorem crashBs_length (bs : List DBlock) : ∀ cs : List Int, (crashBs bs cs).length = bs.length := by
  induction bs with
  | nil => intro cs; rfl
  | cons b bs ih =>
    intro cs
    rw [crashBs]
    split <;> simp [ih]
/-- P308: behind a Crash nothing is dirty. -/
theorem crashBs_clean (bs : List DBlock) : ∀ cs : List Int, ∀ x ∈ crashBs bs cs, x.vs = [] := by
  induction bs with
  | nil => intro cs x hx; cases hx
  | cons b bs ih =>
    intro cs x hx
    rw [crashBs] at hx
    split at hx
    · rename_i h0
      rcases List.mem_cons.1 hx with rfl | hx
      · exact h0
      · exact ih cs x hx
    · rcases List.mem_cons.1 hx with rfl | hx
      · unfold DBlock.crash; split
        · rfl
        · split <;> rfl
      · exact ih _ x hx
theorem crashBs_id (bs : List DBlock) (h : ∀ x ∈ bs, x.vs = []) : ∀ cs : List Int, crashBs bs cs = bs := by
  induction bs with
  | nil => intro cs; rfl
  | cons b bs ih =>
    intro cs
    rw [crashBs, if_pos (h b (by simp)), ih (fun x hx => h x (by simp [hx]))]
/-- P308: a second Crash changes nothing. -/
theorem crash_twice (s : DSt) (cs ds : List Int) : crashD (crashD s cs) ds = crashD s cs := by
  unfold crashD
  rw [crashBs_id _ (crashBs_clean _ _)]
theorem dirty_zero (bs : List DBlock) (h : ∀ x ∈ bs, x.vs = []) : dirtyBs bs = 0 := by
  induction bs with
  | nil => rfl
  | cons b bs ih => rw [dirtyBs, if_pos (h b (by simp)), ih (fun x hx => h x (by simp [hx]))]
theorem crash_dirty (s : DSt) (cs : List Int) : dirtyD (crashD s cs) = 0 := dirty_zero _ (crashBs_clean _ _)
/-- A block that is not dirty stays as it is. -/
theorem crashBs_at (bs : List DBlock) : ∀ (cs : List Int) (i : Nat), (bs.getD i b0).vs = [] → (crashBs bs cs).getD i b0 = bs.getD i b0 := by
  induction bs with
  | nil => intro cs i _; rfl
  | cons b bs ih =>
    intro cs i h
    rw [crashBs]
    cases i with
    | zero =>
      simp at h
      rw [if_pos h]; simp
    | succ i =>
      simp at h
      split
      · simpa using ih cs i (by simpa using h)
      · simpa using ih cs.tail i (by simpa using h)
theorem opD_has (s : DSt) (i : Int) : (opD s).2.has i = s.has i := by unfold DSt.has; rw [opD_bs]
theorem opD_at (s : DSt) (i : Nat) : (opD s).2.at i = s.at i := by unfold DSt.at; rw [opD_bs]
theorem writeD_length (s : DSt) (i : Int) (b : List Nat) : (writeD s i b).2.bs.length = s.bs.length := by
  unfold writeD
  split
  · split
    · simp [DSt.setB, opD_bs]
    · rw [opD_bs]
  · rfl
theorem syncD_length (s : DSt) : (syncD s).2.bs.length = s.bs.length := by
  unfold syncD
  split
  · simp [opD_bs]
  · rw [opD_bs]
/-- With power and no fuse. -/
structure DSt.free (s : DSt) : Prop where
  on : s.off = false
  none : s.fuse = -1
theorem opD_free {s : DSt} (h : s.free) : opD s = (true, s) := by
  unfold opD
  rw [h.on, h.none]
  simp
theorem writeD_free {s : DSt} (h : s.free) {i : Nat} (hi : i < s.bs.length) {b : List Nat} (hb : b.length = 256) : writeD s i b = (0, s.setB i ((s.at i).add b)) := by
  unfold writeD
  rw [opD_free h]
  have h1 : s.has (i : Nat) = true := by simp [DSt.has]; omega
  rw [h1, hb]
  simp
theorem syncD_free {s : DSt} (h : s.free) : syncD s = (0, ⟨s.bs.map DBlock.sync, s.off, s.fuse⟩) := by
  unfold syncD
  rw [opD_free h]
  simp
theorem setB_at (s : DSt) (i j : Nat) (x : DBlock) (hi : i < s.bs.length) : (s.setB i x).at j = if j = i then x else s.at j := by
  unfold DSt.setB DSt.at
  simp only
  rw [List.getD_eq_getElem?_getD, List.getD_eq_getElem?_getD, List.getElem?_set]
  by_cases h : j = i
  · subst h; simp [hi]
  · rw [if_neg (fun e => h e.symm), if_neg h]
theorem sync_at (s : DSt) (j : Nat) : (⟨s.bs.map DBlock.sync, s.off, s.fuse⟩ : DSt).at j = (s.at j).sync := by
  unfold DSt.at
  simp only
  rw [List.getD_eq_getElem?_getD, List.getD_eq_getElem?_getD, List.getElem?_map]
  cases s.bs[j]? with
  | none => rfl
  | some x => rfl
theorem sync_now (x : DBlock) : x.sync.now = x.now := by
  unfold DBlock.sync DBlock.now
  by_cases h : x.vs = []
  · simp [h]
  · simp [h]
theorem sync_vs (x : DBlock) : x.sync.vs = [] := by
  unfold DBlock.sync
  split
  · assumption
  · rfl
theorem add_now (x : DBlock) (b : List Nat) : (x.add b).now = some b := by
  unfold DBlock.add DBlock.now
  simp
theorem readD_free {s : DSt} (h : s.off = false) {i : Nat} (hi : i < s.bs.length) {t : List Nat} (ht : (s.at i).now = some t) : readD s i = (t, 0) := by
  unfold readD
  have h1 : s.has (i : Nat) = true := by simp [DSt.has]; omega
  rw [h1, h]
  simp [ht]
end Go.Proofs.YtikomnbhmmjfnaaGreat
