/- Texts that the others lean on, in one. -/
import Derived.Test.YtmkdkclakndkpaaChecked
import Derived.WalkKit
import Derived.WalkSpells
import Derived.WalkLawsBesides
import Derived.Laws.BitsAllLaws
import Derived.Laws.AppendOwnNone
import Derived.Laws.BytesArg
import Derived.Deep.AppendLies
import Derived.BigQuiet
import Derived.Deep.QuietTactic
import Derived.Deep.RegionHeld3
import Derived.Deep.AppendSrc
import Derived.Laws.IdiomStrings
/- Slices of bytes in memory: where they lie, what owns them, what is appended to them, what they are as texts. No function of the program is named here. -/
namespace Go.Proofs.Ytmkdkclakndkpaa
open Go.RowKit

theorem ret_int {k : IntKind} {a b : Int} (h : a = b) : Ending.returned (.int k a) = .returned (.int k b) := by rw [h]
theorem val_int {k : IntKind} {a b : Int} (h : a = b) : Value.int k a = .int k b := by rw [h]
/-- In w the bytes l lie from the address ad on. -/
def Row (w : World) (ad : Option Addr) (l : List Nat) : Prop :=
  (∀ x ∈ l, x < 256) ∧ (l = [] ∨ ∃ b off, ad = some ⟨b, off, none⟩ ∧ b < w.heap.size ∧ ∀ i, i < l.length → w.cell? ⟨b, off + i, none⟩ = some (.int .u8 (l.getD i 0 : Nat)))
theorem Row.later {w w' : World} {ad : Option Addr} {l : List Nat} (h : Row w ad l) (hb : Below w.heap.size w w') : Row w' ad l := by
  refine ⟨h.1, ?_⟩
  rcases h.2 with h | ⟨b, off, e, hs, hc⟩
  · exact Or.inl h
  · exact Or.inr ⟨b, off, e, Nat.lt_of_lt_of_le hs hb.size, fun i hi => by rw [hb.cell (p := ⟨b, off + i, none⟩) hs]; exact hc i hi⟩
theorem getD_lt {l : List Nat} (h : ∀ x ∈ l, x < 256) (k : Nat) : l.getD k 0 < 256 := by
  rw [List.getD_eq_getElem?_getD]
  by_cases hk : k < l.length
  · rw [List.getElem?_eq_getElem hk]; exact h _ (List.getElem_mem hk)
  · rw [List.getElem?_eq_none (by omega)]; simp
theorem take_snoc (l : List Nat) (k : Nat) (h : k < l.length) : l.take (k + 1) = l.take k ++ [l.getD k 0] := by
  rw [List.take_succ_eq_append_getElem h, List.getD_eq_getElem?_getD, List.getElem?_eq_getElem h]; rfl
theorem take_mem {l : List Nat} (h : ∀ x ∈ l, x < 256) (k : Nat) : ∀ x ∈ l.take k, x < 256 := fun x hx => h x (List.mem_of_mem_take hx)
/-- A byte as a value. -/
def bv (x : Nat) : Value := .int .u8 (x : Int)
theorem Try.info5 : (Try.prog.info? 5).map (fun i => (i.zero, i.size, i.bytes)) = some (some (.int .u8 0), 1, 1) := by kernel_rfl
/-- In w the value v is a slice of the bytes l, in blocks from base on that the call made. -/
def Own (w : World) (base : Nat) (v : Value) (l : List Nat) : Prop := (∀ x ∈ l, x < 256) ∧ w.ownsRow base 5 1 v l.length (l.map bv)
/-- A slice of bytes as a part: where it lies, its length, its room, its bytes. -/
structure Part where
  ad : Option Addr
  len : Nat
  cap : Nat
  l : List Nat
/-- In w the part's value is a slice of just its bytes. -/
def Part.ok (w : World) (p : Part) : Prop := p.l.length = p.len ∧ (p.ad = none → p.len = 0 ∧ p.cap = 0) ∧ Row w p.ad p.l
theorem Part.ok.later {w w' : World} {p : Part} (h : p.ok w) (hb : Below w.heap.size w w') : p.ok w' := ⟨h.1, h.2.1, h.2.2.later hb⟩
theorem addr_add (b off j : Nat) : (⟨b, off, none⟩ : Addr).add j = ⟨b, off + j, none⟩ := by
  by_cases h : j = 0
  · subst h; simp [Addr.add]
  · simp [Addr.add, h]
theorem row_cells {w : World} {ad : Option Addr} {l : List Nat} (h : Row w ad l) : ∀ a, ad = some a → ∀ j u, (l.map bv)[j]? = some u → w.cell? (a.add j) = some u := by
  intro a ha j u hu
  rw [List.getElem?_map] at hu
  rcases h.2 with h | ⟨b, off, e, _, hc⟩
  · subst h; simp at hu
  · rw [ha] at e
    cases e
    cases hj : l[j]? with
    | none => rw [hj] at hu; simp at hu
    | some x =>
      rw [hj] at hu
      have hl : j < l.length := (List.getElem?_eq_some_iff.1 hj).1
      have := hc j hl
      rw [List.getD_eq_getElem?_getD, hj] at this
      simp at hu
      subst hu
      rw [addr_add]
      exact this
theorem bv_one (l : List Nat) : ∀ u ∈ l.map bv, u.oneCell' = true := by
  intro u hu
  rw [List.mem_map] at hu
  obtain ⟨x, _, rfl⟩ := hu
  rfl
/-- The text of some bytes. -/
def bstr (l : List Nat) : ByteArray := strOfNums (l.map Int.ofNat)
theorem Own.form {w : World} {base : Nat} {v : Value} {l : List Nat} (h : Own w base v l) :
    ∃ ad cap, v = .slice ad l.length cap ∧ (ad = none → l.length = 0 ∧ cap = 0) ∧ l.length ≤ cap ∧ cap ≤ maxLen ∧ Row w ad l := by
  rcases h.2.2 with ⟨hv, h0⟩ | ⟨g, cap, cur, hv, hb, hg, hn, hm, hs, ht⟩
  · refine ⟨none, 0, by rw [hv, h0], fun _ => ⟨h0, rfl⟩, by omega, by unfold maxLen; omega, h.1, Or.inl (List.eq_nil_of_length_eq_zero h0)⟩
  · refine ⟨some ⟨g, 0, none⟩, cap, hv, fun e => (by cases e), hn, hm, h.1, Or.inr ⟨g, 0, rfl, ?_, ?_⟩⟩
    · rcases Nat.lt_or_ge g w.heap.size with hlt | hge
      · exact hlt
      · rw [Array.getElem?_eq_none hge] at hg; cases hg
    · intro i hi
      have h2 := h.2
      rw [hv] at h2
      have e := h2.cellAt i (by omega)
      rw [Nat.zero_add, e, List.getElem?_map, List.getElem?_eq_getElem hi, List.getD_eq_getElem?_getD, List.getElem?_eq_getElem hi]
      rfl
theorem Own.nil (w : World) (base : Nat) : Own w base (.slice none 0 0) [] := ⟨fun _ h => (by cases h), World.ownsRow_nil _ _ _ _⟩
theorem Own.later {w w' : World} {base : Nat} {v : Value} {l : List Nat} (h : Own w base v l) (hb : Below w.heap.size w w') : Own w' base v l := by
  refine ⟨h.1, h.2.1, ?_⟩
  rcases h.2.2 with h2 | ⟨g, cap, cur, hv, hgb, hg, r⟩
  · exact Or.inl h2
  · refine Or.inr ⟨g, cap, cur, hv, hgb, ?_, r⟩
    rw [hb.block g ?_]
    · exact hg
    · rcases Nat.lt_or_ge g w.heap.size with hlt | hge
      · exact hlt
      · rw [Array.getElem?_eq_none hge] at hg; cases hg
theorem Own.down {w : World} {base base' : Nat} {v : Value} {l : List Nat} (h : Own w base v l) (hb : base' ≤ base) : Own w base' v l := by
  refine ⟨h.1, h.2.1, ?_⟩
  rcases h.2.2 with h2 | ⟨g, cap, cur, hv, hgb, r⟩
  · exact Or.inl h2
  · exact Or.inr ⟨g, cap, cur, hv, Nat.le_trans hb hgb, r⟩
theorem Own.slice {w : World} {base : Nat} {v : Value} {l : List Nat} (h : Own w base v l) (n : Nat) (hn : l.length = n) :
    ∃ ad cap, v = .slice ad n cap ∧ Part.ok w ⟨ad, n, cap, l⟩ ∧ n ≤ cap ∧ cap ≤ maxLen := by
  subst hn
  obtain ⟨ad, cap, hv, h1, h2, h3, h4⟩ := h.form
  exact ⟨ad, cap, hv, ⟨rfl, h1, h4⟩, h2, h3⟩
theorem Own.slice_n {w : World} {base n : Nat} {v : Value} {l : List Nat} (h : (∀ x ∈ l, x < 256) ∧ w.ownsRow base 5 1 v l.length (l.map bv)) (hn : l.length = n) :
    ∃ ad cap, v = .slice ad n cap ∧ Part.ok w ⟨ad, n, cap, l⟩ ∧ n ≤ cap ∧ cap ≤ maxLen := Own.slice h n hn
theorem Part.ok.cells {w : World} {ad : Option Addr} {n cap : Nat} {l : List Nat} (h : Part.ok w ⟨ad, n, cap, l⟩) (hn : 0 < n) :
    ∃ b off, ad = some ⟨b, off, none⟩ ∧ b < w.heap.size ∧ ∀ i, i < n → w.cell? ⟨b, off + i, none⟩ = some (.int .u8 (l.getD i 0 : Nat)) := by
  have hl : l.length = n := h.1
  obtain ⟨b, off, e, hb, hc⟩ := h.2.2.2.resolve_left (fun e => by have e2 : l = [] := e; rw [e2] at hl; simp at hl; omega)
  exact ⟨b, off, e, hb, fun i hi => hc i (by show i < l.length; omega)⟩
/-- 'append(v, x...)', v of the call's own, x whatever slice of bytes. -/
theorem app_any {w : World} {ops : Array Oper} {rest : List Oper} {o : Oper} {a : Act} {Q : Exit → Act → World → Prop} (hgd : o.guard = none) (s x : Operand)
    (ho : o.op = .call { callee := .builtin .append, args := #[s, x], argTypes := #[33, 33] })
    (base : Nat) (v : Value) (n : Nat) (L : List Nat) (hs : a.eval s = v) (hown : w.ownsRow base 5 1 v n (L.map bv))
    (ad : Option Addr) (m c : Nat) (l : List Nat) (hx : a.eval x = .slice ad m c) (hl : l.length = m) (hnone : ad = none → m = 0 ∧ c = 0) (hrow : Row w ad l)
    (hbytes : n + m ≤ 140737488355328) (hbase : base ≤ w.heap.size)
    (h : ∀ v' w', w'.ownsRow base 5 1 v' (n + m) ((L ++ l).map bv) → w.grownBy w' v.ownBlock → wpList Try.prog ops Q rest (a.put o.dst v') w') : wpList Try.prog ops Q (o :: rest) a w := by
  obtain ⟨i0, hi, hz0, hz1, hz2⟩ := info_parts Try.info5
  cases ad with
  | none =>
    obtain ⟨rfl, rfl⟩ := hnone rfl
    obtain rfl : l = [] := List.eq_nil_of_length_eq_zero hl
    refine wpList_append_own_none hgd s x 33 ho base 5 i0 1 Try.underlying33 hi v n _ hs hown hx ?_
    exact h v w (by simpa using hown) (World.grownBy.refl _ _)
  | some ad =>
    refine wpList_append_own w hgd s x 33 ho base 5 i0 (.int .u8 0) 1 1 Try.underlying33 hi hz0 hz1 hz2 rfl (by decide) v n _ hs hown ad m c (l.map bv) hx (by simp [hl]) (row_cells hrow ad rfl) (bv_one l) (by unfold maxLen; omega) (by omega) hbase ?_
    intro v' w' h1 h2 _
    rw [← List.map_append] at h1
    exact h v' w' h1 h2
/-- Bytes as a text. -/
theorem conv_any {w : World} {ad : Option Addr} {l : List Nat} (hrow : Row w ad l) (len cap : Nat) (hlen : l.length = len) :
    (convert 33 9 (.slice ad len cap)).run Try.prog w = .ok (.string (bstr l)) w := by
  rcases hrow.2 with rfl | ⟨b, off, rfl, _, hc⟩
  · obtain rfl : len = 0 := by simpa using hlen.symm
    rw [run_convert_bytes_string w 33 9 5 _ 0 cap Try.underlying33 Try.underlying5 Try.underlying9]
    cases ad with
    | none => simp [Conv.bytesToString, bstr, strOfNums]; rfl
    | some a =>
      rw [run_bytesToString w a 0 cap [] (by rfl)]
      rfl
  · refine run_convert_bytes_arg w 33 5 Try.underlying33 Try.underlying5 b off len cap _ (by simpa using hlen) ?_ 9 Try.underlying9
    intro i hi
    rw [hc i (by omega), List.getD_eq_getElem?_getD, List.getD_eq_getElem?_getD, List.getElem?_map, List.getElem?_eq_getElem (by omega)]
    rfl
theorem Part.of_own {w : World} {base : Nat} {v : Value} {l : List Nat} (h : Own w base v l) : ∃ p : Part, v = .slice p.ad p.len p.cap ∧ p.l = l ∧ p.ok w := by
  obtain ⟨ad, cap, hv, hn, _, _, hr⟩ := h.form
  exact ⟨⟨ad, l.length, cap, l⟩, hv, rfl, rfl, hn, hr⟩
/-- The first bytes of what is owned. -/
theorem Own.cut {w : World} {base : Nat} {g n m cap : Nat} {l l2 : List Nat} (h : Own w base (.slice (some ⟨g, 0, none⟩) m cap) (l ++ l2)) (hn : l.length = n) (hm : (l ++ l2).length = m) : Part.ok w ⟨some ⟨g, 0, none⟩, n, cap, l⟩ := by
  obtain ⟨ad, c, e, hp, -, -⟩ := h.slice m hm
  cases e
  refine ⟨hn, fun e => (by cases e), fun x hx => h.1 x (by simp [hx]), ?_⟩
  by_cases h0 : l = []
  · exact Or.inl h0
  · right
    have hl : 0 < l.length := List.length_pos_iff.2 h0
    obtain ⟨b, off, e, hb, hc⟩ := hp.cells (by simp at hm; omega)
    refine ⟨b, off, e, hb, fun i hi => ?_⟩
    have hi' : i < l.length := hi
    rw [hc i (by simp at hm; omega), List.getD_eq_getElem?_getD, List.getD_eq_getElem?_getD, List.getElem?_append_left hi']
theorem empty_own (w : World) (base : Nat) (hb : base ≤ w.heap.size) : (w.alloc (.cells #[] 5)).ownsRow base 5 1 (.slice (some ⟨w.heap.size, 0, none⟩) 0 0) 0 (([] : List Nat).map bv) :=
  World.ownsRow_lit w #[] 0 hb (by unfold maxLen; omega) rfl
theorem own_room {w : World} {base e size g n cap : Nat} {xs : List Value} (h : w.ownsRow base e size (.slice (some ⟨g, 0, none⟩) n cap) n xs) : n ≤ cap ∧ cap ≤ maxLen := by
  rcases h.2 with ⟨e, _⟩ | ⟨g', c', cur, e, _, _, h1, h2, _⟩
  · cases e
  · cases e; exact ⟨h1, h2⟩
theorem drop_take_snoc (l : List Nat) (p k : Nat) (h : p + k < l.length) : (l.drop p).take (k + 1) = (l.drop p).take k ++ [l.getD (p + k) 0] := by
  rw [take_snoc (l.drop p) k (by simp; omega)]
  simp [List.getD_eq_getElem?_getD]
theorem drop_take_lt {l : List Nat} (h : ∀ x ∈ l, x < 256) (p k : Nat) : ∀ x ∈ (l.drop p).take k, x < 256 := fun x hx => h x (List.mem_of_mem_drop (List.mem_of_mem_take hx))
theorem drop_take_length (l : List Nat) (p k : Nat) (h : p + k ≤ l.length) : ((l.drop p).take k).length = k := by simp; omega
/-- What 'x[p : p+n]' is. -/
def cutP (P : Part) (p n : Nat) : Part := if P.cap = p then ⟨P.ad, n, 0, (P.l.drop p).take n⟩ else ⟨P.ad.map (fun x => x.add p), n, P.cap - p, (P.l.drop p).take n⟩
theorem cutP_l (P : Part) (p n : Nat) : (cutP P p n).l = (P.l.drop p).take n := by unfold cutP; split <;> rfl
theorem cutP_len (P : Part) (p n : Nat) : (cutP P p n).len = n := by unfold cutP; split <;> rfl
theorem cutP_cap (P : Part) (p n : Nat) : (cutP P p n).cap = P.cap - p := by
  unfold cutP; split
  · show 0 = _; omega
  · rfl
theorem cutP_ok {w : World} {P : Part} (h : P.ok w) (p n : Nat) (hn : p + n ≤ P.len) (hc : P.len ≤ P.cap) : (cutP P p n).ok w := by
  obtain ⟨ad, len, cap, l⟩ := P
  obtain ⟨h1, h2, h3, h4⟩ := h
  simp only at h1 h2 h3 h4 hn hc
  unfold cutP
  simp only
  by_cases e : cap = p
  · rw [if_pos e]
    have hn0 : n = 0 := by omega
    subst hn0
    exact ⟨by simp, fun _ => ⟨rfl, rfl⟩, by simp, Or.inl (by simp)⟩
  · rw [if_neg e]
    refine ⟨by simp; omega, ?_, drop_take_lt h3 p n, ?_⟩
    · intro hz
      cases ad with
      | none => have := h2 rfl; simp only; omega
      | some a => simp at hz
    · by_cases hn0 : n = 0
      · subst hn0; exact Or.inl (by simp)
      · right
        rcases h4 with h4 | ⟨b, off, rfl, hb, hcell⟩
        · subst h4; simp at h1; omega
        · refine ⟨b, off + p, by simp [addr_add], hb, ?_⟩
          intro i hi
          simp only [List.length_take, List.length_drop] at hi
          have e2 := hcell (p + i) (by omega)
          rw [Nat.add_assoc, e2]
          congr 3
          rw [List.getD_eq_getElem?_getD, List.getD_eq_getElem?_getD, List.getElem?_take, if_pos (by omega), List.getElem?_drop]
theorem below_drewN' {B : Nat} {w0 w : World} (h : Below B w0 w) (m : Nat) : Below B w0 (w.drewN m) := by
  induction m with
  | zero => exact h
  | succ m ih => exact ih.drew
theorem conv_drewN {w : World} {ad : Option Addr} {l : List Nat} (hrow : Row w ad l) (len cap : Nat) (hlen : l.length = len) :
    ∀ nq, (convert 33 9 (.slice ad len cap)).run Try.prog (w.drewN nq) = .ok (.string (bstr l)) (w.drewN nq) := fun nq => conv_any (hrow.later (below_drewN' (Below.refl _ _) nq)) len cap hlen
/-- 'append(v, x...)' as one step of a region that draws its order. -/
theorem step_app_any {w : World} {ops : Array Oper} {o : Oper} {a : Act} {K : Act → World → Prop} {Q : Exit → Act → World → Prop} {E : Prop} (hgd : o.guard = none) (s x : Operand)
    (ho : o.op = .call { callee := .builtin .append, args := #[s, x], argTypes := #[33, 33] })
    (base : Nat) (v : Value) (n : Nat) (L : List Nat) (hs : a.eval s = v) (hown : w.ownsRow base 5 1 v n (L.map bv))
    (ad : Option Addr) (m c : Nat) (l : List Nat) (hx : a.eval x = .slice ad m c) (hl : l.length = m) (hnone : ad = none → m = 0 ∧ c = 0) (hrow : Row w ad l)
    (hbytes : n + m ≤ 140737488355328) (hbase : base ≤ w.heap.size)
    (h : ∀ v' w', w'.ownsRow base 5 1 v' (n + m) ((L ++ l).map bv) → w.grownBy w' v.ownBlock → K (a.put o.dst v') w') :
    if Region.wanted o (yielded ops a.tmps) = true then Oper.wp Try.prog o a w K Q else E := by
  have hw : Region.wanted o (yielded ops a.tmps) = true := by simp [Region.wanted, hgd]
  rw [if_pos hw]
  obtain ⟨i0, hi, hz0, hz1, hz2⟩ := info_parts Try.info5
  cases ad with
  | none =>
    obtain ⟨rfl, rfl⟩ := hnone rfl
    obtain rfl : l = [] := List.eq_nil_of_length_eq_zero hl
    have hrun := run_append_owned_none (P := Try.prog) (w := w) base 33 o.type 5 i0 1 Try.underlying33 hi v n _ hown
    unfold Oper.wp
    simp [execOp, ho, resolve, invoke, builtin, hs, hx, hrun, Result.andThen]
    exact h v w (by simpa using hown) (World.grownBy.refl _ _)
  | some ad =>
    refine wp_append_own w s x 33 ho base 5 i0 (.int .u8 0) 1 1 Try.underlying33 hi hz0 hz1 hz2 rfl (by decide) v n _ hs hown ad m c (l.map bv) hx (by simp [hl]) (row_cells hrow ad rfl) (bv_one l) (by unfold maxLen; omega) (by omega) hbase ?_
    intro v' w' h1 h2 _
    rw [← List.map_append] at h1
    exact h v' w' h1 h2
theorem results_tmp4 {fn : Func} {t u v x : Tmp} (h : fn.results = #[.tmp t, .tmp u, .tmp v, .tmp x]) (tmps : Array Value) (P : Program) (w : World) :
    (results fn tmps).run P w = .ok (.tuple #[tmps.getD t undef, tmps.getD u undef, tmps.getD v undef, tmps.getD x undef]) w := by
  simp [results, h]
theorem own_kept {w w' : World} {base e size n : Nat} {v : Value} {xs : List Value} (h : w.ownsRow base e size v n xs) (hb : Below w.heap.size w w') : w'.ownsRow base e size v n xs := by
  refine ⟨h.1, ?_⟩
  rcases h.2 with h2 | ⟨g, cap, cur, hv, hgb, hg, r⟩
  · exact Or.inl h2
  · refine Or.inr ⟨g, cap, cur, hv, hgb, ?_, r⟩
    rw [hb.block g ?_]
    · exact hg
    · rcases Nat.lt_or_ge g w.heap.size with hlt | hge
      · exact hlt
      · rw [Array.getElem?_eq_none hge] at hg; cases hg
end Go.Proofs.Ytmkdkclakndkpaa

/- Laws on texts and bytes: a text's bytes in new memory; a text appended to bytes of the call's own. -/
namespace Go.Proofs.Ytmkdkclakndkpaa
open Go.RowKit

/-- The bytes of a text. -/
def sbytes (s : ByteArray) : List Nat := s.data.toList.map UInt8.toNat
theorem sbytes_length (s : ByteArray) : (sbytes s).length = s.size := by simp [sbytes]
theorem sbytes_lt (s : ByteArray) : ∀ x ∈ sbytes s, x < 256 := by
  intro x hx
  obtain ⟨b, _, rfl⟩ := List.mem_map.1 hx
  exact b.toNat_lt
theorem byteCells_sbytes (s : ByteArray) : byteCells s = (sbytes s).map bv := by
  simp [byteCells, sbytes, bv]
/-- Bytes made a text and back. -/
theorem sbytes_bstr (l : List Nat) (h : ∀ x ∈ l, x < 256) : sbytes (bstr l) = l := by
  simp only [sbytes, bstr, strOfNums_data, List.map_map]
  conv => rhs; rw [← List.map_id l]
  apply List.map_congr_left
  intro x hx
  have := h x hx
  simp
  omega
theorem bstr_sbytes (s : ByteArray) : bstr (sbytes s) = s := by
  apply ByteArray.ext
  apply Array.ext'
  have e : (bstr (sbytes s)).data.toList = (List.map Int.ofNat (sbytes s)).map fun n => UInt8.ofNat n.toNat := rfl
  rw [e, List.map_map, sbytes, List.map_map]
  conv => rhs; rw [← List.map_id s.data.toList]
  apply List.map_congr_left
  intro x _
  simp
/-- '[]byte(s)'. -/
theorem conv_string (s : ByteArray) (w : World) :
    ∃ (Q : Part) (w' : World), (convert 9 33 (.string s)).run Try.prog w = .ok (.slice Q.ad Q.len Q.cap) w' ∧ Hid (Q.l = sbytes s ∧ Q.ok w') ∧ Below w.heap.size w w' := by
  refine ⟨⟨some ⟨w.heap.size, 0, none⟩, s.size, grownCap w s.size 0 5, sbytes s⟩, _, run_bytes_of_string w 9 33 5 s Try.underlying9 Try.underlying33 Try.underlying5, ⟨rfl, sbytes_length s, fun e => (by cases e), sbytes_lt s, ?_⟩, ?_⟩
  · right
    refine ⟨w.heap.size, 0, rfl, by simp, ?_⟩
    intro i hi
    have hi' : i < s.size := by rw [← sbytes_length]; exact hi
    have hd : i < s.data.size := hi'
    have hsl : i < (sbytes s).length := hi
    rw [cell_of_row _ w.heap.size _ _ 5 _ (heap_alloc_new w.drew _)]
    rw [bytesRow, Nat.zero_add, Array.getElem?_append_left (by simpa using hd), List.getD_eq_getElem?_getD, List.getElem?_eq_getElem hsl]
    simp [sbytes]
    exact ⟨_, Array.getElem?_eq_getElem hd, rfl⟩
  · exact ((Below.refl _ _).drew).alloc (Nat.le_refl _) _
theorem run_append_str (w : World) (ty : TypeId) (base n : Nat) (v : Value) (xs : List Value) (hown : w.ownsRow base 5 1 v n xs) (hn : 0 < n) (s : ByteArray) (hb : n + s.size ≤ 140737488355328) (hbase : base ≤ w.heap.size) :
    ∃ v' w', (Builtin.append_ #[33, 9] ty #[v, .string s]).run Try.prog w = .ok v' w' ∧ w'.ownsRow base 5 1 v' (n + s.size) (xs ++ byteCells s) ∧ w.grownBy w' v.ownBlock := by
  obtain ⟨i, hi, hz0, hz1, hz2⟩ := info_parts Try.info5
  have ht := Try.underlying33
  have hts := Try.underlying9
  have hlen : (xs ++ byteCells s).length = (n + s.size) * 1 := by rw [List.length_append, hown.1, byteCells_length]; omega
  rcases hown.2 with ⟨rfl, rfl⟩ | ⟨g, cap, cur, rfl, hbg, hg, hnc, hcm, hcs, htake⟩
  · omega
  · have src := Src.ofString (P := Try.prog) w hts s
    by_cases hroom : n + s.size ≤ cap
    · have hfit : n * 1 + (byteCells s).length ≤ cur.size := by rw [byteCells_length, hcs]; omega
      have hst := run_storeCells_at Try.prog g (n * 1) 5 (byteCells s) 0 cur w hg (by simpa using hfit) src.one
      simp only [Nat.add_zero] at hst
      refine ⟨.slice (some ⟨g, 0, none⟩) (n + s.size) cap, w.setRow g (cur.toList.take (n * 1) ++ byteCells s ++ cur.toList.drop (n * 1 + (byteCells s).length)).toArray, ?_, ⟨hlen, .inr ⟨g, cap, _, rfl, hbg, setRow_heap w g cur _ 5 _ hg, hroom, hcm, ?_, ?_⟩⟩, ⟨rfl, rfl, rfl, by simp, fun k _ hk => setRow_other w g k _ (fun e => hk (by simp [Value.ownBlock, e]))⟩⟩
      · have hc := src.cells
        have hl := src.len
        simp only [Nat.mul_one] at hst
        simp [Builtin.append_, run_underlying ht, run_underlying hts, sizeOf, typeInfo, hi, hz1, hl, hroom, hc, Addr.add_lit, hst]
      · simp only [List.size_toArray, List.length_append, List.length_take, List.length_drop, Array.length_toList]
        omega
      · rw [htake, ← hlen]
        exact List.take_left
    · have holds : ∀ j u, xs[j]? = some u → w.drew.cell? ((⟨g, 0, none⟩ : Addr).add j) = some u := hown.cells (g := g) rfl
      have hold := run_firstCells_some (P := Try.prog) w.drew 1 n ⟨g, 0, none⟩ n cap xs hown.1 holds
      have hr := run_append_grow_src (P := Try.prog) w 33 9 ty 5 i (.int .u8 0) ht hi hz0 (some ⟨g, 0, none⟩) n cap xs (by rw [hz1]; exact hold) (.string s) s.size (byteCells s) (by rw [hz1]; exact src) (by omega) (by omega) (growslice_fits (by omega) (by rw [hz2]; omega))
      have hge := grownCap_ge w (n + s.size) cap 5
      have hcm2 : grownCap w (n + s.size) cap 5 ≤ maxLen := grownCap_le_maxLen w (n + s.size) cap 5 (by unfold maxLen; omega)
      refine ⟨_, _, hr, ⟨hlen, .inr ⟨w.heap.size, _, _, rfl, hbase, heap_alloc_new w.drew _, hge, hcm2, ?_, ?_⟩⟩, ⟨rfl, rfl, rfl, by simp, fun k hk _ => Below.heap_alloc w.drew _ k hk⟩⟩
      · simp only [Array.size_append, List.size_toArray, size_zeroCells, hlen]
        simp [Value.cells]
        omega
      · simp only [Array.toList_append]
        rw [← hlen]
        exact List.take_left
/-- 'append(v, s...)', v of the call's own and not empty, s a text. -/
theorem app_str {w : World} {ops : Array Oper} {rest : List Oper} {o : Oper} {a : Act} {Q : Exit → Act → World → Prop} (hgd : o.guard = none) (s x : Operand)
    (ho : o.op = .call { callee := .builtin .append, args := #[s, x], argTypes := #[33, 9] })
    (base : Nat) (v : Value) (n : Nat) (L : List Nat) (hs : a.eval s = v) (hown : w.ownsRow base 5 1 v n (L.map bv)) (hn : 0 < n)
    (t : ByteArray) (hx : a.eval x = .string t) (hbytes : n + t.size ≤ 140737488355328) (hbase : base ≤ w.heap.size)
    (h : ∀ v' w', w'.ownsRow base 5 1 v' (n + t.size) ((L ++ sbytes t).map bv) → w.grownBy w' v.ownBlock → wpList Try.prog ops Q rest (a.put o.dst v') w') : wpList Try.prog ops Q (o :: rest) a w := by
  refine wpList_plain hgd fun K hK => ?_
  obtain ⟨v', w', hr, h2, h3⟩ := run_append_str w o.type base n v _ hown hn t hbytes hbase
  rw [byteCells_sbytes, ← List.map_append] at h2
  unfold Oper.wp execOp
  simp only [ho, resolve, invoke, builtin, Sem.run_bind, Sem.run_pure, Result.andThen_ok, List.map_toArray, List.map_cons, List.map_nil, hs, hx, hr]
  exact hK _ _ (h v' w' h2 h3)
end Go.Proofs.Ytmkdkclakndkpaa

/- Plain mathematics: a number as its bytes, the lowest first; there and back. -/
namespace Go.Proofs.Ytmkdkclakndkpaa
open Go.RowKit

/-- The bytes of n, the lowest first. -/
def spellN (n : Nat) : Nat → List Nat
  | 0 => []
  | k + 1 => spellN n k ++ [n / 2 ^ (8 * k) % 256]
theorem spellN_length (n k : Nat) : (spellN n k).length = k := by
  induction k with
  | zero => rfl
  | succ k ih => simp [spellN, ih]
theorem spellN_lt (n k : Nat) : ∀ x ∈ spellN n k, x < 256 := by
  induction k with
  | zero => intro x hx; simp [spellN] at hx
  | succ k ih =>
    intro x hx
    simp only [spellN, List.mem_append, List.mem_singleton] at hx
    rcases hx with h | h
    · exact ih x h
    · subst h; exact Nat.mod_lt _ (by omega)
theorem spell_one (k : Nat) (h : k ≤ 255) : spellN k 1 = [k] := by
  simp [spellN]; omega
/-- The number that some bytes tell, the lowest first. -/
def valN : List Nat → Nat
  | [] => 0
  | x :: l => x + 256 * valN l
theorem pow8 (k : Nat) : 2 ^ (8 * (k + 1)) = 256 * 2 ^ (8 * k) := by
  rw [show 8 * (k + 1) = 8 * k + 8 by omega, Nat.pow_add]; omega
theorem valN_snoc (l : List Nat) (x : Nat) : valN (l ++ [x]) = valN l + x * 2 ^ (8 * l.length) := by
  induction l with
  | nil => simp [valN]
  | cons y l ih =>
    rw [List.cons_append, valN, ih, valN, List.length_cons, pow8]
    rw [Nat.mul_add, Nat.add_assoc]
    congr 2
    rw [← Nat.mul_assoc, Nat.mul_comm 256 x, Nat.mul_assoc]
theorem valN_lt (l : List Nat) (h : ∀ x ∈ l, x < 256) : valN l < 2 ^ (8 * l.length) := by
  induction l with
  | nil => simp [valN]
  | cons y l ih =>
    have h1 := ih (fun x hx => h x (by simp [hx]))
    have h2 := h y (by simp)
    rw [valN, List.length_cons, pow8]
    omega
theorem pow8_le (k : Nat) (h : k ≤ 6) : 2 ^ (8 * k) ≤ 281474976710656 := Nat.pow_le_pow_right (n := 2) (j := 48) (by omega) (by omega)
theorem valN_bound (l : List Nat) (h : ∀ x ∈ l, x < 256) (h6 : l.length ≤ 6) : valN l < 281474976710656 := Nat.lt_of_lt_of_le (valN_lt l h) (pow8_le _ h6)
/-- There and back. -/
theorem valN_spellN (n k : Nat) : valN (spellN n k) = n % 2 ^ (8 * k) := by
  induction k with
  | zero => simp [spellN, valN, Nat.mod_one]
  | succ k ih =>
    rw [spellN, valN_snoc, ih, spellN_length, pow8, Nat.mul_comm 256, Nat.mod_mul, Nat.mul_comm (2 ^ (8 * k)) (_ % 256)]
theorem i64_or_nat (a b : Nat) (ha : a < 9223372036854775808) (hb : b < 9223372036854775808) : bits .or .i64 (a : Int) (b : Int) = ((a ||| b : Nat) : Int) := by
  have hx : a ||| b < 2 ^ 63 := Nat.or_lt_two_pow (by omega) (by omega)
  have h1 : (BitVec.ofInt 64 (a : Int)).toNat = a := by
    rw [BitVec.ofInt_natCast, BitVec.toNat_ofNat]; exact Nat.mod_eq_of_lt (by omega)
  have h2 : (BitVec.ofInt 64 (b : Int)).toNat = b := by
    rw [BitVec.ofInt_natCast, BitVec.toNat_ofNat]; exact Nat.mod_eq_of_lt (by omega)
  show IntKind.i64.wrap ((BitVec.ofInt 64 (a : Int) ||| BitVec.ofInt 64 (b : Int)).toNat : Int) = _
  rw [BitVec.toNat_or, h1, h2]
  simp [IntKind.wrap, IntKind.bits, IntKind.signed]
  omega
/-- One byte more. -/
theorem or_step (l : List Nat) (x : Nat) (h : ∀ y ∈ l, y < 256) (hx : x < 256) (h6 : l.length < 6) :
    bits .or .i64 ((valN l : Nat) : Int) ((x * 2 ^ (8 * l.length) : Nat) : Int) = ((valN (l ++ [x]) : Nat) : Int) := by
  have hv := valN_lt l h
  have hp := pow8_le (l.length + 1) (by omega)
  rw [pow8] at hp
  have hm : x * 2 ^ (8 * l.length) < 256 * 2 ^ (8 * l.length) := Nat.mul_lt_mul_of_pos_right hx (Nat.pow_pos (by omega))
  rw [i64_or_nat _ _ (by omega) (by omega), valN_snoc]
  rw [Nat.or_comm, nat_join (8 * l.length) (x * 2 ^ (8 * l.length)) (valN l) (by simp) hv, Nat.add_comm]
theorem shl_eq (x k : Nat) (hx : x < 256) (h6 : k < 6) : wrap64 ((x : Int) * 2 ^ (8 * k)) = ((x * 2 ^ (8 * k) : Nat) : Int) := by
  have hp := pow8_le (k + 1) (by omega)
  rw [pow8] at hp
  have hm : x * 2 ^ (8 * k) < 256 * 2 ^ (8 * k) := Nat.mul_lt_mul_of_pos_right hx (Nat.pow_pos (by omega))
  have e : (x : Int) * 2 ^ (8 * k) = ((x * 2 ^ (8 * k) : Nat) : Int) := by rw [Int.natCast_mul, Int.natCast_pow]; rfl
  rw [e]
  generalize x * 2 ^ (8 * k) = q at *
  simp [wrap64]; omega
theorem add_step (l : List Nat) (x k : Nat) (h : ∀ y ∈ l, y < 256) (hx : x < 256) (hk : l.length = k) (h6 : k < 6) :
    wrap64 (((valN l : Nat) : Int) + wrap64 ((x : Int) * 2 ^ (8 * k))) = ((valN (l ++ [x]) : Nat) : Int) := by
  rw [shl_eq x k hx h6, valN_snoc, hk]
  have hv := valN_bound l h (by omega)
  have hp := pow8_le (k + 1) (by omega)
  rw [pow8] at hp
  have hm : x * 2 ^ (8 * k) < 256 * 2 ^ (8 * k) := Nat.mul_lt_mul_of_pos_right hx (Nat.pow_pos (by omega))
  generalize x * 2 ^ (8 * k) = q at *
  simp [wrap64]; omega
theorem orw_step (l : List Nat) (x k : Nat) (h : ∀ y ∈ l, y < 256) (hx : x < 256) (hk : l.length = k) (h6 : k < 6) :
    bits .or .i64 ((valN l : Nat) : Int) (wrap64 ((x : Int) * 2 ^ (8 * k))) = ((valN (l ++ [x]) : Nat) : Int) := by
  rw [shl_eq x k hx h6]
  subst hk
  exact or_step l x h hx h6
end Go.Proofs.Ytmkdkclakndkpaa

/- P104, Text, as a function. -/
namespace Go.Proofs.Ytmkdkclakndkpaa
open Go.RowKit

/-- P104, Text: the error's number and the bytes. -/
def textN (s : ByteArray) : Int × List Nat := if s.size ≤ 65535 then (0, spellN s.size 2 ++ sbytes s) else (6, [])
theorem textN_ok (s : ByteArray) (h : s.size ≤ 65535) : textN s = (0, spellN s.size 2 ++ sbytes s) := by unfold textN; rw [if_pos h]
theorem textN_no (s : ByteArray) (h : ¬ s.size ≤ 65535) : textN s = (6, []) := by unfold textN; rw [if_neg h]
end Go.Proofs.Ytmkdkclakndkpaa

/- P103, Get, as a function over plain lists: the number, the place behind it, the error's number. -/
namespace Go.Proofs.Ytmkdkclakndkpaa
open Go.RowKit

/-- P103, Get. -/
def getN (l : List Nat) (p size : Int) : Int × Int × Int :=
  if 1 ≤ size ∧ size ≤ 6 ∧ 0 ≤ p then
    (if p + size ≤ l.length then (((valN ((l.drop p.toNat).take size.toNat) : Nat) : Int), p + size, 0) else (0, 0, 20))
  else (0, 0, 1)
theorem getN_arg (l : List Nat) (p size : Int) (h : ¬ (1 ≤ size ∧ size ≤ 6 ∧ 0 ≤ p)) : getN l p size = (0, 0, 1) := by unfold getN; rw [if_neg h]
theorem getN_end (l : List Nat) (p size : Int) (h : 1 ≤ size ∧ size ≤ 6 ∧ 0 ≤ p) (h2 : ¬ p + size ≤ l.length) : getN l p size = (0, 0, 20) := by unfold getN; rw [if_pos h, if_neg h2]
theorem getN_ok (l : List Nat) (p s : Nat) (h : 1 ≤ s ∧ s ≤ 6) (h2 : p + s ≤ l.length) : getN l p s = (((valN ((l.drop p).take s) : Nat) : Int), ((p + s : Nat) : Int), 0) := by
  unfold getN; rw [if_pos (by omega), if_pos (by omega), Int.toNat_natCast, Int.toNat_natCast, Int.natCast_add]
end Go.Proofs.Ytmkdkclakndkpaa

/- P104, GetText, as a function over plain lists. -/
namespace Go.Proofs.Ytmkdkclakndkpaa
open Go.RowKit

/-- How long the text at p is, by its two bytes. -/
def lenAt (l : List Nat) (p : Nat) : Nat := valN ((l.drop p).take 2)
/-- P104, GetText: the text, the place behind it, the error's number. -/
def getTextN (l : List Nat) (p : Int) : ByteArray × Int × Int :=
  if 0 ≤ p then
    (if p.toNat + 2 + lenAt l p.toNat ≤ l.length then (bstr ((l.drop (p.toNat + 2)).take (lenAt l p.toNat)), ((p.toNat + 2 + lenAt l p.toNat : Nat) : Int), 0) else (bstr [], 0, 20))
  else (bstr [], 0, 1)
theorem getTextN_arg (l : List Nat) (p : Int) (h : ¬ 0 ≤ p) : getTextN l p = (bstr [], 0, 1) := by unfold getTextN; rw [if_neg h]
theorem getTextN_end (l : List Nat) (p : Nat) (h2 : ¬ p + 2 + lenAt l p ≤ l.length) : getTextN l p = (bstr [], 0, 20) := by
  unfold getTextN; rw [if_pos (by omega), Int.toNat_natCast, if_neg h2]
theorem getTextN_ok (l : List Nat) (p : Nat) (h2 : p + 2 + lenAt l p ≤ l.length) : getTextN l p = (bstr ((l.drop (p + 2)).take (lenAt l p)), ((p + 2 + lenAt l p : Nat) : Int), 0) := by
  unfold getTextN; rw [if_pos (by omega), Int.toNat_natCast, if_pos h2]
theorem lenAt_lt (l : List Nat) (p : Nat) (h : ∀ x ∈ l, x < 256) : lenAt l p < 65536 := by
  have h1 := valN_lt ((l.drop p).take 2) (drop_take_lt h p 2)
  have h2 : ((l.drop p).take 2).length ≤ 2 := List.length_take_le _ _
  have h3 : 2 ^ (8 * ((l.drop p).take 2).length) ≤ 2 ^ 16 := Nat.pow_le_pow_right (by omega) (by omega)
  unfold lenAt
  omega
theorem bstr_nil : bstr [] = ⟨#[]⟩ := rfl
end Go.Proofs.Ytmkdkclakndkpaa

/- Chapter 2 as functions over plain lists: a batch that may be (P202), its bytes (P203), bytes as a batch (P204). -/
namespace Go.Proofs.Ytmkdkclakndkpaa
open Go.RowKit

structure Rec where
  key : ByteArray
  val : ByteArray
  dead : Bool
structure Bat where
  kind : Int
  prod : Int
  epoch : Int
  seq : Int
  txn : Bool
  recs : List Rec
/-- The batch beside an error. -/
def bat0 : Bat := ⟨0, 0, 0, 0, false, []⟩
def Bat.marker (b : Bat) : Bool := b.kind == 2 || b.kind == 3
/-- How many offsets it takes. -/
def lenN (b : Bat) : Int := if b.marker then 1 else b.recs.length
def recsSize : List Rec → Nat
  | [] => 0
  | r :: rs => 5 + r.key.size + r.val.size + recsSize rs
def sizeN (b : Bat) : Nat := 18 + recsSize b.recs
/-- Kind, Producer, Epoch, InTxn, and the Seq of a marker or of nobody. -/
def argOk (b : Bat) : Bool :=
  (b.kind == 1 || b.marker) &&
  (if b.prod == -1 then !b.marker && b.epoch == 0 && b.seq == 0 && !b.txn
   else decide (0 ≤ b.prod) && decide (b.prod < 281474976710656) && decide (0 ≤ b.epoch) && decide (b.epoch < 2147483648) && !(b.marker && (b.seq != 0 || b.txn)))
/-- How many Records. -/
def manyOk (b : Bat) : Bool := if b.marker then b.recs.length == 0 else b.recs.length != 0 && decide (b.recs.length ≤ 64)
def recOk (r : Rec) : Bool := decide (r.key.size ≤ 1000) && decide (r.val.size ≤ 4000) && !(r.dead && r.val.size != 0)
def seqOk (b : Bat) : Bool := decide (0 ≤ b.seq) && decide (b.seq ≤ 2147483648 - lenN b)
/-- P202. -/
def checkN (b : Bat) : Int :=
  if argOk b then
    (if manyOk b && b.recs.all recOk then (if seqOk b then (if sizeN b ≤ 65536 then 0 else 6) else 53) else 6)
  else 1
/-- The bytes of a Record. -/
def recBs (r : Rec) : List Nat := [if r.dead then 1 else 0] ++ ((spellN r.key.size 2 ++ sbytes r.key) ++ (spellN r.val.size 2 ++ sbytes r.val))
def recsBs : List Rec → List Nat
  | [] => []
  | r :: rs => recBs r ++ recsBs rs
def flagsN (b : Bat) : Nat := (if b.prod == -1 then 0 else 1) + (if b.txn then 2 else 0)
def prodN (b : Bat) : Nat := if b.prod == -1 then 0 else b.prod.toNat
def headBs (b : Bat) : List Nat := [b.kind.toNat, flagsN b] ++ (spellN (prodN b) 6 ++ (spellN b.epoch.toNat 4 ++ (spellN b.seq.toNat 4 ++ spellN b.recs.length 2)))
/-- P203: the bytes of a batch that may be. -/
def writeN (b : Bat) : List Nat := headBs b ++ recsBs b.recs
/-- P203, Encode: the error's number and the bytes. -/
def encodeN (b : Bat) : Int × List Nat := if checkN b = 0 then (0, writeN b) else (checkN b, [])
/-- The Record at p, and the place behind it, if it is all there. -/
def recAt (l : List Nat) (p : Nat) : Option (Rec × Nat) :=
  if p + 3 + lenAt l (p + 1) ≤ l.length then
    (if p + 3 + lenAt l (p + 1) + 2 + lenAt l (p + 3 + lenAt l (p + 1)) ≤ l.length then
      some (⟨bstr ((l.drop (p + 3)).take (lenAt l (p + 1))), bstr ((l.drop (p + 3 + lenAt l (p + 1) + 2)).take (lenAt l (p + 3 + lenAt l (p + 1)))), l.getD p 0 != 0⟩, p + 3 + lenAt l (p + 1) + 2 + lenAt l (p + 3 + lenAt l (p + 1)))
     else none)
  else none
/-- n Records from p on, and the place behind them, if they are all there. -/
def readN (l : List Nat) (p : Nat) : Nat → Option (List Rec × Nat)
  | 0 => some ([], p)
  | n + 1 => match readN l p n with
    | none => none
    | some (rs, q) => match recAt l q with
      | none => none
      | some (r, q') => some (rs ++ [r], q')
/-- How many Records are told. -/
def toldRecs (l : List Nat) : Nat := valN ((l.drop 16).take 2)
/-- What 18 bytes and some Records are as a batch. -/
def batOf (l : List Nat) (rs : List Rec) : Bat :=
  ⟨(l.getD 0 0 : Nat), if l.getD 1 0 % 2 = 1 then ((valN ((l.drop 2).take 6) : Nat) : Int) else -1, (valN ((l.drop 8).take 4) : Nat), (valN ((l.drop 12).take 4) : Nat), l.getD 1 0 / 2 % 2 == 1, rs⟩
open Classical in
/-- P204, Decode: the batch and the error's number. -/
noncomputable def decodeN (l : List Nat) : Bat × Int :=
  if l.length < 18 then (bat0, 20)
  else match readN l 18 (toldRecs l) with
    | none => (bat0, 20)
    | some (rs, _) => if checkN (batOf l rs) = 0 ∧ writeN (batOf l rs) = l then (batOf l rs, 0) else (bat0, 22)
theorem recOk_parts {r : Rec} (h : recOk r = true) : r.key.size ≤ 1000 ∧ r.val.size ≤ 4000 := by
  simp only [recOk, Bool.and_eq_true, decide_eq_true_eq] at h
  exact ⟨h.1.1, h.1.2⟩
end Go.Proofs.Ytmkdkclakndkpaa

/- Slices of Records in memory; a batch as a value. -/
namespace Go.Proofs.Ytmkdkclakndkpaa
open Go.RowKit

/-- A Record of nothing. -/
def rec0 : Rec := ⟨bstr [], bstr [], false⟩
/-- In w the Records rs lie from the address ad on. -/
def RRow (w : World) (ad : Option Addr) (rs : List Rec) : Prop :=
  rs = [] ∨ ∃ b off, ad = some ⟨b, off, none⟩ ∧ b < w.heap.size ∧ ∀ i, i < rs.length →
    w.cell? ⟨b, off + i * 3, none⟩ = some (.string (rs.getD i rec0).key) ∧ w.cell? ⟨b, off + i * 3 + 1, none⟩ = some (.string (rs.getD i rec0).val) ∧ w.cell? ⟨b, off + i * 3 + 2, none⟩ = some (.bool (rs.getD i rec0).dead)
theorem RRow.later {w w' : World} {ad : Option Addr} {rs : List Rec} (h : RRow w ad rs) (hb : Below w.heap.size w w') : RRow w' ad rs := by
  rcases h with h | ⟨b, off, e, hs, hc⟩
  · exact Or.inl h
  · refine Or.inr ⟨b, off, e, Nat.lt_of_lt_of_le hs hb.size, fun i hi => ?_⟩
    rw [hb.cell (p := ⟨b, off + i * 3, none⟩) hs, hb.cell (p := ⟨b, off + i * 3 + 1, none⟩) hs, hb.cell (p := ⟨b, off + i * 3 + 2, none⟩) hs]
    exact hc i hi
/-- A batch in memory: what its slice of Records is. -/
structure BArg (w : World) (b : Bat) (ad : Option Addr) (len cap : Nat) : Prop where
  len_eq : b.recs.length = len
  nil : ad = none → len = 0 ∧ cap = 0
  le : len ≤ cap
  room : cap ≤ maxLen
  row : RRow w ad b.recs
  size : ∀ r ∈ b.recs, r.key.size ≤ maxLen ∧ r.val.size ≤ maxLen
theorem BArg.later {w w' : World} {b : Bat} {ad : Option Addr} {len cap : Nat} (h : BArg w b ad len cap) (hb : Below w.heap.size w w') : BArg w' b ad len cap :=
  ⟨h.1, h.2, h.3, h.4, h.5.later hb, h.6⟩
theorem BArg.cells {w : World} {b : Bat} {ad : Option Addr} {n cap : Nat} (h : BArg w b ad n cap) (hn : 0 < n) :
    ∃ g off, ad = some ⟨g, off, none⟩ ∧ g < w.heap.size ∧ ∀ i, i < n → w.cell? ⟨g, off + i * 3, none⟩ = some (.string (b.recs.getD i rec0).key) ∧ w.cell? ⟨g, off + i * 3 + 1, none⟩ = some (.string (b.recs.getD i rec0).val) ∧ w.cell? ⟨g, off + i * 3 + 2, none⟩ = some (.bool (b.recs.getD i rec0).dead) := by
  have hl := h.len_eq
  obtain ⟨g, off, e, hb, hc⟩ := h.row.resolve_left (fun e => by rw [e] at hl; simp at hl; omega)
  exact ⟨g, off, e, hb, fun i hi => hc i (by omega)⟩
theorem getD_mem (rs : List Rec) (k : Nat) (h : k < rs.length) : rs.getD k rec0 ∈ rs := by
  rw [List.getD_eq_getElem?_getD, List.getElem?_eq_getElem h]; exact List.getElem_mem h
theorem take_snocR (rs : List Rec) (k : Nat) (h : k < rs.length) : rs.take (k + 1) = rs.take k ++ [rs.getD k rec0] := by
  rw [List.take_succ_eq_append_getElem h, List.getD_eq_getElem?_getD, List.getElem?_eq_getElem h]; rfl
theorem recsSize_append (rs ss : List Rec) : recsSize (rs ++ ss) = recsSize rs + recsSize ss := by
  induction rs with
  | nil => simp [recsSize]
  | cons r rs ih => rw [List.cons_append, recsSize, ih, recsSize]; omega
theorem recsSize_snoc (rs : List Rec) (k : Nat) (h : k < rs.length) : recsSize (rs.take (k + 1)) = recsSize (rs.take k) + (5 + (rs.getD k rec0).key.size + (rs.getD k rec0).val.size) := by
  rw [take_snocR rs k h, recsSize_append]; simp [recsSize]
theorem recsSize_le (rs : List Rec) (h : ∀ r ∈ rs, recOk r = true) : recsSize rs ≤ 5005 * rs.length := by
  induction rs with
  | nil => simp [recsSize]
  | cons r rs ih =>
    have h1 := ih (fun x hx => h x (by simp [hx]))
    have h2 := h r (by simp)
    simp only [recOk, Bool.and_eq_true, decide_eq_true_eq] at h2
    rw [recsSize, List.length_cons]; omega
theorem recsSize_take_le (rs : List Rec) (h : ∀ r ∈ rs, recOk r = true) (k : Nat) : recsSize (rs.take k) ≤ 5005 * rs.length := by
  have h1 := recsSize_le (rs.take k) (fun r hr => h r (List.mem_of_mem_take hr))
  have h2 : (rs.take k).length ≤ rs.length := by simp; omega
  omega

/-- In w the block B is a batch in a box. -/
def BBox (w : World) (B : Nat) (k p e s : Int) (t : Bool) (v : Value) : Prop := w.heap[B]? = some (.cells #[.int .i64 k, .int .i64 p, .int .i64 e, .int .i64 s, .bool t, v] 24 (0, 0))
theorem BBox.c0 {w : World} {B : Nat} {k p e s : Int} {t : Bool} {v : Value} (h : BBox w B k p e s t v) : w.cell? ⟨B, 0, none⟩ = some (.int .i64 k) := by rw [cell_of_row w B 0 _ _ _ h]; rfl
theorem BBox.c1 {w : World} {B : Nat} {k p e s : Int} {t : Bool} {v : Value} (h : BBox w B k p e s t v) : w.cell? ⟨B, 1, none⟩ = some (.int .i64 p) := by rw [cell_of_row w B 1 _ _ _ h]; rfl
theorem BBox.c2 {w : World} {B : Nat} {k p e s : Int} {t : Bool} {v : Value} (h : BBox w B k p e s t v) : w.cell? ⟨B, 2, none⟩ = some (.int .i64 e) := by rw [cell_of_row w B 2 _ _ _ h]; rfl
theorem BBox.c3 {w : World} {B : Nat} {k p e s : Int} {t : Bool} {v : Value} (h : BBox w B k p e s t v) : w.cell? ⟨B, 3, none⟩ = some (.int .i64 s) := by rw [cell_of_row w B 3 _ _ _ h]; rfl
theorem BBox.c4 {w : World} {B : Nat} {k p e s : Int} {t : Bool} {v : Value} (h : BBox w B k p e s t v) : w.cell? ⟨B, 4, none⟩ = some (.bool t) := by rw [cell_of_row w B 4 _ _ _ h]; rfl
theorem BBox.c5 {w : World} {B : Nat} {k p e s : Int} {t : Bool} {v : Value} (h : BBox w B k p e s t v) : w.cell? ⟨B, 5, none⟩ = some v := by rw [cell_of_row w B 5 _ _ _ h]; rfl
theorem BBox.new (w : World) (k p e s : Int) (t : Bool) (v : Value) : BBox (w.alloc (.cells #[.int .i64 k, .int .i64 p, .int .i64 e, .int .i64 s, .bool t, v] 24)) w.heap.size k p e s t v := heap_alloc_new w _
theorem BBox.lt {w : World} {B : Nat} {k p e s : Int} {t : Bool} {v : Value} (h : BBox w B k p e s t v) : B < w.heap.size := by
  rcases Nat.lt_or_ge B w.heap.size with hlt | hge
  · exact hlt
  · unfold BBox at h; rw [Array.getElem?_eq_none hge] at h; cases h
theorem BBox.later {w w' : World} {B : Nat} {k p e s : Int} {t : Bool} {v : Value} (h : BBox w B k p e s t v) (hb : Below w.heap.size w w') : BBox w' B k p e s t v := by
  unfold BBox; rw [hb.block B h.lt]; exact h

theorem BBox.drewN {w : World} {B : Nat} {k p e s : Int} {t : Bool} {v : Value} (h : BBox w B k p e s t v) (m : Nat) : BBox (w.drewN m) B k p e s t v := by
  induction m with
  | zero => exact h
  | succ m ih => exact ih
end Go.Proofs.Ytmkdkclakndkpaa

/- What the document's own Len and size (package ref) answer. -/
namespace Go.Proofs.Ytmkdkclakndkpaa
open Go.RowKit

theorem refLen_any (k p e s : Int) (t : Bool) (ad : Option Addr) (len cap : Nat) (w : World) :
    Calls Try.prog 14 #[.agg #[.int .i64 k, .int .i64 p, .int .i64 e, .int .i64 s, .bool t, .slice ad len cap]] w fun r w' => r = .returned (.int .i64 (if k == 2 || k == 3 then 1 else len)) ∧ Below w.heap.size w w' := by
  have b0 : Below w.heap.size w (w.alloc (.cells #[.int .i64 k, .int .i64 p, .int .i64 e, .int .i64 s, .bool t, .slice ad len cap] 24)) := (Below.refl _ _).alloc (Nat.le_refl _) _
  rcases (show k = 2 ∨ k = 3 ∨ (k ≠ 2 ∧ k ≠ 3) by omega) with rfl | rfl | ⟨h2, h3⟩
  · rw [show (if ((2 : Int) == 2 || (2 : Int) == 3) = true then (1 : Int) else len) = 1 from rfl]
    go_enter Try.func14, Try.ntmps14
    go_wp2
    go_ret
    exact ⟨rfl, b0⟩
  · rw [show (if ((3 : Int) == 2 || (3 : Int) == 3) = true then (1 : Int) else len) = 1 from rfl]
    go_enter Try.func14, Try.ntmps14
    go_wp2
    go_ret
    exact ⟨rfl, b0⟩
  · rw [show (if (k == 2 || k == 3) = true then (1 : Int) else len) = len by simp [h2, h3]]
    have hm : (k == 2 || k == 3) = false := by simp [h2, h3]
    go_enter Try.func14, Try.ntmps14
    go_wp2
    go_ret
    exact ⟨rfl, b0⟩

set_option maxHeartbeats 1000000 in
theorem refSize_any (k p e s : Int) (t : Bool) (rs : List Rec) (ad : Option Addr) (len cap : Nat) (w : World) (h : BArg w ⟨k, p, e, s, t, rs⟩ ad len cap) (hm : len ≤ 64) (hr : ∀ r ∈ rs, recOk r = true) :
    Calls Try.prog 24 #[.agg #[.int .i64 k, .int .i64 p, .int .i64 e, .int .i64 s, .bool t, .slice ad len cap]] w fun r w' => r = .returned (.int .i64 ((18 + recsSize rs : Nat) : Int)) ∧ Below w.heap.size w w' := by
  have b0 : Below w.heap.size w (w.alloc (.cells #[.int .i64 k, .int .i64 p, .int .i64 e, .int .i64 s, .bool t, .slice ad len cap] 24)) := (Below.refl _ _).alloc (Nat.le_refl _) _
  have x0 : Hid (BBox (w.alloc (.cells #[.int .i64 k, .int .i64 p, .int .i64 e, .int .i64 s, .bool t, .slice ad len cap] 24)) w.heap.size k p e s t (.slice ad len cap)) := BBox.new w k p e s t _
  have HA : Hid (BArg w ⟨k, p, e, s, t, rs⟩ ad len cap) := h
  have HL : Hid (rs.length = len) := h.len_eq
  have HR : Hid (∀ r ∈ rs, recOk r = true) := hr
  clear h hr
  go_enter Try.func24, Try.ntmps24
  go_wp2
  go_loopw [3, 4] (fun n i wr => ∃ j : Nat, j ≤ len ∧ i = .int .i64 j ∧ n = .int .i64 ((18 + recsSize (rs.take j) : Nat) : Int) ∧ Below w.heap.size w wr ∧ Hid (BBox wr w.heap.size k p e s t (.slice ad len cap))) (fun _ i _ => len - (intOf i).toNat)
  case atStart => exact ⟨0, Nat.zero_le _, rfl, rfl, b0, x0⟩
  case round =>
    clear b0 x0
    obtain ⟨j, hj, rfl, rfl, hb, hx⟩ := hrel
    have c5 := hx.out.c5
    have hz := recsSize_take_le rs HR.out j
    rw [HL.out] at hz
    by_cases hlt : j < len
    · obtain ⟨g, off, rfl, hg, hc⟩ := HA.out.cells (by omega)
      obtain ⟨q0, q1, q2⟩ := hc j hlt
      have r0 : wr.cell? ⟨g, off + j * 3, none⟩ = _ := (hb.cell (p := ⟨g, off + j * 3, none⟩) hg).trans q0
      have r1 : wr.cell? ⟨g, off + j * 3 + 1, none⟩ = _ := (hb.cell (p := ⟨g, off + j * 3 + 1, none⟩) hg).trans q1
      have HS : Hid _ := recsSize_snoc rs j (by rw [HL.out]; exact hlt)
      have ho := recOk_parts (HR.out _ (getD_mem rs j (by rw [HL.out]; exact hlt)))
      clear hc q0 q1 q2
      simp only at r0 r1
      generalize rs.getD j rec0 = r at *
      obtain ⟨o1, o2⟩ := ho
      go_wp2
      go_quiet (fail)
      go_wp2
      go_roundw
      case rel => exact ⟨j + 1, by omega, by go_num, val_int (by rw [HS.out]; omega), below_drewN' hb _, hx.out.drewN _⟩
      case measure => simp [intOf]; omega
    · obtain rfl : j = len := by omega
      have HV : Hid (rs.take j = rs) := List.take_of_length_le (by rw [HL.out]; omega)
      go_wp2
      go_ret
      exact ⟨by rw [show recsSize rs = recsSize (rs.take j) by rw [HV.out]]; rfl, hb⟩
end Go.Proofs.Ytmkdkclakndkpaa

/- What the document's own Check (package ref) answers where Kind, Producer, Epoch, InTxn or a marker's Seq may not be, and where there are too many or too few Records. -/
namespace Go.Proofs.Ytmkdkclakndkpaa
open Go.RowKit

theorem checkN_arg (b : Bat) (h : argOk b = false) : checkN b = 1 := by unfold checkN; rw [h]; rfl
theorem checkN_many (b : Bat) (h : argOk b = true) (h2 : manyOk b = false) : checkN b = 6 := by unfold checkN; rw [h, h2]; rfl
/-- What may not be in a batch, in the order in which it is asked. -/
theorem argOk_no (k p e s : Int) (t : Bool) (rs : List Rec) (h : argOk ⟨k, p, e, s, t, rs⟩ = false) :
    (k ≠ 1 ∧ k ≠ 2 ∧ k ≠ 3) ∨ (p = -1 ∧ (k = 2 ∨ k = 3 ∨ (k = 1 ∧ (e ≠ 0 ∨ (e = 0 ∧ s ≠ 0) ∨ (e = 0 ∧ s = 0 ∧ t = true))))) ∨
      (p ≠ -1 ∧ (k = 1 ∨ k = 2 ∨ k = 3) ∧ (p < 0 ∨ (0 ≤ p ∧ 281474976710656 ≤ p) ∨ (0 ≤ p ∧ p < 281474976710656 ∧ e < 0) ∨ (0 ≤ p ∧ p < 281474976710656 ∧ 0 ≤ e ∧ 2147483648 ≤ e) ∨
        (0 ≤ p ∧ p < 281474976710656 ∧ 0 ≤ e ∧ e < 2147483648 ∧ k ≠ 1 ∧ (s ≠ 0 ∨ (s = 0 ∧ t = true))))) := by
  by_cases hk : k = 1 ∨ k = 2 ∨ k = 3
  · right
    by_cases hp : p = -1
    · left
      refine ⟨hp, ?_⟩
      rcases hk with rfl | rfl | rfl
      · right; right
        refine ⟨rfl, ?_⟩
        by_cases h1 : e = 0
        · by_cases h2 : s = 0
          · cases t with
            | true => right; right; exact ⟨h1, h2, rfl⟩
            | false => simp [argOk, Bat.marker, hp, h1, h2] at h
          · right; left; exact ⟨h1, h2⟩
        · left; exact h1
      · left; rfl
      · right; left; rfl
    · right
      refine ⟨hp, hk, ?_⟩
      by_cases h1 : 0 ≤ p
      · by_cases h2 : p < 281474976710656
        · by_cases h3 : 0 ≤ e
          · by_cases h4 : e < 2147483648
            · right; right; right; right
              refine ⟨h1, h2, h3, h4, ?_⟩
              by_cases h5 : k = 1
              · subst h5; simp [argOk, Bat.marker, hp, h1, h2, h3, h4] at h
              · refine ⟨h5, ?_⟩
                by_cases h6 : s = 0
                · right
                  refine ⟨h6, ?_⟩
                  cases t with
                  | true => rfl
                  | false => rcases hk with rfl | rfl | rfl <;> simp [argOk, Bat.marker, hp, h1, h2, h3, h4, h6] at h
                · left; exact h6
            · right; right; right; left; exact ⟨h1, h2, h3, by omega⟩
          · right; right; left; exact ⟨h1, h2, by omega⟩
        · right; left; exact ⟨h1, by omega⟩
      · left; omega
  · left; omega

set_option maxHeartbeats 4000000 in
theorem refCheck_arg (k p e s : Int) (t : Bool) (rs : List Rec) (ad : Option Addr) (len cap : Nat) (w : World) (h : argOk ⟨k, p, e, s, t, rs⟩ = false) :
    Calls Try.prog 12 #[.agg #[.int .i64 k, .int .i64 p, .int .i64 e, .int .i64 s, .bool t, .slice ad len cap]] w fun r w' => r = .returned (.int .i64 1) ∧ Below w.heap.size w w' := by
  have b0 : Below w.heap.size w (w.alloc (.cells #[.int .i64 k, .int .i64 p, .int .i64 e, .int .i64 s, .bool t, .slice ad len cap] 24)) := (Below.refl _ _).alloc (Nat.le_refl _) _
  rcases argOk_no k p e s t rs h with ⟨h1, h2, h3⟩ | ⟨rfl, h4⟩ | ⟨h1, h2, h4⟩
  · clear h
    have hm : (k == 2 || k == 3) = false := by simp [h2, h3]
    have hk : (k == 1) = false := by simp [h1]
    go_enter Try.func12, Try.ntmps12
    go_wp2
    go_ret
    exact ⟨rfl, b0⟩
  · clear h
    rcases h4 with rfl | rfl | ⟨rfl, h4 | ⟨rfl, h4⟩ | ⟨rfl, rfl, rfl⟩⟩
    all_goals
      go_enter Try.func12, Try.ntmps12
      go_wp2
      go_ret
      exact ⟨rfl, b0⟩
  · clear h
    have hp : (p == -1) = false := by simp [h1]
    rcases h4 with h4 | ⟨h4, h5⟩ | ⟨h4, h5, h6⟩ | ⟨h4, h5, h6, h7⟩ | ⟨h4, h5, h6, h7, h8, h9 | ⟨rfl, rfl⟩⟩
    all_goals rcases h2 with rfl | rfl | rfl
    all_goals first
      | exact absurd rfl h8
      | (go_enter Try.func12, Try.ntmps12
         go_wp2
         go_ret
         exact ⟨rfl, b0⟩)
end Go.Proofs.Ytmkdkclakndkpaa

/- Records as cells; slices of Records that the call made; what is appended to them. -/
namespace Go.Proofs.Ytmkdkclakndkpaa
open Go.RowKit

/-- A Record's cells. -/
def recV (r : Rec) : List Value := [.string r.key, .string r.val, .bool r.dead]
def recsV : List Rec → List Value
  | [] => []
  | r :: rs => recV r ++ recsV rs
theorem recsV_length (rs : List Rec) : (recsV rs).length = rs.length * 3 := by
  induction rs with
  | nil => rfl
  | cons r rs ih => rw [recsV, List.length_append, ih, List.length_cons]; simp [recV]; omega
theorem recsV_append (rs ss : List Rec) : recsV (rs ++ ss) = recsV rs ++ recsV ss := by
  induction rs with
  | nil => rfl
  | cons r rs ih => rw [List.cons_append, recsV, ih, recsV, List.append_assoc]
theorem recsV_get (rs : List Rec) (i : Nat) (h : i < rs.length) :
    (recsV rs)[i * 3]? = some (.string (rs.getD i rec0).key) ∧ (recsV rs)[i * 3 + 1]? = some (.string (rs.getD i rec0).val) ∧ (recsV rs)[i * 3 + 2]? = some (.bool (rs.getD i rec0).dead) := by
  induction rs generalizing i with
  | nil => simp at h
  | cons r rs ih =>
    cases i with
    | zero => simp [recsV, recV]
    | succ i =>
      have h2 := ih i (by simp at h; omega)
      have e : (i + 1) * 3 = i * 3 + 3 := by omega
      rw [recsV, e]
      refine ⟨?_, ?_, ?_⟩
      · rw [List.getElem?_append_right (by simp [recV])]
        simpa [recV, List.getD_eq_getElem?_getD] using h2.1
      · rw [show i * 3 + 3 + 1 = (i * 3 + 1) + 3 by omega, List.getElem?_append_right (by simp [recV])]
        simpa [recV, List.getD_eq_getElem?_getD] using h2.2.1
      · rw [show i * 3 + 3 + 2 = (i * 3 + 2) + 3 by omega, List.getElem?_append_right (by simp [recV])]
        simpa [recV, List.getD_eq_getElem?_getD] using h2.2.2
theorem recsV_one (rs : List Rec) : ∀ u ∈ recsV rs, u.oneCell' = true := by
  induction rs with
  | nil => intro u hu; cases hu
  | cons r rs ih =>
    intro u hu
    rw [recsV, List.mem_append] at hu
    rcases hu with hu | hu
    · simp [recV] at hu
      rcases hu with rfl | rfl | rfl <;> rfl
    · exact ih u hu
theorem rrow_cells {w : World} {ad : Option Addr} {rs : List Rec} (h : RRow w ad rs) : ∀ a, ad = some a → ∀ j u, (recsV rs)[j]? = some u → w.cell? (a.add j) = some u := by
  intro a ha j u hu
  have hj : j < rs.length * 3 := by
    rw [← recsV_length]; exact (List.getElem?_eq_some_iff.1 hu).1
  rcases h with h | ⟨b, off, e, _, hc⟩
  · subst h; simp at hj
  · rw [ha] at e
    cases e
    obtain ⟨i, c, hi, hcc, rfl⟩ : ∃ i c, i < rs.length ∧ c < 3 ∧ j = i * 3 + c := ⟨j / 3, j % 3, by omega, by omega, by omega⟩
    obtain ⟨q0, q1, q2⟩ := hc i hi
    obtain ⟨g0, g1, g2⟩ := recsV_get rs i hi
    rw [addr_add]
    rcases (show c = 0 ∨ c = 1 ∨ c = 2 by omega) with rfl | rfl | rfl
    · rw [Nat.add_zero] at hu ⊢
      rw [q0, ← g0, hu]
    · rw [show off + (i * 3 + 1) = off + i * 3 + 1 by omega, q1, ← g1, hu]
    · rw [show off + (i * 3 + 2) = off + i * 3 + 2 by omega, q2, ← g2, hu]
theorem Try.infoR : (Try.prog.info? 51).map (fun i => (i.zero, i.size, i.bytes)) = some (some (.agg #[.string ByteArray.empty, .string ByteArray.empty, .bool false]), 3, 40) := by kernel_rfl
/-- In w the value v is a slice of the Records rs, in blocks from base on that the call made. -/
def OwnR (w : World) (base : Nat) (v : Value) (rs : List Rec) : Prop := w.ownsRow base 51 3 v rs.length (recsV rs)
theorem OwnR.form {w : World} {base : Nat} {v : Value} {rs : List Rec} (h : OwnR w base v rs) :
    ∃ ad cap, v = .slice ad rs.length cap ∧ (ad = none → rs.length = 0 ∧ cap = 0) ∧ rs.length ≤ cap ∧ cap ≤ maxLen ∧ RRow w ad rs := by
  rcases h.2 with ⟨hv, h0⟩ | ⟨g, cap, cur, hv, hb, hg, hn, hm, hs, ht⟩
  · exact ⟨none, 0, by rw [hv, h0], fun _ => ⟨h0, rfl⟩, by omega, by unfold maxLen; omega, Or.inl (List.eq_nil_of_length_eq_zero h0)⟩
  · refine ⟨some ⟨g, 0, none⟩, cap, hv, fun e => (by cases e), hn, hm, Or.inr ⟨g, 0, rfl, ?_, ?_⟩⟩
    · rcases Nat.lt_or_ge g w.heap.size with hlt | hge
      · exact hlt
      · rw [Array.getElem?_eq_none hge] at hg; cases hg
    · intro i hi
      have hc := World.ownsRow.cells h (g := g) (by rw [hv]; rfl)
      obtain ⟨g0, g1, g2⟩ := recsV_get rs i hi
      have c0 := hc _ _ g0
      have c1 := hc _ _ g1
      have c2 := hc _ _ g2
      rw [addr_add] at c0 c1 c2
      exact ⟨c0, by rw [show 0 + i * 3 + 1 = 0 + (i * 3 + 1) by omega]; exact c1, by rw [show 0 + i * 3 + 2 = 0 + (i * 3 + 2) by omega]; exact c2⟩
theorem OwnR.later {w w' : World} {base : Nat} {v : Value} {rs : List Rec} (h : OwnR w base v rs) (hb : Below w.heap.size w w') : OwnR w' base v rs := own_kept h hb
/-- 'append(v, x...)', v of the call's own, x whatever slice of Records. -/
theorem app_recs {w : World} {ops : Array Oper} {rest : List Oper} {o : Oper} {a : Act} {Q : Exit → Act → World → Prop} (hgd : o.guard = none) (s x : Operand)
    (ho : o.op = .call { callee := .builtin .append, args := #[s, x], argTypes := #[22, 22] })
    (base : Nat) (v : Value) (n : Nat) (L : List Rec) (hs : a.eval s = v) (hown : w.ownsRow base 51 3 v n (recsV L))
    (ad : Option Addr) (m c : Nat) (l : List Rec) (hx : a.eval x = .slice ad m c) (hl : l.length = m) (hnone : ad = none → m = 0 ∧ c = 0) (hrow : RRow w ad l)
    (hbytes : (n + m) * 40 ≤ 140737488355328) (hbase : base ≤ w.heap.size)
    (h : ∀ v' w', w'.ownsRow base 51 3 v' (n + m) (recsV (L ++ l)) → w.grownBy w' v.ownBlock → wpList Try.prog ops Q rest (a.put o.dst v') w') : wpList Try.prog ops Q (o :: rest) a w := by
  obtain ⟨i0, hi, hz0, hz1, hz2⟩ := info_parts Try.infoR
  cases ad with
  | none =>
    obtain ⟨rfl, rfl⟩ := hnone rfl
    obtain rfl : l = [] := List.eq_nil_of_length_eq_zero hl
    refine wpList_append_own_none hgd s x 22 ho base 51 i0 3 Try.underlying22 hi v n _ hs hown hx ?_
    exact h v w (by simpa using hown) (World.grownBy.refl _ _)
  | some ad =>
    refine wpList_append_own w hgd s x 22 ho base 51 i0 _ 3 40 Try.underlying22 hi hz0 hz1 hz2 rfl (by decide) v n _ hs hown ad m c (recsV l) hx (by rw [recsV_length, hl]) (rrow_cells hrow ad rfl) (recsV_one l) (by unfold maxLen; omega) hbytes hbase ?_
    intro v' w' h1 h2 _
    rw [← recsV_append] at h1
    exact h v' w' h1 h2
theorem emptyR_own (w : World) (base : Nat) (hb : base ≤ w.heap.size) : (w.alloc (.cells #[] 51)).ownsRow base 51 3 (.slice (some ⟨w.heap.size, 0, none⟩) 0 0) 0 (recsV []) :=
  World.ownsRow_lit w #[] 0 hb (by unfold maxLen; omega) rfl
end Go.Proofs.Ytmkdkclakndkpaa

/- Boxes that a call makes for a batch, and stores into them. -/
namespace Go.Proofs.Ytmkdkclakndkpaa
open Go.RowKit

/-- The first two boxes of a call that takes a batch and hands one back; an empty slice of Records behind them. -/
def w2 (w : World) (k p e s : Int) (t : Bool) (v : Value) : World := (w.alloc (.cells #[.int .i64 k, .int .i64 p, .int .i64 e, .int .i64 s, .bool t, v] 24)).alloc (.cells #[.int .i64 0, .int .i64 0, .int .i64 0, .int .i64 0, .bool false, .slice none 0 0] 24)
theorem w2_size (w : World) (k p e s : Int) (t : Bool) (v : Value) : (w2 w k p e s t v).heap.size = w.heap.size + 1 + 1 := by simp [w2]
theorem w2_below (w : World) (k p e s : Int) (t : Bool) (v : Value) : Below w.heap.size w (w2 w k p e s t v) := ((Below.refl _ _).alloc (Nat.le_refl _) _).alloc (by simp) _
theorem w2_box0 (w : World) (k p e s : Int) (t : Bool) (v : Value) : BBox (w2 w k p e s t v) w.heap.size k p e s t v :=
  (BBox.new w k p e s t v).later ((Below.refl _ _).alloc (Nat.le_refl _) _)
theorem w2_box1 (w : World) (k p e s : Int) (t : Bool) (v : Value) : BBox (w2 w k p e s t v) (w.heap.size + 1) 0 0 0 0 false (.slice none 0 0) := by
  have h := BBox.new (w.alloc (.cells #[.int .i64 k, .int .i64 p, .int .i64 e, .int .i64 s, .bool t, v] 24)) 0 0 0 0 false (.slice none 0 0)
  simpa [w2] using h
theorem BBox.free {w : World} {B : Nat} {k p e s : Int} {t : Bool} {v : Value} (h : BBox w B k p e s t v) (i : Nat) : w.frozen? ⟨B, i, none⟩ = false := by
  unfold BBox at h; simp [World.frozen?, h]
theorem BBox.grown {w w' : World} {B : Nat} {k p e s : Int} {t : Bool} {v : Value} {row : Option Nat} (h : BBox w B k p e s t v) (hg : w.grownBy w' row) (hne : some B ≠ row) : BBox w' B k p e s t v := by
  have := hg.block B h.lt hne
  unfold BBox at h ⊢
  rw [this]; exact h
theorem BBox.setOther {w : World} {B C : Nat} {k p e s : Int} {t : Bool} {v : Value} (h : BBox w B k p e s t v) (hne : B ≠ C) (i : Nat) (u : Value) : BBox (w.setCell ⟨C, i, none⟩ u) B k p e s t v := by
  unfold BBox
  rw [Below.heap_setCell _ _ _ _ (by exact hne)]
  exact h
theorem block_set {w : World} {g i : Nat} {cs : Array Value} {t : TypeId} {fr : Nat × Nat} (h : w.heap[g]? = some (.cells cs t fr)) (v : Value) : (w.setCell ⟨g, i, none⟩ v).heap[g]? = some (.cells (cs.setIfInBounds i v) t fr) := by
  rw [setCell_eq_setRow w g i cs t fr v h]
  exact setRow_heap w g _ _ t _ h
/-- A batch is stored in a box, cell by cell. -/
def set6 (w : World) (B : Nat) (k p e s : Int) (t : Bool) (v : Value) : World :=
  (((((w.setCell ⟨B, 0, none⟩ (.int .i64 k)).setCell ⟨B, 1, none⟩ (.int .i64 p)).setCell ⟨B, 2, none⟩ (.int .i64 e)).setCell ⟨B, 3, none⟩ (.int .i64 s)).setCell ⟨B, 4, none⟩ (.bool t)).setCell ⟨B, 5, none⟩ v
theorem BBox.set6 {w : World} {B : Nat} {k0 p0 e0 s0 : Int} {t0 : Bool} {v0 : Value} (h : BBox w B k0 p0 e0 s0 t0 v0) (k p e s : Int) (t : Bool) (v : Value) : BBox (set6 w B k p e s t v) B k p e s t v := by
  unfold BBox at *
  exact block_set (block_set (block_set (block_set (block_set (block_set h _) _) _) _) _) _
theorem set6_below {N : Nat} {w0 w : World} (h : Below N w0 w) {B : Nat} (hB : N ≤ B) (k p e s : Int) (t : Bool) (v : Value) : Below N w0 (set6 w B k p e s t v) :=
  (((((h.setCell (p := ⟨B, 0, none⟩) hB _).setCell (p := ⟨B, 1, none⟩) hB _).setCell (p := ⟨B, 2, none⟩) hB _).setCell (p := ⟨B, 3, none⟩) hB _).setCell (p := ⟨B, 4, none⟩) hB _).setCell (p := ⟨B, 5, none⟩) hB _
theorem own_set6 {w : World} {base e0 size n : Nat} {u : Value} {xs : List Value} (h : w.ownsRow base e0 size u n xs) {B : Nat} (hB : B < base) (k p e s : Int) (t : Bool) (v : Value) : (set6 w B k p e s t v).ownsRow base e0 size u n xs :=
  ownsRow_setCell_below (ownsRow_setCell_below (ownsRow_setCell_below (ownsRow_setCell_below (ownsRow_setCell_below (ownsRow_setCell_below h (a := ⟨B, 0, none⟩) hB _) (a := ⟨B, 1, none⟩) hB _) (a := ⟨B, 2, none⟩) hB _) (a := ⟨B, 3, none⟩) hB _) (a := ⟨B, 4, none⟩) hB _) (a := ⟨B, 5, none⟩) hB _
theorem OwnR.set6 {w : World} {base : Nat} {u : Value} {rs : List Rec} (h : OwnR w base u rs) {B : Nat} (hB : B < base) (k p e s : Int) (t : Bool) (v : Value) : OwnR (set6 w B k p e s t v) base u rs := own_set6 h hB k p e s t v
end Go.Proofs.Ytmkdkclakndkpaa

/- What batch.isLong and slices.ContainsFunc of it answer: whether a Record is beyond its limits. -/
namespace Go.Proofs.Ytmkdkclakndkpaa
open Go.RowKit

theorem isLong_any (r : Rec) (w : World) (h1 : r.key.size ≤ maxLen) (h2 : r.val.size ≤ maxLen) :
    Calls Try.prog 42 #[.agg #[.string r.key, .string r.val, .bool r.dead]] w fun e w' => e = .returned (.bool (!recOk r)) ∧ Below w.heap.size w w' := by
  have b0 : Below w.heap.size w (w.alloc (.cells #[.string r.key, .string r.val, .bool r.dead] 51)) := (Below.refl _ _).alloc (Nat.le_refl _) _
  obtain ⟨rk, rv, rd⟩ := r
  unfold recOk
  replace h1 : rk.size ≤ 9223372036854775807 := h1
  replace h2 : rv.size ≤ 9223372036854775807 := h2
  simp only at *
  by_cases h3 : rk.size ≤ 1000
  · have h7 : decide ((1000 : Int) < rk.size) = false := by simp; omega
    by_cases h4 : rv.size ≤ 4000
    · have h8 : decide ((4000 : Int) < rv.size) = false := by simp; omega
      cases rd with
      | true =>
        by_cases h5 : rv.size = 0
        · rw [show (!(decide (rk.size ≤ 1000) && decide (rv.size ≤ 4000) && !(true && rv.size != 0))) = false by simp [h3, h5]]
          go_enter Try.func42, Try.ntmps42
          go_wp2
          go_ret
          exact ⟨rfl, b0⟩
        · rw [show (!(decide (rk.size ≤ 1000) && decide (rv.size ≤ 4000) && !(true && rv.size != 0))) = true by simp [h3, h4, h5]]
          have h6 : 0 < rv.size := by omega
          go_enter Try.func42, Try.ntmps42
          go_wp2
          go_ret
          exact ⟨rfl, b0⟩
      | false =>
        rw [show (!(decide (rk.size ≤ 1000) && decide (rv.size ≤ 4000) && !(false && rv.size != 0))) = false by simp [h3, h4]]
        go_enter Try.func42, Try.ntmps42
        go_wp2
        go_ret
        exact ⟨rfl, b0⟩
    · rw [show (!(decide (rk.size ≤ 1000) && decide (rv.size ≤ 4000) && !(rd && rv.size != 0))) = true by simp [h3, h4]]
      have h6 : 4000 < rv.size := by omega
      go_enter Try.func42, Try.ntmps42
      go_wp2
      go_ret
      exact ⟨rfl, b0⟩
  · rw [show (!(decide (rk.size ≤ 1000) && decide (rv.size ≤ 4000) && !(rd && rv.size != 0))) = true by simp [h3]]
    have h6 : 1000 < rk.size := by omega
    go_enter Try.func42, Try.ntmps42
    go_wp2
    go_ret
    exact ⟨rfl, b0⟩
theorem all_snoc (rs : List Rec) (j : Nat) (h : j < rs.length) : (rs.take (j + 1)).all recOk = ((rs.take j).all recOk && recOk (rs.getD j rec0)) := by
  rw [take_snocR rs j h]; simp
theorem all_not (rs : List Rec) (j : Nat) (h : j < rs.length) (hr : recOk (rs.getD j rec0) = false) : rs.all recOk = false := by
  rw [Bool.eq_false_iff]
  intro e
  have := List.all_eq_true.1 e _ (getD_mem rs j h)
  rw [hr] at this; cases this
/-- The place of the first Record beyond its limits, or -1. -/
def longAt (q : Int) (rs : List Rec) : Prop := (q < 0 ∧ rs.all recOk = true) ∨ (0 ≤ q ∧ rs.all recOk = false)
set_option maxHeartbeats 1000000 in
theorem indexLong_any (b : Bat) (ad : Option Addr) (len cap : Nat) (w : World) (h : BArg w b ad len cap) :
    Calls Try.prog 55 #[.slice ad len cap, .func (.func 42) #[] #[]] w fun e w' => ∃ q, e = .returned (.int .i64 q) ∧ longAt q b.recs ∧ Below w.heap.size w w' := by
  obtain ⟨k, p, e, s, t, rs⟩ := b
  have HA : Hid (BArg w ⟨k, p, e, s, t, rs⟩ ad len cap) := h
  have HL : Hid (rs.length = len) := h.len_eq
  have hroom := h.le
  have hroom2 : cap ≤ 9223372036854775807 := h.room
  clear h
  go_enter Try.func55, Try.ntmps55
  go_wp2
  go_loopw [8] (fun i wr => ∃ j : Nat, j ≤ len ∧ i = .int .i64 j ∧ Hid ((rs.take j).all recOk = true) ∧ Below w.heap.size w wr) (fun i _ => len - (intOf i).toNat)
  case atStart => exact ⟨0, Nat.zero_le _, rfl, (show Hid _ from rfl), Below.refl _ _⟩
  case round =>
    obtain ⟨j, hj, rfl, HT, hb⟩ := hrel
    by_cases hlt : j < len
    · obtain ⟨g, off, rfl, hg, hc⟩ := HA.out.cells (by omega)
      obtain ⟨q0, q1, q2⟩ := hc j hlt
      have r0 : wr.cell? ⟨g, off + j * 3, none⟩ = _ := (hb.cell (p := ⟨g, off + j * 3, none⟩) hg).trans q0
      have r1 : wr.cell? ⟨g, off + j * 3 + 1, none⟩ = _ := (hb.cell (p := ⟨g, off + j * 3 + 1, none⟩) hg).trans q1
      have r2 : wr.cell? ⟨g, off + j * 3 + 2, none⟩ = _ := (hb.cell (p := ⟨g, off + j * 3 + 2, none⟩) hg).trans q2
      clear hc q0 q1 q2
      simp only at r0 r1 r2
      have HS : Hid ((rs.take (j + 1)).all recOk = ((rs.take j).all recOk && recOk (rs.getD j rec0))) := all_snoc rs j (by rw [HL.out]; exact hlt)
      have HN : Hid (recOk (rs.getD j rec0) = false → rs.all recOk = false) := all_not rs j (by rw [HL.out]; exact hlt)
      have HZ : Hid ((rs.getD j rec0).key.size ≤ maxLen ∧ (rs.getD j rec0).val.size ≤ maxLen) := HA.out.size _ (getD_mem rs j (by rw [HL.out]; exact hlt))
      generalize rs.getD j rec0 = r at *
      have HC := isLong_any r wr HZ.out.1 HZ.out.2
      cases hq : recOk r with
      | true =>
        rw [hq] at HC
        go_wp2_with (go_at_call 42; refine HC.mono ?_; rintro e w1 ⟨rfl, b1⟩)
        go_roundw
        case rel => exact ⟨j + 1, by omega, by go_num, (show Hid _ by rw [HS.out, HT.out, hq]; rfl), hb.trans (b1.mono hb.size)⟩
        case measure => simp [intOf]; omega
      | false =>
        rw [hq] at HC
        go_wp2_with (go_at_call 42; refine HC.mono ?_; rintro e w1 ⟨rfl, b1⟩)
        go_ret
        exact ⟨_, rfl, Or.inr ⟨by omega, HN.out hq⟩, hb.trans (b1.mono hb.size)⟩
    · obtain rfl : j = len := by omega
      go_wp2
      go_ret
      refine ⟨_, rfl, Or.inl ⟨by omega, ?_⟩, hb⟩
      have h := HT.out
      rw [List.take_of_length_le (by rw [HL.out]; exact Nat.le_refl _)] at h
      exact h
theorem containsLong_any (b : Bat) (ad : Option Addr) (len cap : Nat) (w : World) (h : BArg w b ad len cap) :
    Calls Try.prog 41 #[.slice ad len cap, .func (.func 42) #[] #[]] w fun e w' => e = .returned (.bool (!b.recs.all recOk)) ∧ Below w.heap.size w w' := by
  have HC := indexLong_any b ad len cap w h
  clear h
  go_enter Try.func41, Try.ntmps41
  go_wp2_with (go_at_call 55; refine HC.mono ?_; rintro e w1 ⟨q, rfl, hq, b1⟩)
  go_ret
  refine ⟨?_, b1⟩
  rcases hq with ⟨h1, h2⟩ | ⟨h1, h2⟩
  · rw [h2]; simp; omega
  · rw [h2]; simp; omega
end Go.Proofs.Ytmkdkclakndkpaa

/- The questions that package batch asks of a batch, and what the document says: the same. -/
namespace Go.Proofs.Ytmkdkclakndkpaa

/-- What the question number j answers of b. -/
def ansN (b : Bat) (j : Nat) : Bool :=
  match j with
  | 0 => b.kind != 1 && !b.marker
  | 1 => if b.prod == -1 then b.marker else decide (b.prod < 0) || decide (281474976710656 ≤ b.prod)
  | 2 => if b.prod == -1 then b.epoch != 0 else decide (b.epoch < 0) || decide (2147483647 < b.epoch)
  | 3 => b.txn && (b.marker || b.prod == -1)
  | 4 => b.seq != 0 && (b.marker || b.prod == -1)
  | 5 => if b.marker then decide ((0 : Int) < b.recs.length) else decide ((b.recs.length : Int) < 1) || decide ((64 : Int) < b.recs.length)
  | 6 => !b.recs.all recOk
  | 7 => decide (b.seq < 0) || decide (2147483648 - lenN b < b.seq)
  | _ => decide ((65536 : Int) < (sizeN b : Int))
/-- Its error. -/
def errN (j : Nat) : Int := if j < 5 then 1 else if j = 7 then 53 else 6
theorem ans_arg (b : Bat) : argOk b = (!ansN b 0 && !ansN b 1 && !ansN b 2 && !ansN b 3 && !ansN b 4) := by
  obtain ⟨k, p, e, s, t, rs⟩ := b
  simp only [argOk, ansN, Bat.marker]
  generalize hm : (k == 2 || k == 3) = m
  by_cases hp : p = -1
  · subst hp
    cases t <;> cases m <;> cases h1 : (k == 1) <;> cases h2 : (e == 0) <;> cases h3 : (s == 0) <;> simp_all
  · have hp' : (p == -1) = false := by simpa using hp
    rw [hp']
    by_cases h0 : p < 0
    · have : ¬ (0 ≤ p) := by omega
      simp [h0, this]
    · by_cases h1 : 281474976710656 ≤ p
      · have : ¬ (p < 281474976710656) := by omega
        simp [h1, this]
      · by_cases h2 : e < 0
        · have : ¬ (0 ≤ e) := by omega
          simp [h2, this]
        · by_cases h3 : 2147483647 < e
          · have : ¬ (e < 2147483648) := by omega
            simp [h3, this]
          · have a0 : 0 ≤ p := by omega
            have a1 : p < 281474976710656 := by omega
            have a2 : 0 ≤ e := by omega
            have a3 : e < 2147483648 := by omega
            cases t <;> cases m <;> cases h1 : (k == 1) <;> cases h3 : (s == 0) <;> simp_all
theorem ans_many (b : Bat) : manyOk b = !ansN b 5 := by
  simp only [manyOk, ansN]
  generalize b.recs.length = n
  cases b.marker
  · simp only [Bool.false_eq_true, if_false]
    by_cases h1 : n = 0
    · subst h1; rfl
    · by_cases h2 : n ≤ 64
      · have h3 : ¬ ((n : Int) < 1) := by omega
        have h4 : ¬ ((64 : Int) < n) := by omega
        simp [h1, h2, h3, h4]
      · have h4 : (64 : Int) < n := by omega
        simp [h2, h4]
  · simp only [if_true]
    cases n with
    | zero => rfl
    | succ n =>
      have h3 : (0 : Int) < ((n + 1 : Nat) : Int) := by omega
      simp only [decide_eq_true h3]; rfl
theorem ans_seq (b : Bat) : seqOk b = !ansN b 7 := by
  simp only [seqOk, ansN]
  rw [Bool.eq_iff_iff]; simp
theorem ans_all (b : Bat) : b.recs.all recOk = !ansN b 6 := by simp [ansN]
theorem ans_size (b : Bat) : decide (sizeN b ≤ 65536) = !ansN b 8 := by
  simp only [ansN]
  rw [Bool.eq_iff_iff]; simp; omega
/-- The first question that is answered yes has the error. -/
theorem check_hit (b : Bat) (j : Nat) (hj : j < 9) (h0 : ∀ i, i < j → ansN b i = false) (h : ansN b j = true) : checkN b = errN j := by
  have h1 := ans_arg b
  have h2 := ans_many b
  have h3 := ans_seq b
  have h4 := ans_all b
  have h5 := ans_size b
  unfold checkN
  rcases (show j = 0 ∨ j = 1 ∨ j = 2 ∨ j = 3 ∨ j = 4 ∨ j = 5 ∨ j = 6 ∨ j = 7 ∨ j = 8 by omega) with rfl | rfl | rfl | rfl | rfl | rfl | rfl | rfl | rfl
  · simp [h1, h, errN]
  · simp [h1, h, errN]
  · simp [h1, h, errN]
  · simp [h1, h, errN]
  · simp [h1, h, errN]
  · simp [h1, h2, h, h0, errN]
  · simp [h1, h2, h4, h, h0, errN]
  · simp [h1, h2, h3, h4, h, h0, errN]
  · rw [h] at h5
    have h6 : ¬ sizeN b ≤ 65536 := by simpa using h5
    simp [h1, h2, h3, h4, h6, h0, errN]
theorem check_none (b : Bat) (h0 : ∀ i, i < 9 → ansN b i = false) : checkN b = 0 := by
  have h1 := ans_arg b
  have h2 := ans_many b
  have h3 := ans_seq b
  have h4 := ans_all b
  have h5 := ans_size b
  rw [h0 8 (by omega)] at h5
  have h6 : sizeN b ≤ 65536 := by simpa using h5
  unfold checkN
  simp [h1, h2, h3, h4, h6, h0]
end Go.Proofs.Ytmkdkclakndkpaa

/- What the document's own Check (package ref) answers: checkN. -/
namespace Go.Proofs.Ytmkdkclakndkpaa
open Go.RowKit

/-- What argOk says, as the walk asks it. -/
theorem argOk_yes (k p e s : Int) (t : Bool) (rs : List Rec) (h : argOk ⟨k, p, e, s, t, rs⟩ = true) :
    (k = 1 ∧ p = -1 ∧ e = 0 ∧ s = 0 ∧ t = false) ∨ (k = 1 ∧ 0 ≤ p ∧ p < 281474976710656 ∧ 0 ≤ e ∧ e < 2147483648) ∨ ((k = 2 ∨ k = 3) ∧ 0 ≤ p ∧ p < 281474976710656 ∧ 0 ≤ e ∧ e < 2147483648 ∧ s = 0 ∧ t = false) := by
  simp only [argOk, Bat.marker] at h
  by_cases hp : p = -1
  · subst hp
    left
    rcases (show k = 1 ∨ k = 2 ∨ k = 3 ∨ (k ≠ 1 ∧ k ≠ 2 ∧ k ≠ 3) by omega) with rfl | rfl | rfl | ⟨h1, h2, h3⟩
    · simp at h; exact ⟨rfl, rfl, h.1.1, h.1.2, h.2⟩
    · simp at h
    · simp at h
    · simp [h1, h2, h3] at h
  · right
    have hp' : (p == -1) = false := by simpa using hp
    rw [hp'] at h
    rcases (show k = 1 ∨ k = 2 ∨ k = 3 ∨ (k ≠ 1 ∧ k ≠ 2 ∧ k ≠ 3) by omega) with rfl | rfl | rfl | ⟨h1, h2, h3⟩
    · left; simp at h; exact ⟨rfl, h.1.1.1, h.1.1.2, h.1.2, h.2⟩
    · right; simp at h; exact ⟨Or.inl rfl, h.1.1.1.1, h.1.1.1.2, h.1.1.2, h.1.2, h.2.1, h.2.2⟩
    · right; simp at h; exact ⟨Or.inr rfl, h.1.1.1.1, h.1.1.1.2, h.1.1.2, h.1.2, h.2.1, h.2.2⟩
    · simp [h1, h2, h3] at h
set_option maxHeartbeats 2000000 in
theorem refCheck_many (k p e s : Int) (t : Bool) (rs : List Rec) (ad : Option Addr) (len cap : Nat) (w : World) (hl : rs.length = len) (h : argOk ⟨k, p, e, s, t, rs⟩ = true) (h2 : manyOk ⟨k, p, e, s, t, rs⟩ = false) :
    Calls Try.prog 12 #[.agg #[.int .i64 k, .int .i64 p, .int .i64 e, .int .i64 s, .bool t, .slice ad len cap]] w fun r w' => r = .returned (.int .i64 6) ∧ Below w.heap.size w w' := by
  have b0 : Below w.heap.size w (w.alloc (.cells #[.int .i64 k, .int .i64 p, .int .i64 e, .int .i64 s, .bool t, .slice ad len cap] 24)) := (Below.refl _ _).alloc (Nat.le_refl _) _
  have h3 := argOk_yes k p e s t rs h
  clear h
  simp only [manyOk, Bat.marker, hl] at h2
  rcases h3 with ⟨rfl, rfl, rfl, rfl, rfl⟩ | ⟨rfl, a1, a2, a3, a4⟩ | ⟨rfl | rfl, a1, a2, a3, a4, rfl, rfl⟩
  · have h5 : len = 0 ∨ 64 < len := by simp at h2; omega
    rcases h5 with rfl | h5
    all_goals
      go_enter Try.func12, Try.ntmps12
      go_wp2
      go_ret
      exact ⟨rfl, b0⟩
  · have h5 : len = 0 ∨ 64 < len := by simp at h2; omega
    have hp : (p == -1) = false := by simp; omega
    rcases h5 with rfl | h5
    all_goals
      go_enter Try.func12, Try.ntmps12
      go_wp2
      go_ret
      exact ⟨rfl, b0⟩
  all_goals
    have h5 : 0 < len := by simp at h2; omega
    have hp : (p == -1) = false := by simp; omega
    go_enter Try.func12, Try.ntmps12
    go_wp2
    go_ret
    exact ⟨rfl, b0⟩
end Go.Proofs.Ytmkdkclakndkpaa
