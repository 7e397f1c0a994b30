/- Laws on slices of bytes in memory: what is appended to them, what they are as texts, what owns what. -/
import Derived.Test.YthfildanpcmfaabJoin
import Derived.Laws.AppendOwnNone
import Derived.Laws.BytesArg
import Derived.Deep.AppendLies
namespace Go.Proofs.Ythfildanpcmfaab
open Go.RowKit Crcm

/-- The text of some bytes. -/
def bstr (l : List Nat) : ByteArray := strOfNums (l.map Int.ofNat)

theorem Own.form {w : World} {base : Nat} {v : Value} {l : List Nat} (h : Own w base v l) :
    ∃ ad cap, v = .slice ad l.length cap ∧ (ad = none → l.length = 0 ∧ cap = 0) ∧ l.length ≤ cap ∧ cap ≤ maxLen ∧ Row w ad l := by
  rcases h.2.2 with ⟨hv, h0⟩ | ⟨g, cap, cur, hv, hb, hg, hn, hm, hs, ht⟩
  · refine ⟨none, 0, by rw [hv, h0], fun _ => ⟨h0, rfl⟩, by omega, by unfold maxLen; omega, h.1, Or.inl (List.eq_nil_of_length_eq_zero h0)⟩
  · refine ⟨some ⟨g, 0, none⟩, cap, hv, fun e => (by cases e), hn, hm, h.1, Or.inr ⟨g, 0, rfl, ?_, ?_⟩⟩
    · rcases Nat.lt_or_ge g w.heap.size with hlt | hge
      · exact hlt
      · rw [Array.getElem?_eq_none hge] at hg; cases hg
    · intro i hi
      have h2 := h.2
      rw [hv] at h2
      have e := h2.cellAt i (by omega)
      rw [Nat.zero_add, e, List.getElem?_map, List.getElem?_eq_getElem hi, List.getD_eq_getElem?_getD, List.getElem?_eq_getElem hi]
      rfl
theorem Own.nil (w : World) (base : Nat) : Own w base (.slice none 0 0) [] := ⟨fun _ h => (by cases h), World.ownsRow_nil _ _ _ _⟩
theorem Own.later {w w' : World} {base : Nat} {v : Value} {l : List Nat} (h : Own w base v l) (hb : Below w.heap.size w w') : Own w' base v l := by
  refine ⟨h.1, h.2.1, ?_⟩
  rcases h.2.2 with h2 | ⟨g, cap, cur, hv, hgb, hg, r⟩
  · exact Or.inl h2
  · refine Or.inr ⟨g, cap, cur, hv, hgb, ?_, r⟩
    rw [hb.block g ?_]
    · exact hg
    · rcases Nat.lt_or_ge g w.heap.size with hlt | hge
      · exact hlt
      · rw [Array.getElem?_eq_none hge] at hg; cases hg
theorem Own.down {w : World} {base base' : Nat} {v : Value} {l : List Nat} (h : Own w base v l) (hb : base' ≤ base) : Own w base' v l := by
  refine ⟨h.1, h.2.1, ?_⟩
  rcases h.2.2 with h2 | ⟨g, cap, cur, hv, hgb, r⟩
  · exact Or.inl h2
  · exact Or.inr ⟨g, cap, cur, hv, Nat.le_trans hb hgb, r⟩

theorem Own.slice {w : World} {base : Nat} {v : Value} {l : List Nat} (h : Own w base v l) (n : Nat) (hn : l.length = n) :
    ∃ ad cap, v = .slice ad n cap ∧ Part.ok w ⟨ad, n, cap, l⟩ ∧ n ≤ cap ∧ cap ≤ maxLen := by
  subst hn
  obtain ⟨ad, cap, hv, h1, h2, h3, h4⟩ := h.form
  exact ⟨ad, cap, hv, ⟨rfl, h1, h4⟩, h2, h3⟩
theorem Own.slice_n {w : World} {base n : Nat} {v : Value} {l : List Nat} (h : (∀ x ∈ l, x < 256) ∧ w.ownsRow base 5 1 v l.length (l.map bv)) (hn : l.length = n) :
    ∃ ad cap, v = .slice ad n cap ∧ Part.ok w ⟨ad, n, cap, l⟩ ∧ n ≤ cap ∧ cap ≤ maxLen := Own.slice h n hn
theorem Part.ok.cells {w : World} {ad : Option Addr} {n cap : Nat} {l : List Nat} (h : Part.ok w ⟨ad, n, cap, l⟩) (hn : 0 < n) :
    ∃ b off, ad = some ⟨b, off, none⟩ ∧ b < w.heap.size ∧ ∀ i, i < n → w.cell? ⟨b, off + i, none⟩ = some (.int .u8 (l.getD i 0 : Nat)) := by
  have hl : l.length = n := h.1
  obtain ⟨b, off, e, hb, hc⟩ := h.2.2.2.resolve_left (fun e => by have e2 : l = [] := e; rw [e2] at hl; simp at hl; omega)
  exact ⟨b, off, e, hb, fun i hi => hc i (by show i < l.length; omega)⟩

/-- 'append(v, x...)', v of the call's own, x whatever slice of bytes. -/
theorem app_any {w : World} {ops : Array Oper} {rest : List Oper} {o : Oper} {a : Act} {Q : Exit → Act → World → Prop} (hgd : o.guard = none) (s x : Operand)
    (ho : o.op = .call { callee := .builtin .append, args := #[s, x], argTypes := #[22, 22] })
    (base : Nat) (v : Value) (n : Nat) (L : List Nat) (hs : a.eval s = v) (hown : w.ownsRow base 5 1 v n (L.map bv))
    (ad : Option Addr) (m c : Nat) (l : List Nat) (hx : a.eval x = .slice ad m c) (hl : l.length = m) (hnone : ad = none → m = 0 ∧ c = 0) (hrow : Row w ad l)
    (hbytes : n + m ≤ 140737488355328) (hbase : base ≤ w.heap.size)
    (h : ∀ v' w', w'.ownsRow base 5 1 v' (n + m) ((L ++ l).map bv) → w.grownBy w' v.ownBlock → wpList Try.prog ops Q rest (a.put o.dst v') w') : wpList Try.prog ops Q (o :: rest) a w := by
  obtain ⟨i0, hi, hz0, hz1, hz2⟩ := info_parts Try.info5
  cases ad with
  | none =>
    obtain ⟨rfl, rfl⟩ := hnone rfl
    obtain rfl : l = [] := List.eq_nil_of_length_eq_zero hl
    refine wpList_append_own_none hgd s x 22 ho base 5 i0 1 Try.underlying22 hi v n _ hs hown hx ?_
    exact h v w (by simpa using hown) (World.grownBy.refl _ _)
  | some ad =>
    refine wpList_append_own w hgd s x 22 ho base 5 i0 (.int .u8 0) 1 1 Try.underlying22 hi hz0 hz1 hz2 rfl (by decide) v n _ hs hown ad m c (l.map bv) hx (by simp [hl]) (row_cells hrow ad rfl) (bv_one l) (by unfold maxLen; omega) (by omega) hbase ?_
    intro v' w' h1 h2 _
    rw [← List.map_append] at h1
    exact h v' w' h1 h2

/-- Bytes as a text. -/
theorem conv_any {w : World} {ad : Option Addr} {l : List Nat} (hrow : Row w ad l) (len cap : Nat) (hlen : l.length = len) :
    (convert 22 9 (.slice ad len cap)).run Try.prog w = .ok (.string (bstr l)) w := by
  rcases hrow.2 with rfl | ⟨b, off, rfl, _, hc⟩
  · obtain rfl : len = 0 := by simpa using hlen.symm
    rw [run_convert_bytes_string w 22 9 5 _ 0 cap Try.underlying22 Try.underlying5 Try.underlying9]
    cases ad with
    | none => simp [Conv.bytesToString, bstr, strOfNums]; rfl
    | some a =>
      rw [run_bytesToString w a 0 cap [] (by rfl)]
      rfl
  · refine run_convert_bytes_arg w 22 5 Try.underlying22 Try.underlying5 b off len cap _ (by simpa using hlen) ?_ 9 Try.underlying9
    intro i hi
    rw [hc i (by omega), List.getD_eq_getElem?_getD, List.getD_eq_getElem?_getD, List.getElem?_map, List.getElem?_eq_getElem (by omega)]
    rfl
end Go.Proofs.Ythfildanpcmfaab
