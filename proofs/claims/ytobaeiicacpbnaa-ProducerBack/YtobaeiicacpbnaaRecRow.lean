/- Slices of Records in memory; a batch as a value. -/
import Derived.Test.YtobaeiicacpbnaaBatchN
namespace Go.Proofs.Ytobaeiicacpbnaa
open Go.RowKit

/-- A Record of nothing. -/
def rec0 : Rec := ⟨bstr [], bstr [], false⟩
/-- In w the Records rs lie from the address ad on. -/
def RRow (w : World) (ad : Option Addr) (rs : List Rec) : Prop :=
  rs = [] ∨ ∃ b off, ad = some ⟨b, off, none⟩ ∧ b < w.heap.size ∧ ∀ i, i < rs.length →
    w.cell? ⟨b, off + i * 3, none⟩ = some (.string (rs.getD i rec0).key) ∧ w.cell? ⟨b, off + i * 3 + 1, none⟩ = some (.string (rs.getD i rec0).val) ∧ w.cell? ⟨b, off + i * 3 + 2, none⟩ = some (.bool (rs.getD i rec0).dead)
theorem RRow.later {w w' : World} {ad : Option Addr} {rs : List Rec} (h : RRow w ad rs) (hb : Below w.heap.size w w') : RRow w' ad rs := by
  rcases h with h | ⟨b, off, e, hs, hc⟩
  · exact Or.inl h
  · refine Or.inr ⟨b, off, e, Nat.lt_of_lt_of_le hs hb.size, fun i hi => ?_⟩
    rw [hb.cell (p := ⟨b, off + i * 3, none⟩) hs, hb.cell (p := ⟨b, off + i * 3 + 1, none⟩) hs, hb.cell (p := ⟨b, off + i * 3 + 2, none⟩) hs]
    exact hc i hi
/-- A batch in memory: what its slice of Records is. -/
structure BArg (w : World) (b : Bat) (ad : Option Addr) (len cap : Nat) : Prop where
  len_eq : b.recs.length = len
  nil : ad = none → len = 0 ∧ cap = 0
  le : len ≤ cap
  room : cap ≤ maxLen
  row : RRow w ad b.recs
  size : ∀ r ∈ b.recs, r.key.size ≤ maxLen ∧ r.val.size ≤ maxLen
theorem BArg.later {w w' : World} {b : Bat} {ad : Option Addr} {len cap : Nat} (h : BArg w b ad len cap) (hb : Below w.heap.size w w') : BArg w' b ad len cap :=
  ⟨h.1, h.2, h.3, h.4, h.5.later hb, h.6⟩
theorem BArg.cells {w : World} {b : Bat} {ad : Option Addr} {n cap : Nat} (h : BArg w b ad n cap) (hn : 0 < n) :
    ∃ g off, ad = some ⟨g, off, none⟩ ∧ g < w.heap.size ∧ ∀ i, i < n → w.cell? ⟨g, off + i * 3, none⟩ = some (.string (b.recs.getD i rec0).key) ∧ w.cell? ⟨g, off + i * 3 + 1, none⟩ = some (.string (b.recs.getD i rec0).val) ∧ w.cell? ⟨g, off + i * 3 + 2, none⟩ = some (.bool (b.recs.getD i rec0).dead) := by
  have hl := h.len_eq
  obtain ⟨g, off, e, hb, hc⟩ := h.row.resolve_left (fun e => by rw [e] at hl; simp at hl; omega)
  exact ⟨g, off, e, hb, fun i hi => hc i (by omega)⟩
theorem getD_mem (rs : List Rec) (k : Nat) (h : k < rs.length) : rs.getD k rec0 ∈ rs := by
  rw [List.getD_eq_getElem?_getD, List.getElem?_eq_getElem h]; exact List.getElem_mem h
theorem take_snocR (rs : List Rec) (k : Nat) (h : k < rs.length) : rs.take (k + 1) = rs.take k ++ [rs.getD k rec0] := by
  rw [List.take_succ_eq_append_getElem h, List.getD_eq_getElem?_getD, List.getElem?_eq_getElem h]; rfl
theorem recsSize_append (rs ss : List Rec) : recsSize (rs ++ ss) = recsSize rs + recsSize ss := by
  induction rs with
  | nil => simp [recsSize]
  | cons r rs ih => rw [List.cons_append, recsSize, ih, recsSize]; omega
theorem recsSize_snoc (rs : List Rec) (k : Nat) (h : k < rs.length) : recsSize (rs.take (k + 1)) = recsSize (rs.take k) + (5 + (rs.getD k rec0).key.size + (rs.getD k rec0).val.size) := by
  rw [take_snocR rs k h, recsSize_append]; simp [recsSize]
theorem recsSize_le (rs : List Rec) (h : ∀ r ∈ rs, recOk r = true) : recsSize rs ≤ 5005 * rs.length := by
  induction rs with
  | nil => simp [recsSize]
  | cons r rs ih =>
    have h1 := ih (fun x hx => h x (by simp [hx]))
    have h2 := h r (by simp)
    simp only [recOk, Bool.and_eq_true, decide_eq_true_eq] at h2
    rw [recsSize, List.length_cons]; omega
theorem recsSize_take_le (rs : List Rec) (h : ∀ r ∈ rs, recOk r = true) (k : Nat) : recsSize (rs.take k) ≤ 5005 * rs.length := by
  have h1 := recsSize_le (rs.take k) (fun r hr => h r (List.mem_of_mem_take hr))
  have h2 : (rs.take k).length ≤ rs.length := by simp; omega
  omega

/-- In w the block B is a batch in a box. -/
def BBox (w : World) (B : Nat) (k p e s : Int) (t : Bool) (v : Value) : Prop := w.heap[B]? = some (.cells #[.int .i64 k, .int .i64 p, .int .i64 e, .int .i64 s, .bool t, v] 33 (0, 0))
theorem BBox.c0 {w : World} {B : Nat} {k p e s : Int} {t : Bool} {v : Value} (h : BBox w B k p e s t v) : w.cell? ⟨B, 0, none⟩ = some (.int .i64 k) := by rw [cell_of_row w B 0 _ _ _ h]; rfl
theorem BBox.c1 {w : World} {B : Nat} {k p e s : Int} {t : Bool} {v : Value} (h : BBox w B k p e s t v) : w.cell? ⟨B, 1, none⟩ = some (.int .i64 p) := by rw [cell_of_row w B 1 _ _ _ h]; rfl
theorem BBox.c2 {w : World} {B : Nat} {k p e s : Int} {t : Bool} {v : Value} (h : BBox w B k p e s t v) : w.cell? ⟨B, 2, none⟩ = some (.int .i64 e) := by rw [cell_of_row w B 2 _ _ _ h]; rfl
theorem BBox.c3 {w : World} {B : Nat} {k p e s : Int} {t : Bool} {v : Value} (h : BBox w B k p e s t v) : w.cell? ⟨B, 3, none⟩ = some (.int .i64 s) := by rw [cell_of_row w B 3 _ _ _ h]; rfl
theorem BBox.c4 {w : World} {B : Nat} {k p e s : Int} {t : Bool} {v : Value} (h : BBox w B k p e s t v) : w.cell? ⟨B, 4, none⟩ = some (.bool t) := by rw [cell_of_row w B 4 _ _ _ h]; rfl
theorem BBox.c5 {w : World} {B : Nat} {k p e s : Int} {t : Bool} {v : Value} (h : BBox w B k p e s t v) : w.cell? ⟨B, 5, none⟩ = some v := by rw [cell_of_row w B 5 _ _ _ h]; rfl
theorem BBox.new (w : World) (k p e s : Int) (t : Bool) (v : Value) : BBox (w.alloc (.cells #[.int .i64 k, .int .i64 p, .int .i64 e, .int .i64 s, .bool t, v] 33)) w.heap.size k p e s t v := heap_alloc_new w _
theorem BBox.lt {w : World} {B : Nat} {k p e s : Int} {t : Bool} {v : Value} (h : BBox w B k p e s t v) : B < w.heap.size := by
  rcases Nat.lt_or_ge B w.heap.size with hlt | hge
  · exact hlt
  · unfold BBox at h; rw [Array.getElem?_eq_none hge] at h; cases h
theorem BBox.later {w w' : World} {B : Nat} {k p e s : Int} {t : Bool} {v : Value} (h : BBox w B k p e s t v) (hb : Below w.heap.size w w') : BBox w' B k p e s t v := by
  unfold BBox; rw [hb.block B h.lt]; exact h

theorem BBox.drewN {w : World} {B : Nat} {k p e s : Int} {t : Bool} {v : Value} (h : BBox w B k p e s t v) (m : Nat) : BBox (w.drewN m) B k p e s t v := by
  induction m with
  | zero => exact h
  | succ m ih => exact ih
end Go.Proofs.Ytobaeiicacpbnaa
