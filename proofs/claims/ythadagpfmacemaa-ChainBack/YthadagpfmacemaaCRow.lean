/- Parts in memory. -/
import Derived.Test.YthadagpfmacemaaCN
namespace Go.Proofs.Ythadagpfmacemaa
open Go.RowKit
variable {w w' : World} {l : List Pt} {ad : Option Addr} {m c : Nat}

/-- A slice, wherever it lies. -/
structure Sl where
  ad : Option Addr
  m : Nat
  c : Nat
/-- The parts l lie as a slice; A: where the nodes of each lie. -/
structure CArg (w : World) (l : List Pt) (A : Nat → Sl) (ad : Option Addr) (m c : Nat) : Prop where
  len : l.length = m
  nil : ad = none → m = 0 ∧ c = 0
  cap : m ≤ c
  room : c ≤ maxLen
  row : m = 0 ∨ ∃ b off, ad = some ⟨b, off, none⟩ ∧ b < w.heap.size ∧ ∀ i, i < m → w.cell? ⟨b, off + i * 3, none⟩ = some (.int .i64 (ptAt l i).first) ∧ w.cell? ⟨b, off + i * 3 + 1, none⟩ = some (.int .i64 (ptAt l i).id) ∧ w.cell? ⟨b, off + i * 3 + 2, none⟩ = some (.slice (A i).ad (A i).m (A i).c)
  ints : ∀ i, i < m → Ints w (ptAt l i).nodes (A i).ad (A i).m (A i).c ∧ ((A i).ad = none → (A i).m = 0 ∧ (A i).c = 0)
  rng : ∀ i, i < m → (-9223372036854775808 ≤ (ptAt l i).first ∧ (ptAt l i).first ≤ 9223372036854775807) ∧ (-9223372036854775808 ≤ (ptAt l i).id ∧ (ptAt l i).id ≤ 9223372036854775807)
variable {A : Nat → Sl}
theorem CArg.later (h : CArg w l A ad m c) (hb : Below w.heap.size w w') : CArg w' l A ad m c := by
  refine ⟨h.len, h.nil, h.cap, h.room, ?_, fun i hi => ⟨(h.ints i hi).1.later hb, (h.ints i hi).2⟩, h.rng⟩
  rcases h.row with h0 | ⟨b, off, e, hs, hc⟩
  · exact Or.inl h0
  · refine Or.inr ⟨b, off, e, Nat.lt_of_lt_of_le hs hb.size, fun i hi => ?_⟩
    rw [hb.cell (p := ⟨b, off + i * 3, none⟩) hs, hb.cell (p := ⟨b, off + i * 3 + 1, none⟩) hs, hb.cell (p := ⟨b, off + i * 3 + 2, none⟩) hs]
    exact hc i hi
/-- What holds of all blocks that a slice of parts lies in. -/
structure CBlk (Q : Nat → Prop) (A : Nat → Sl) (ad : Option Addr) (m : Nat) : Prop where
  row : m ≠ 0 → ∀ b off, ad = some ⟨b, off, none⟩ → Q b
  ints : ∀ i, i < m → (A i).m ≠ 0 → ∀ b off, (A i).ad = some ⟨b, off, none⟩ → Q b
theorem Ints.chg {l : List Int} {F : List Nat} (h : Ints w l ad m c) (hb : Chg F w w') (hn : m ≠ 0 → ∀ b off, ad = some ⟨b, off, none⟩ → b ∉ F) : Ints w' l ad m c := by
  refine ⟨h.len, h.cap, h.room, ?_, h.rng⟩
  by_cases h0 : m = 0
  · exact Or.inl h0
  · obtain ⟨b, off, e, hs, hc⟩ := h.row.resolve_left h0
    exact Or.inr ⟨b, off, e, Nat.lt_of_lt_of_le hs hb.size, fun i hi => by rw [hb.cell hs (hn h0 b off e)]; exact hc i hi⟩
theorem CArg.chg {F : List Nat} (h : CArg w l A ad m c) (hb : Chg F w w') (hn : CBlk (fun b => b ∉ F) A ad m) : CArg w' l A ad m c := by
  refine ⟨h.len, h.nil, h.cap, h.room, ?_, fun i hi => ⟨(h.ints i hi).1.chg hb (hn.ints i hi), (h.ints i hi).2⟩, h.rng⟩
  by_cases h0 : m = 0
  · exact Or.inl h0
  · obtain ⟨b, off, e, hs, hc⟩ := h.row.resolve_left h0
    refine Or.inr ⟨b, off, e, Nat.lt_of_lt_of_le hs hb.size, fun i hi => ?_⟩
    have hf := hn.row h0 b off e
    rw [hb.cell hs hf, hb.cell hs hf, hb.cell hs hf]
    exact hc i hi
theorem CBlk.mono {Q R : Nat → Prop} (h : CBlk Q A ad m) (hr : ∀ b, Q b → R b) : CBlk R A ad m := ⟨fun h0 b off e => hr b (h.row h0 b off e), fun i hi h0 b off e => hr b (h.ints i hi h0 b off e)⟩
theorem CArg.ahead (h : CArg w l A ad m c) (j : Nat) (hj : j ≤ m) : CArg w (l.take j) A ad j c := by
  have hl := h.len
  refine ⟨by rw [List.length_take]; omega, fun e => ⟨by have := (h.nil e).1; omega, (h.nil e).2⟩, Nat.le_trans hj h.cap, h.room, ?_, fun i hi => by rw [ptAt_take l j i hi]; exact h.ints i (by omega), fun i hi => by rw [ptAt_take l j i hi]; exact h.rng i (by omega)⟩
  rcases h.row with h0 | ⟨b, off, e, hs, hc⟩
  · exact Or.inl (by omega)
  · exact Or.inr ⟨b, off, e, hs, fun i hi => by rw [ptAt_take l j i hi]; exact hc i (by omega)⟩
theorem CArg.lt (h : CArg w l A ad m c) : CBlk (fun b => b < w.heap.size) A ad m := by
  refine ⟨fun h0 b off e => ?_, fun i hi h0 b off e => ?_⟩
  · obtain ⟨b', off', e', hs, -⟩ := h.row.resolve_left h0
    rw [e] at e'; cases e'; exact hs
  · obtain ⟨b', off', e', hs, -⟩ := (h.ints i hi).1.row.resolve_left h0
    rw [e] at e'; cases e'; exact hs
/-- No parts. -/
theorem CArg.none (w : World) (A : Nat → Sl) : CArg w [] A none 0 0 := ⟨rfl, fun _ => ⟨rfl, rfl⟩, Nat.le_refl _, by unfold maxLen; omega, Or.inl rfl, fun i hi => absurd hi (Nat.not_lt_zero _), fun i hi => absurd hi (Nat.not_lt_zero _)⟩
theorem CArg.cells (h : CArg w l A ad m c) (h0 : 0 < m) : ∃ b off, ad = some ⟨b, off, Option.none⟩ ∧ b < w.heap.size ∧ ∀ i, i < m → w.cell? ⟨b, off + i * 3, Option.none⟩ = some (.int .i64 (ptAt l i).first) ∧ w.cell? ⟨b, off + i * 3 + 1, Option.none⟩ = some (.int .i64 (ptAt l i).id) ∧ w.cell? ⟨b, off + i * 3 + 2, Option.none⟩ = some (.slice (A i).ad (A i).m (A i).c) := h.row.resolve_left (by omega)
end Go.Proofs.Ythadagpfmacemaa
