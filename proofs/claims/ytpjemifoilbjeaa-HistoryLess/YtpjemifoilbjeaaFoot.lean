/- What a call leaves as it was: all but the blocks of a list. -/
import Derived.Test.YtpjemifoilbjeaaBase
namespace Go.Proofs.Ytpjemifoilbjeaa
open Go.RowKit

/-- Behind w' all that was there in w is as it was, but the blocks F. -/
structure Chg (F : List Nat) (w w' : World) : Prop where
  os : w'.os = w.os
  tape : w'.tape = w.tape
  output : w'.output = w.output
  size : w.heap.size ≤ w'.heap.size
  block : ∀ k, k < w.heap.size → k ∉ F → w'.heap[k]? = w.heap[k]?
variable {w w' w'' : World} {F G : List Nat}
theorem Chg.refl (F : List Nat) (w : World) : Chg F w w := ⟨rfl, rfl, rfl, Nat.le_refl _, fun _ _ _ => rfl⟩
theorem Chg.of (h : Below w.heap.size w w') : Chg F w w' := ⟨h.os, h.tape, h.output, h.size, fun k hk _ => h.block k hk⟩
theorem Chg.mono (h : Chg F w w') (hs : ∀ k ∈ F, k ∈ G) : Chg G w w' := ⟨h.os, h.tape, h.output, h.size, fun k hk hn => h.block k hk (fun hm => hn (hs k hm))⟩
/-- One behind the other: what the second may change was in F, or is new. -/
theorem Chg.trans (h : Chg F w w') (h' : Chg G w' w'') (hs : ∀ k ∈ G, k ∈ F ∨ w.heap.size ≤ k) : Chg F w w'' :=
  ⟨h'.os.trans h.os, h'.tape.trans h.tape, h'.output.trans h.output, Nat.le_trans h.size h'.size, fun k hk hn => (h'.block k (Nat.lt_of_lt_of_le hk h.size) (fun hm => (hs k hm).elim hn (by omega))).trans (h.block k hk hn)⟩
theorem Chg.below (h : Chg F w w') {N : Nat} (hk : ∀ k ∈ F, N ≤ k) (hN : N ≤ w.heap.size) : Below N w w' :=
  ⟨h.os, h.tape, h.output, h.size, fun k h1 => h.block k (Nat.lt_of_lt_of_le h1 hN) (fun hm => absurd (hk k hm) (by omega))⟩
theorem Chg.set (h : Chg F w w') {g : Nat} (hg : g ∈ F ∨ w.heap.size ≤ g) (i : Nat) (u : Value) : Chg F w (w'.setCell ⟨g, i, none⟩ u) :=
  ⟨h.os, h.tape, h.output, by simpa [World.setCell] using h.size, fun k hk hn => (Below.heap_setCell _ _ _ _ (fun e => by rcases hg with hg | hg; exact hn (by rw [e]; exact hg); simp only at e; omega)).trans (h.block k hk hn)⟩
theorem Chg.drew (h : Chg F w w') : Chg F w w'.drew := ⟨h.os, h.tape, h.output, h.size, h.block⟩
theorem Chg.cell (h : Chg F w w') {g i : Nat} (hg : g < w.heap.size) (hn : g ∉ F) : w'.cell? ⟨g, i, none⟩ = w.cell? ⟨g, i, none⟩ := by
  have h1 := h.block g hg hn
  simp only [World.cell?, h1]
theorem Row.chg {ad : Option Addr} {l : List Nat} (h : Row w ad l) (hb : Chg F w w') (hn : ∀ b off, ad = some ⟨b, off, none⟩ → l ≠ [] → b ∉ F) : Row w' ad l := by
  refine ⟨h.1, ?_⟩
  rcases h.2 with h | ⟨b, off, e, hs, hc⟩
  · exact Or.inl h
  · by_cases h0 : l = []
    · exact Or.inl h0
    · exact Or.inr ⟨b, off, e, Nat.lt_of_lt_of_le hs hb.size, fun i hi => by rw [hb.cell hs (hn b off e h0)]; exact hc i hi⟩
theorem Part.ok.chg {p : Part} (h : p.ok w) (hb : Chg F w w') (hn : ∀ b off, p.ad = some ⟨b, off, none⟩ → p.l ≠ [] → b ∉ F) : p.ok w' := ⟨h.1, h.2.1, h.2.2.chg hb hn⟩
/-- A block of cells. -/
def Blk (w : World) (B : Nat) (cs : Array Value) (T : TypeId) : Prop := w.heap[B]? = some (.cells cs T (0, 0))
theorem Blk.lt {B : Nat} {cs : Array Value} {T : TypeId} (h : Blk w B cs T) : B < w.heap.size := by
  rcases Nat.lt_or_ge B w.heap.size with hlt | hge
  · exact hlt
  · unfold Blk at h; rw [Array.getElem?_eq_none hge] at h; cases h
theorem Blk.chg {B : Nat} {cs : Array Value} {T : TypeId} (h : Blk w B cs T) (hb : Chg F w w') (hn : B ∉ F) : Blk w' B cs T := (hb.block B h.lt hn).trans h
theorem Blk.later {B : Nat} {cs : Array Value} {T : TypeId} (h : Blk w B cs T) (hb : Below w.heap.size w w') : Blk w' B cs T := (hb.block B h.lt).trans h
theorem Blk.cell {B : Nat} {cs : Array Value} {T : TypeId} (h : Blk w B cs T) (i : Nat) : w.cell? ⟨B, i, none⟩ = cs[i]? := cell_of_row w B i _ _ _ h
theorem Blk.free {B : Nat} {cs : Array Value} {T : TypeId} (h : Blk w B cs T) (i : Nat) : w.frozen? ⟨B, i, none⟩ = false := by
  unfold Blk at h; simp [World.frozen?, h]
theorem Blk.set {B : Nat} {cs : Array Value} {T : TypeId} (h : Blk w B cs T) (i : Nat) (v : Value) : Blk (w.setCell ⟨B, i, none⟩ v) B (cs.setIfInBounds i v) T := by
  unfold Blk at *
  rw [setCell_eq_setRow w B i cs T (0, 0) v h]
  exact setRow_heap w B _ _ T _ h
theorem Blk.other {B C : Nat} {cs : Array Value} {T : TypeId} (h : Blk w B cs T) (hne : B ≠ C) (i : Nat) (v : Value) : Blk (w.setCell ⟨C, i, none⟩ v) B cs T := by
  unfold Blk at *
  rw [Below.heap_setCell _ _ _ _ (by exact hne)]
  exact h
end Go.Proofs.Ytpjemifoilbjeaa
