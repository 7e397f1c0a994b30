/- Boxes that a call makes for a batch, and stores into them. -/
import Derived.Test.YtobaeiicacpbnaaRecOwn
namespace Go.Proofs.Ytobaeiicacpbnaa
open Go.RowKit

/-- The first two boxes of a call that takes a batch and hands one back; an empty slice of Records behind them. -/
def w2 (w : World) (k p e s : Int) (t : Bool) (v : Value) : World := (w.alloc (.cells #[.int .i64 k, .int .i64 p, .int .i64 e, .int .i64 s, .bool t, v] 33)).alloc (.cells #[.int .i64 0, .int .i64 0, .int .i64 0, .int .i64 0, .bool false, .slice none 0 0] 33)
theorem w2_size (w : World) (k p e s : Int) (t : Bool) (v : Value) : (w2 w k p e s t v).heap.size = w.heap.size + 1 + 1 := by simp [w2]
theorem w2_below (w : World) (k p e s : Int) (t : Bool) (v : Value) : Below w.heap.size w (w2 w k p e s t v) := ((Below.refl _ _).alloc (Nat.le_refl _) _).alloc (by simp) _
theorem w2_box0 (w : World) (k p e s : Int) (t : Bool) (v : Value) : BBox (w2 w k p e s t v) w.heap.size k p e s t v :=
  (BBox.new w k p e s t v).later ((Below.refl _ _).alloc (Nat.le_refl _) _)
theorem w2_box1 (w : World) (k p e s : Int) (t : Bool) (v : Value) : BBox (w2 w k p e s t v) (w.heap.size + 1) 0 0 0 0 false (.slice none 0 0) := by
  have h := BBox.new (w.alloc (.cells #[.int .i64 k, .int .i64 p, .int .i64 e, .int .i64 s, .bool t, v] 33)) 0 0 0 0 false (.slice none 0 0)
  simpa [w2] using h
theorem BBox.free {w : World} {B : Nat} {k p e s : Int} {t : Bool} {v : Value} (h : BBox w B k p e s t v) (i : Nat) : w.frozen? ⟨B, i, none⟩ = false := by
  unfold BBox at h; simp [World.frozen?, h]
theorem BBox.grown {w w' : World} {B : Nat} {k p e s : Int} {t : Bool} {v : Value} {row : Option Nat} (h : BBox w B k p e s t v) (hg : w.grownBy w' row) (hne : some B ≠ row) : BBox w' B k p e s t v := by
  have := hg.block B h.lt hne
  unfold BBox at h ⊢
  rw [this]; exact h
theorem BBox.setOther {w : World} {B C : Nat} {k p e s : Int} {t : Bool} {v : Value} (h : BBox w B k p e s t v) (hne : B ≠ C) (i : Nat) (u : Value) : BBox (w.setCell ⟨C, i, none⟩ u) B k p e s t v := by
  unfold BBox
  rw [Below.heap_setCell _ _ _ _ (by exact hne)]
  exact h
theorem block_set {w : World} {g i : Nat} {cs : Array Value} {t : TypeId} {fr : Nat × Nat} (h : w.heap[g]? = some (.cells cs t fr)) (v : Value) : (w.setCell ⟨g, i, none⟩ v).heap[g]? = some (.cells (cs.setIfInBounds i v) t fr) := by
  rw [setCell_eq_setRow w g i cs t fr v h]
  exact setRow_heap w g _ _ t _ h
/-- A batch is stored in a box, cell by cell. -/
def set6 (w : World) (B : Nat) (k p e s : Int) (t : Bool) (v : Value) : World :=
  (((((w.setCell ⟨B, 0, none⟩ (.int .i64 k)).setCell ⟨B, 1, none⟩ (.int .i64 p)).setCell ⟨B, 2, none⟩ (.int .i64 e)).setCell ⟨B, 3, none⟩ (.int .i64 s)).setCell ⟨B, 4, none⟩ (.bool t)).setCell ⟨B, 5, none⟩ v
theorem BBox.set6 {w : World} {B : Nat} {k0 p0 e0 s0 : Int} {t0 : Bool} {v0 : Value} (h : BBox w B k0 p0 e0 s0 t0 v0) (k p e s : Int) (t : Bool) (v : Value) : BBox (set6 w B k p e s t v) B k p e s t v := by
  unfold BBox at *
  exact block_set (block_set (block_set (block_set (block_set (block_set h _) _) _) _) _) _
theorem set6_below {N : Nat} {w0 w : World} (h : Below N w0 w) {B : Nat} (hB : N ≤ B) (k p e s : Int) (t : Bool) (v : Value) : Below N w0 (set6 w B k p e s t v) :=
  (((((h.setCell (p := ⟨B, 0, none⟩) hB _).setCell (p := ⟨B, 1, none⟩) hB _).setCell (p := ⟨B, 2, none⟩) hB _).setCell (p := ⟨B, 3, none⟩) hB _).setCell (p := ⟨B, 4, none⟩) hB _).setCell (p := ⟨B, 5, none⟩) hB _
theorem own_set6 {w : World} {base e0 size n : Nat} {u : Value} {xs : List Value} (h : w.ownsRow base e0 size u n xs) {B : Nat} (hB : B < base) (k p e s : Int) (t : Bool) (v : Value) : (set6 w B k p e s t v).ownsRow base e0 size u n xs :=
  ownsRow_setCell_below (ownsRow_setCell_below (ownsRow_setCell_below (ownsRow_setCell_below (ownsRow_setCell_below (ownsRow_setCell_below h (a := ⟨B, 0, none⟩) hB _) (a := ⟨B, 1, none⟩) hB _) (a := ⟨B, 2, none⟩) hB _) (a := ⟨B, 3, none⟩) hB _) (a := ⟨B, 4, none⟩) hB _) (a := ⟨B, 5, none⟩) hB _
theorem OwnR.set6 {w : World} {base : Nat} {u : Value} {rs : List Rec} (h : OwnR w base u rs) {B : Nat} (hB : B < base) (k p e s : Int) (t : Bool) (v : Value) : OwnR (set6 w B k p e s t v) base u rs := own_set6 h hB k p e s t v
end Go.Proofs.Ytobaeiicacpbnaa
