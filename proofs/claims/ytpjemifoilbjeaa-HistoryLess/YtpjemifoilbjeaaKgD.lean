/- What the rounds of a loop over a function leave as it was. -/
import Derived.Test.YtpjemifoilbjeaaRangeR
namespace Go.Proofs.Ytpjemifoilbjeaa
open Go.RowKit

/-- What the rounds of a loop leave: the blocks Gs. -/
def Kg (Gs : List Nat) (X Y : World) : Prop := X.heap.size ≤ Y.heap.size ∧ ∀ g ∈ Gs, Y.heap[g]? = X.heap[g]?
theorem Kg.refl (Gs : List Nat) (X : World) : Kg Gs X X := ⟨Nat.le_refl _, fun _ _ => rfl⟩
theorem Kg.trans {Gs : List Nat} {X Y Z : World} (h : Kg Gs X Y) (k : Kg Gs Y Z) : Kg Gs X Z := ⟨Nat.le_trans h.1 k.1, fun g hg => (k.2 g hg).trans (h.2 g hg)⟩
theorem Kg.below {Gs : List Nat} {X Y : World} (h : Below X.heap.size X Y) (hl : ∀ g ∈ Gs, g < X.heap.size) : Kg Gs X Y := ⟨h.size, fun g hg => h.block g (hl g hg)⟩
theorem Kg.cell {Gs : List Nat} {X Y : World} (h : Kg Gs X Y) {g i : Nat} (hg : g ∈ Gs) : Y.cell? ⟨g, i, none⟩ = X.cell? ⟨g, i, none⟩ := by simp only [World.cell?, h.2 g hg]
theorem YieldAt.mono {F : Fence} {m : Nat} {P : Program} {l : Nat} {args : Array Value} {W : World} {R R' : Ending → World → Prop} (h : YieldAt F m P l args W R) (hR : ∀ e Y, R e Y → R' e Y) : YieldAt F m P l args W R' := by
  obtain ⟨fn, tmps, assign, body, hy, hr⟩ := h
  exact ⟨fn, tmps, assign, body, hy, hr.mono hR⟩
end Go.Proofs.Ytpjemifoilbjeaa
