/- A disk, and bytes, beside a slice of another type that grows. -/
import Derived.Test.YtofpojfkooigiaaDiskAt
namespace Go.Proofs.Ytofpojfkooigiaa
open Go.RowKit
variable {w w' : World} {N D : Nat} {s : DSt}

/-- Block g has cells of a type that the disk has none of. -/
structure Alien (w : World) (g : Nat) : Prop where
  cells : ∃ c t fr, w.heap[g]? = some (.cells c t fr) ∧ t ≠ TK ∧ t ≠ TD ∧ t ≠ TB
theorem Pic.alien {F : List Nat} {B M : Nat} {Dm : DataW Value} {V C : Nat → Nat} (h : Pic w F D B M Dm V C s) {row : Option Nat} (hg : w.grownBy w' row) (ha : ∀ g, row = some g → Alien w g) : Pic w' F D B M Dm V C s := by
  have hk : ∀ k, k < w.heap.size → (∀ g, row = some g → k ≠ g) → w'.heap[k]? = w.heap[k]? := fun k hk hn => hg.block k hk (fun e => hn k e.symm rfl)
  refine ⟨h.n1, h.n2, h.ok, h.top, ?_, ?_, ?_, h.has, h.look, ?_, h.apart, h.mD, h.mB, h.mM, h.mV, fun g hgF => Nat.lt_of_lt_of_le (h.lt g hgF) hg.size⟩
  · rw [hk D h.ltD (fun g e e2 => by
      obtain ⟨c, t, fr, h1, h2, h3, h4⟩ := (ha g e).cells
      rw [← e2, h.hD] at h1
      injection h1 with h1
      injection h1 with h5 h6
      exact h2 h6.symm)]
    exact h.hD
  · rw [hk B (h.lt B h.mB) (fun g e e2 => by
      obtain ⟨c, t, fr, h1, h2, h3, h4⟩ := (ha g e).cells
      rw [← e2, h.hB] at h1
      injection h1 with h1
      injection h1 with h5 h6
      exact h3 h6.symm)]
    exact h.hB
  · refine ownsMap_kept h.hM (hk M (h.lt M h.mM) (fun g e e2 => ?_))
    obtain ⟨c, t, fr, h1, -⟩ := (ha g e).cells
    obtain ⟨es, clock, hb, _⟩ := h.hM
    rw [← e2, hb] at h1
    cases h1
  · intro i hi hv
    refine ownsRow_kept (h.row i hi hv) (hk _ (h.lt _ (h.mV i hi hv)) (fun g e e2 => ?_))
    obtain ⟨c, t, fr, h1, h2, h3, h4⟩ := (ha g e).cells
    obtain ⟨cur, hc, -⟩ := h.rowBlock hi hv
    rw [← e2, hc] at h1
    injection h1 with h1
    injection h1 with h5 h6
    exact h4 h6.symm
theorem At.alien (h : At N w D s) {row : Option Nat} (hg : w.grownBy w' row) (ha : ∀ g, row = some g → Alien w g) : At N w' D s := by
  obtain ⟨F, ⟨B, M, Dm, V, C, h⟩, hF⟩ := h
  exact ⟨F, ⟨B, M, Dm, V, C, h.alien hg ha⟩, hF⟩
/-- Bytes stay when a block of another type is written. -/
theorem Own.alien {v : Value} {l : List Nat} (h : Own w N v l) {row : Option Nat} (hg : w.grownBy w' row) (ha : ∀ g, row = some g → ∃ c t fr, w.heap[g]? = some (.cells c t fr) ∧ t ≠ 5) : Own w' N v l := by
  refine ⟨h.1, h.2.1, ?_⟩
  rcases h.2.2 with h0 | ⟨g, cap, cur, e, h1, h2, h3⟩
  · exact Or.inl h0
  · refine Or.inr ⟨g, cap, cur, e, h1, ?_, h3⟩
    rw [hg.block g (Array.getElem?_eq_some_iff.1 h2).1 (fun e2 => ?_)]
    · exact h2
    · obtain ⟨c, t, fr, r1, r2⟩ := ha g e2.symm
      rw [h2] at r1
      injection r1 with r1
      injection r1 with r3 r4
      exact r2 r4.symm
theorem ownBlock_cells {e n : Nat} {v : Value} {xs : List Value} (h : w.ownsRow N e 1 v n xs) {g : Nat} (hg : v.ownBlock = some g) : ∃ c, w.heap[g]? = some (.cells c e (0, 0)) ∧ N ≤ g := by
  rcases h.2 with ⟨rfl, _⟩ | ⟨g', cap, cur, rfl, h1, h2, _⟩
  · cases hg
  · simp [Value.ownBlock] at hg
    subst hg
    exact ⟨cur, h2, h1⟩
end Go.Proofs.Ytofpojfkooigiaa
