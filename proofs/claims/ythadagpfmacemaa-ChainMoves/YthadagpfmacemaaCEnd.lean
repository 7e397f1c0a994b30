/- End of package chain; the document's End. -/
import Derived.Test.YthadagpfmacemaaCRow
namespace Go.Proofs.Ythadagpfmacemaa
open Go.RowKit
variable {w w' : World} {l : List Pt} {A : Nat → Sl} {ad : Option Addr} {m c : Nat}

/-- End's answer. -/
def endN (l : List Pt) (k : Int) : Int := if k < 0 ∨ (l.length : Int) - 1 ≤ k then -1 else (ptAt l (k.toNat + 1)).first
theorem end_any (h : CArg w l A ad m c) (o t k : Int) (hk : -9223372036854775808 ≤ k ∧ k ≤ 9223372036854775807) : Calls Try.prog 26 #[.agg #[.int .i64 o, .int .i64 t, .slice ad m c], .int .i64 k] w fun e w' => e = .returned (.int .i64 (endN l k)) ∧ Below w.heap.size w w' := by
  have hl := h.len
  have hm : m ≤ 9223372036854775807 := by have := h.cap; have := h.room; unfold maxLen at this; omega
  have b0 : Below w.heap.size w (w.alloc (.cells #[.int .i64 o, .int .i64 t, .slice ad m c] 28)) := (Below.refl _ _).alloc (Nat.le_refl _) _
  by_cases a1 : k < 0
  · have e : endN l k = -1 := by unfold endN; rw [if_pos (Or.inl a1)]
    rw [e]
    clear h
    go_enter Try.func26, Try.ntmps26
    go_wp2_with fail
    go_ret
    exact ⟨rfl, b0⟩
  have d1 : decide (k < 0) = false := by simpa using a1
  by_cases a2 : (m : Int) - 1 ≤ k
  · have e : endN l k = -1 := by unfold endN; rw [hl, if_pos (Or.inr a2)]
    rw [e]
    have d2 : decide ((m : Int) - 1 ≤ k) = true := by simpa using a2
    clear h
    go_enter Try.func26, Try.ntmps26
    go_wp2_with fail
    go_ret
    exact ⟨rfl, b0⟩
  have d2 : decide ((m : Int) - 1 ≤ k) = false := by simpa using a2
  obtain ⟨j, rfl⟩ : ∃ j : Nat, k = (j : Int) := ⟨k.toNat, by omega⟩
  have e : endN l (j : Int) = (ptAt l (j + 1)).first := by unfold endN; rw [hl, if_neg (by omega)]; rfl
  rw [e]
  have h2 := h.later b0
  obtain ⟨b, off, rfl, hs, hc⟩ := h2.cells (by omega)
  have r0 := (hc (j + 1) (by omega)).1
  have hix : ((j : Int) + 1).toNat = j + 1 := by omega
  have hlt : j + 1 < m := by omega
  clear h h2 hc hl e
  generalize (ptAt l (j + 1)).first = x at *
  go_enter Try.func26, Try.ntmps26
  go_wp2_with fail
  go_ret
  exact ⟨rfl, b0⟩
theorem refEnd_any (h : CArg w l A ad m c) (o t k : Int) (hk : -9223372036854775808 ≤ k ∧ k ≤ 9223372036854775807) : Calls Try.prog 27 #[.agg #[.int .i64 o, .int .i64 t, .slice ad m c], .int .i64 k] w fun e w' => e = .returned (.int .i64 (endN l k)) ∧ Below w.heap.size w w' := by
  have hl := h.len
  have hm : m ≤ 9223372036854775807 := by have := h.cap; have := h.room; unfold maxLen at this; omega
  have b0 : Below w.heap.size w (w.alloc (.cells #[.int .i64 o, .int .i64 t, .slice ad m c] 24)) := (Below.refl _ _).alloc (Nat.le_refl _) _
  by_cases a1 : k < 0
  · have e : endN l k = -1 := by unfold endN; rw [if_pos (Or.inl a1)]
    rw [e]
    clear h
    go_enter Try.func27, Try.ntmps27
    go_wp2_with fail
    go_ret
    exact ⟨rfl, b0⟩
  have d1 : decide (k < 0) = false := by simpa using a1
  by_cases a2 : (m : Int) - 1 ≤ k
  · have e : endN l k = -1 := by unfold endN; rw [hl, if_pos (Or.inr a2)]
    rw [e]
    have d2 : decide ((m : Int) - 1 ≤ k) = true := by simpa using a2
    clear h
    go_enter Try.func27, Try.ntmps27
    go_wp2_with fail
    go_ret
    exact ⟨rfl, b0⟩
  have d2 : decide ((m : Int) - 1 ≤ k) = false := by simpa using a2
  obtain ⟨j, rfl⟩ : ∃ j : Nat, k = (j : Int) := ⟨k.toNat, by omega⟩
  have e : endN l (j : Int) = (ptAt l (j + 1)).first := by unfold endN; rw [hl, if_neg (by omega)]; rfl
  rw [e]
  have h2 := h.later b0
  obtain ⟨b, off, rfl, hs, hc⟩ := h2.cells (by omega)
  have r0 := (hc (j + 1) (by omega)).1
  have hix : ((j : Int) + 1).toNat = j + 1 := by omega
  have hlt : j + 1 < m := by omega
  clear h h2 hc hl e
  generalize (ptAt l (j + 1)).first = x at *
  go_enter Try.func27, Try.ntmps27
  go_wp2_with fail
  go_ret
  exact ⟨rfl, b0⟩
end Go.Proofs.Ythadagpfmacemaa
