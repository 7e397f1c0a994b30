/- Small chains: Own and Same of them. -/
import Derived.Test.YthadagpfmacemaaLSame
import Derived.Test.YthadagpfmacemaaLOwn
namespace Go.Proofs.Ythadagpfmacemaa
open Go.RowKit
variable {w w' : World} {l : List Pt} {A : Nat → Sl} {ad ad2 : Option Addr} {m c m2 c2 : Nat} {ns : List Int}

/-- A chain of at most 64 parts, of at most 9 nodes each. -/
def SmallC (l : List Pt) : Prop := l.length ≤ 64 ∧ ∀ i, i < l.length → (ptAt l i).nodes.length ≤ 9
theorem may_small {o t n : Int} (h : mayC o t l n) : SmallC l := by
  refine ⟨h.2.1.2, fun i hi => ?_⟩
  have e2 := (h.2.2.1 i hi).2.1
  unfold checkL at e2
  by_cases hq : 0 ≤ (ptAt l i).id ∧ (ptAt l i).id < 281474976710656 ∧ 1 ≤ (ptAt l i).nodes.length ∧ (ptAt l i).nodes.length ≤ 9 ∧ goodN n (ptAt l i).nodes (ptAt l i).nodes.length
  · exact hq.2.2.2.1
  · rw [if_neg hq] at e2; omega
theorem small_nil : SmallC [] := ⟨by simp, fun i hi => absurd hi (Nat.not_lt_zero _)⟩
/-- Own of a small chain. -/
theorem own_small {N : Nat} (h : CAns w N l ad m c) (hs : SmallC l) (o t : Int) : Calls Try.prog 7 #[.agg #[.int .i64 o, .int .i64 t, .slice ad m c]] w fun x w' => ∃ ad' c', x = .returned (.agg #[.int .i64 o, .int .i64 t, .slice ad' m c']) ∧ Hid (CAns w' w.heap.size l ad' m c') ∧ Below w.heap.size w w' := by
  obtain ⟨A, hA, -⟩ := h.arg
  have hl := hA.len
  exact own_any hA o t (by have := hs.1; omega) (fun i hi => by have := (hA.ints i hi).1.len; have := hs.2 i (by omega); omega)
/-- Same of two answers with one chain. -/
theorem same_ans {N N2 : Nat} (h : CAns w N l ad m c) (h2 : CAns w N2 l ad2 m2 c2) (o t : Int) : Calls Try.prog 16 #[.agg #[.int .i64 o, .int .i64 t, .slice ad m c], .agg #[.int .i64 o, .int .i64 t, .slice ad2 m2 c2]] w fun e w' => e = .returned (.bool true) ∧ Below w.heap.size w w' := by
  obtain ⟨A, hA, -⟩ := h.arg
  obtain ⟨A2, hA2, -⟩ := h2.arg
  obtain rfl : m = m2 := by have := hA.len; have := hA2.len; omega
  exact same_any hA hA2 o t
end Go.Proofs.Ythadagpfmacemaa
