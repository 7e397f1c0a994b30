/- What ChainMoves wants of its callees: chains that are small, and a chain whose nodes are struck out. -/
import Derived.Test.YthadagpfmacemaaLSame
import Derived.Test.YthadagpfmacemaaLOwn
import Derived.Test.YthadagpfmacemaaOnceM
namespace Go.Proofs.Ythadagpfmacemaa
open Go.RowKit
variable {w w' : World} {l : List Pt} {A : Nat → Sl} {ad ad2 : Option Addr} {m c m2 c2 : Nat} {ns : List Int}

theorem findV_form' (x : Option (Nat × Int)) : ∃ p q b, findV x = .tuple #[.int .i64 p, .int .i64 q, .bool b] := by
  unfold findV
  split
  · exact ⟨_, _, _, rfl⟩
  · exact ⟨_, _, _, rfl⟩
/-- A chain of at most 64 parts, of at most 9 nodes each. -/
def SmallC (l : List Pt) : Prop := l.length ≤ 64 ∧ ∀ i, i < l.length → (ptAt l i).nodes.length ≤ 9
theorem may_small {o t n : Int} (h : mayC o t l n) : SmallC l := by
  refine ⟨h.2.1.2, fun i hi => ?_⟩
  have e2 := (h.2.2.1 i hi).2.1
  unfold checkL at e2
  by_cases hq : 0 ≤ (ptAt l i).id ∧ (ptAt l i).id < 281474976710656 ∧ 1 ≤ (ptAt l i).nodes.length ∧ (ptAt l i).nodes.length ≤ 9 ∧ goodN n (ptAt l i).nodes (ptAt l i).nodes.length
  · exact hq.2.2.2.1
  · rw [if_neg hq] at e2; omega
theorem small_nil : SmallC [] := ⟨by simp, fun i hi => absurd hi (Nat.not_lt_zero _)⟩
theorem ext_small (o t : Int) (l : List Pt) (n ow e id : Int) (ns : List Int) : SmallC (extC o t l n ow e id ns).parts := by
  unfold extC
  by_cases h : extE o t l n ow e id ns = 0
  · rw [if_pos h]; exact may_small (ext_ok h).next
  · rw [if_neg h]; exact small_nil
theorem cut_small (o t : Int) (l : List Pt) (n a : Int) : SmallC (cutC o t l n a).parts := by
  unfold cutC
  by_cases h : cutE o t l n a = 0
  · rw [if_pos h]; exact may_small (may_cut (cut_ok h))
  · rw [if_neg h]; exact small_nil
/-- Own of a small chain. -/
theorem own_small {N : Nat} (h : CAns w N l ad m c) (hs : SmallC l) (o t : Int) : Calls Try.prog 7 #[.agg #[.int .i64 o, .int .i64 t, .slice ad m c]] w fun x w' => ∃ ad' c', x = .returned (.agg #[.int .i64 o, .int .i64 t, .slice ad' m c']) ∧ Hid (CAns w' w.heap.size l ad' m c') ∧ Below w.heap.size w w' := by
  obtain ⟨A, hA, -⟩ := h.arg
  have hl := hA.len
  exact own_any hA o t (by have := hs.1; omega) (fun i hi => by have := (hA.ints i hi).1.len; have := hs.2 i (by omega); omega)
/-- Same of two answers with one chain. -/
theorem same_ans {N N2 : Nat} (h : CAns w N l ad m c) (h2 : CAns w N2 l ad2 m2 c2) (o t : Int) : Calls Try.prog 16 #[.agg #[.int .i64 o, .int .i64 t, .slice ad m c], .agg #[.int .i64 o, .int .i64 t, .slice ad2 m2 c2]] w fun e w' => e = .returned (.bool true) ∧ Below w.heap.size w w' := by
  obtain ⟨A, hA, -⟩ := h.arg
  obtain ⟨A2, hA2, -⟩ := h2.arg
  obtain rfl : m = m2 := by have := hA.len; have := hA2.len; omega
  exact same_any hA hA2 o t
/-- Numbers of new blocks were struck out, nothing else. -/
structure NegI (N : Nat) (w w' : World) : Prop where
  below : Below N w w'
  cell : ∀ p v, w.cell? p = some v → (∀ x, v ≠ .int .i64 x) → w'.cell? p = some v
  int : ∀ p x, w.cell? p = some (.int .i64 x) → ∃ y, w'.cell? p = some (.int .i64 y)
  ints : ∀ (b : Nat) (cs : Array Value), w.heap[b]? = some (.cells cs 3) → ∃ cs', w'.heap[b]? = some (.cells cs' 3)
theorem NegI.refl (N : Nat) (w : World) : NegI N w w := ⟨Below.refl _ _, fun _ _ h _ => h, fun _ x h => ⟨x, h⟩, fun _ cs h => ⟨cs, h⟩⟩
theorem heap_setCell_ne (w : World) (b i k : Nat) (u : Value) (h : k ≠ b) : (w.setCell ⟨b, i, none⟩ u).heap[k]? = w.heap[k]? := by
  have := (Chg.refl [b] w).set (g := b) (Or.inl (by simp)) i u
  by_cases hk : k < w.heap.size
  · exact this.block k hk (by simpa using h)
  · have hs : (w.setCell ⟨b, i, none⟩ u).heap.size = w.heap.size := by simp [World.setCell]
    rw [Array.getElem?_eq_none (by omega), Array.getElem?_eq_none (by omega)]
theorem NegI.set {N : Nat} (h : NegI N w w') {b i : Nat} {x : Int} (hb : w.cell? ⟨b, i, none⟩ = some (.int .i64 x)) (hN : N ≤ b) (z : Int) : NegI N w (w'.setCell ⟨b, i, none⟩ (.int .i64 z)) := by
  refine ⟨h.below.setCell (p := ⟨b, i, none⟩) hN _, fun p v hp hv => ?_, fun p y hp => ?_, fun k ck hk => ?_⟩
  · by_cases e : (⟨b, i, none⟩ : Addr) = p
    · subst e
      rw [hb] at hp
      cases hp
      exact absurd rfl (hv x)
    · rw [World.cell?_setCell_other (h := e)]
      exact h.cell p v hp hv
  · obtain ⟨y', hy⟩ := h.int p y hp
    by_cases e : (⟨b, i, none⟩ : Addr) = p
    · subst e
      exact ⟨z, World.cell?_setCell_same' w' _ _ (by rw [hy]; rfl)⟩
    · rw [World.cell?_setCell_other (h := e)]
      exact ⟨y', hy⟩
  · obtain ⟨cs', hc'⟩ := h.ints k ck hk
    by_cases e : k = b
    · subst e
      exact ⟨_, (show Blk w' k cs' 3 from hc').set i _⟩
    · rw [heap_setCell_ne _ _ _ _ _ e]
      exact ⟨cs', hc'⟩
/-- What the loops read and strike out. -/
theorem NegI.look {N : Nat} (h : NegI N w w') (hA : CArg w l A ad m c) (hB : CBlk (fun b => N ≤ b) A ad m) (hT : Typ w A m) (q : Nat) (hq : q < m) :
    (∃ b off, ad = some ⟨b, off, none⟩ ∧ w'.cell? ⟨b, off + q * 3 + 2, none⟩ = some (.slice (A q).ad (A q).m (A q).c)) ∧ (A q).m ≤ 9223372036854775807 ∧
    ∀ s, s < (A q).m → ∃ b2 off2, (A q).ad = some ⟨b2, off2, none⟩ ∧ (∃ y, w'.cell? ⟨b2, off2 + s, none⟩ = some (.int .i64 y)) ∧ w'.frozen? ⟨b2, off2 + s, none⟩ = false ∧ NegI N w (w'.setCell ⟨b2, off2 + s, none⟩ (.int .i64 (-1))) := by
  obtain ⟨b, off, e, -, hc⟩ := hA.cells (by omega)
  have hi := (hA.ints q hq).1
  refine ⟨⟨b, off, e, h.cell _ _ (hc q hq).2.2 (fun x hx => by cases hx)⟩, by have := hi.cap; have := hi.room; unfold maxLen at this; omega, fun s hs => ?_⟩
  obtain ⟨b2, off2, e2, -, hc2⟩ := hi.row.resolve_left (by omega)
  have hv := hc2 s hs
  obtain ⟨cur, hcur⟩ := hT q hq (by omega) b2 off2 e2
  obtain ⟨cs', hcs⟩ := h.ints b2 cur hcur
  exact ⟨b2, off2, e2, h.int _ _ hv, (show Blk w' b2 cs' 3 from hcs).free _, h.set hv (hB.ints q hq (by omega) b2 off2 e2) _⟩
end Go.Proofs.Ythadagpfmacemaa
