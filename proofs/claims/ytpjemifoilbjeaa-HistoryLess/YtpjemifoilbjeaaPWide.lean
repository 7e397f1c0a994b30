/- Values of many cells: loaded, stored, made. No function of the program is named here. -/
import Derived.Test.YtpjemifoilbjeaaFoot
import Derived.Deep.WholeRow
import Derived.Deep.OwnRows
import Derived.Deep.DeepAppendWide
import Derived.Laws.CopyRow
import Derived.Laws.CopyOwn
import Derived.Maps.OwnSet
import Derived.OrdersHeld
namespace Go.Proofs.Ytpjemifoilbjeaa
open Go.RowKit

/-! ### The operations as runs -/
def isWide : TypeDesc → Bool
  | .struct _ | .array _ _ => true
  | _ => false
section
variable {P : Program}
theorem run_loadVar_cells (w : World) (ty : TypeId) (d : TypeDesc) (hu : P.underlying ty = some d) (hd : isWide d = true)
    (l : List Value) (hi : (P.info? ty).map (·.size) = some l.length) (g off : Nat) (hc : ∀ j, j < l.length → w.cell? ⟨g, off + j, none⟩ = l[j]?) :
    (loadVar ty ⟨g, off, none⟩).run P w = .ok (.agg l.toArray) w := by
  have hl : (loadCells ⟨g, off, none⟩ l.length).run P w = .ok l.toArray w :=
    run_loadCells_list (P := P) w ⟨g, off, none⟩ l (fun j v hv => by
      have hj : j < l.length := (List.getElem?_eq_some_iff.1 hv).1
      rw [addr_add, hc j hj, hv])
  cases hq : P.info? ty with
  | none => simp [hq] at hi
  | some i =>
    have hs : i.size = l.length := by simpa [hq] using hi
    have hagg : (isAgg ty).run P w = .ok true w := by
      unfold isAgg
      rw [Sem.run_bind, run_underlying hu w]
      cases d <;> simp_all [isWide]
    simp [loadVar, Sem.run_bind, hagg, sizeOf, typeInfo, hq, hs, hl]
theorem run_storeVar_cells (w : World) (ty : TypeId) (l : List Value) (hi : (P.info? ty).map (·.size) = some l.length) (g off : Nat) (t : TypeId) (cur : Array Value)
    (hg : w.heap[g]? = some (.cells cur t (0, 0))) (hfit : off + l.length ≤ cur.size) (h1 : ∀ v ∈ l, v.oneCell' = true) :
    (storeVar ty ⟨g, off, none⟩ (.agg l.toArray)).run P w = .ok () (w.setRow g (cur.toList.take off ++ l ++ cur.toList.drop (off + l.length)).toArray) := by
  have hst := run_storeCells_at P g off t l 0 cur w hg (by simpa using hfit) h1
  cases hq : P.info? ty with
  | none => simp [hq] at hi
  | some i =>
    have hs : i.size = l.length := by simpa [hq] using hi
    simp [storeVar, sizeOf, typeInfo, hq, Value.cells, hs]
    simpa using hst
end
variable {ops : Array Oper} {rest : List Oper} {o : Oper} {a : Act} {w : World} {Q : Exit → Act → World → Prop}
theorem load_wide (hgd : o.guard = none) (ty : TypeId) (x : Operand) (ho : o.op = .load ty x) (d : TypeDesc) (hu : Try.prog.underlying ty = some d) (hd : isWide d = true)
    (l : List Value) (hi : (Try.prog.info? ty).map (·.size) = some l.length) (g off : Nat) (hx : a.eval x = .pointer (some ⟨g, off, none⟩)) (hc : ∀ j, j < l.length → w.cell? ⟨g, off + j, none⟩ = l[j]?)
    (h : wpList Try.prog ops Q rest (a.put o.dst (.agg l.toArray)) w) : wpList Try.prog ops Q (o :: rest) a w := by
  refine wpList_plain hgd fun K hK => ?_
  unfold Oper.wp execOp
  simp only [ho, hx, Instr.loadAt, Instr.sureAddr, Sem.run_bind, Sem.run_pure, Result.andThen_ok, run_loadVar_cells w ty d hu hd l hi g off hc]
  exact hK _ _ h
theorem store_wide (hgd : o.guard = none) (ty : TypeId) (x y : Operand) (ho : o.op = .store ty x y) (l : List Value) (hi : (Try.prog.info? ty).map (·.size) = some l.length) (g off : Nat) (hx : a.eval x = .pointer (some ⟨g, off, none⟩)) (hy : a.eval y = .agg l.toArray)
    (t : TypeId) (cur : Array Value) (hg : w.heap[g]? = some (.cells cur t (0, 0))) (hfit : off + l.length ≤ cur.size) (h1 : ∀ v ∈ l, v.oneCell' = true)
    (h : wpList Try.prog ops Q rest (a.put o.dst undef) (w.setRow g (cur.toList.take off ++ l ++ cur.toList.drop (off + l.length)).toArray)) : wpList Try.prog ops Q (o :: rest) a w := by
  refine wpList_plain hgd fun K hK => ?_
  unfold Oper.wp execOp
  simp only [ho, hx, hy, Instr.storeAt, Instr.sureAddr, Sem.run_bind, Sem.run_pure, Result.andThen_ok, run_storeVar_cells w ty l hi g off t cur hg hfit h1]
  exact hK _ _ h
/-- .. into the block that was made last, whole. -/
theorem store_new {w0 : World} (hgd : o.guard = none) (ty : TypeId) (x y : Operand) (ho : o.op = .store ty x y) (l : List Value) (hi : (Try.prog.info? ty).map (·.size) = some l.length) (hx : a.eval x = .pointer (some ⟨w0.heap.size, 0, none⟩)) (hy : a.eval y = .agg l.toArray)
    (t : TypeId) (cur : Array Value) (hw : w = w0.alloc (.cells cur t)) (hfit : l.length = cur.size) (h1 : ∀ v ∈ l, v.oneCell' = true)
    (h : wpList Try.prog ops Q rest (a.put o.dst undef) (w0.alloc (.cells l.toArray t))) : wpList Try.prog ops Q (o :: rest) a w := by
  subst hw
  refine store_wide hgd ty x y ho l hi w0.heap.size 0 hx hy t cur (heap_alloc_last _ _) (by omega) h1 ?_
  have e : (cur.toList.take 0 ++ l ++ cur.toList.drop (0 + l.length)) = l := by rw [List.drop_of_length_le (by simp; omega)]; simp
  rw [e, World.setRow_alloc_new]
  exact h
end Go.Proofs.Ytpjemifoilbjeaa
