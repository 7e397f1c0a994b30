/- Values of many cells (a block's text, what is durable of a block): loaded, stored, built, made. No function of the program is named here. -/
import Derived.Test.YtikomnbhmmjfnaaGreatDiskN
import Derived.Deep.WholeRow
import Derived.Deep.OwnRows
import Derived.Deep.DeepAppendWide
import Derived.Laws.CopyRow
import Derived.Laws.CopyOwn
import Derived.Maps.OwnSet
import Derived.OrdersHeld
namespace Go.Proofs.YtikomnbhmmjfnaaGreat
open Go.RowKit

/-! ### Lists of pieces of one length -/
section
variable {α β : Type}
theorem flat_len (f : α → List β) (c : Nat) : ∀ (l : List α), (∀ x ∈ l, (f x).length = c) → (l.flatMap f).length = l.length * c
  | [], _ => by simp
  | x :: r, h => by
    rw [List.flatMap_cons, List.length_append, flat_len f c r (fun y hy => h y (by simp [hy])), h x (by simp), List.length_cons, Nat.add_mul]; omega
theorem flat_get (f : α → List β) (c : Nat) : ∀ (l : List α), (∀ x ∈ l, (f x).length = c) → ∀ (i j : Nat) (x : α), l[i]? = some x → j < c → (l.flatMap f)[i * c + j]? = (f x)[j]?
  | [], _, i, j, x, hx, _ => by simp at hx
  | y :: r, h, 0, j, x, hx, hj => by
    simp at hx
    subst hx
    rw [List.flatMap_cons, List.getElem?_append_left (by rw [h y (by simp)]; omega)]
    simp
  | y :: r, h, i + 1, j, x, hx, hj => by
    have e := h y (by simp)
    rw [List.flatMap_cons, List.getElem?_append_right (by rw [e, Nat.add_mul]; omega)]
    have := flat_get f c r (fun z hz => h z (by simp [hz])) i j x (by simpa using hx) hj
    rw [← this]
    congr 1
    rw [e, Nat.add_mul]; omega
theorem flat_set (f : α → List β) (c : Nat) : ∀ (l : List α), (∀ x ∈ l, (f x).length = c) → ∀ (i : Nat) (y : α), i < l.length →
    (l.set i y).flatMap f = (l.flatMap f).take (i * c) ++ (f y ++ (l.flatMap f).drop (i * c + c))
  | [], _, i, y, hi => by simp at hi
  | x :: r, h, 0, y, hi => by
    have e := h x (by simp)
    simp [List.flatMap_cons]
    rw [List.drop_append_of_le_length (by omega), List.drop_of_length_le (by omega)]
    simp
  | x :: r, h, i + 1, y, hi => by
    have e := h x (by simp)
    have ih := flat_set f c r (fun z hz => h z (by simp [hz])) i y (by simpa using hi)
    rw [List.set_cons_succ, List.flatMap_cons, List.flatMap_cons, ih]
    have h1 : (i + 1) * c = (f x).length + i * c := by rw [e, Nat.add_mul]; omega
    rw [h1, Nat.add_assoc, List.take_length_add_append, List.drop_length_add_append]
    simp
end

/-! ### The two types -/
abbrev TB : TypeId := 129
abbrev TD : TypeId := 131
def z256 : List Value := List.replicate 256 (.int .u8 0)
theorem zcB : Tryz.zeroCells129 = z256.toArray := by kernel_rfl
theorem zcD : Tryz.zeroCells131 = (z256 ++ [Value.bool false]).toArray := by kernel_rfl
theorem Tryz.infoB : (Tryz.prog.info? 129).map (fun i => (i.zero, i.size, i.bytes)) = some (some (.agg z256.toArray), 256, 256) := by kernel_rfl
theorem Tryz.infoD : (Tryz.prog.info? 131).map (fun i => (i.zero, i.size, i.bytes)) = some (some (.agg (z256 ++ [Value.bool false]).toArray), 257, 257) := by kernel_rfl
theorem sizeB : (Tryz.prog.info? 129).map (·.size) = some 256 := by kernel_rfl
theorem sizeD : (Tryz.prog.info? 131).map (·.size) = some 257 := by kernel_rfl
theorem z256_len : z256.length = 256 := List.length_replicate
theorem z256_zeros : zeros.map bv = z256 := by unfold zeros z256 bv; rw [List.map_replicate]; rfl

/-! ### The operations as runs -/
def isWide : TypeDesc → Bool
  | .struct _ | .array _ _ => true
  | _ => false
section
variable {P : Program}
theorem run_loadVar_cells (w : World) (ty : TypeId) (d : TypeDesc) (hu : P.underlying ty = some d) (hd : isWide d = true)
    (l : List Value) (hi : (P.info? ty).map (·.size) = some l.length) (g off : Nat) (hc : ∀ j, j < l.length → w.cell? ⟨g, off + j, none⟩ = l[j]?) :
    (loadVar ty ⟨g, off, none⟩).run P w = .ok (.agg l.toArray) w := by
  have hl : (loadCells ⟨g, off, none⟩ l.length).run P w = .ok l.toArray w :=
    run_loadCells_list (P := P) w ⟨g, off, none⟩ l (fun j v hv => by
      have hj : j < l.length := (List.getElem?_eq_some_iff.1 hv).1
      rw [addr_add, hc j hj, hv])
  cases hq : P.info? ty with
  | none => simp [hq] at hi
  | some i =>
    have hs : i.size = l.length := by simpa [hq] using hi
    have hagg : (isAgg ty).run P w = .ok true w := by
      unfold isAgg
      rw [Sem.run_bind, run_underlying hu w]
      cases d <;> simp_all [isWide]
    simp [loadVar, Sem.run_bind, hagg, sizeOf, typeInfo, hq, hs, hl]
theorem run_storeVar_cells (w : World) (ty : TypeId) (l : List Value) (hi : (P.info? ty).map (·.size) = some l.length) (g off : Nat) (t : TypeId) (cur : Array Value)
    (hg : w.heap[g]? = some (.cells cur t (0, 0))) (hfit : off + l.length ≤ cur.size) (h1 : ∀ v ∈ l, v.oneCell' = true) :
    (storeVar ty ⟨g, off, none⟩ (.agg l.toArray)).run P w = .ok () (w.setRow g (cur.toList.take off ++ l ++ cur.toList.drop (off + l.length)).toArray) := by
  have hst := run_storeCells_at P g off t l 0 cur w hg (by simpa using hfit) h1
  cases hq : P.info? ty with
  | none => simp [hq] at hi
  | some i =>
    have hs : i.size = l.length := by simpa [hq] using hi
    simp [storeVar, sizeOf, typeInfo, hq, Value.cells, hs]
    simpa using hst
end
variable {ops : Array Oper} {rest : List Oper} {o : Oper} {a : Act} {w : World} {Q : Exit → Act → World → Prop}
theorem load_wide (hgd : o.guard = none) (ty : TypeId) (x : Operand) (ho : o.op = .load ty x) (d : TypeDesc) (hu : Tryz.prog.underlying ty = some d) (hd : isWide d = true)
    (l : List Value) (hi : (Tryz.prog.info? ty).map (·.size) = some l.length) (g off : Nat) (hx : a.eval x = .pointer (some ⟨g, off, none⟩)) (hc : ∀ j, j < l.length → w.cell? ⟨g, off + j, none⟩ = l[j]?)
    (h : wpList Tryz.prog ops Q rest (a.put o.dst (.agg l.toArray)) w) : wpList Tryz.prog ops Q (o :: rest) a w := by
  refine wpList_plain hgd fun K hK => ?_
  unfold Oper.wp execOp
  simp only [ho, hx, Instr.loadAt, Instr.sureAddr, Sem.run_bind, Sem.run_pure, Result.andThen_ok, run_loadVar_cells w ty d hu hd l hi g off hc]
  exact hK _ _ h
theorem store_wide (hgd : o.guard = none) (ty : TypeId) (x y : Operand) (ho : o.op = .store ty x y) (l : List Value) (hi : (Tryz.prog.info? ty).map (·.size) = some l.length) (g off : Nat) (hx : a.eval x = .pointer (some ⟨g, off, none⟩)) (hy : a.eval y = .agg l.toArray)
    (t : TypeId) (cur : Array Value) (hg : w.heap[g]? = some (.cells cur t (0, 0))) (hfit : off + l.length ≤ cur.size) (h1 : ∀ v ∈ l, v.oneCell' = true)
    (h : wpList Tryz.prog ops Q rest (a.put o.dst undef) (w.setRow g (cur.toList.take off ++ l ++ cur.toList.drop (off + l.length)).toArray)) : wpList Tryz.prog ops Q (o :: rest) a w := by
  refine wpList_plain hgd fun K hK => ?_
  unfold Oper.wp execOp
  simp only [ho, hx, hy, Instr.storeAt, Instr.sureAddr, Sem.run_bind, Sem.run_pure, Result.andThen_ok, run_storeVar_cells w ty l hi g off t cur hg hfit h1]
  exact hK _ _ h
/-- .. into the block that was made last, whole. -/
theorem store_new {w0 : World} (hgd : o.guard = none) (ty : TypeId) (x y : Operand) (ho : o.op = .store ty x y) (l : List Value) (hi : (Tryz.prog.info? ty).map (·.size) = some l.length) (hx : a.eval x = .pointer (some ⟨w0.heap.size, 0, none⟩)) (hy : a.eval y = .agg l.toArray)
    (t : TypeId) (cur : Array Value) (hw : w = w0.alloc (.cells cur t)) (hfit : l.length = cur.size) (h1 : ∀ v ∈ l, v.oneCell' = true)
    (h : wpList Tryz.prog ops Q rest (a.put o.dst undef) (w0.alloc (.cells l.toArray t))) : wpList Tryz.prog ops Q (o :: rest) a w := by
  subst hw
  refine store_wide hgd ty x y ho l hi w0.heap.size 0 hx hy t cur (heap_alloc_last _ _) (by omega) h1 ?_
  have e : (cur.toList.take 0 ++ l ++ cur.toList.drop (0 + l.length)) = l := by rw [List.drop_of_length_le (by simp; omega)]; simp
  rw [e, World.setRow_alloc_new]
  exact h
theorem build_text (hgd : o.guard = none) (x : Operand) (ho : o.op = .build TD #[(0, x)]) (v : Value) (hx : a.eval x = v) (l' : List Value) (hr : ∀ w : World, (Instr.build TD #[(0, v)]).run Tryz.prog w = .ok (.agg l'.toArray) w)
    (h : wpList Tryz.prog ops Q rest (a.put o.dst (.agg l'.toArray)) w) : wpList Tryz.prog ops Q (o :: rest) a w := by
  refine wpList_plain hgd fun K hK => ?_
  unfold Oper.wp execOp
  simp [ho, hx, hr]
  exact hK _ _ h
theorem build_bad (hgd : o.guard = none) (ho : o.op = .build TD #[(1, .const (.bool true))]) (l' : List Value) (hr : ∀ w : World, (Instr.build TD #[(1, .bool true)]).run Tryz.prog w = .ok (.agg l'.toArray) w)
    (h : wpList Tryz.prog ops Q rest (a.put o.dst (.agg l'.toArray)) w) : wpList Tryz.prog ops Q (o :: rest) a w := by
  refine wpList_plain hgd fun K hK => ?_
  unfold Oper.wp execOp
  simp [ho, Act.eval, hr]
  exact hK _ _ h
end Go.Proofs.YtikomnbhmmjfnaaGreat

/- What is durable of a block, built; a slice of one text; a row of zeros made. No function of the program is named here. -/
namespace Go.Proofs.YtikomnbhmmjfnaaGreat
open Go.RowKit

theorem foldl_seg (off : Nat) : ∀ (l : List Value) (k : Nat) (cs : Array Value), off + k + l.length ≤ cs.size →
    (l.zipIdx k).foldl (fun cs p => cs.setIfInBounds (off + p.2) p.1) cs = (cs.toList.take (off + k) ++ l ++ cs.toList.drop (off + k + l.length)).toArray
  | [], k, cs, _ => by simp
  | v :: r, k, cs, h => by
    simp only [List.zipIdx_cons, List.foldl_cons]
    rw [foldl_seg off r (k + 1) (cs.setIfInBounds (off + k) v) (by simp at h ⊢; omega)]
    have e := list_seg_step cs.toList (off + k) v r (by simp at h ⊢; omega)
    congr 1
    simpa [Array.toList_setIfInBounds, Nat.add_assoc] using e
theorem fill_one (place : Nat → Option (Nat × Nat)) (cells : Array Value) (i off : Nat) (l : List Value) (hp : place i = some (off, l.length)) (hl : off + l.length ≤ cells.size) :
    Instr.fill place cells [(i, .agg l.toArray)] = some (cells.toList.take off ++ l ++ cells.toList.drop (off + l.length)).toArray := by
  have h := foldl_seg off l 0 cells (by simpa using hl)
  have h1 : ¬ (off + l.length > cells.size) := by omega
  simp only [Instr.fill, hp, Value.cells, List.size_toArray, ne_eq, not_true_eq_false, decide_false, Bool.false_or, h1]
  simp
  simpa using h
theorem fill_cell (place : Nat → Option (Nat × Nat)) (cells : Array Value) (i off : Nat) (b : Bool) (hp : place i = some (off, 1)) (hl : off + 1 ≤ cells.size) :
    Instr.fill place cells [(i, .bool b)] = some (cells.setIfInBounds off (.bool b)) := by
  have h1 : ¬ (off + 1 > cells.size) := by omega
  simp [Instr.fill, hp, Value.cells]
  omega
theorem built_struct {P : Program} {t : TypeId} {parts : List (Nat × Value)} {it : TypeInfo} {fs : Array Field} {z : Value} {pl : List (Nat × Nat)} (h1 : P.info? t = some it) (h2 : P.underlying t = some (.struct fs)) (h3 : it.zero = some z)
    (h4 : fs.toList.mapM (fun f => (P.info? f.type).map fun i => (f.offset, i.size)) = some pl) : P.built t parts = Instr.fill (pl.toArray[·]?) z.cells parts := by
  unfold Program.built
  simp only [h1, h2, h3, h4]
def placesOf (P : Program) (t : TypeId) : Option (List (Nat × Nat)) := match P.underlying t with
  | some (.struct fs) => fs.toList.mapM (fun f => (P.info? f.type).map fun i => (f.offset, i.size))
  | _ => none
theorem placesD : placesOf Tryz.prog TD = some [(0, 256), (256, 1)] := by kernel_rfl
theorem places_of {fs : Array Field} (h : Tryz.prog.underlying TD = some (.struct fs)) : fs.toList.mapM (fun f => (Tryz.prog.info? f.type).map fun i => (f.offset, i.size)) = some [(0, 256), (256, 1)] := by
  have h3 := placesD
  unfold placesOf at h3
  rw [h] at h3
  exact h3
theorem builtD (parts : List (Nat × Value)) : Tryz.prog.built TD parts = Instr.fill ([(0, 256), (256, 1)].toArray[·]?) (z256 ++ [Value.bool false]).toArray parts := by
  obtain ⟨it, h1, h2, -, -⟩ := info_parts Tryz.infoD
  rw [built_struct h1 Tryz.underlying131 h2 (places_of Tryz.underlying131)]
  simp only [Value.cells]
theorem run_buildD (w : World) (l : List Value) (hl : l.length = 256) : (Instr.build TD #[(0, .agg l.toArray)]).run Tryz.prog w = .ok (.agg (l ++ [Value.bool false]).toArray) w := by
  refine run_build w TD _ _ ?_
  rw [builtD, fill_one _ _ 0 0 l (by rw [hl]; rfl) (by simp [z256_len, hl])]
  congr 2
  simp [hl]
  rw [List.drop_append_of_le_length (by rw [z256_len]; omega), List.drop_of_length_le (by rw [z256_len]; omega)]
  rfl
theorem run_buildBad (w : World) : (Instr.build TD #[(1, .bool true)]).run Tryz.prog w = .ok (.agg (z256 ++ [Value.bool true]).toArray) w := by
  refine run_build w TD _ _ ?_
  rw [builtD, fill_cell _ _ 1 256 true rfl (by simp [z256_len])]
  kernel_rfl
theorem fill_whole (l : List Value) (hl : l.length = 256) (cells : Array Value) (hc : cells.size = 256) : Instr.fill (fun i => some (i * 256, 256)) cells [(0, .agg l.toArray)] = some l.toArray := by
  rw [fill_one (fun i => some (i * 256, 256)) cells 0 0 l (by rw [hl]) (by omega), List.drop_of_length_le (by simp; omega)]
  simp
theorem run_buildSliceB (w : World) (l : List Value) (hl : l.length = 256) : (Instr.buildSlice 141 1 #[(0, .agg l.toArray)]).run Tryz.prog w = .ok (.slice (some ⟨w.heap.size, 0, none⟩) 1 1) (w.alloc (.cells l.toArray TB)) := by
  obtain ⟨it, h1, h2, h3, -⟩ := info_parts Tryz.infoB
  simp only [Instr.buildSlice, run_underlying Tryz.underlying141, Sem.run_bind, Result.andThen_ok, sizeOf, typeInfo, zeroValue]
  simp [h1, h2, h3, Value.cells]
  rw [fill_whole l hl _ (by simp)]
  simp [newRow, Result.andThen]
/-- The cells of a new row of blocks. -/
theorem made_row (n : Nat) : (madeCells (z256 ++ [Value.bool false]).toArray (n * 257)).toList = (List.replicate n b0).flatMap (fun _ => z256 ++ [Value.bool false]) := by
  have hz : (z256 ++ [Value.bool false]).length = 257 := by rw [List.length_append, z256_len]; rfl
  have hlen : ((List.replicate n b0).flatMap (fun _ => z256 ++ [Value.bool false])).length = n * 257 := by
    rw [flat_len _ 257 _ (fun _ _ => hz), List.length_replicate]
  apply List.ext_getElem?
  intro k
  by_cases hk : k < n * 257
  · have h1 : k / 257 < n := by omega
    have h2 := flat_get (fun _ : DBlock => z256 ++ [Value.bool false]) 257 (List.replicate n b0) (fun _ _ => hz) (k / 257) (k % 257) b0 (by rw [List.getElem?_replicate, if_pos h1]) (by omega)
    rw [show k / 257 * 257 + k % 257 = k by omega] at h2
    rw [h2]
    generalize hZ : z256 ++ [Value.bool false] = Z at *
    rw [Array.getElem?_toList]
    unfold madeCells
    rw [Array.getElem?_map, Array.getElem?_range, if_pos hk]
    have h3 : k % 257 < Z.length := by omega
    simp only [Option.map_some, List.size_toArray, hz]
    rw [List.getElem?_eq_getElem h3]
    simp [h3]
  · rw [List.getElem?_eq_none (by simp [size_madeCells]; omega), List.getElem?_eq_none (by omega)]
end Go.Proofs.YtikomnbhmmjfnaaGreat
