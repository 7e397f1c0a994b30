/- What is durable of a block, built; a slice of one text; a row of zeros made. No function of the program is named here. -/
import Derived.Test.YtofpojfkooigiaaWide
namespace Go.Proofs.Ytofpojfkooigiaa
open Go.RowKit

theorem foldl_seg (off : Nat) : ∀ (l : List Value) (k : Nat) (cs : Array Value), off + k + l.length ≤ cs.size →
    (l.zipIdx k).foldl (fun cs p => cs.setIfInBounds (off + p.2) p.1) cs = (cs.toList.take (off + k) ++ l ++ cs.toList.drop (off + k + l.length)).toArray
  | [], k, cs, _ => by simp
  | v :: r, k, cs, h => by
    simp only [List.zipIdx_cons, List.foldl_cons]
    rw [foldl_seg off r (k + 1) (cs.setIfInBounds (off + k) v) (by simp at h ⊢; omega)]
    have e := list_seg_step cs.toList (off + k) v r (by simp at h ⊢; omega)
    congr 1
    simpa [Array.toList_setIfInBounds, Nat.add_assoc] using e
theorem fill_one (place : Nat → Option (Nat × Nat)) (cells : Array Value) (i off : Nat) (l : List Value) (hp : place i = some (off, l.length)) (hl : off + l.length ≤ cells.size) :
    Instr.fill place cells [(i, .agg l.toArray)] = some (cells.toList.take off ++ l ++ cells.toList.drop (off + l.length)).toArray := by
  have h := foldl_seg off l 0 cells (by simpa using hl)
  have h1 : ¬ (off + l.length > cells.size) := by omega
  simp only [Instr.fill, hp, Value.cells, List.size_toArray, ne_eq, not_true_eq_false, decide_false, Bool.false_or, h1]
  simp
  simpa using h
theorem fill_cell (place : Nat → Option (Nat × Nat)) (cells : Array Value) (i off : Nat) (b : Bool) (hp : place i = some (off, 1)) (hl : off + 1 ≤ cells.size) :
    Instr.fill place cells [(i, .bool b)] = some (cells.setIfInBounds off (.bool b)) := by
  have h1 : ¬ (off + 1 > cells.size) := by omega
  simp [Instr.fill, hp, Value.cells]
  omega
theorem built_struct {P : Program} {t : TypeId} {parts : List (Nat × Value)} {it : TypeInfo} {fs : Array Field} {z : Value} {pl : List (Nat × Nat)} (h1 : P.info? t = some it) (h2 : P.underlying t = some (.struct fs)) (h3 : it.zero = some z)
    (h4 : fs.toList.mapM (fun f => (P.info? f.type).map fun i => (f.offset, i.size)) = some pl) : P.built t parts = Instr.fill (pl.toArray[·]?) z.cells parts := by
  unfold Program.built
  simp only [h1, h2, h3, h4]
def placesOf (P : Program) (t : TypeId) : Option (List (Nat × Nat)) := match P.underlying t with
  | some (.struct fs) => fs.toList.mapM (fun f => (P.info? f.type).map fun i => (f.offset, i.size))
  | _ => none
theorem placesD : placesOf Try.prog TD = some [(0, 256), (256, 1)] := by kernel_rfl
theorem places_of {fs : Array Field} (h : Try.prog.underlying TD = some (.struct fs)) : fs.toList.mapM (fun f => (Try.prog.info? f.type).map fun i => (f.offset, i.size)) = some [(0, 256), (256, 1)] := by
  have h3 := placesD
  unfold placesOf at h3
  rw [h] at h3
  exact h3
theorem builtD (parts : List (Nat × Value)) : Try.prog.built TD parts = Instr.fill ([(0, 256), (256, 1)].toArray[·]?) (z256 ++ [Value.bool false]).toArray parts := by
  obtain ⟨it, h1, h2, -, -⟩ := info_parts Try.infoD
  rw [built_struct h1 Try.underlying73 h2 (places_of Try.underlying73)]
  simp only [Value.cells]
theorem run_buildD (w : World) (l : List Value) (hl : l.length = 256) : (Instr.build TD #[(0, .agg l.toArray)]).run Try.prog w = .ok (.agg (l ++ [Value.bool false]).toArray) w := by
  refine run_build w TD _ _ ?_
  rw [builtD, fill_one _ _ 0 0 l (by rw [hl]; rfl) (by simp [z256_len, hl])]
  congr 2
  simp [hl]
  rw [List.drop_append_of_le_length (by rw [z256_len]; omega), List.drop_of_length_le (by rw [z256_len]; omega)]
  rfl
theorem run_buildBad (w : World) : (Instr.build TD #[(1, .bool true)]).run Try.prog w = .ok (.agg (z256 ++ [Value.bool true]).toArray) w := by
  refine run_build w TD _ _ ?_
  rw [builtD, fill_cell _ _ 1 256 true rfl (by simp [z256_len])]
  kernel_rfl
theorem fill_whole (l : List Value) (hl : l.length = 256) (cells : Array Value) (hc : cells.size = 256) : Instr.fill (fun i => some (i * 256, 256)) cells [(0, .agg l.toArray)] = some l.toArray := by
  rw [fill_one (fun i => some (i * 256, 256)) cells 0 0 l (by rw [hl]) (by omega), List.drop_of_length_le (by simp; omega)]
  simp
theorem run_buildSliceB (w : World) (l : List Value) (hl : l.length = 256) : (Instr.buildSlice 76 1 #[(0, .agg l.toArray)]).run Try.prog w = .ok (.slice (some ⟨w.heap.size, 0, none⟩) 1 1) (w.alloc (.cells l.toArray TB)) := by
  obtain ⟨it, h1, h2, h3, -⟩ := info_parts Try.infoB
  simp only [Instr.buildSlice, run_underlying Try.underlying76, Sem.run_bind, Result.andThen_ok, sizeOf, typeInfo, zeroValue]
  simp [h1, h2, h3, Value.cells]
  rw [fill_whole l hl _ (by simp)]
  simp [newRow, Result.andThen]
/-- The cells of a new row of blocks. -/
theorem made_row (n : Nat) : (madeCells (z256 ++ [Value.bool false]).toArray (n * 257)).toList = (List.replicate n b0).flatMap (fun _ => z256 ++ [Value.bool false]) := by
  have hz : (z256 ++ [Value.bool false]).length = 257 := by rw [List.length_append, z256_len]; rfl
  have hlen : ((List.replicate n b0).flatMap (fun _ => z256 ++ [Value.bool false])).length = n * 257 := by
    rw [flat_len _ 257 _ (fun _ _ => hz), List.length_replicate]
  apply List.ext_getElem?
  intro k
  by_cases hk : k < n * 257
  · have h1 : k / 257 < n := by omega
    have h2 := flat_get (fun _ : DBlock => z256 ++ [Value.bool false]) 257 (List.replicate n b0) (fun _ _ => hz) (k / 257) (k % 257) b0 (by rw [List.getElem?_replicate, if_pos h1]) (by omega)
    rw [show k / 257 * 257 + k % 257 = k by omega] at h2
    rw [h2]
    generalize hZ : z256 ++ [Value.bool false] = Z at *
    rw [Array.getElem?_toList]
    unfold madeCells
    rw [Array.getElem?_map, Array.getElem?_range, if_pos hk]
    have h3 : k % 257 < Z.length := by omega
    simp only [Option.map_some, List.size_toArray, hz]
    rw [List.getElem?_eq_getElem h3]
    simp [h3]
  · rw [List.getElem?_eq_none (by simp [size_madeCells]; omega), List.getElem?_eq_none (by omega)]
end Go.Proofs.Ytofpojfkooigiaa
