/- Counting the partitions of shares: what the statements of layers 14 and 15 count. No function is named here. -/
import Derived.Test.YtakpdhmfbgfblaaAMath
import Derived.Laws.MakeOwn
namespace Go.Proofs.Ytakpdhmfbgfblaa
open Go.RowKit

/-- How often each partition was met. -/
def cnts (p : Nat) (F : List Int) : List Value := (List.range p).map (fun (x : Nat) => Value.int .i64 ((F.count (x : Int) : Nat) : Int))
theorem cnts_len (p : Nat) (F : List Int) : (cnts p F).length = p := by simp [cnts]
theorem cnts_get (p : Nat) (F : List Int) (x : Nat) (h : x < p) : (cnts p F)[x]? = some (.int .i64 ((F.count (x : Int) : Nat) : Int)) := by simp [cnts, h]
theorem cnts_set (p : Nat) (F : List Int) (x : Nat) (h : x < p) : (cnts p F).toArray.setIfInBounds x (.int .i64 (((F.count (x : Int) : Nat) : Int) + 1)) = (cnts p (F ++ [(x : Int)])).toArray := by
  rw [List.setIfInBounds_toArray]
  congr 1
  apply List.ext_getElem?
  intro j
  by_cases hj : j < p
  · rw [cnts_get p _ j hj]
    by_cases e : x = j
    · subst e
      rw [List.getElem?_set_self (by rw [cnts_len]; exact h), List.count_append]
      simp
    · rw [List.getElem?_set_ne e, cnts_get p _ j hj, List.count_append]
      have : List.count (j : Int) [(x : Int)] = 0 := by
        rw [List.count_eq_zero]
        simp
        omega
      rw [this]
      simp
  · rw [List.getElem?_eq_none (by rw [List.length_set, cnts_len]; omega), List.getElem?_eq_none (by rw [cnts_len]; omega)]
theorem cnts_zero (p : Nat) : cnts p [] = List.replicate p (.int .i64 0) := by
  apply List.ext_getElem?
  intro j
  by_cases hj : j < p
  · rw [cnts_get p _ j hj]; simp [hj]
  · rw [List.getElem?_eq_none (by rw [cnts_len]; omega), List.getElem?_eq_none (by simp; omega)]
theorem make_ints (p : Nat) (hp : p ≤ 1048576) (W : World) : (Instr.makeSlice 33 (.int .i64 (p : Int)) (.int .i64 (p : Int))).run Try.prog W = .ok (.slice (some ⟨W.heap.size, 0, none⟩) p p) (W.alloc (.cells (cnts p []).toArray 3)) := by
  obtain ⟨i0, hi, hz0, hz1, hz2⟩ := info_parts Try.infoZ
  have h := run_makeSlice (P := Try.prog) W 33 3 i0 (.int .i64 0) kZ_ok.und hi hz0 .i64 .i64 (p : Int) (p : Int) (by omega) (by omega) (by rw [hz1]; omega) (by rw [hz2]; omega) (by omega)
  rw [h]
  have e : madeCells (Value.int .i64 0).cells (((p : Nat) : Int).toNat * i0.size) = (cnts p []).toArray := by
    rw [hz1, Int.toNat_natCast, Nat.mul_one, cnts_zero]
    apply Array.ext
    · simp [madeCells]
    · intro j h1 h2
      simp [madeCells, Value.cells, Nat.mod_one]
  rw [e]
  rfl
theorem mem_all {p : Nat} {z : Int} (h : z ∈ allP p) : ∃ x : Nat, z = (x : Int) ∧ x < p := by
  unfold allP at h
  obtain ⟨x, hx, rfl⟩ := List.mem_map.1 h
  exact ⟨x, rfl, by simpa using hx⟩
theorem count_all (p x : Nat) (h : x < p) : (allP p).count (x : Int) = 1 := by
  induction p with
  | zero => omega
  | succ n ih =>
    rw [allP_succ, List.count_append]
    by_cases e : x = n
    · subst e
      have : (allP x).count (x : Int) = 0 := List.count_eq_zero.2 (fun hm => by obtain ⟨y, e, hy⟩ := mem_all hm; omega)
      rw [this]; simp
    · rw [ih (by omega)]
      have : List.count (x : Int) [(n : Int)] = 0 := List.count_eq_zero.2 (by simp; omega)
      rw [this]
theorem getD_mem_any {α : Type} (l : List α) (z : α) (j : Nat) (h : j < l.length) : l.getD j z ∈ l := by
  rw [List.getD_eq_getElem?_getD, List.getElem?_eq_getElem h]
  exact List.getElem_mem h
theorem rise_getD {l : List Int} (h : l.Pairwise (· < ·)) (k : Nat) (hk : k + 1 < l.length) : l.getD k 0 < l.getD (k + 1) 0 := by
  have := List.pairwise_iff_getElem.1 h k (k + 1) (by omega) hk (by omega)
  rw [getD_at l 0 k (by omega), getD_at l 0 (k + 1) hk]
  exact this
theorem flat_take (P : List (List Int)) (i : Nat) (h : i < P.length) : (P.take (i + 1)).flatten = (P.take i).flatten ++ P.getD i [] := by
  rw [take_snoc_any P [] i h, List.flatten_append]; simp
theorem flat_take_le (P : List (List Int)) (i : Nat) : (P.take i).flatten.length ≤ P.flatten.length := by
  have e : P.flatten = (P.take i).flatten ++ (P.drop i).flatten := by rw [← List.flatten_append, List.take_append_drop]
  rw [e, List.length_append]
  omega
end Go.Proofs.Ytakpdhmfbgfblaa
