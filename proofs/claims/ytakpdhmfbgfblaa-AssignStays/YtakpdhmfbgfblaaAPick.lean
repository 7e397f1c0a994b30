/- pick of a deck: the cards that are wanted and there. -/
import Derived.Test.YtakpdhmfbgfblaaAParts
namespace Go.Proofs.Ytakpdhmfbgfblaa
open Go.RowKit Go.Sort
variable {w w' : World} {D b : Nat} {v : Value} {xs : List Int}

/-- One wanted card: what is left, what was picked. -/
def pickS (s : List Int × List Int) (z : Int) : List Int × List Int := if s.1.contains z then (s.1.erase z, s.2 ++ [z]) else s
/-- All wanted cards. -/
def pickN (xs ws : List Int) : List Int × List Int := ws.foldl pickS (xs, [])
theorem pickN_snoc (xs ws : List Int) (z : Int) : pickN xs (ws ++ [z]) = pickS (pickN xs ws) z := by simp [pickN, List.foldl_append]
def cntP (x : Int) (xs : List Int) : Nat := xs.countP (· < x)
theorem erase_cnt {x : Int} : ∀ {xs : List Int}, xs.Pairwise (· < ·) → x ∈ xs → cntP x xs < xs.length ∧ xs.eraseIdx (cntP x xs) = xs.erase x
  | [], _, h => by cases h
  | a :: l, hs, h => by
    have hs2 := List.pairwise_cons.1 hs
    by_cases hax : a = x
    · subst hax
      have h0 : cntP a (a :: l) = 0 := by
        unfold cntP
        rw [List.countP_eq_zero]
        intro y hy
        rcases List.mem_cons.1 hy with rfl | hy
        · simp
        · have := hs2.1 y hy; simp; omega
      rw [h0]
      simp
    · have hx : x ∈ l := by
        rcases List.mem_cons.1 h with h | h
        · exact absurd h.symm hax
        · exact h
      have hlt := hs2.1 x hx
      have h1 : cntP x (a :: l) = cntP x l + 1 := by unfold cntP; rw [List.countP_cons_of_pos (by simpa using hlt)]
      obtain ⟨e1, e2⟩ := erase_cnt hs2.2 hx
      rw [h1]
      refine ⟨by simp; exact e1, ?_⟩
      rw [List.eraseIdx_cons_succ, e2, List.erase_cons_tail (by simpa using hax)]
theorem pickS_rise {s : List Int × List Int} {z : Int} (h : s.1.Pairwise (· < ·)) : (pickS s z).1.Pairwise (· < ·) := by
  unfold pickS
  split
  · exact h.sublist List.erase_sublist
  · exact h
theorem CardsAt.zs {off : Nat} {cur : Array Value} (h3 : w.heap[b]? = some (.cells cur 3 (0, 0))) (h5 : ∀ j, j < xs.length → cur[off + j]? = some (.int .i64 (xs.getD j 0))) : ∀ j, j < xs.length → w.cell? ⟨b, off + j, none⟩ = some (.int .i64 (xs.getD j 0)) := fun j hj => by
  rw [cell_of_row _ _ _ _ _ _ h3]; exact h5 j hj
set_option maxHeartbeats 1000000 in
theorem search_any (h : CardsAt w b v xs) (hs : xs.Pairwise (· < ·)) (hx : xs.length < 4611686018427387904) (x : Int) :
    Calls Try.prog 35 #[v, .int .i64 x] w fun e w' => e = .returned (.tuple #[.int .i64 (cntP x xs : Int), .bool (xs.contains x)]) ∧ Below w.heap.size w w' := by
  rcases h with ⟨rfl, rfl⟩ | ⟨off, c, cur, rfl, h1, h2, h3, h4, h5⟩
  · go_enter Try.func35, Try.ntmps35
    go_wp2_with fail
    go_loopw [7, 8] (fun vi vj wr => vi = .int .i64 0 ∧ vj = .int .i64 0 ∧ Hid (Below w.heap.size w wr)) (fun _ _ _ => 0)
    case atStart => exact ⟨rfl, rfl, Below.refl _ _⟩
    case round =>
      obtain ⟨rfl, rfl, HB⟩ := hrel
      go_wp2_with fail
      refine bodyPost_ret (results_tmp2 Try.results35 _ _ _) rfl ⟨rfl, HB.out⟩
  · refine (show Calls Try.prog 35 #[.slice (some ⟨b, off, none⟩) xs.length c, .int .i64 x] w _ from AnyG.slices_BinarySearch_int Try.searchZ b off xs.length c xs x w (Nat.le_refl _) hx (CardsAt.zs h3 h5) (by rw [List.take_of_length_le (Nat.le_refl _)]; exact hs.imp (fun h => by omega))).mono ?_
    rintro e w' ⟨rfl, q, rfl⟩
    rw [List.take_of_length_le (Nat.le_refl _)]
    exact ⟨rfl, below_drewN' (Below.refl _ _) q⟩
theorem heap_put {g n off : Nat} {cur : Array Value} {e : TypeId} {fr : Nat × Nat} (d : Array Int) (hb : w.heap[g]? = some (.cells cur e fr)) :
    (putRow (Value.int .i64) (Sort.ahead w n) g off d).heap[g]? = some (.cells (putCells (Value.int .i64) off d cur) e fr) := by
  simp [putRow, mapBlock, Sort.ahead, Array.getElem?_modify, hb, onCells]
theorem put_chg {g n off : Nat} (d : Array Int) : Chg [g] w (putRow (Value.int .i64) (Sort.ahead w n) g off d) := by
  refine ⟨rfl, rfl, rfl, by simp [putRow, mapBlock, Sort.ahead], fun k hk hne => ?_⟩
  have : g ≠ k := fun e => hne (by rw [e]; simp)
  simp [putRow, mapBlock, Sort.ahead, Array.getElem?_modify, this]
set_option maxHeartbeats 1000000 in
theorem delete_at {off c i : Nat} {cur : Array Value} (h1 : xs.length ≤ c) (h2 : c ≤ maxLen) (h3 : w.heap[b]? = some (.cells cur 3 (0, 0))) (h4 : off + c ≤ cur.size) (h5 : ∀ j, j < xs.length → cur[off + j]? = some (.int .i64 (xs.getD j 0))) (hi : i < xs.length) :
    Calls Try.prog 36 #[.slice (some ⟨b, off, none⟩) xs.length c, .int .i64 (i : Int), .int .i64 ((i + 1 : Nat) : Int)] w fun e w' => e = .returned (.slice (some ⟨b, off, none⟩) (xs.length - 1) c) ∧ CardsAt w' b (.slice (some ⟨b, off, none⟩) (xs.length - 1) c) (xs.eraseIdx i) ∧ Chg [b] w w' := by
  obtain ⟨i0, hi0, hz0, hz1, hz2⟩ := info_parts Try.infoZ
  have hz : ∀ w, (zeroValue 3).run Try.prog w = .ok (Value.int .i64 0) w := fun w => by simp [zeroValue, typeInfo, hi0, hz0]
  have hH : Holds (Value.int .i64) w b off xs.toArray := fun j hj => by
    have hj' : j < xs.length := by simpa using hj
    refine ⟨?_, by simp [World.frozen?, h3]⟩
    rw [CardsAt.zs h3 h5 j hj', List.getD_eq_getElem?_getD, List.getElem?_eq_getElem hj']
    simp [hj']
  have hD := AnyE.slices_Delete Try.deleteZ (Value.int .i64) (by intro _; rfl) 0 hz i0 hi0 hz1 b off c i (i + 1) xs.toArray w hH (by simpa using h1) (by unfold maxLen at h2; omega) (by omega) (by simp; omega)
  simp only [List.size_toArray] at hD
  refine (show Calls Try.prog 36 #[.slice (some ⟨b, off, none⟩) xs.length c, .int .i64 (i : Int), .int .i64 ((i + 1 : Nat) : Int)] w _ from hD).mono ?_
  rintro e w' ⟨rfl, q, rfl⟩
  have e1 : xs.length - (i + 1 - i) = xs.length - 1 := by omega
  have e2 : i + 1 - i = 1 := by omega
  rw [e1, e2]
  refine ⟨rfl, ?_, put_chg _⟩
  have hl : (xs.eraseIdx i).length = xs.length - 1 := by rw [List.length_eraseIdx, if_pos hi]
  refine Or.inr ⟨off, c, _, by rw [hl], by omega, h2, heap_put _ h3, by simp [putCells]; omega, fun j hj => ?_⟩
  rw [hl] at hj
  have hjc : off + j < cur.size := by omega
  have hg : (xs.take i ++ xs.drop (i + 1) ++ List.replicate 1 0)[j]? = (xs.eraseIdx i)[j]? := by
    rw [List.getElem?_append_left (by simp; omega), List.eraseIdx_eq_take_drop_succ]
  have hj2 : j < (xs.eraseIdx i).length := by omega
  rw [List.getElem?_eq_getElem hj2] at hg
  have hy : (xs.take i ++ xs.drop (i + 1) ++ List.replicate 1 0).toArray[off + j - off]! = (xs.eraseIdx i)[j] := by
    rw [Nat.add_sub_cancel_left]
    simp only [getElem!_def, List.getElem?_toArray, hg]
  simp only [putCells]
  rw [Array.getElem?_mapIdx, Array.getElem?_eq_getElem hjc, Option.map_some, if_pos ⟨by omega, by simp; omega⟩, hy, List.getD_eq_getElem?_getD, List.getElem?_eq_getElem hj2]
  rfl
end Go.Proofs.Ytakpdhmfbgfblaa
