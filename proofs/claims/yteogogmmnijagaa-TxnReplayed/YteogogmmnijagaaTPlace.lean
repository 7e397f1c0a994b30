/- Rising numbers in a slice of one's own: slices.BinarySearch, Delete of one, Insert of one. -/
import Derived.Test.YteogogmmnijagaaTMem
import Derived.Test.YteogogmmnijagaaTLayPlain
import Derived.Shelf.Abstract
import Derived.WalkLawsBesides
namespace Go.Proofs.Yteogogmmnijagaa
open Go.RowKit Go.Shelf Go.Sort
variable {w w' : World} {b : Nat} {v : Value} {xs : List Int}

def cntP (x : Int) (xs : List Int) : Nat := xs.countP (· < x)
theorem Try.infoZ : (Try.prog.info? 3).map (fun i => (i.zero, i.size, i.bytes)) = some (some (.int .i64 0), 1, 8) := by kernel_rfl
theorem kZ_map (xs : List Int) : kZ.Vs xs = xs.map (Value.int .i64) := by
  induction xs with
  | nil => rfl
  | cons a l ih => have : kZ.Vs (a :: l) = Value.int .i64 a :: kZ.Vs l := rfl
                   rw [this, ih]; rfl
theorem own_mk {c n : Nat} {cur : Array Value} (hg : w.heap[b]? = some (.cells cur 3 (0, 0))) (hn : n = xs.length) (h1 : n ≤ c) (h2 : c ≤ maxLen) (h3 : cur.size = c) (h4 : ∀ j, j < xs.length → cur[j]? = some (.int .i64 (xs.getD j 0))) : OwnK kZ w 0 (.slice (some ⟨b, 0, none⟩) n c) xs := by
  subst hn
  refine ⟨by simp [kZ_map], .inr ⟨b, c, cur, rfl, Nat.zero_le _, hg, h1, h2, by rw [h3]; simp, ?_⟩⟩
  rw [kZ_map]
  refine List.ext_getElem? fun j => ?_
  by_cases hj : j < xs.length
  · rw [List.getElem?_take_of_lt (by simpa using hj), Array.getElem?_toList, h4 j hj, List.getElem?_map, List.getElem?_eq_getElem hj, List.getD_eq_getElem?_getD, List.getElem?_eq_getElem hj]
    rfl
  · rw [List.getElem?_eq_none (by simp; omega), List.getElem?_eq_none (by simp; omega)]
theorem own_cells (h : OwnK kZ w 0 v xs) : (v = .slice none 0 0 ∧ xs = []) ∨ ∃ b c cur, v = .slice (some ⟨b, 0, none⟩) xs.length c ∧ w.heap[b]? = some (.cells cur 3 (0, 0)) ∧ xs.length ≤ c ∧ c ≤ maxLen ∧ cur.size = c ∧ ∀ j, j < xs.length → cur[j]? = some (.int .i64 (xs.getD j 0)) := by
  rcases h.2 with ⟨e, h0⟩ | ⟨b, c, cur, e, -, hg, h1, h2, h3, h4⟩
  · exact Or.inl ⟨e, List.eq_nil_of_length_eq_zero h0⟩
  · refine Or.inr ⟨b, c, cur, e, hg, h1, h2, by rw [h3]; simp, fun j hj => ?_⟩
    rw [kZ_map] at h4
    have e1 : (cur.toList.take (xs.length * 1))[j]? = cur.toList[j]? := List.getElem?_take_of_lt (by omega)
    have e2 : (xs.map (Value.int .i64))[j]? = some (.int .i64 (xs.getD j 0)) := by
      rw [List.getElem?_map, List.getElem?_eq_getElem hj, List.getD_eq_getElem?_getD, List.getElem?_eq_getElem hj]; rfl
    rw [← Array.getElem?_toList, ← e1, h4, e2]
theorem cells_at {cur : Array Value} (h3 : w.heap[b]? = some (.cells cur 3 (0, 0))) (h5 : ∀ j, j < xs.length → cur[j]? = some (.int .i64 (xs.getD j 0))) : ∀ j, j < xs.length → w.cell? ⟨b, 0 + j, none⟩ = some (.int .i64 (xs.getD j 0)) := fun j hj => by
  rw [cell_of_row _ _ _ _ _ _ h3, Nat.zero_add]; exact h5 j hj
theorem below_drewN2 {N : Nat} : ∀ (q : Nat) {w w' : World}, Below N w w' → Below N w (w'.drewN q) := by
  intro q w w' h
  exact ⟨h.os, h.tape, h.output, h.size, h.block⟩
set_option maxHeartbeats 1000000 in
theorem search_own (h : OwnK kZ w 0 v xs) (hs : xs.Pairwise (· < ·)) (hx : xs.length ≤ 100) (x : Int) :
    Calls Try.prog 63 #[v, .int .i64 x] w fun e w' => e = .returned (.tuple #[.int .i64 (cntP x xs : Int), .bool (xs.contains x)]) ∧ Below w.heap.size w w' := by
  rcases own_cells h with ⟨rfl, rfl⟩ | ⟨b, c, cur, rfl, h3, h1, h2, h4, h5⟩
  · go_enter Try.func63, Try.ntmps63
    go_wp2_with fail
    go_loopw [7, 8] (fun vi vj wr => vi = .int .i64 0 ∧ vj = .int .i64 0 ∧ Hid (Below w.heap.size w wr)) (fun _ _ _ => 0)
    case atStart => exact ⟨rfl, rfl, Below.refl _ _⟩
    case round =>
      obtain ⟨rfl, rfl, HB⟩ := hrel
      go_wp2_with fail
      refine bodyPost_ret (results_tmp2 Try.results63 _ _ _) rfl ⟨rfl, HB.out⟩
  · refine (show Calls Try.prog 63 #[.slice (some ⟨b, 0, none⟩) xs.length c, .int .i64 x] w _ from AnyG.slices_BinarySearch_int Try.searchZ b 0 xs.length c xs x w (Nat.le_refl _) (by omega) (cells_at h3 h5) (by rw [List.take_of_length_le (Nat.le_refl _)]; exact hs.imp (fun h => by omega))).mono ?_
    rintro e w' ⟨rfl, q, rfl⟩
    rw [List.take_of_length_le (Nat.le_refl _)]
    exact ⟨rfl, below_drewN2 q (Below.refl _ _)⟩
theorem heap_put {g n off : Nat} {cur : Array Value} {e : TypeId} {fr : Nat × Nat} (d : Array Int) (hb : w.heap[g]? = some (.cells cur e fr)) :
    (putRow (Value.int .i64) (Sort.ahead w n) g off d).heap[g]? = some (.cells (putCells (Value.int .i64) off d cur) e fr) := by
  simp [putRow, mapBlock, Sort.ahead, Array.getElem?_modify, hb, onCells]
theorem put_chg {g n off : Nat} (d : Array Int) : Chg [g] w (putRow (Value.int .i64) (Sort.ahead w n) g off d) := by
  refine ⟨rfl, rfl, rfl, by simp [putRow, mapBlock, Sort.ahead], fun k hk hne => ?_⟩
  have : g ≠ k := fun e => hne (by rw [e]; simp)
  simp [putRow, mapBlock, Sort.ahead, Array.getElem?_modify, this]
set_option maxHeartbeats 1000000 in
theorem delete_own {c i : Nat} (h : OwnK kZ w 0 (.slice (some ⟨b, 0, none⟩) xs.length c) xs) (hi : i < xs.length) :
    Calls Try.prog 68 #[.slice (some ⟨b, 0, none⟩) xs.length c, .int .i64 (i : Int), .int .i64 ((i + 1 : Nat) : Int)] w fun e w' => e = .returned (.slice (some ⟨b, 0, none⟩) (xs.length - 1) c) ∧ OwnK kZ w' 0 (.slice (some ⟨b, 0, none⟩) (xs.length - 1) c) (xs.eraseIdx i) ∧ Chg [b] w w' := by
  rcases own_cells h with ⟨e, -⟩ | ⟨b', c', cur, e, h3, h1, h2, h4, h5⟩
  · cases e
  injection e with e1 e2 e3
  injection e1 with e1
  injection e1 with e1
  subst e1 e3
  obtain ⟨i0, hi0, hz0, hz1, hz2⟩ := info_parts Try.infoZ
  have hz : ∀ w, (zeroValue 3).run Try.prog w = .ok (Value.int .i64 0) w := fun w => by simp [zeroValue, typeInfo, hi0, hz0]
  have hH : Holds (Value.int .i64) w b 0 xs.toArray := fun j hj => by
    have hj' : j < xs.length := by simpa using hj
    refine ⟨?_, by simp [World.frozen?, h3]⟩
    rw [cells_at h3 h5 j hj', List.getD_eq_getElem?_getD, List.getElem?_eq_getElem hj']
    simp [hj']
  have hD := AnyE.slices_Delete Try.deleteZ (Value.int .i64) (by intro _; rfl) 0 hz i0 hi0 hz1 b 0 c i (i + 1) xs.toArray w hH (by simpa using h1) (by unfold maxLen at h2; omega) (by omega) (by simp; omega)
  simp only [List.size_toArray] at hD
  refine (show Calls Try.prog 68 #[.slice (some ⟨b, 0, none⟩) xs.length c, .int .i64 (i : Int), .int .i64 ((i + 1 : Nat) : Int)] w _ from hD).mono ?_
  rintro e w' ⟨rfl, q, rfl⟩
  have e1 : xs.length - (i + 1 - i) = xs.length - 1 := by omega
  have e2 : i + 1 - i = 1 := by omega
  rw [e1, e2]
  refine ⟨rfl, ?_, put_chg _⟩
  have hl : (xs.eraseIdx i).length = xs.length - 1 := by rw [List.length_eraseIdx, if_pos hi]
  refine own_mk (heap_put _ h3) hl.symm (by omega) h2 (by simp [putCells]; omega) (fun j hj => ?_)
  rw [hl] at hj
  have hjc : j < cur.size := by omega
  have hg : (xs.take i ++ xs.drop (i + 1) ++ List.replicate 1 0)[j]? = (xs.eraseIdx i)[j]? := by
    rw [List.getElem?_append_left (by simp; omega), List.eraseIdx_eq_take_drop_succ]
  have hj2 : j < (xs.eraseIdx i).length := by omega
  rw [List.getElem?_eq_getElem hj2] at hg
  have hy : (xs.take i ++ xs.drop (i + 1) ++ List.replicate 1 0).toArray[j - 0]! = (xs.eraseIdx i)[j] := by
    rw [Nat.sub_zero]
    simp only [getElem!_def, List.getElem?_toArray, hg]
  simp only [putCells]
  rw [Array.getElem?_mapIdx, Array.getElem?_eq_getElem hjc, Option.map_some, if_pos ⟨by omega, by simp; omega⟩, hy, List.getD_eq_getElem?_getD, List.getElem?_eq_getElem hj2]
  rfl
/-! ### Insert -/
def patch (cur : Array Value) : Nat → List Value → Array Value
  | _, [] => cur
  | o, u :: r => patch (cur.setIfInBounds o u) (o + 1) r
theorem Blk.setCells {T : TypeId} : ∀ (vs : List Value) (o : Nat) {w : World} {cur : Array Value}, Blk w b cur T → Blk (w.setCells b o vs) b (patch cur o vs) T
  | [], _, _, _, h => h
  | u :: r, o, _, _, h => Blk.setCells r (o + 1) (h.set o u)
theorem patch_size : ∀ (vs : List Value) (o : Nat) (cur : Array Value), (patch cur o vs).size = cur.size
  | [], _, _ => rfl
  | u :: r, o, cur => by rw [patch, patch_size r]; simp
theorem patch_get : ∀ (vs : List Value) (o : Nat) (cur : Array Value) (j : Nat), o + vs.length ≤ cur.size → (patch cur o vs)[j]? = if o ≤ j ∧ j < o + vs.length then vs[j - o]? else cur[j]?
  | [], o, cur, j, _ => by rw [patch, if_neg (by simp only [List.length_nil]; omega)]
  | u :: r, o, cur, j, h => by
    simp only [List.length_cons] at h
    rw [patch, patch_get r (o + 1) _ j (by simp; omega)]
    by_cases e : j = o
    · subst e
      rw [if_neg (by omega), if_pos (by simp), Nat.sub_self]
      simp [show j < cur.size by omega]
    · by_cases h2 : o ≤ j ∧ j < o + (u :: r).length
      · simp only [List.length_cons] at h2
        rw [if_pos (by omega), if_pos (by simp; omega), show j - o = j - (o + 1) + 1 by omega]
        rfl
      · simp only [List.length_cons] at h2
        rw [if_neg (by omega), if_neg (by simp; omega)]
        rw [Array.getElem?_setIfInBounds_ne (fun h => e h.symm)]
theorem setCells_chg : ∀ (vs : List Value) (o : Nat) {w w' : World}, Chg [b] w w' → Chg [b] w (w'.setCells b o vs)
  | [], _, _, _, h => h
  | u :: r, o, _, _, h => setCells_chg r (o + 1) (h.set (Or.inl (by simp)) o u)
theorem setCells_below : ∀ (vs : List Value) (o : Nat) {N : Nat} {w w' : World}, N ≤ b → Below N w w' → Below N w (w'.setCells b o vs)
  | [], _, _, _, _, _, h => h
  | u :: r, o, _, _, _, hN, h => setCells_below r (o + 1) hN (Below.setCell h (show _ ≤ (⟨b, o, none⟩ : Addr).block from hN) u)
/-- What the list is with x put in at place i. -/
def insZ (xs : List Int) (i : Nat) (x : Int) : List Int := xs.take i ++ x :: xs.drop i
theorem insZ_len (i : Nat) (x : Int) : (insZ xs i x).length = xs.length + 1 := by unfold insZ; simp; omega
theorem insZ_get (i : Nat) (hi : i ≤ xs.length) (x : Int) (j : Nat) : (insZ xs i x).getD j 0 = if j < i then xs.getD j 0 else if j = i then x else xs.getD (j - 1) 0 := by
  unfold insZ
  simp only [List.getD_eq_getElem?_getD]
  by_cases h1 : j < i
  · rw [if_pos h1, List.getElem?_append_left (by simp; omega), List.getElem?_take_of_lt h1]
  · rw [if_neg h1, List.getElem?_append_right (by simp; omega)]
    have e : (xs.take i).length = i := by simp; omega
    rw [e]
    by_cases h2 : j = i
    · subst h2; simp
    · rw [if_neg h2, show j - i = (j - 1 - i) + 1 by omega, List.getElem?_cons_succ, List.getElem?_drop, show i + (j - 1 - i) = j - 1 by omega]
/-- What an Insert leaves. -/
def InsPost (w : World) (v : Value) (l : List Int) (e : Ending) (w' : World) : Prop :=
  ∃ v', e = .returned v' ∧ OwnK kZ w' 0 v' l ∧ Chg v.ownBlock.toList w w' ∧ ∀ b, v'.ownBlock = some b → v.ownBlock = some b ∨ (w.heap.size ≤ b ∧ b < w'.heap.size)
theorem map_get (xs : List Int) (j : Nat) (u : Value) (h : (xs.map (Value.int .i64))[j]? = some u) : j < xs.length ∧ u = .int .i64 (xs.getD j 0) := by
  rw [List.getElem?_map] at h
  cases hq : xs[j]? with
  | none => rw [hq] at h; cases h
  | some y =>
    rw [hq] at h
    have := (List.getElem?_eq_some_iff.1 hq).1
    exact ⟨this, by rw [List.getD_eq_getElem?_getD, hq]; exact (Option.some.inj h).symm⟩
theorem getD_map_drop (xs : List Int) (i j : Nat) (h : i + j < xs.length) : ((xs.map (Value.int .i64)).drop i)[j]? = some (.int .i64 (xs.getD (i + j) 0)) := by
  rw [List.getElem?_drop, List.getElem?_map, List.getElem?_eq_getElem h, List.getD_eq_getElem?_getD, List.getElem?_eq_getElem h]; rfl
theorem zc_size (n : Nat) : (Builtin.zeroCells (Value.int .i64 0).cells n).size = n := by
  have h1 : (Value.int .i64 0).cells.size = 1 := rfl
  simp [Builtin.zeroCells, h1]
theorem int_one (xs : List Int) : ∀ u ∈ xs.map (Value.int .i64), u.oneCell' = true := fun u hu => by
  obtain ⟨y, -, rfl⟩ := List.mem_map.1 hu
  rfl
set_option maxHeartbeats 2000000 in
theorem insert_own (h : OwnK kZ w 0 v xs) (hl : xs.length ≤ 100) (i : Nat) (hi : i ≤ xs.length) (x : Int) {vb : Nat} (hv : Blk w vb #[.int .i64 x] 3) (hvb : v.ownBlock ≠ some vb) :
    Calls Try.prog 67 #[v, .int .i64 (i : Int), .slice (some ⟨vb, 0, none⟩) 1 1] w (InsPost w v (insZ xs i x)) := by
  have hvs : ∀ (j : Nat) (u : Value), ([Value.int .i64 x] : List Value)[j]? = some u → w.cell? ⟨vb, 0 + j, none⟩ = some u := fun j u hu => by
    rw [hv.cell, Nat.zero_add, ← Array.getElem?_toList]
    exact hu
  have h1v : ∀ u ∈ ([Value.int .i64 x] : List Value), u.oneCell' = true := fun u hu => by
    have : u = .int .i64 x := by simpa using hu
    subst this; rfl
  rcases own_cells h with ⟨rfl, rfl⟩ | ⟨b, c, cur, rfl, h3, h1, h2, h4, h5⟩
  · have hi0 : i = 0 := by simpa using hi
    subst hi0
    refine (show Calls Try.prog 67 #[.slice none 0 0, .int .i64 ((0 : Nat) : Int), .slice (some ⟨vb, 0, none⟩) 1 1] w _ from Any2.slices_Insert_int_end_grow Try.insertZ none 0 0 vb 0 1 1 [] [.int .i64 x] w (by decide) (Nat.le_refl _) (by decide) (by decide) rfl rfl (fun _ => rfl) (fun a h => by cases h) hvs h1v).mono ?_
    rintro e w' ⟨rfl, rfl⟩
    have hge := grownCap_ge w (0 + 1) 0 (Try.insertZ_ren.t 3)
    refine ⟨_, rfl, own_mk (cur := _) (heap_alloc_new w.drew _) (by simp [insZ]) hge (grownCap_le_maxLen w _ _ _ (by unfold maxLen; omega)) (by rw [Array.size_append, zc_size]; show 1 + (_ - (0 + 1)) = _; omega) (fun j hj => ?_), Chg.of ((Below.refl _ w).drew.alloc (by simp) _), fun b hb => Or.inr ?_⟩
    · have : j = 0 := by simp [insZ] at hj; omega
      subst this
      rw [Array.getElem?_append_left (by simp)]
      rfl
    · have : b = w.heap.size := by simpa [Value.ownBlock] using hb.symm
      subst this
      exact ⟨Nat.le_refl _, by simp⟩
  · have hcs : ∀ (j : Nat) (u : Value), (xs.map (Value.int .i64))[j]? = some u → w.cell? ⟨b, 0 + j, none⟩ = some u := fun j u hu => by
      obtain ⟨hj, rfl⟩ := map_get xs j u hu
      exact cells_at h3 h5 j hj
    have hb : Blk w b cur 3 := h3
    have hsh : w.shape? b = some (3, cur.size) := by simp [World.shape?, h3]
    have hsv : w.shape? vb = some (3, 1) := by unfold Blk at hv; simp [World.shape?, hv]
    have hne : vb ≠ b := fun e => hvb (by rw [e]; rfl)
    by_cases hr : xs.length + 1 ≤ c
    · by_cases hin : i < xs.length
      · refine (show Calls Try.prog 67 #[.slice (some ⟨b, 0, none⟩) xs.length c, .int .i64 (i : Int), .slice (some ⟨vb, 0, none⟩) 1 1] w _ from Any2.slices_Insert_int_shift Try.insertZ b 0 xs.length c i vb 0 1 1 (xs.map (Value.int .i64)) [.int .i64 x] w hin (by decide) hr (by unfold maxLen at h2; omega) hne (by simp) rfl hcs
          (fun j hj => by rw [hb.cell, Nat.zero_add, Array.getElem?_eq_getElem (by omega)]; rfl) (fun j hj => hb.free _) hvs (int_one xs) h1v 3 3 1 cur.size hsv hsh (by omega) (hv.free _) (hv.free _)).mono ?_
        rintro e w' ⟨rfl, rfl⟩
        have hB1 : Blk w.drew b cur 3 := hb
        have hdl : ((xs.map (Value.int .i64)).drop i).length = xs.length - i := by simp
        have hB2 := Blk.setCells [.int .i64 x] (0 + i) (Blk.setCells ((xs.map (Value.int .i64)).drop i) (0 + (i + 1)) hB1)
        refine ⟨_, rfl, own_mk hB2 (by rw [insZ_len]) hr h2 (by rw [patch_size, patch_size]; exact h4) (fun j hj => ?_), ?_, fun b' hb' => Or.inl hb'⟩
        · rw [insZ_len] at hj
          rw [patch_get _ _ _ _ (by rw [patch_size]; simp; omega), insZ_get i hi x j]
          by_cases q1 : j = i
          · subst q1
            rw [if_pos (by simp), if_neg (by omega), if_pos rfl]
            simp
          · rw [if_neg (by simp; omega), patch_get _ _ _ _ (by rw [hdl]; omega), hdl]
            by_cases q2 : j < i
            · rw [if_neg (by omega), if_pos q2]
              exact h5 j (by omega)
            · rw [if_pos (by omega), if_neg q2, if_neg q1, getD_map_drop xs i _ (by omega)]
              rw [show i + (j - (0 + (i + 1))) = j - 1 by omega]
        · exact setCells_chg _ _ (setCells_chg _ _ (Chg.refl _ _).drew)
      · obtain rfl : i = xs.length := by omega
        refine (show Calls Try.prog 67 #[.slice (some ⟨b, 0, none⟩) xs.length c, .int .i64 (xs.length : Int), .slice (some ⟨vb, 0, none⟩) 1 1] w _ from Any2.slices_Insert_int_end_room Try.insertZ b 0 xs.length c vb 0 1 1 [.int .i64 x] w (by decide) hr (by unfold maxLen at h2; omega) rfl
          (fun j hj => by rw [hb.cell, Array.getElem?_eq_getElem (by omega)]; rfl) (fun j hj => hb.free _) hvs h1v).mono ?_
        rintro e w' ⟨rfl, rfl⟩
        have hB2 := Blk.setCells [.int .i64 x] (0 + xs.length) hb
        refine ⟨_, rfl, own_mk hB2 (by rw [insZ_len]) hr h2 (by rw [patch_size]; exact h4) (fun j hj => ?_), setCells_chg _ _ (Chg.refl _ _), fun b' hb' => Or.inl hb'⟩
        rw [insZ_len] at hj
        rw [patch_get _ _ _ _ (by simp; omega), insZ_get _ hi x j]
        by_cases q1 : j = xs.length
        · subst q1
          rw [if_pos (by simp), if_neg (by omega), if_pos rfl]
          simp
        · rw [if_neg (by simp; omega), if_pos (by omega)]
          exact h5 j (by omega)
    · have hge := grownCap_ge w (xs.length + 1) c (Try.insertZ_ren.t 3)
      by_cases hin : i < xs.length
      · refine (show Calls Try.prog 67 #[.slice (some ⟨b, 0, none⟩) xs.length c, .int .i64 (i : Int), .slice (some ⟨vb, 0, none⟩) 1 1] w _ from Any2.slices_Insert_int_grow Try.insertZ b 0 xs.length c i vb 0 1 1 (xs.map (Value.int .i64)) [.int .i64 x] w hin (by decide) h1 (by omega) (by omega) (by simp) rfl hcs hvs (int_one xs) h1v).mono ?_
        rintro e w' ⟨rfl, rfl⟩
        have hdl : ((xs.map (Value.int .i64)).drop i).length = xs.length - i := by simp
        have hsz : (((xs.map (Value.int .i64)).take i).toArray ++ Builtin.zeroCells (Value.int .i64 0).cells (xs.length + 1 - i) ++ Builtin.zeroCells (Value.int .i64 0).cells (grownCap w (xs.length + 1) c (Try.insertZ_ren.t 3) - (xs.length + 1))).size = grownCap w (xs.length + 1) c (Try.insertZ_ren.t 3) := by
          rw [Array.size_append, Array.size_append, zc_size, zc_size]; simp; omega
        have hlow : ∀ j, j < i → (((xs.map (Value.int .i64)).take i).toArray ++ Builtin.zeroCells (Value.int .i64 0).cells (xs.length + 1 - i) ++ Builtin.zeroCells (Value.int .i64 0).cells (grownCap w (xs.length + 1) c (Try.insertZ_ren.t 3) - (xs.length + 1)))[j]? = some (.int .i64 (xs.getD j 0)) := fun j hj => by
          rw [Array.append_assoc, Array.getElem?_append_left (by simp; omega)]
          simp only [List.getElem?_toArray]
          rw [List.getElem?_take_of_lt hj, List.getElem?_map, List.getElem?_eq_getElem (by omega), List.getD_eq_getElem?_getD, List.getElem?_eq_getElem (by omega)]
          rfl
        generalize ((xs.map (Value.int .i64)).take i).toArray ++ Builtin.zeroCells (Value.int .i64 0).cells (xs.length + 1 - i) ++ Builtin.zeroCells (Value.int .i64 0).cells (grownCap w (xs.length + 1) c (Try.insertZ_ren.t 3) - (xs.length + 1)) = cz at hsz hlow ⊢
        have hB0 : Blk (w.alloc (.cells cz 3)).drew w.heap.size cz 3 := heap_alloc_new w _
        have hB1 : Blk (((w.alloc (.cells cz 3)).drew.setCells w.heap.size i [.int .i64 x]).drew) w.heap.size (patch cz i [.int .i64 x]) 3 := Blk.setCells [.int .i64 x] i hB0
        have hB2 := Blk.setCells ((xs.map (Value.int .i64)).drop i) (i + 1) hB1
        refine ⟨_, rfl, own_mk hB2 (by rw [insZ_len]) hge (grownCap_le_maxLen w _ _ _ (by unfold maxLen; omega)) (by rw [patch_size, patch_size]; exact hsz) (fun j hj => ?_), Chg.of ?_, fun b' hb' => Or.inr ?_⟩
        · rw [insZ_len] at hj
          rw [patch_get _ _ _ _ (by rw [patch_size, hsz, hdl]; omega), hdl, insZ_get i hi x j]
          by_cases q3 : i + 1 ≤ j
          · rw [if_pos (by omega), if_neg (by omega), if_neg (by omega), getD_map_drop xs i _ (by omega)]
            rw [show i + (j - (i + 1)) = j - 1 by omega]
          · rw [if_neg (by omega), patch_get _ _ _ _ (by rw [hsz]; simp; omega)]
            by_cases q1 : j = i
            · subst q1
              rw [if_pos (by simp), if_neg (by omega), if_pos rfl]
              simp
            · rw [if_neg (by simp; omega), if_pos (by omega)]
              exact hlow j (by omega)
        · exact setCells_below _ _ (Nat.le_refl _) (setCells_below _ _ (Nat.le_refl _) ((Below.refl _ w).alloc (Nat.le_refl _) _).drew).drew
        · have : b' = w.heap.size := by simpa [Value.ownBlock] using hb'.symm
          subst this
          exact ⟨Nat.le_refl _, hB2.lt⟩
      · obtain rfl : i = xs.length := by omega
        refine (show Calls Try.prog 67 #[.slice (some ⟨b, 0, none⟩) xs.length c, .int .i64 (xs.length : Int), .slice (some ⟨vb, 0, none⟩) 1 1] w _ from Any2.slices_Insert_int_end_grow Try.insertZ (some ⟨b, 0, none⟩) xs.length c vb 0 1 1 (xs.map (Value.int .i64)) [.int .i64 x] w (by decide) h1 (by omega) (by omega) (by simp) rfl (fun e => by cases e) (fun a ha j u hu => by cases ha; rw [addr_add]; exact hcs j u hu) hvs h1v).mono ?_
        rintro e w' ⟨rfl, rfl⟩
        have hB0 : Blk (w.drew.alloc (.cells ((xs.map (Value.int .i64) ++ [Value.int .i64 x]).toArray ++ Builtin.zeroCells (Value.int .i64 0).cells (grownCap w (xs.length + 1) c (Try.insertZ_ren.t 3) - (xs.length + 1))) 3)) w.heap.size _ 3 := heap_alloc_new w.drew _
        refine ⟨_, rfl, own_mk hB0 (by rw [insZ_len]) hge (grownCap_le_maxLen w _ _ _ (by unfold maxLen; omega)) (by rw [Array.size_append, zc_size]; simp; omega) (fun j hj => ?_), Chg.of ((Below.refl _ w).drew.alloc (by simp) _), fun b' hb' => Or.inr ?_⟩
        · rw [insZ_len] at hj
          rw [insZ_get _ hi x j, Array.getElem?_append_left (by simp; omega)]
          simp only [List.getElem?_toArray]
          by_cases q1 : j = xs.length
          · subst q1
            rw [if_neg (by omega), if_pos rfl, List.getElem?_append_right (by simp)]
            simp
          · rw [if_pos (by omega), List.getElem?_append_left (by simp; omega), List.getElem?_map, List.getElem?_eq_getElem (by omega), List.getD_eq_getElem?_getD, List.getElem?_eq_getElem (by omega)]
            rfl
        · have : b' = w.heap.size := by simpa [Value.ownBlock] using hb'.symm
          subst this
          exact ⟨Nat.le_refl _, hB0.lt⟩
end Go.Proofs.Yteogogmmnijagaa
