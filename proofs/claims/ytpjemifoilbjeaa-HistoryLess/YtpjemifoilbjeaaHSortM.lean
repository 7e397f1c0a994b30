/- A slice of the call's own, sorted by slices.SortFunc: what the library's contract leaves of it. -/
import Derived.Test.YtpjemifoilbjeaaHMem
import Derived.Test.YtpjemifoilbjeaaHLayPlain
import Derived.Sort.OwnSorted
import Derived.Shelf.SlSortCmp.NoneTotal
namespace Go.Proofs.Ytpjemifoilbjeaa
open Go.RowKit Go.Sort Go.ChangeShapes Go.WideShapes Go.Lib Hy
variable {w w' : World} {base g cap : Nat} {α β : Type}

theorem putRow_map [Inhabited α] (enc : α → Value) (w : World) (b o : Nat) (d : Array α) : putRow enc w b o d = putRow id w b o (d.map enc) := by
  have h : putCells enc o d = putCells id o (d.map enc) := by
    funext c
    unfold putCells
    apply Array.ext_getElem?
    intro k
    simp only [Array.getElem?_mapIdx, Array.size_map]
    cases c[k]? with
    | none => rfl
    | some x =>
      simp only [Option.map_some]
      by_cases hk : o ≤ k ∧ k < o + d.size
      · rw [if_pos hk, if_pos hk]
        have : k - o < d.size := by omega
        simp [this]
      · rw [if_neg hk, if_neg hk]
  unfold putRow
  rw [h]
theorem heap_put {cur : Array Value} {e : TypeId} {fr : Nat × Nat} {n : Nat} {os : Array Obj} (F : Array Value) (hb : w.heap[g]? = some (.cells cur e fr)) :
    (grow (putRow id (Sort.ahead w n) g 0 F) os).heap[g]? = some (.cells (putCells id 0 F cur) e fr) := by
  have hg : g < w.heap.size := (Array.getElem?_eq_some_iff.1 hb).1
  rw [heap_grow_old _ _ (by simpa using hg)]
  simp [putRow, mapBlock, Sort.ahead, Array.getElem?_modify, hb, onCells]
theorem grown_put {n : Nat} {os : Array Obj} (F : Array Value) : w.grownBy (grow (putRow id (Sort.ahead w n) g 0 F) os) (some g) := by
  refine ⟨rfl, rfl, rfl, by simp, fun k hk hne => ?_⟩
  rw [heap_grow_old _ _ (by simpa using hk)]
  have : g ≠ k := fun e => hne (by rw [e])
  simp [putRow, mapBlock, Sort.ahead, Array.getElem?_modify, this]
theorem put_cell {n : Nat} {os : Array Obj} (F : Array Value) {b o : Nat} (hne : b ≠ g) (hb : b < w.heap.size) : (grow (putRow id (Sort.ahead w n) g 0 F) os).cell? ⟨b, o, none⟩ = w.cell? ⟨b, o, none⟩ := by
  have := (grown_put (w := w) (g := g) (n := n) (os := os) F).block b hb (fun e => hne (by injection e))
  simp only [World.cell?, this]
theorem sorted_cell [Inhabited α] (enc : α → Value) (w : World) (g n : Nat) (d : Array α) (os : Array Obj) {b o : Nat} (hne : b ≠ g) (hb : b < w.heap.size) : (sortWorld enc w g 0 n d os).cell? ⟨b, o, none⟩ = w.cell? ⟨b, o, none⟩ := by
  unfold sortWorld
  rw [putRow_map]
  exact put_cell _ hne hb
theorem take_put (cur F : Array Value) (h : F.size ≤ cur.size) : (putCells id 0 F cur).toList.take F.size = F.toList := by
  apply List.ext_getElem?
  intro j
  by_cases hj : j < F.size
  · rw [List.getElem?_take_of_lt hj, Array.getElem?_toList, Array.getElem?_toList]
    simp [putCells, hj, show j < cur.size by omega]
  · rw [List.getElem?_take_eq_none (by omega), List.getElem?_eq_none (by simp; omega)]
/-- Other cells in the same row. -/
theorem own_put {K : Kd β} (hK : K.fit) {l l' : List β} (h : OwnK K w base (.slice (some ⟨g, 0, none⟩) l.length cap) l) (F : Array Value) (hF : F.toList = K.Vs l') (hl : l'.length = l.length) (n : Nat) (os : Array Obj) :
    OwnK K (grow (putRow id (Sort.ahead w n) g 0 F) os) base (.slice (some ⟨g, 0, none⟩) l.length cap) l' ∧ w.grownBy (grow (putRow id (Sort.ahead w n) g 0 F) os) (some g) := by
  have hsz : F.size = l.length * K.sz := by
    have := congrArg List.length hF
    rw [hK.Vs_len, hl] at this
    simpa using this
  refine ⟨?_, grown_put F⟩
  rcases h.2 with ⟨e, -⟩ | ⟨g', cap', cur, e, hb, hg, hn, hm, hs, ht⟩
  · cases e
  · obtain ⟨rfl, rfl⟩ : g = g' ∧ cap = cap' := by injection e with e1 e2 e3; injection e1 with e1; injection e1 with e1; exact ⟨e1, e3⟩
    refine ⟨by rw [hK.Vs_len], Or.inr ⟨g, cap, _, by rw [hl], hb, heap_put F hg, by rw [hl]; exact hn, hm, by simp [putCells, hs], ?_⟩⟩
    rw [hl, ← hsz, take_put cur F (by rw [hs, hsz]; exact Nat.mul_le_mul_right _ hn), hF]
theorem own_holds {K : Kd β} (hK : K.fit) {l : List β} (h : OwnK K w base (.slice (some ⟨g, 0, none⟩) l.length cap) l) (F : Array Value) (hF : F.toList = K.Vs l) : Holds id w g 0 F := by
  have hsz : F.size = l.length * K.sz := by
    have := congrArg List.length hF
    rw [hK.Vs_len] at this
    simpa using this
  rcases h.2 with ⟨e, -⟩ | ⟨g', cap', cur, e, hb, hg, hn, hm, hs, ht⟩
  · cases e
  · obtain ⟨rfl, rfl⟩ : g = g' ∧ cap = cap' := by injection e with e1 e2 e3; injection e1 with e1; injection e1 with e1; exact ⟨e1, e3⟩
    intro j hj
    refine ⟨?_, by simp [World.frozen?, hg]⟩
    have h1 : (cur.toList.take (l.length * K.sz))[j]? = F.toList[j]? := by rw [ht, hF]
    rw [List.getElem?_take_of_lt (by omega)] at h1
    simp only [World.cell?, hg, Nat.zero_add]
    simp only [Option.isSome_none, Bool.false_eq_true, if_false]
    rw [← Array.getElem?_toList, h1]
    simp [hj]
theorem holds_map [Inhabited α] (enc : α → Value) {b o : Nat} {d : Array α} (h : Holds id w b o (d.map enc)) : Holds enc w b o d := by
  intro j hj
  have := h j (by simpa using hj)
  simpa [hj] using this
/-- The cells of structs, flat. -/
theorem flat_Vs [Inhabited β] {K : Kd β} (hK : K.fit) (d : Array β) : (flatK K.V K.sz d).toList = K.Vs d.toList := by
  apply List.ext_getElem
  · rw [hK.Vs_len]; simp
  · intro t h1 h2
    have hp := hK.pos
    have hlt : t < d.size * K.sz := by simpa using h1
    have hd : t / K.sz < d.size := Nat.div_lt_of_lt_mul (by rw [Nat.mul_comm]; exact hlt)
    have hm : t % K.sz < K.sz := Nat.mod_lt _ hp
    have e : t = t / K.sz * K.sz + t % K.sz := by rw [Nat.mul_comm]; exact (Nat.div_add_mod t K.sz).symm
    have h3 := hK.Vs_get d.toList (t / K.sz) (t % K.sz) (by simpa using hd) hm
    rw [← e, List.getElem?_eq_getElem h2] at h3
    have h4 : (d.toList.getD (t / K.sz) K.z) = d[t / K.sz]! := by
      rw [List.getD_eq_getElem?_getD, Array.getElem?_toList, Array.getElem?_eq_getElem hd]
      simp [hd]
    have h5 : t % K.sz < (K.V d[t / K.sz]!).length := by rw [hK.len]; exact hm
    rw [h4, List.getElem?_eq_getElem h5] at h3
    injection h3 with h3
    rw [h3]
    have h6 := get_flatK K.V K.sz d t hlt
    rw [Array.getElem_toList]
    have h7 : t < (flatK K.V K.sz d).size := by simpa using hlt
    rw [getElem!_pos (flatK K.V K.sz d) t h7, getElem!_pos (K.V d[t / K.sz]!) (t % K.sz) h5] at h6
    exact h6
theorem perm_of [Inhabited α] {d d' : Array α} (h : PermIn 0 d.size d d') : d'.size = d.size ∧ d'.toList.Perm d.toList := by
  obtain ⟨h1, -, h3⟩ := h
  refine ⟨h1, ?_⟩
  rw [← h1, Array.extract_size] at h3
  rw [h1, Array.extract_size] at h3
  exact h3
theorem sorted_of [Inhabited α] {lt : α → α → Bool} {d' : Array α} {n : Nat} (hn : d'.size = n) (h : SortedIn lt 0 n d') : d'.toList.Pairwise (fun x y => lt y x = false) := by
  rw [List.pairwise_iff_getElem]
  intro i j hi hj hij
  have h1 : i < d'.size := by simpa using hi
  have h2 : j < d'.size := by simpa using hj
  have := h i j (Nat.zero_le _) hij (by omega)
  rw [getElem!_pos d' i h1, getElem!_pos d' j h2] at this
  simpa using this
end Go.Proofs.Ytpjemifoilbjeaa
