/- slices.Sort of numbers and of names that are the call's own. A deck of partitions in memory. partitions and split of package assign. pick of a deck: the cards that are wanted and there. pick of a deck, walked. Shares in memory: a slice of them that the call made, each with its partitions in a row of its own. -/
import Derived.Test.YtipgociofjokeaaGreatAOwn
import Derived.Test.YtipgociofjokeaaGreatALayPlain
import Derived.Sort.OwnSorted
import Derived.Sort.OwnSortedInts
import Derived.WalkLawsBesides
import Derived.Deep.RegionHeld3
import Derived.OrdersHeld
namespace Go.Proofs.YtipgociofjokeaaGreat
open Go.RowKit Go.Sort
variable {w w' : World} {base : Nat} {v : Value}

/-- Numbers, rising. -/
def risZ (l : List Int) : List Int := l.mergeSort (fun x y => decide (x ≤ y))
/-- Names, rising. -/
def risN (l : List Nm) : List Nm := l.mergeSort (fun x y => decide (x ≤ y))
theorem risZ_len (l : List Int) : (risZ l).length = l.length := List.length_mergeSort _
theorem risN_len (l : List Nm) : (risN l).length = l.length := List.length_mergeSort _
theorem risZ_nil : risZ [] = [] := by unfold risZ; simp
theorem risN_nil : risN [] = [] := by unfold risN; simp
theorem risZ_perm (l : List Int) : (risZ l).Perm l := List.mergeSort_perm _ _
theorem risN_perm (l : List Nm) : (risN l).Perm l := List.mergeSort_perm _ _
theorem Vs_Z (l : List Int) : kZ.Vs l = l.map (Value.int .i64) := by
  induction l with
  | nil => rfl
  | cons a l ih => show _ :: kZ.Vs l = _; rw [ih]; rfl
theorem Vs_S (l : List Nm) : kS.Vs l = l.map encStr := by
  induction l with
  | nil => rfl
  | cons a l ih => show _ :: kS.Vs l = _; rw [ih]; rfl
theorem sortZ_own {l : List Int} (h : OwnK kZ w base v l) (hsz : l.length < 4611686018427387904) : Calls Tryz.prog 97 #[v] w fun e w' => e = .returned (.tuple #[]) ∧ OwnK kZ w' base v (risZ l) ∧ w.grownBy w' v.ownBlock := by
  rcases h.2 with ⟨rfl, h0⟩ | ⟨g, cap, cur, rfl, hb, hg, h1, h2, h3, h4⟩
  · have hl : l = [] := List.eq_nil_of_length_eq_zero h0
    subst hl
    refine (show Calls Tryz.prog 97 #[.slice none 0 0] w _ from AnyM.slices_Sort_int_none Tryz.sortZ none 0 w).mono ?_
    rintro e w' ⟨rfl, rfl⟩
    exact ⟨rfl, by rw [risZ_nil]; exact h, World.grownBy.refl _ _⟩
  · rw [Vs_Z, show kZ.sz = 1 from rfl, Nat.mul_one] at h4
    refine (show Calls Tryz.prog 97 #[.slice (some ⟨g, 0, none⟩) l.length cap] w _ from AnyM.slices_Sort_int Tryz.sortZ g 0 cap l w (holds_of_blockI hg h4) (Array.getElem?_eq_some_iff.1 hg).1 hsz).mono ?_
    rintro e w' ⟨rfl, n, os, rfl⟩
    refine ⟨rfl, ?_, grownBy_sortedI _⟩
    have := ownsRow_sortedI (ss := l) (ts := risZ l) (os := os) (n := n) (risZ_len l) hb hg h1 h2 h3
    unfold OwnK
    rw [Vs_Z, risZ_len]
    exact this
theorem sortS_own {l : List Nm} (h : OwnK kS w base v l) (hsz : l.length < 4611686018427387904) : Calls Tryz.prog 33 #[v] w fun e w' => e = .returned (.tuple #[]) ∧ OwnK kS w' base v (risN l) ∧ w.grownBy w' v.ownBlock := by
  rcases h.2 with ⟨rfl, h0⟩ | ⟨g, cap, cur, rfl, hb, hg, h1, h2, h3, h4⟩
  · have hl : l = [] := List.eq_nil_of_length_eq_zero h0
    subst hl
    refine (show Calls Tryz.prog 33 #[.slice none 0 0] w _ from AnyM.slices_Sort_string_none Tryz.sortS none 0 w).mono ?_
    rintro e w' ⟨rfl, rfl⟩
    exact ⟨rfl, by rw [risN_nil]; exact h, World.grownBy.refl _ _⟩
  · rw [Vs_S, show kS.sz = 1 from rfl, Nat.mul_one] at h4
    refine (show Calls Tryz.prog 33 #[.slice (some ⟨g, 0, none⟩) l.length cap] w _ from AnyM.slices_Sort_string Tryz.sortS g 0 cap l w (holds_of_block hg h4) (Array.getElem?_eq_some_iff.1 hg).1 hsz).mono ?_
    rintro e w' ⟨rfl, n, os, rfl⟩
    refine ⟨rfl, ?_, grownBy_sorted _⟩
    have := ownsRow_sorted (ss := l) (ts := risN l) (os := os) (n := n) (risN_len l) hb hg h1 h2 h3
    unfold OwnK
    rw [Vs_S, risN_len]
    exact this
end Go.Proofs.YtipgociofjokeaaGreat
namespace Go.Proofs.YtipgociofjokeaaGreat
open Go.RowKit Go.Sort
variable {w w' : World} {D b : Nat} {v : Value} {xs : List Int}

abbrev TDk : TypeId := 123
/-- In w the value v is a slice of the numbers xs, anywhere in block b, which it has alone. -/
def CardsAt (w : World) (b : Nat) (v : Value) (xs : List Int) : Prop :=
  (v = .slice none 0 0 ∧ xs = []) ∨ ∃ off c cur, v = .slice (some ⟨b, off, none⟩) xs.length c ∧ xs.length ≤ c ∧ c ≤ maxLen ∧ w.heap[b]? = some (.cells cur 3 (0, 0)) ∧ off + c ≤ cur.size ∧ ∀ j, j < xs.length → cur[off + j]? = some (.int .i64 (xs.getD j 0))
/-- In w block D is a deck of the cards xs, which lie in block b. -/
def DeckP (w : World) (D b : Nat) (xs : List Int) : Prop := ∃ v, Blk w D #[v] TDk ∧ CardsAt w b v xs
theorem CardsAt.keep (h : CardsAt w b v xs) (hk : b < w.heap.size → w'.heap[b]? = w.heap[b]?) : CardsAt w' b v xs := by
  rcases h with h | ⟨off, c, cur, e, h1, h2, h3, h4⟩
  · exact Or.inl h
  · exact Or.inr ⟨off, c, cur, e, h1, h2, (hk (Array.getElem?_eq_some_iff.1 h3).1).trans h3, h4⟩
theorem DeckP.chg {F : List Nat} (h : DeckP w D b xs) (hc : Chg F w w') (h1 : D ∉ F) (h2 : b ∉ F) : DeckP w' D b xs := by
  obtain ⟨v, hb, hx⟩ := h
  exact ⟨v, hb.chg hc h1, hx.keep (fun hl => hc.block b hl h2)⟩
theorem DeckP.later (h : DeckP w D b xs) (hb : Below w.heap.size w w') : DeckP w' D b xs := h.chg (F := []) (Chg.of hb) (by simp) (by simp)
theorem deck_ne {cs cur : Array Value} (h : Blk w D cs TDk) (h3 : w.heap[b]? = some (.cells cur 3 (0, 0))) : b ≠ D := by
  intro e
  subst e
  unfold Blk at h
  rw [h] at h3
  simp at h3
  exact absurd h3.2 (by decide)
theorem CardsAt.cut (h : CardsAt w b v xs) : ∃ ad m c, v = .slice ad m c ∧ xs.length = m ∧ m ≤ c ∧ c ≤ maxLen ∧ (ad = none → m = 0 ∧ c = 0) := by
  rcases h with ⟨rfl, rfl⟩ | ⟨off, c, cur, rfl, h1, h2, -⟩
  · exact ⟨none, 0, 0, rfl, rfl, Nat.le_refl _, by unfold maxLen; omega, fun _ => ⟨rfl, rfl⟩⟩
  · exact ⟨_, _, c, rfl, rfl, h1, h2, fun e => by cases e⟩
/-- What is left behind the first k. -/
theorem CardsAt.drop {off c : Nat} {cur : Array Value} (h1 : xs.length ≤ c) (h2 : c ≤ maxLen) (h3 : w.heap[b]? = some (.cells cur 3 (0, 0))) (h4 : off + c ≤ cur.size) (h5 : ∀ j, j < xs.length → cur[off + j]? = some (.int .i64 (xs.getD j 0))) (k : Nat) (hk : k ≤ xs.length) :
    CardsAt w b (.slice (if c = k then some ⟨b, off, none⟩ else some ⟨b, off + k, none⟩) (xs.length - k) (c - k)) (xs.drop k) := by
  refine Or.inr ?_
  by_cases hc : c = k
  · refine ⟨off, c - k, cur, by rw [if_pos hc, List.length_drop], by rw [List.length_drop]; omega, by omega, h3, by omega, fun j hj => ?_⟩
    rw [List.length_drop] at hj; omega
  · refine ⟨off + k, c - k, cur, by rw [if_neg hc, List.length_drop], by rw [List.length_drop]; omega, by omega, h3, by omega, fun j hj => ?_⟩
    rw [List.length_drop] at hj
    rw [Nat.add_assoc, h5 (k + j) (by omega), List.getD_eq_getElem?_getD, List.getD_eq_getElem?_getD, List.getElem?_drop]
/-- How many are drawn. -/
def drawK (n : Int) (m : Nat) : Nat := min n.toNat m
theorem Tryz.infoZ : (Tryz.prog.info? 3).map (fun i => (i.zero, i.size, i.bytes)) = some (some (.int .i64 0), 1, 8) := by kernel_rfl
set_option maxHeartbeats 1000000 in
theorem clone_at {off c k : Nat} {cur : Array Value} (h3 : w.heap[b]? = some (.cells cur 3 (0, 0))) (h5 : ∀ j, j < xs.length → cur[off + j]? = some (.int .i64 (xs.getD j 0))) (hk : k ≤ xs.length) (hx : k ≤ 17179869184) :
    Calls Tryz.prog 19 #[.slice (some ⟨b, off, none⟩) k c] w fun e w' => ∃ ad' c', e = .returned (.slice ad' k c') ∧ OwnK kZ w' w.heap.size (.slice ad' k c') (xs.take k) ∧ Below w.heap.size w w' := by
  obtain ⟨i0, hi, hz0, hz1, hz2⟩ := info_parts Tryz.infoZ
  have hl : (kZ.Vs (xs.take k)).length = k * 1 := by rw [kZ_ok.tofit.Vs_len, List.length_take, Nat.min_eq_left hk]
  have hsz : ∀ w, (Go.sizeOf 3).run Tryz.prog w = .ok 1 w := fun w => by simp [Go.sizeOf, typeInfo, hi, hz1]
  refine (show Calls Tryz.prog 19 #[.slice (some ⟨b, off, none⟩) k c] w _ from AnyE.slices_Clone Tryz.cloneZ i0 (.int .i64 0) 1 8 hi hz0 hz1 hz2 rfl (by decide) hsz b off k c (kZ.Vs (xs.take k)) w hl (by unfold maxLen; omega) (by omega) (fun j u hu => ?_) (kZ_ok.Vs_ones _)).mono ?_
  · rw [Vs_Z, List.getElem?_map, List.getElem?_take] at hu
    rw [cell_of_row _ _ _ _ _ _ h3]
    by_cases hj : j < k
    · rw [if_pos hj, List.getElem?_eq_getElem (by omega)] at hu
      rw [h5 j (by omega), List.getD_eq_getElem?_getD, List.getElem?_eq_getElem (by omega)]
      exact hu
    · rw [if_neg hj] at hu; simp at hu
  · rintro e w' ⟨v', rfl, h1, -, hb⟩
    have hO : OwnK kZ w' w.heap.size v' (xs.take k) := by unfold OwnK; rw [List.length_take, Nat.min_eq_left hk]; exact h1
    obtain ⟨ad', c', e, -⟩ := hO.form kZ_ok.tofit
    rw [List.length_take, Nat.min_eq_left hk] at e
    subst e
    exact ⟨ad', c', rfl, hO, hb⟩
set_option maxHeartbeats 1000000 in
theorem draw_any (h : DeckP w D b xs) (n : Int) (hx : xs.length ≤ 17179869184) :
    Calls Tryz.prog 80 #[.pointer (some ⟨D, 0, none⟩), .int .i64 n] w fun e w' => ∃ v, e = .returned v ∧ OwnK kZ w' w.heap.size v (xs.take (drawK n xs.length)) ∧ DeckP w' D b (xs.drop (drawK n xs.length)) ∧ Chg [D] w w' := by
  obtain ⟨v, hbk, hcd⟩ := h
  have hf := hbk.free 0
  have c0 := hbk.cell 0
  have hfin : ∀ (W : World) (v' : Value) (k : Nat), Below w.heap.size w W → CardsAt w b v' (xs.drop k) → DeckP (W.setCell ⟨D, 0, none⟩ v') D b (xs.drop k) ∧ Chg [D] w (W.setCell ⟨D, 0, none⟩ v') := fun W v' k hW hc => by
    refine ⟨⟨v', (hbk.later hW).set 0 v', ?_⟩, (Chg.of hW).set (Or.inl (by simp)) 0 v'⟩
    rcases hc with hc | ⟨off, c, cur, e, h1, h2, h3, h4⟩
    · exact Or.inl hc
    · exact Or.inr ⟨off, c, cur, e, h1, h2, (Below.heap_setCell _ _ _ _ (deck_ne hbk h3)).trans ((hW.block b (Array.getElem?_eq_some_iff.1 h3).1).trans h3), h4⟩
  have HFin := hid hfin
  obtain ⟨k, hkd⟩ : ∃ k, drawK n xs.length = k := ⟨_, rfl⟩
  have hkl : k ≤ xs.length := by rw [← hkd]; unfold drawK; omega
  have hki : min (max n 0) (xs.length : Int) = (k : Int) := by rw [← hkd]; unfold drawK; omega
  rw [hkd]
  rcases hcd with ⟨rfl, rfl⟩ | ⟨off, c, cur, rfl, h1, h2, h3, h4, h5⟩
  · obtain rfl : k = 0 := by simp at hkl; exact hkl
    simp only [List.getElem?_toArray, List.getElem?_cons_zero] at c0
    have hki0 : min (max n 0) (0 : Int) = 0 := by omega
    clear hki
    have HCl : Hid (Calls Tryz.prog 19 #[.slice none 0 0] w fun e w' => e = .returned (.slice none 0 0) ∧ w' = w) := AnyE.slices_Clone_nil Tryz.cloneZ 0 0 w
    clear hfin hbk
    go_enter Tryz.func80, Tryz.ntmps80
    go_wp2_with (go_at_call 19; (with_reducible_and_instances (refine HCl.out.mono ?_)); rintro e w2 ⟨rfl, hw2⟩; obtain rfl := hw2.symm)
    go_ret
    exact ⟨_, rfl, OwnK.nil _ _, HFin.out w _ 0 (Below.refl _ _) (Or.inl ⟨rfl, rfl⟩)⟩
  · have HCut := hid (CardsAt.drop (w := w) (b := b) h1 h2 h3 h4 h5 k hkl)
    have HCl := hid (clone_at (c := c) h3 h5 hkl (by omega))
    have hlc : k ≤ c := by omega
    have hcm : c ≤ 9223372036854775807 := by unfold maxLen at h2; omega
    have hDl : D < w.heap.size := hbk.lt
    have HBk := hid hbk
    simp only [List.getElem?_toArray, List.getElem?_cons_zero] at c0
    obtain ⟨m, hm⟩ : ∃ m, xs.length = m := ⟨_, rfl⟩
    rw [hm] at hki hkl h1 c0 HCut HBk
    have HM := hid hm
    clear hfin hbk h2 h3 h4 h5 hm hx
    by_cases hck : c = k
    · rw [if_pos hck] at HCut
      subst hck
      rw [Nat.sub_self, show m - c = 0 by omega] at HCut
      go_enter Tryz.func80, Tryz.ntmps80
      go_wp2_with (go_at_call 19; (with_reducible_and_instances (refine HCl.out.mono ?_)); rintro e w2 ⟨ad', c', rfl, hO, hb⟩; have HO := hid hO; have HB := hid hb; have c2 := (hb.cell (p := ⟨D, 0, none⟩) hDl).trans c0; have f2 := Blk.free (HBk.out.later hb) 0; clear hO hb)
      go_ret
      refine ⟨_, rfl, ?_, HFin.out w2 _ c HB.out HCut.out⟩
      exact HO.out.chg (F := [D]) ((Chg.refl _ _).set (Or.inl (by simp)) 0 _) (fun g hg hm => by have := (HO.out.block g hg).1; simp at hm; omega)
    · rw [if_neg hck] at HCut
      go_enter Tryz.func80, Tryz.ntmps80
      go_wp2_with (go_at_call 19; (with_reducible_and_instances (refine HCl.out.mono ?_)); rintro e w2 ⟨ad', c', rfl, hO, hb⟩; have HO := hid hO; have HB := hid hb; have c2 := (hb.cell (p := ⟨D, 0, none⟩) hDl).trans c0; have f2 := Blk.free (HBk.out.later hb) 0; clear hO hb)
      go_ret
      refine ⟨_, rfl, ?_, HFin.out w2 _ k HB.out HCut.out⟩
      exact HO.out.chg (F := [D]) ((Chg.refl _ _).set (Or.inl (by simp)) 0 _) (fun g hg hm => by have := (HO.out.block g hg).1; simp at hm; omega)
end Go.Proofs.YtipgociofjokeaaGreat
namespace Go.Proofs.YtipgociofjokeaaGreat
open Go.RowKit Go.Sort
variable {w w' : World} {D b : Nat} {v : Value} {xs : List Int}

/-- All partitions. -/
def allP (n : Nat) : List Int := (List.range n).map Int.ofNat
theorem allP_len (n : Nat) : (allP n).length = n := by simp [allP]
theorem allP_succ (n : Nat) : allP (n + 1) = allP n ++ [(n : Int)] := by simp [allP, List.range_succ]
theorem z_row (Y : World) (z : Int) : RowK kZ (Y.alloc (.cells #[.int .i64 z] 3)) (some ⟨Y.heap.size, 0, none⟩) [z] := by
  refine Or.inr ⟨_, 0, rfl, by simp, fun i hi c hc => ?_⟩
  obtain rfl : i = 0 := by simp at hi; omega
  obtain rfl : c = 0 := by have : kZ.sz = 1 := rfl; omega
  have hb : Blk (Y.alloc (.cells #[.int .i64 z] 3)) Y.heap.size _ _ := heap_alloc_new Y _
  exact hb.cell 0
theorem OwnK.cards {base : Nat} (h : OwnK kZ w base v xs) (D : Nat) : ∃ b, CardsAt w b v xs ∧ (b = D ∨ base ≤ b ∧ b < w.heap.size) := by
  rcases h.2 with ⟨e, h0⟩ | ⟨g, cap, cur, e, hb, hg, hn, hm, hs, ht⟩
  · exact ⟨D, Or.inl ⟨e, List.eq_nil_of_length_eq_zero h0⟩, Or.inl rfl⟩
  · refine ⟨g, Or.inr ⟨0, cap, cur, e, hn, hm, hg, by rw [hs]; show 0 + cap ≤ cap * 1; omega, fun j hj => ?_⟩, Or.inr ⟨hb, (Array.getElem?_eq_some_iff.1 hg).1⟩⟩
    have h1 : (cur.toList.take (xs.length * kZ.sz))[j]? = (kZ.Vs xs)[j]? := by rw [ht]
    rw [Vs_Z, List.getElem?_map, List.getElem?_take, if_pos (by show j < xs.length * 1; omega), Array.getElem?_toList] at h1
    rw [Nat.zero_add, h1, List.getD_eq_getElem?_getD, List.getElem?_eq_getElem hj]
    rfl
/-- What one append into the deck leaves. -/
theorem parts_step {W w3 : World} {v v' : Value} {l : List Int} {d : Int} {o : Obj} (hb : Below w.heap.size w W) (hsz : w.heap.size + 1 ≤ W.heap.size) (hbox : Blk W w.heap.size #[v] TDk) (hown : OwnK kZ W (w.heap.size + 1) v l)
    (hO : OwnK kZ w3 (w.heap.size + 1) v' (l ++ [d])) (hg : (W.alloc o).grownBy w3 v.ownBlock) :
    (∃ ad c, v' = .slice ad (l.length + 1) c) ∧ w3.cell? ⟨w.heap.size, 0, none⟩ = some v ∧ w3.frozen? ⟨w.heap.size, 0, none⟩ = false ∧ Below w.heap.size w (w3.setCell ⟨w.heap.size, 0, none⟩ v') ∧ w.heap.size + 1 ≤ (w3.setCell ⟨w.heap.size, 0, none⟩ v').heap.size ∧ Blk (w3.setCell ⟨w.heap.size, 0, none⟩ v') w.heap.size #[v'] TDk ∧ OwnK kZ (w3.setCell ⟨w.heap.size, 0, none⟩ v') (w.heap.size + 1) v' (l ++ [d]) := by
  have hblk : w3.heap[w.heap.size]? = W.heap[w.heap.size]? := by
    rw [hg.block _ (by simp; omega) (fun e => by have := (hown.block _ e.symm).1; omega)]
    exact Below.heap_alloc _ _ _ (by omega)
  have hb3 : Blk w3 w.heap.size #[v] TDk := hblk.trans hbox
  have hbw : Below w.heap.size w w3 := (hb.alloc hb.size o).grown hg (by simp; omega) (fun k hk => by have := (hown.block k hk).1; omega)
  have hs : Chg [w.heap.size] w3 (w3.setCell ⟨w.heap.size, 0, none⟩ v') := (Chg.refl _ _).set (Or.inl (by simp)) _ _
  obtain ⟨ad, c, hv, -⟩ := hO.form kZ_ok.tofit
  refine ⟨⟨ad, c, by rw [hv]; simp⟩, hb3.cell 0, hb3.free 0, hbw.setCell (p := ⟨w.heap.size, 0, none⟩) (Nat.le_refl _) _, by have := hg.size; simp [World.setCell] at this ⊢; omega, hb3.set 0 v', hO.chg hs (fun g hg hm => by have := (hO.block g hg).1; simp at hm; omega)⟩
set_option maxHeartbeats 1000000 in
theorem parts_any (n : Nat) (hn : n ≤ 1048576) (w : World) :
    Calls Tryz.prog 73 #[.int .i64 (n : Int)] w fun e w' => ∃ b, e = .returned (.pointer (some ⟨w.heap.size, 0, none⟩)) ∧ DeckP w' w.heap.size b (allP n) ∧ w.heap.size ≤ b ∧ b < w'.heap.size ∧ Below w.heap.size w w' := by
  obtain ⟨W1, hW1⟩ : ∃ W1, w.alloc (.cells #[.slice none 0 0] TDk) = W1 := ⟨_, rfl⟩
  have HB1 : Hid (Below w.heap.size w W1) := by rw [← hW1]; exact (Below.refl _ w).alloc (Nat.le_refl _) _
  have hs1 : w.heap.size + 1 ≤ W1.heap.size := by rw [← hW1]; simp
  have HX1 : Hid (Blk W1 w.heap.size #[.slice none 0 0] TDk) := by rw [← hW1]; exact heap_alloc_new w _
  go_enter Tryz.func73, Tryz.ntmps73
  go_wp2_with fail
  clear hW1
  go_loopw [8] (fun i wr => ∃ (k : Nat) (ad : Option Addr) (c : Nat), k ≤ n ∧ i = .int .i64 (k : Int) ∧ w.heap.size + 1 ≤ wr.heap.size ∧ Hid (Blk wr w.heap.size #[.slice ad k c] TDk) ∧ Hid (OwnK kZ wr (w.heap.size + 1) (.slice ad k c) (allP k)) ∧ Hid (Below w.heap.size w wr)) (fun i _ => n - (intOf i).toNat)
  case atStart => exact ⟨0, none, 0, by omega, rfl, hs1, HX1, OwnK.nil (K := kZ) W1 _, HB1⟩
  case round =>
    obtain ⟨k, ad, c, hk, rfl, hs, HX, HO, HB⟩ := hrel
    clear HB1 HX1
    by_cases hlt : k < n
    · have c0 := Blk.cell HX.out 0
      have f0 := Blk.free HX.out 0
      simp only [List.getElem?_toArray, List.getElem?_cons_zero] at c0
      have HRw := hid (z_row wr (k : Int))
      have HO2 := hid (HO.out.later ((Below.refl _ wr).alloc (Nat.le_refl _) (.cells #[.int .i64 (k : Int)] 3)))
      have HSt : Hid (∀ w3 v', OwnK kZ w3 (w.heap.size + 1) v' (allP k ++ [(k : Int)]) → (wr.alloc (.cells #[.int .i64 (k : Int)] 3)).grownBy w3 (Value.slice ad k c).ownBlock → _) := fun w3 v' h1 h2 => parts_step HB.out hs HX.out HO.out h1 h2
      rw [allP_len] at HSt
      go_wp2_with (first
        | (at_builtin; refine app_kd kZ_ok rfl _ _ rfl (w.heap.size + 1) (.slice ad k c) (allP k) rfl HO2.out (some ⟨wr.heap.size, 0, none⟩) 1 1 [(k : Int)] rfl rfl (fun e => by cases e) HRw.out (by rw [allP_len]; unfold maxLen; omega) (by rw [allP_len]; show (k + 1) * 8 ≤ _; omega) (by simp; omega) ?_; intro v3 w3 hown3 hg3; obtain ⟨⟨a3, c3, rfl⟩, z0, z1, z2⟩ := HSt.out w3 v3 hown3 hg3; have HZ := hid z2; clear hown3 hg3 z2))
      refine ⟨⟨k + 1, a3, c3, by omega, by go_num, HZ.out.2.1, HZ.out.2.2.1, (by rw [allP_succ]; exact HZ.out.2.2.2), HZ.out.1⟩, by simp [intOf]; omega⟩
    · obtain rfl : k = n := by omega
      obtain ⟨b, hb1, hb2⟩ := HO.out.cards w.heap.size
      have HF := hid (show ∃ b, DeckP wr w.heap.size b (allP k) ∧ w.heap.size ≤ b ∧ b < wr.heap.size from ⟨b, ⟨_, HX.out, hb1⟩, by rcases hb2 with h | h; omega; omega, by rcases hb2 with h | h; omega; omega⟩)
      clear hb1 hb2
      go_wp2_with fail
      go_ret
      obtain ⟨b, f1, f2, f3⟩ := HF.out
      exact ⟨b, rfl, f1, f2, f3, HB.out⟩
theorem split_any (p n : Nat) (hp : p ≤ 1048576) (hn : n ≤ 1048576) (w : World) :
    Calls Tryz.prog 75 #[.int .i64 (p : Int), .int .i64 (n : Int)] w fun e w' => e = .returned (.tuple #[.int .i64 ((p / n : Nat) : Int), .int .i64 (if n = 0 then 0 else ((p % n : Nat) : Int))]) ∧ Below w.heap.size w w' := by
  by_cases h0 : n = 0
  · subst h0
    go_enter Tryz.func75, Tryz.ntmps75
    go_wp2_with fail
    refine bodyPost_ret (results_tmp2 Tryz.results75 _ _ _) rfl ⟨?_, Below.refl _ _⟩
    simp
  · have hz : ((n : Int) == 0) = false := by simp; omega
    obtain ⟨q, hq⟩ : ∃ q, p / n = q := ⟨_, rfl⟩
    obtain ⟨r, hr⟩ : ∃ r, p % n = r := ⟨_, rfl⟩
    have hq1 : (p : Int) / (n : Int) = (q : Int) := by rw [← hq]; simp
    have hr1 : (p : Int) % (n : Int) = (r : Int) := by rw [← hr]; simp
    have hql : q ≤ 1048576 := by rw [← hq]; exact Nat.le_trans (Nat.div_le_self p n) hp
    rw [hq, hr, if_neg h0]
    clear hq hr
    go_enter Tryz.func75, Tryz.ntmps75
    go_wp2_with fail
    go_quiet (fail)
    all_goals go_wp2
    all_goals refine bodyPost_ret (results_tmp2 Tryz.results75 _ _ _) rfl ⟨?_, below_drewN' (Below.refl _ _) _⟩
    all_goals simp [hr1]
    all_goals go_num
end Go.Proofs.YtipgociofjokeaaGreat
namespace Go.Proofs.YtipgociofjokeaaGreat
open Go.RowKit Go.Sort
variable {w w' : World} {D b : Nat} {v : Value} {xs : List Int}

/-- One wanted card: what is left, what was picked. -/
def pickS (s : List Int × List Int) (z : Int) : List Int × List Int := if s.1.contains z then (s.1.erase z, s.2 ++ [z]) else s
/-- All wanted cards. -/
def pickN (xs ws : List Int) : List Int × List Int := ws.foldl pickS (xs, [])
theorem pickN_snoc (xs ws : List Int) (z : Int) : pickN xs (ws ++ [z]) = pickS (pickN xs ws) z := by simp [pickN, List.foldl_append]
def cntP (x : Int) (xs : List Int) : Nat := xs.countP (· < x)
theorem erase_cnt {x : Int} : ∀ {xs : List Int}, xs.Pairwise (· < ·) → x ∈ xs → cntP x xs < xs.length ∧ xs.eraseIdx (cntP x xs) = xs.erase x
  | [], _, h => by cases h
  | a :: l, hs, h => by
    have hs2 := List.pairwise_cons.1 hs
    by_cases hax : a = x
    · subst hax
      have h0 : cntP a (a :: l) = 0 := by
        unfold cntP
        rw [List.countP_eq_zero]
        intro y hy
        rcases List.mem_cons.1 hy with rfl | hy
        · simp
        · have := hs2.1 y hy; simp; omega
      rw [h0]
      simp
    · have hx : x ∈ l := by
        rcases List.mem_cons.1 h with h | h
        · exact absurd h.symm hax
        · exact h
      have hlt := hs2.1 x hx
      have h1 : cntP x (a :: l) = cntP x l + 1 := by unfold cntP; rw [List.countP_cons_of_pos (by simpa using hlt)]
      obtain ⟨e1, e2⟩ := erase_cnt hs2.2 hx
      rw [h1]
      refine ⟨by simp; exact e1, ?_⟩
      rw [List.eraseIdx_cons_succ, e2, List.erase_cons_tail (by simpa using hax)]
theorem pickS_rise {s : List Int × List Int} {z : Int} (h : s.1.Pairwise (· < ·)) : (pickS s z).1.Pairwise (· < ·) := by
  unfold pickS
  split
  · exact h.sublist List.erase_sublist
  · exact h
theorem CardsAt.zs {off : Nat} {cur : Array Value} (h3 : w.heap[b]? = some (.cells cur 3 (0, 0))) (h5 : ∀ j, j < xs.length → cur[off + j]? = some (.int .i64 (xs.getD j 0))) : ∀ j, j < xs.length → w.cell? ⟨b, off + j, none⟩ = some (.int .i64 (xs.getD j 0)) := fun j hj => by
  rw [cell_of_row _ _ _ _ _ _ h3]; exact h5 j hj
set_option maxHeartbeats 1000000 in
theorem search_any (h : CardsAt w b v xs) (hs : xs.Pairwise (· < ·)) (hx : xs.length < 4611686018427387904) (x : Int) :
    Calls Tryz.prog 95 #[v, .int .i64 x] w fun e w' => e = .returned (.tuple #[.int .i64 (cntP x xs : Int), .bool (xs.contains x)]) ∧ Below w.heap.size w w' := by
  rcases h with ⟨rfl, rfl⟩ | ⟨off, c, cur, rfl, h1, h2, h3, h4, h5⟩
  · go_enter Tryz.func95, Tryz.ntmps95
    go_wp2_with fail
    go_loopw [7, 8] (fun vi vj wr => vi = .int .i64 0 ∧ vj = .int .i64 0 ∧ Hid (Below w.heap.size w wr)) (fun _ _ _ => 0)
    case atStart => exact ⟨rfl, rfl, Below.refl _ _⟩
    case round =>
      obtain ⟨rfl, rfl, HB⟩ := hrel
      go_wp2_with fail
      refine bodyPost_ret (results_tmp2 Tryz.results95 _ _ _) rfl ⟨rfl, HB.out⟩
  · refine (show Calls Tryz.prog 95 #[.slice (some ⟨b, off, none⟩) xs.length c, .int .i64 x] w _ from AnyG.slices_BinarySearch_int Tryz.searchZ b off xs.length c xs x w (Nat.le_refl _) hx (CardsAt.zs h3 h5) (by rw [List.take_of_length_le (Nat.le_refl _)]; exact hs.imp (fun h => by omega))).mono ?_
    rintro e w' ⟨rfl, q, rfl⟩
    rw [List.take_of_length_le (Nat.le_refl _)]
    exact ⟨rfl, below_drewN' (Below.refl _ _) q⟩
theorem heap_put {g n off : Nat} {cur : Array Value} {e : TypeId} {fr : Nat × Nat} (d : Array Int) (hb : w.heap[g]? = some (.cells cur e fr)) :
    (putRow (Value.int .i64) (Sort.ahead w n) g off d).heap[g]? = some (.cells (putCells (Value.int .i64) off d cur) e fr) := by
  simp [putRow, mapBlock, Sort.ahead, Array.getElem?_modify, hb, onCells]
theorem put_chg {g n off : Nat} (d : Array Int) : Chg [g] w (putRow (Value.int .i64) (Sort.ahead w n) g off d) := by
  refine ⟨rfl, rfl, rfl, by simp [putRow, mapBlock, Sort.ahead], fun k hk hne => ?_⟩
  have : g ≠ k := fun e => hne (by rw [e]; simp)
  simp [putRow, mapBlock, Sort.ahead, Array.getElem?_modify, this]
set_option maxHeartbeats 1000000 in
theorem delete_at {off c i : Nat} {cur : Array Value} (h1 : xs.length ≤ c) (h2 : c ≤ maxLen) (h3 : w.heap[b]? = some (.cells cur 3 (0, 0))) (h4 : off + c ≤ cur.size) (h5 : ∀ j, j < xs.length → cur[off + j]? = some (.int .i64 (xs.getD j 0))) (hi : i < xs.length) :
    Calls Tryz.prog 96 #[.slice (some ⟨b, off, none⟩) xs.length c, .int .i64 (i : Int), .int .i64 ((i + 1 : Nat) : Int)] w fun e w' => e = .returned (.slice (some ⟨b, off, none⟩) (xs.length - 1) c) ∧ CardsAt w' b (.slice (some ⟨b, off, none⟩) (xs.length - 1) c) (xs.eraseIdx i) ∧ Chg [b] w w' := by
  obtain ⟨i0, hi0, hz0, hz1, hz2⟩ := info_parts Tryz.infoZ
  have hz : ∀ w, (zeroValue 3).run Tryz.prog w = .ok (Value.int .i64 0) w := fun w => by simp [zeroValue, typeInfo, hi0, hz0]
  have hH : Holds (Value.int .i64) w b off xs.toArray := fun j hj => by
    have hj' : j < xs.length := by simpa using hj
    refine ⟨?_, by simp [World.frozen?, h3]⟩
    rw [CardsAt.zs h3 h5 j hj', List.getD_eq_getElem?_getD, List.getElem?_eq_getElem hj']
    simp [hj']
  have hD := AnyE.slices_Delete Tryz.deleteZ (Value.int .i64) (by intro _; rfl) 0 hz i0 hi0 hz1 b off c i (i + 1) xs.toArray w hH (by simpa using h1) (by unfold maxLen at h2; omega) (by omega) (by simp; omega)
  simp only [List.size_toArray] at hD
  refine (show Calls Tryz.prog 96 #[.slice (some ⟨b, off, none⟩) xs.length c, .int .i64 (i : Int), .int .i64 ((i + 1 : Nat) : Int)] w _ from hD).mono ?_
  rintro e w' ⟨rfl, q, rfl⟩
  have e1 : xs.length - (i + 1 - i) = xs.length - 1 := by omega
  have e2 : i + 1 - i = 1 := by omega
  rw [e1, e2]
  refine ⟨rfl, ?_, put_chg _⟩
  have hl : (xs.eraseIdx i).length = xs.length - 1 := by rw [List.length_eraseIdx, if_pos hi]
  refine Or.inr ⟨off, c, _, by rw [hl], by omega, h2, heap_put _ h3, by simp [putCells]; omega, fun j hj => ?_⟩
  rw [hl] at hj
  have hjc : off + j < cur.size := by omega
  have hg : (xs.take i ++ xs.drop (i + 1) ++ List.replicate 1 0)[j]? = (xs.eraseIdx i)[j]? := by
    rw [List.getElem?_append_left (by simp; omega), List.eraseIdx_eq_take_drop_succ]
  have hj2 : j < (xs.eraseIdx i).length := by omega
  rw [List.getElem?_eq_getElem hj2] at hg
  have hy : (xs.take i ++ xs.drop (i + 1) ++ List.replicate 1 0).toArray[off + j - off]! = (xs.eraseIdx i)[j] := by
    rw [Nat.add_sub_cancel_left]
    simp only [getElem!_def, List.getElem?_toArray, hg]
  simp only [putCells]
  rw [Array.getElem?_mapIdx, Array.getElem?_eq_getElem hjc, Option.map_some, if_pos ⟨by omega, by simp; omega⟩, hy, List.getD_eq_getElem?_getD, List.getElem?_eq_getElem hj2]
  rfl
end Go.Proofs.YtipgociofjokeaaGreat
namespace Go.Proofs.YtipgociofjokeaaGreat
open Go.RowKit Go.Sort
variable {w w' : World} {D b : Nat} {v : Value} {xs : List Int} {ad : Option Addr} {m c : Nat}

theorem pickS_len (s : List Int × List Int) (z : Int) : (pickS s z).1.length + (pickS s z).2.length = s.1.length + s.2.length := by
  unfold pickS
  by_cases h : s.1.contains z = true
  · rw [if_pos h]
    have hm : z ∈ s.1 := by simpa using h
    have := List.length_erase_of_mem hm
    have := List.length_pos_of_mem hm
    simp
    omega
  · rw [if_neg h]
theorem foldl_len (ws : List Int) (s : List Int × List Int) : (ws.foldl pickS s).1.length + (ws.foldl pickS s).2.length = s.1.length + s.2.length := by
  induction ws generalizing s with
  | nil => rfl
  | cons z ws ih => rw [List.foldl_cons, ih, pickS_len]
theorem pickN_len (xs ws : List Int) : (pickN xs ws).1.length + (pickN xs ws).2.length = xs.length := by
  have := foldl_len ws (xs, [])
  simpa [pickN] using this
theorem pickN_rise (xs ws : List Int) (h : xs.Pairwise (· < ·)) : (pickN xs ws).1.Pairwise (· < ·) := by
  unfold pickN
  suffices ∀ (s : List Int × List Int), s.1.Pairwise (· < ·) → (ws.foldl pickS s).1.Pairwise (· < ·) from this (xs, []) h
  induction ws with
  | nil => exact fun s h => h
  | cons z ws ih => exact fun s h => ih _ (pickS_rise h)
theorem RowK.chg {α : Type} {K : Kd α} {l : List α} {F : List Nat} (h : RowK K w ad l) (hc : Chg F w w') (hn : l ≠ [] → ∀ b off, ad = some ⟨b, off, none⟩ → b ∉ F) : RowK K w' ad l := h.keep hc.size (fun b off e hlt h0 => hc.block b hlt (hn h0 b off e))
theorem ArgK.chg {α : Type} {K : Kd α} {l : List α} {F : List Nat} (h : ArgK K w l ad m c) (hc : Chg F w w') (hn : l ≠ [] → ∀ b off, ad = some ⟨b, off, none⟩ → b ∉ F) : ArgK K w' l ad m c := ⟨h.len, h.nil, h.cap, h.room, h.row.chg hc hn⟩
/-- One card less in the deck: what Delete, the store and the append leave. -/
theorem pick_step {wr w1 w2 w5 : World} {av : Option Addr} {cv n : Nat} {vd v5 : Value} {xs' pk : List Int} {z : Int} {o : Obj} (hbl : b < w.heap.size) (hDl : D < w.heap.size)
    (hC : Chg [D, b] w wr) (hb1 : Below wr.heap.size wr w1) (hbD : Blk w1 D #[v] TDk) (hc2 : Chg [b] w1 w2) (hcd : CardsAt w2 b vd xs') (hne : b ≠ D) (hO : OwnK kZ wr w.heap.size (.slice av n cv) pk) :
    (w2.cell? ⟨D, 0, none⟩ = some v ∧ w2.frozen? ⟨D, 0, none⟩ = false) ∧ OwnK kZ ((w2.setCell ⟨D, 0, none⟩ vd).alloc o) w.heap.size (.slice av n cv) pk ∧ w.heap.size ≤ ((w2.setCell ⟨D, 0, none⟩ vd).alloc o).heap.size ∧
    (OwnK kZ w5 w.heap.size v5 (pk ++ [z]) → ((w2.setCell ⟨D, 0, none⟩ vd).alloc o).grownBy w5 (Value.slice av n cv).ownBlock → DeckP w5 D b xs' ∧ Chg [D, b] w w5 ∧ ∃ a5 c5, v5 = .slice a5 (pk.length + 1) c5) := by
  have hbD2 : Blk w2 D #[v] TDk := hbD.chg hc2 (by simp; exact fun e => hne e.symm)
  have hc1 : Chg [D, b] w w1 := hC.trans (Chg.of (F := []) hb1) (by simp)
  have hc12 : Chg [D, b] w w2 := hc1.trans hc2 (by simp)
  have hw3 : Chg [D, b] w (w2.setCell ⟨D, 0, none⟩ vd) := hc12.set (Or.inl (by simp)) 0 vd
  have hs1 := hC.size
  have hs2 := hc12.size
  have hO1 : OwnK kZ w1 w.heap.size (.slice av n cv) pk := hO.later hb1
  have hO2 : OwnK kZ w2 w.heap.size (.slice av n cv) pk := hO1.chg hc2 (fun g hg hm => by have := (hO1.block g hg).1; simp at hm; omega)
  have hO3 : OwnK kZ (w2.setCell ⟨D, 0, none⟩ vd) w.heap.size (.slice av n cv) pk := hO2.chg (F := [D]) ((Chg.refl _ _).set (Or.inl (by simp)) 0 vd) (fun g hg hm => by have := (hO2.block g hg).1; simp at hm; omega)
  have hb4 := (Below.refl _ (w2.setCell ⟨D, 0, none⟩ vd)).alloc (Nat.le_refl _) o
  refine ⟨⟨hbD2.cell 0, hbD2.free 0⟩, hO3.later hb4, by have := hb4.size; simp [World.setCell] at this ⊢; omega, fun h5 hg => ?_⟩
  have hD3 : DeckP (w2.setCell ⟨D, 0, none⟩ vd) D b xs' := ⟨vd, hbD2.set 0 vd, hcd.keep (fun _ => Below.heap_setCell _ _ _ _ hne)⟩
  have hc4 : Chg [D, b] w ((w2.setCell ⟨D, 0, none⟩ vd).alloc o) := hw3.trans (Chg.of (F := []) hb4) (by simp)
  obtain ⟨g5, hg5⟩ : ∃ F : List Nat, (∀ k ∈ F, w.heap.size ≤ k) ∧ Chg F ((w2.setCell ⟨D, 0, none⟩ vd).alloc o) w5 := by
    cases ho : (Value.slice av n cv).ownBlock with
    | none => exact ⟨[], by simp, grown_chg (v := .slice av n cv) (by rw [ho] at hg ⊢; exact hg) _ (fun g hg => by rw [ho] at hg; cases hg)⟩
    | some g => exact ⟨[g], fun k hk => by simp at hk; subst hk; exact (hO.block k ho).1, grown_chg (v := .slice av n cv) (by rw [ho] at hg ⊢; exact hg) _ (fun g hg => by rw [ho] at hg; cases hg; simp)⟩
  refine ⟨(hD3.later hb4).chg hg5.2 (fun hm => by have := hg5.1 _ hm; omega) (fun hm => by have := hg5.1 _ hm; omega), hc4.trans hg5.2 (fun k hk => Or.inr (hg5.1 k hk)), ?_⟩
  obtain ⟨a5, c5, e, -⟩ := h5.form kZ_ok.tofit
  exact ⟨a5, c5, by rw [e]; simp⟩
set_option maxHeartbeats 2000000 in
theorem pick_any (h : DeckP w D b xs) (hbl : b < w.heap.size) (hs : xs.Pairwise (· < ·)) (hx : xs.length ≤ 1048576) {ws : List Int} (ha : ArgK kZ w ws ad m c) (hn : ws ≠ [] → ∀ b' off, ad = some ⟨b', off, none⟩ → b' ≠ D ∧ b' ≠ b) :
    Calls Tryz.prog 77 #[.pointer (some ⟨D, 0, none⟩), .slice ad m c] w fun e w' => ∃ v, e = .returned v ∧ OwnK kZ w' w.heap.size v (risZ (pickN xs ws).2) ∧ DeckP w' D b (pickN xs ws).1 ∧ Chg [D, b] w w' := by
  have H := hid ha
  have HN := hid hn
  have HS := hid hs
  have HX := hid hx
  have HDk := hid h
  have hDl : D < w.heap.size := by obtain ⟨v, hb, _⟩ := h; exact hb.lt
  have hm : m ≤ 9223372036854775807 := by have := ha.cap; have := ha.room; unfold maxLen at this; omega
  clear h hs hx ha hn
  go_enter Tryz.func77, Tryz.ntmps77
  go_wp2_with fail
  go_loopw [5, 12] (fun v i wr => ∃ (k n : Nat) (av : Option Addr) (cv : Nat), k ≤ m ∧ i = .int .i64 (k : Int) ∧ v = .slice av n cv ∧ Hid ((pickN xs (ws.take k)).2.length = n) ∧ Hid (OwnK kZ wr w.heap.size (.slice av n cv) (pickN xs (ws.take k)).2) ∧ Hid (DeckP wr D b (pickN xs (ws.take k)).1) ∧ Hid (Chg [D, b] w wr)) (fun _ i _ => m - (intOf i).toNat)
  case atStart => exact ⟨0, 0, none, 0, by omega, rfl, rfl, (by rw [List.take_zero]; exact rfl), (by rw [List.take_zero]; exact OwnK.nil (K := kZ) w _), (by rw [List.take_zero]; exact HDk.out), Chg.refl _ _⟩
  case round =>
    obtain ⟨k, n, av, cv, hk, rfl, rfl, HLn, HO, HD, HC⟩ := hrel
    clear HDk
    by_cases hlt : k < m
    · have hws : ws ≠ [] := fun e => by have := H.out.len; rw [e] at this; simp at this; omega
      have H2 := H.out.chg HC.out (fun _ b' off e hm => by have := HN.out hws b' off e; simp at hm; omega)
      obtain ⟨bw, offw, rfl, hsw, hcw⟩ := H2.cells (by omega)
      have r0 : wr.cell? ⟨bw, offw + k, none⟩ = some (.int .i64 (ws.getD k 0)) := by have := hcw k hlt 0 (by decide); rw [Nat.mul_one, Nat.add_zero] at this; exact this
      have HTk := hid (take_snoc_any ws 0 k (by rw [H.out.len]; exact hlt))
      have HPr := hid (pickN_rise xs (ws.take k) HS.out)
      have HPl := hid (pickN_len xs (ws.take k))
      have HSn : Hid (pickN xs (ws.take (k + 1)) = pickS (pickN xs (ws.take k)) (ws.getD k 0)) := by rw [HTk.out]; exact pickN_snoc _ _ _
      generalize ws.getD k 0 = z at *
      obtain ⟨⟨xs', pk⟩, hp⟩ : ∃ p, pickN xs (ws.take k) = p := ⟨_, rfl⟩
      rw [hp] at HLn HO HD HPr HPl HSn
      dsimp only at HLn HO HD HPr HPl
      clear hcw hsw H2 hws HTk hp
      have hsz : w.heap.size ≤ wr.heap.size := HC.out.size
      obtain ⟨vd, hbd, hcd⟩ := HD.out
      have HSr := hid (search_any hcd HPr.out (by have := HPl.out; have := HX.out; omega) z)
      cases hz : xs'.contains z with
      | false =>
        have HSn2 : Hid (pickN xs (ws.take (k + 1)) = (xs', pk)) := by rw [HSn.out]; unfold pickS; rw [hz]; exact rfl
        rw [hz] at HSr
        have c0 := hbd.cell 0
        simp only [List.getElem?_toArray, List.getElem?_cons_zero] at c0
        obtain ⟨da, dm, dc, rfl, -, -, -, -⟩ := hcd.cut
        clear hz hbd hcd
        generalize (cntP z xs' : Int) = q at *
        go_wp2_with (go_at_call 95; (with_reducible_and_instances (refine HSr.out.mono ?_)); rintro e w1 ⟨rfl, hb⟩; have HB1 := hid hb; clear hb)
        refine ⟨⟨k + 1, n, av, cv, by omega, by go_num, rfl, (by rw [HSn2.out]; exact HLn), (by rw [HSn2.out]; exact HO.out.later HB1.out), (by rw [HSn2.out]; exact HD.out.later HB1.out), HC.out.trans (Chg.of (F := []) HB1.out) (by simp)⟩, by simp [intOf]; omega⟩
      | true =>
        have hzm : z ∈ xs' := by simpa using hz
        obtain ⟨hq1, hq2⟩ := erase_cnt HPr.out hzm
        have HSn2 : Hid (pickN xs (ws.take (k + 1)) = (xs'.erase z, pk ++ [z])) := by rw [HSn.out]; unfold pickS; rw [hz]; exact rfl
        rw [hz] at HSr
        rcases hcd with ⟨-, h0⟩ | ⟨off, dc, cur, rfl, h1, h2, h3, h4, h5⟩
        · rw [h0] at hzm; cases hzm
        · have hne := deck_ne hbd h3
          have c0 := hbd.cell 0
          simp only [List.getElem?_toArray, List.getElem?_cons_zero] at c0
          have hDw := hbd.lt
          have HBd := hid hbd
          have HDel : Hid (∀ w1, Below wr.heap.size wr w1 → Calls Tryz.prog 96 #[.slice (some ⟨b, off, none⟩) xs'.length dc, .int .i64 ((cntP z xs' : Nat) : Int), .int .i64 (((cntP z xs' : Nat) : Int) + 1)] w1 fun e w' => e = .returned (.slice (some ⟨b, off, none⟩) (xs'.length - 1) dc) ∧ CardsAt w' b (.slice (some ⟨b, off, none⟩) (xs'.length - 1) dc) (xs'.erase z) ∧ Chg [b] w1 w') := fun w1 hb1 => by
            have := delete_at (w := w1) h1 h2 ((hb1.block b (Array.getElem?_eq_some_iff.1 h3).1).trans h3) h4 h5 hq1
            rw [hq2] at this
            exact this
          have hqb : cntP z xs' ≤ 1048576 := by have := HPl.out; have := HX.out; omega
          have hpb : n + 1 ≤ 1048577 := by have := HPl.out; have := HX.out; have := HLn.out; omega
          clear hz hzm hq2 h1 h2 h3 h4 h5 hq1 hbd
          generalize cntP z xs' = q at *
          generalize xs'.length = mx at *
          go_wp2_with (first
            | (go_at_call 95; (with_reducible_and_instances (refine HSr.out.mono ?_)); rintro e w1 ⟨rfl, hb1⟩; have HB1 := hid hb1; have HDl := hid (HDel.out w1 hb1); have c1 := (hb1.cell (p := ⟨D, 0, none⟩) hDw).trans c0; have HBd1 := hid (HBd.out.later hb1); clear hb1)
            | (go_at_call 96; (with_reducible_and_instances (refine HDl.out.mono ?_)); rintro e w2 ⟨rfl, hcd2, hc2⟩; have HSt := hid (fun w5 v5 o => pick_step (w5 := w5) (v5 := v5) (o := o) (z := z) hbl hDl HC.out HB1.out HBd1.out hc2 hcd2 hne HO.out); obtain ⟨c2, f2⟩ := (HSt.out w2 (.slice none 0 0) (.cells #[] 0)).1; have hHO2 := (HSt.out w2 (.slice none 0 0) (.cells #[.int .i64 z] 3)).2.1; have hSz2 := (HSt.out w2 (.slice none 0 0) (.cells #[.int .i64 z] 3)).2.2.1; have HO2 := hid hHO2; have HSz := hid hSz2; have hrw := z_row (w2.setCell ⟨D, 0, none⟩ (.slice (some ⟨b, off, none⟩) (mx - 1) dc)) z; rw [show (w2.setCell ⟨D, 0, none⟩ (.slice (some ⟨b, off, none⟩) (mx - 1) dc)).heap.size = w2.heap.size from (by simp [World.setCell])] at hrw; have HRw := hid hrw; clear hrw; clear hHO2 hSz2 hcd2 hc2)
            | (at_builtin; refine app_kd kZ_ok rfl _ _ rfl w.heap.size (.slice av n cv) pk rfl HO2.out (some ⟨w2.heap.size, 0, none⟩) 1 1 [z] rfl rfl (fun e => by cases e) HRw.out (by rw [HLn.out]; unfold maxLen; omega) (by rw [HLn.out]; show (n + 1) * 8 ≤ _; omega) HSz.out ?_; intro v5 w5 hO5 hg5; obtain ⟨d1, d2, a5, c5, hv5⟩ := (HSt.out w5 v5 (.cells #[.int .i64 z] 3)).2.2.2 hO5 hg5; rw [HLn.out] at hv5; subst hv5; have HD5 := hid d1; have HC5 := hid d2; have HO5 := hid hO5; clear hO5 hg5 d1 d2))
          refine ⟨⟨k + 1, n + 1, a5, c5, by omega, by go_num, rfl, (by rw [HSn2.out, List.length_append, HLn.out]; exact rfl), (by rw [HSn2.out]; exact HO5.out), (by rw [HSn2.out]; exact HD5.out), HC5⟩, by simp [intOf]; omega⟩
    · obtain rfl : k = m := by omega
      have HFin : Hid (ws.take k = ws) := List.take_of_length_le (by rw [H.out.len]; exact Nat.le_refl _)
      rw [HFin.out] at HLn HO HD
      have HSo := hid (sortZ_own HO.out (by have := pickN_len xs ws; have := HX.out; have := HLn.out; omega))
      have HBk := hid HO.out.block
      go_wp2_with (go_at_call 97; (with_reducible_and_instances (refine HSo.out.mono ?_)); rintro e w1 ⟨rfl, hO1, hg1⟩; have HO1 := hid hO1; have HG1 := hid hg1; clear hO1 hg1)
      go_ret
      have hg : ∃ F : List Nat, (∀ k ∈ F, w.heap.size ≤ k) ∧ Chg F wr w1 := by
        cases ho : (Value.slice av n cv).ownBlock with
        | none => exact ⟨[], by simp, grown_chg (v := .slice av n cv) HG1.out _ (fun g hg => by rw [ho] at hg; cases hg)⟩
        | some g => exact ⟨[g], fun k hk => by simp at hk; subst hk; exact (HBk.out k ho).1, grown_chg (v := .slice av n cv) HG1.out _ (fun g hg => by rw [ho] at hg; cases hg; simp)⟩
      obtain ⟨F, hF, hcF⟩ := hg
      exact ⟨_, rfl, HO1.out, HD.out.chg hcF (fun hm => by have := hF _ hm; omega) (fun hm => by have := hF _ hm; omega), HC.out.trans hcF (fun k hk => Or.inr (hF k hk))⟩
end Go.Proofs.YtipgociofjokeaaGreat
namespace Go.Proofs.YtipgociofjokeaaGreat
open Go.RowKit Go.Sort
variable {w w' : World} {base : Nat} {v : Value}

abbrev ShA := Nm × Sl
def sh0 : ShA := ([], sl0)
/-- In w the value v is a slice of shares that was made from base on: A has their cells, P their partitions. -/
structure Shs (w : World) (base : Nat) (v : Value) (A : List ShA) (P : List (List Int)) : Prop where
  row : OwnK kSh w base v A
  len : A.length = P.length
  part : ∀ i, i < A.length → OwnK kZ w base (A.getD i sh0).2.v (P.getD i [])
  apart : ∀ i j g, i < A.length → j < A.length → i ≠ j → (A.getD i sh0).2.v.ownBlock = some g → (A.getD j sh0).2.v.ownBlock ≠ some g
theorem Sl.own {s : Sl} {l : List Int} (h : OwnK kZ w base s.v l) : s.m = l.length := by
  obtain ⟨ad, c, e, -⟩ := h.form kZ_ok.tofit
  unfold Sl.v at e
  injection e
theorem Shs.keep {A : List ShA} {P : List (List Int)} (h : Shs w base v A P) (hk : ∀ g, base ≤ g → g < w.heap.size → w'.heap[g]? = w.heap[g]?) : Shs w' base v A P :=
  ⟨h.row.keep (fun g hg => hk g (h.row.block g hg).1 (h.row.block g hg).2.1), h.len, fun i hi => (h.part i hi).keep (fun g hg => hk g ((h.part i hi).block g hg).1 ((h.part i hi).block g hg).2.1), h.apart⟩
theorem Shs.later {A : List ShA} {P : List (List Int)} (h : Shs w base v A P) (hb : Below w.heap.size w w') : Shs w' base v A P := h.keep (fun g _ hg => hb.block g hg)
theorem Shs.chg {A : List ShA} {P : List (List Int)} {F : List Nat} (h : Shs w base v A P) (hc : Chg F w w') (hF : ∀ g ∈ F, g < base) : Shs w' base v A P := h.keep (fun g hb hg => hc.block g hg (fun hm => by have := hF g hm; omega))
theorem Shs.mono {A : List ShA} {P : List (List Int)} {base' : Nat} (h : Shs w base v A P) (hb : base' ≤ base) : Shs w base' v A P := ⟨h.row.mono hb, h.len, fun i hi => (h.part i hi).mono hb, h.apart⟩
theorem map_nil_getD (s : List Nm) (i : Nat) : ((s.map (fun nm => ((nm, sl0) : ShA))).getD i sh0).2 = sl0 := by
  rw [List.getD_eq_getElem?_getD, List.getElem?_map]
  cases s[i]? <;> rfl
theorem Shs.new {s : List Nm} (h : OwnK kSh w base v (s.map (fun nm => (nm, sl0)))) : Shs w base v (s.map (fun nm => (nm, sl0))) (List.replicate s.length []) := by
  refine ⟨h, by simp, fun i hi => ?_, fun i j g _ _ _ hg => ?_⟩
  · rw [map_nil_getD, List.getD_eq_getElem?_getD, List.getElem?_replicate]
    have : OwnK kZ w base sl0.v [] := OwnK.nil (K := kZ) w base
    split <;> exact this
  · rw [map_nil_getD] at hg; cases hg
theorem getD_set_same {α : Type} (l : List α) (z x : α) (i : Nat) (h : i < l.length) : (l.set i x).getD i z = x := by
  rw [List.getD_eq_getElem?_getD, List.getElem?_set_self h]; rfl
theorem getD_set_other {α : Type} (l : List α) (z x : α) (i j : Nat) (h : i ≠ j) : (l.set i x).getD j z = l.getD j z := by
  rw [List.getD_eq_getElem?_getD, List.getElem?_set_ne h, ← List.getD_eq_getElem?_getD]
theorem Vs_set (A : List ShA) (i : Nat) (s : Sl) (hi : i < A.length) : kSh.Vs (A.set i ((A.getD i sh0).1, s)) = (kSh.Vs A).set (i * 2 + 1) s.v := by
  induction A generalizing i with
  | nil => simp at hi
  | cons a A ih =>
    cases i with
    | zero => rfl
    | succ i =>
      have e := ih i (by simp at hi; omega)
      show kSh.V a ++ kSh.Vs (A.set i ((A.getD i sh0).1, s)) = _
      rw [e]
      show _ = (.string (nmS a.1) :: .slice a.2.ad a.2.m a.2.c :: kSh.Vs A).set ((i + 1) * 2 + 1) s.v
      rw [show (i + 1) * 2 + 1 = (i * 2 + 1) + 1 + 1 by omega]
      rfl
/-- One share's partitions put into the row. -/
theorem row_set {g n c : Nat} {A : List ShA} (h : OwnK kSh w base (.slice (some ⟨g, 0, none⟩) n c) A) (i : Nat) (hi : i < A.length) (s : Sl) : OwnK kSh (w.setCell ⟨g, i * 2 + 1, none⟩ s.v) base (.slice (some ⟨g, 0, none⟩) n c) (A.set i ((A.getD i sh0).1, s)) := by
  rcases h.2 with ⟨e, -⟩ | ⟨g', cap, cur, e, hb, hg, hn, hm, hs, ht⟩
  · cases e
  · obtain ⟨rfl, rfl, rfl⟩ : g = g' ∧ n = A.length ∧ c = cap := by injection e with e1 e2 e3; injection e1 with e1; injection e1 with e1; exact ⟨e1, e2, e3⟩
    have hB : Blk w g cur 87 := hg
    refine ⟨by rw [Kd.fit.Vs_len kSh_ok.tofit], Or.inr ⟨g, c, _, by rw [List.length_set], hb, hB.set (i * 2 + 1) s.v, by rw [List.length_set]; exact hn, hm, by rw [Array.size_setIfInBounds]; exact hs, ?_⟩⟩
    rw [List.length_set, Vs_set A i s hi, ← ht]
    have hsz : kSh.sz = 2 := rfl
    rw [hsz]
    rw [Array.toList_setIfInBounds, List.take_set]
theorem run_app_empty {t ty e : TypeId} {i0 : TypeInfo} {size n c : Nat} {xs : List Value} {x : Addr} (ht : Tryz.prog.underlying t = some (.slice e)) (hi : Tryz.prog.info? e = some i0) (hown : w.ownsRow base e size v n xs) : (Builtin.append_ #[t, t] ty #[v, .slice (some x) 0 c]).run Tryz.prog w = .ok v w := by
  have hfc := run_firstCells_some (P := Tryz.prog) w i0.size 0 x 0 c [] (by simp) (fun j u hu => by simp at hu)
  rcases hown.2 with ⟨rfl, rfl⟩ | ⟨g, cap, cur, rfl, _, _, hnc, _⟩
  · simp [Builtin.append_, run_underlying ht, sizeOf, typeInfo, hi, Builtin.lenOf, hfc]
  · simp [Builtin.append_, run_underlying ht, sizeOf, typeInfo, hi, Builtin.lenOf, hfc, hnc, storeCells]
/-- 'append(v, x...)', both of the call's own, as one step of a region that draws its order; where the answer lies. -/
theorem step_app_got {ops : Array Oper} {o : Oper} {a : Act} {Kn : Act → World → Prop} {Q : Exit → Act → World → Prop} {E : Prop} (hgd : o.guard = none) (s x : Operand)
    (ho : o.op = .call { callee := .builtin .append, args := #[s, x], argTypes := #[34, 34] })
    (base base2 : Nat) (v vg : Value) (L got : List Int) (hs : a.eval s = v) (hown : OwnK kZ w base v L) (hx : a.eval x = vg) (hgot : OwnK kZ w base2 vg got)
    (hlen : L.length + got.length ≤ 1048576) (hbase : base ≤ w.heap.size)
    (h : ∀ (s' : Sl) w', s'.m = L.length + got.length → OwnK kZ w' base s'.v (L ++ got) → w.grownBy w' v.ownBlock → (∀ g, s'.v.ownBlock = some g → v.ownBlock = some g ∨ w.heap.size ≤ g) → Kn (a.put o.dst s'.v) w') :
    if Region.wanted o (yielded ops a.tmps) = true then Oper.wp Tryz.prog o a w Kn Q else E := by
  have hw : Region.wanted o (yielded ops a.tmps) = true := by simp [Region.wanted, hgd]
  rw [if_pos hw]
  obtain ⟨i0, hi, hz0, hz1, hz2⟩ := info_parts kZ_ok.info
  have hund : Tryz.prog.underlying 34 = some (.slice 3) := kZ_ok.und
  have hsame : got = [] → (Builtin.append_ #[34, 34] o.type #[v, vg]).run Tryz.prog w = .ok v w → Oper.wp Tryz.prog o a w Kn Q := fun h0 hr => by
    obtain ⟨ad, c, e, -⟩ := hown.form kZ_ok.tofit
    have hk := h ⟨ad, L.length, c⟩ w (by rw [h0]; rfl) (by rw [h0, List.append_nil]; rw [e] at hown; exact hown) (World.grownBy.refl _ _) (fun g hg => Or.inl (by rw [e]; exact hg))
    unfold Oper.wp
    simp only [execOp, ho, resolve, invoke, builtin, Sem.run_bind, Sem.run_pure, Result.andThen_ok, List.map_toArray, List.map_cons, List.map_nil, hs, hx, hr]
    rw [e]
    exact hk
  rcases hgot.2 with ⟨rfl, h0⟩ | ⟨g, cap, cur, rfl, -⟩
  · exact hsame (List.eq_nil_of_length_eq_zero h0) (run_append_owned_none (P := Tryz.prog) (w := w) base _ _ _ i0 1 hund hi v _ _ hown)
  · by_cases h0 : got = []
    · subst h0
      exact hsame rfl (run_app_empty hund hi hown)
    · obtain ⟨ad2, c2, e2, hA⟩ := hgot.form kZ_ok.tofit
      cases e2
      have hgl : 0 < got.length := List.length_pos_iff.2 h0
      refine wp_append_lies w s x 34 ho base 3 i0 _ 1 8 hund hi hz0 hz1 hz2 rfl (by decide) v L.length _ hs hown ⟨g, 0, none⟩ got.length cap (kZ.Vs got) hx (by rw [kZ_ok.tofit.Vs_len]) (hA.row.cells kZ_ok.tofit _ rfl) (kZ_ok.Vs_ones _) hgl (by unfold maxLen; omega) (by omega) hbase w.heap.size rfl ?_
      intro b cap' w' h1 h2 h3 _
      refine h ⟨some ⟨b, 0, none⟩, L.length + got.length, cap'⟩ w' rfl ?_ h2 (fun g' hg' => ?_)
      · unfold OwnK
        rw [List.length_append, Kd.Vs_append]
        exact h1
      · have : b = g' := by cases hg'; rfl
        subst this
        rcases h3 with h3 | h3
        · exact Or.inl h3
        · exact Or.inr (by omega)
/-- What one step leaves of the shares: i's partitions are more. -/
theorem Shs.step {W w3 : World} {g n c i : Nat} {A : List ShA} {P : List (List Int)} {s' : Sl} {got : List Int} (h : Shs W base (.slice (some ⟨g, 0, none⟩) n c) A P) (hi : i < A.length) (hO : OwnK kZ w3 base s'.v (P.getD i [] ++ got)) (hg : W.grownBy w3 (A.getD i sh0).2.v.ownBlock) (hl : ∀ b, s'.v.ownBlock = some b → (A.getD i sh0).2.v.ownBlock = some b ∨ W.heap.size ≤ b) :
    Shs (w3.setCell ⟨g, i * 2 + 1, none⟩ s'.v) base (.slice (some ⟨g, 0, none⟩) n c) (A.set i ((A.getD i sh0).1, s')) (P.set i (P.getD i [] ++ got)) := by
  have hgr := h.row.block g rfl
  obtain ⟨cur, hgc⟩ := hgr.2.2
  have hgc' : W.heap[g]? = some (.cells cur 87 (0, 0)) := hgc
  have hne : ∀ j b, j < A.length → (A.getD j sh0).2.v.ownBlock = some b → b ≠ g := fun j b hj hb e => by
    obtain ⟨cur2, h2⟩ := ((h.part j hj).block b hb).2.2
    rw [e, hgc'] at h2
    simp at h2
  have hne' : ∀ b, s'.v.ownBlock = some b → b ≠ g := fun b hb e => by
    rcases hl b hb with h1 | h1
    · exact hne i b hi h1 e
    · have := hgr.2.1; omega
  have hrow3 : OwnK kSh w3 base (.slice (some ⟨g, 0, none⟩) n c) A := h.row.keep (fun g' hg' => hg.block g' (h.row.block g' hg').2.1 (fun e => hne i g' hi e.symm (by cases hg'; rfl)))
  have hset : ∀ k, k ≠ g → (w3.setCell ⟨g, i * 2 + 1, none⟩ s'.v).heap[k]? = w3.heap[k]? := fun k hk => Below.heap_setCell _ _ _ _ hk
  refine ⟨row_set hrow3 i hi s', by rw [List.length_set, List.length_set]; exact h.len, fun j hj => ?_, fun j k b hj hk hjk hb => ?_⟩
  · rw [List.length_set] at hj
    by_cases e : i = j
    · subst e
      rw [getD_set_same _ _ _ _ hi, getD_set_same _ _ _ _ (by rw [← h.len]; exact hi)]
      exact hO.keep (fun b hb => hset b (hne' b hb))
    · rw [getD_set_other _ _ _ _ _ e, getD_set_other _ _ _ _ _ e]
      have hp := h.part j hj
      refine (hp.keep (w' := w3) (fun b hb => hg.block b (hp.block b hb).2.1 (fun e2 => h.apart i j b hi hj e e2.symm hb))).keep (fun b hb => hset b (hne j b hj hb))
  · rw [List.length_set] at hj hk
    by_cases e1 : i = j
    · subst e1
      rw [getD_set_same _ _ _ _ hi] at hb
      rw [getD_set_other _ _ _ _ _ hjk]
      intro hk2
      rcases hl b hb with h1 | h1
      · exact h.apart i k b hi hk hjk h1 hk2
      · have := ((h.part k hk).block b hk2).2.1; omega
    · rw [getD_set_other _ _ _ _ _ e1] at hb
      by_cases e2 : i = k
      · subst e2
        rw [getD_set_same _ _ _ _ hi]
        intro hk2
        rcases hl b hk2 with h1 | h1
        · exact h.apart j i b hj hi (fun e => e1 e.symm) hb h1
        · have := ((h.part j hj).block b hb).2.1; omega
      · rw [getD_set_other _ _ _ _ _ e2]
        exact h.apart j k b hj hk hjk hb
/-- What a sort of i's partitions leaves. -/
theorem Shs.sorted {W w3 : World} {i : Nat} {A : List ShA} {P : List (List Int)} {q : List Int} (h : Shs W base v A P) (hi : i < A.length) (hO : OwnK kZ w3 base (A.getD i sh0).2.v q) (hg : W.grownBy w3 (A.getD i sh0).2.v.ownBlock) : Shs w3 base v A (P.set i q) := by
  have hne : ∀ b, (A.getD i sh0).2.v.ownBlock = some b → v.ownBlock ≠ some b := fun b hb e => by
    obtain ⟨cur, hgc⟩ := (h.row.block b e).2.2
    obtain ⟨cur2, h2⟩ := ((h.part i hi).block b hb).2.2
    have hgc' : W.heap[b]? = some (.cells cur 87 (0, 0)) := hgc
    rw [hgc'] at h2
    simp at h2
  refine ⟨h.row.keep (fun g hg' => hg.block g (h.row.block g hg').2.1 (fun e => hne g e.symm hg')), by rw [List.length_set]; exact h.len, fun j hj => ?_, h.apart⟩
  by_cases e : i = j
  · subst e
    rw [getD_set_same _ _ _ _ (by rw [← h.len]; exact hi)]
    exact hO
  · rw [getD_set_other _ _ _ _ _ e]
    have hp := h.part j hj
    exact hp.keep (fun b hb => hg.block b (hp.block b hb).2.1 (fun e2 => h.apart i j b hi hj e e2.symm hb))
end Go.Proofs.YtipgociofjokeaaGreat
