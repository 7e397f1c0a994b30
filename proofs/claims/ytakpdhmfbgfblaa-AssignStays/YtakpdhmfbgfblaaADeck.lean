/- A deck of partitions in memory. -/
import Derived.Test.YtakpdhmfbgfblaaASort
import Derived.WalkLawsBesides
namespace Go.Proofs.Ytakpdhmfbgfblaa
open Go.RowKit Go.Sort
variable {w w' : World} {D b : Nat} {v : Value} {xs : List Int}

abbrev TDk : TypeId := 65
/-- In w the value v is a slice of the numbers xs, anywhere in block b, which it has alone. -/
def CardsAt (w : World) (b : Nat) (v : Value) (xs : List Int) : Prop :=
  (v = .slice none 0 0 ∧ xs = []) ∨ ∃ off c cur, v = .slice (some ⟨b, off, none⟩) xs.length c ∧ xs.length ≤ c ∧ c ≤ maxLen ∧ w.heap[b]? = some (.cells cur 3 (0, 0)) ∧ off + c ≤ cur.size ∧ ∀ j, j < xs.length → cur[off + j]? = some (.int .i64 (xs.getD j 0))
/-- In w block D is a deck of the cards xs, which lie in block b. -/
def DeckP (w : World) (D b : Nat) (xs : List Int) : Prop := ∃ v, Blk w D #[v] TDk ∧ CardsAt w b v xs
theorem CardsAt.keep (h : CardsAt w b v xs) (hk : b < w.heap.size → w'.heap[b]? = w.heap[b]?) : CardsAt w' b v xs := by
  rcases h with h | ⟨off, c, cur, e, h1, h2, h3, h4⟩
  · exact Or.inl h
  · exact Or.inr ⟨off, c, cur, e, h1, h2, (hk (Array.getElem?_eq_some_iff.1 h3).1).trans h3, h4⟩
theorem DeckP.chg {F : List Nat} (h : DeckP w D b xs) (hc : Chg F w w') (h1 : D ∉ F) (h2 : b ∉ F) : DeckP w' D b xs := by
  obtain ⟨v, hb, hx⟩ := h
  exact ⟨v, hb.chg hc h1, hx.keep (fun hl => hc.block b hl h2)⟩
theorem DeckP.later (h : DeckP w D b xs) (hb : Below w.heap.size w w') : DeckP w' D b xs := h.chg (F := []) (Chg.of hb) (by simp) (by simp)
theorem deck_ne {cs cur : Array Value} (h : Blk w D cs TDk) (h3 : w.heap[b]? = some (.cells cur 3 (0, 0))) : b ≠ D := by
  intro e
  subst e
  unfold Blk at h
  rw [h] at h3
  simp at h3
  exact absurd h3.2 (by decide)
theorem CardsAt.cut (h : CardsAt w b v xs) : ∃ ad m c, v = .slice ad m c ∧ xs.length = m ∧ m ≤ c ∧ c ≤ maxLen ∧ (ad = none → m = 0 ∧ c = 0) := by
  rcases h with ⟨rfl, rfl⟩ | ⟨off, c, cur, rfl, h1, h2, -⟩
  · exact ⟨none, 0, 0, rfl, rfl, Nat.le_refl _, by unfold maxLen; omega, fun _ => ⟨rfl, rfl⟩⟩
  · exact ⟨_, _, c, rfl, rfl, h1, h2, fun e => by cases e⟩
/-- What is left behind the first k. -/
theorem CardsAt.drop {off c : Nat} {cur : Array Value} (h1 : xs.length ≤ c) (h2 : c ≤ maxLen) (h3 : w.heap[b]? = some (.cells cur 3 (0, 0))) (h4 : off + c ≤ cur.size) (h5 : ∀ j, j < xs.length → cur[off + j]? = some (.int .i64 (xs.getD j 0))) (k : Nat) (hk : k ≤ xs.length) :
    CardsAt w b (.slice (if c = k then some ⟨b, off, none⟩ else some ⟨b, off + k, none⟩) (xs.length - k) (c - k)) (xs.drop k) := by
  refine Or.inr ?_
  by_cases hc : c = k
  · refine ⟨off, c - k, cur, by rw [if_pos hc, List.length_drop], by rw [List.length_drop]; omega, by omega, h3, by omega, fun j hj => ?_⟩
    rw [List.length_drop] at hj; omega
  · refine ⟨off + k, c - k, cur, by rw [if_neg hc, List.length_drop], by rw [List.length_drop]; omega, by omega, h3, by omega, fun j hj => ?_⟩
    rw [List.length_drop] at hj
    rw [Nat.add_assoc, h5 (k + j) (by omega), List.getD_eq_getElem?_getD, List.getD_eq_getElem?_getD, List.getElem?_drop]
/-- How many are drawn. -/
def drawK (n : Int) (m : Nat) : Nat := min n.toNat m
theorem Try.infoZ : (Try.prog.info? 3).map (fun i => (i.zero, i.size, i.bytes)) = some (some (.int .i64 0), 1, 8) := by kernel_rfl
set_option maxHeartbeats 1000000 in
theorem clone_at {off c k : Nat} {cur : Array Value} (h3 : w.heap[b]? = some (.cells cur 3 (0, 0))) (h5 : ∀ j, j < xs.length → cur[off + j]? = some (.int .i64 (xs.getD j 0))) (hk : k ≤ xs.length) (hx : k ≤ 17179869184) :
    Calls Try.prog 38 #[.slice (some ⟨b, off, none⟩) k c] w fun e w' => ∃ ad' c', e = .returned (.slice ad' k c') ∧ OwnK kZ w' w.heap.size (.slice ad' k c') (xs.take k) ∧ Below w.heap.size w w' := by
  obtain ⟨i0, hi, hz0, hz1, hz2⟩ := info_parts Try.infoZ
  have hl : (kZ.Vs (xs.take k)).length = k * 1 := by rw [kZ_ok.tofit.Vs_len, List.length_take, Nat.min_eq_left hk]
  have hsz : ∀ w, (Go.sizeOf 3).run Try.prog w = .ok 1 w := fun w => by simp [Go.sizeOf, typeInfo, hi, hz1]
  refine (show Calls Try.prog 38 #[.slice (some ⟨b, off, none⟩) k c] w _ from AnyE.slices_Clone Try.cloneZ i0 (.int .i64 0) 1 8 hi hz0 hz1 hz2 rfl (by decide) hsz b off k c (kZ.Vs (xs.take k)) w hl (by unfold maxLen; omega) (by omega) (fun j u hu => ?_) (kZ_ok.Vs_ones _)).mono ?_
  · rw [Vs_Z, List.getElem?_map, List.getElem?_take] at hu
    rw [cell_of_row _ _ _ _ _ _ h3]
    by_cases hj : j < k
    · rw [if_pos hj, List.getElem?_eq_getElem (by omega)] at hu
      rw [h5 j (by omega), List.getD_eq_getElem?_getD, List.getElem?_eq_getElem (by omega)]
      exact hu
    · rw [if_neg hj] at hu; simp at hu
  · rintro e w' ⟨v', rfl, h1, -, hb⟩
    have hO : OwnK kZ w' w.heap.size v' (xs.take k) := by unfold OwnK; rw [List.length_take, Nat.min_eq_left hk]; exact h1
    obtain ⟨ad', c', e, -⟩ := hO.form kZ_ok.tofit
    rw [List.length_take, Nat.min_eq_left hk] at e
    subst e
    exact ⟨ad', c', rfl, hO, hb⟩
set_option maxHeartbeats 1000000 in
theorem draw_any (h : DeckP w D b xs) (n : Int) (hx : xs.length ≤ 17179869184) :
    Calls Try.prog 21 #[.pointer (some ⟨D, 0, none⟩), .int .i64 n] w fun e w' => ∃ v, e = .returned v ∧ OwnK kZ w' w.heap.size v (xs.take (drawK n xs.length)) ∧ DeckP w' D b (xs.drop (drawK n xs.length)) ∧ Chg [D] w w' := by
  obtain ⟨v, hbk, hcd⟩ := h
  have hf := hbk.free 0
  have c0 := hbk.cell 0
  have hfin : ∀ (W : World) (v' : Value) (k : Nat), Below w.heap.size w W → CardsAt w b v' (xs.drop k) → DeckP (W.setCell ⟨D, 0, none⟩ v') D b (xs.drop k) ∧ Chg [D] w (W.setCell ⟨D, 0, none⟩ v') := fun W v' k hW hc => by
    refine ⟨⟨v', (hbk.later hW).set 0 v', ?_⟩, (Chg.of hW).set (Or.inl (by simp)) 0 v'⟩
    rcases hc with hc | ⟨off, c, cur, e, h1, h2, h3, h4⟩
    · exact Or.inl hc
    · exact Or.inr ⟨off, c, cur, e, h1, h2, (Below.heap_setCell _ _ _ _ (deck_ne hbk h3)).trans ((hW.block b (Array.getElem?_eq_some_iff.1 h3).1).trans h3), h4⟩
  have HFin := hid hfin
  obtain ⟨k, hkd⟩ : ∃ k, drawK n xs.length = k := ⟨_, rfl⟩
  have hkl : k ≤ xs.length := by rw [← hkd]; unfold drawK; omega
  have hki : min (max n 0) (xs.length : Int) = (k : Int) := by rw [← hkd]; unfold drawK; omega
  rw [hkd]
  rcases hcd with ⟨rfl, rfl⟩ | ⟨off, c, cur, rfl, h1, h2, h3, h4, h5⟩
  · obtain rfl : k = 0 := by simp at hkl; exact hkl
    simp only [List.getElem?_toArray, List.getElem?_cons_zero] at c0
    have hki0 : min (max n 0) (0 : Int) = 0 := by omega
    clear hki
    have HCl : Hid (Calls Try.prog 38 #[.slice none 0 0] w fun e w' => e = .returned (.slice none 0 0) ∧ w' = w) := AnyE.slices_Clone_nil Try.cloneZ 0 0 w
    clear hfin hbk
    go_enter Try.func21, Try.ntmps21
    go_wp2_with (go_at_call 38; (with_reducible_and_instances (refine HCl.out.mono ?_)); rintro e w2 ⟨rfl, hw2⟩; obtain rfl := hw2.symm)
    go_ret
    exact ⟨_, rfl, OwnK.nil _ _, HFin.out w _ 0 (Below.refl _ _) (Or.inl ⟨rfl, rfl⟩)⟩
  · have HCut := hid (CardsAt.drop (w := w) (b := b) h1 h2 h3 h4 h5 k hkl)
    have HCl := hid (clone_at (c := c) h3 h5 hkl (by omega))
    have hlc : k ≤ c := by omega
    have hcm : c ≤ 9223372036854775807 := by unfold maxLen at h2; omega
    have hDl : D < w.heap.size := hbk.lt
    have HBk := hid hbk
    simp only [List.getElem?_toArray, List.getElem?_cons_zero] at c0
    obtain ⟨m, hm⟩ : ∃ m, xs.length = m := ⟨_, rfl⟩
    rw [hm] at hki hkl h1 c0 HCut HBk
    have HM := hid hm
    clear hfin hbk h2 h3 h4 h5 hm hx
    by_cases hck : c = k
    · rw [if_pos hck] at HCut
      subst hck
      rw [Nat.sub_self, show m - c = 0 by omega] at HCut
      go_enter Try.func21, Try.ntmps21
      go_wp2_with (go_at_call 38; (with_reducible_and_instances (refine HCl.out.mono ?_)); rintro e w2 ⟨ad', c', rfl, hO, hb⟩; have HO := hid hO; have HB := hid hb; have c2 := (hb.cell (p := ⟨D, 0, none⟩) hDl).trans c0; have f2 := Blk.free (HBk.out.later hb) 0; clear hO hb)
      go_ret
      refine ⟨_, rfl, ?_, HFin.out w2 _ c HB.out HCut.out⟩
      exact HO.out.chg (F := [D]) ((Chg.refl _ _).set (Or.inl (by simp)) 0 _) (fun g hg hm => by have := (HO.out.block g hg).1; simp at hm; omega)
    · rw [if_neg hck] at HCut
      go_enter Try.func21, Try.ntmps21
      go_wp2_with (go_at_call 38; (with_reducible_and_instances (refine HCl.out.mono ?_)); rintro e w2 ⟨ad', c', rfl, hO, hb⟩; have HO := hid hO; have HB := hid hb; have c2 := (hb.cell (p := ⟨D, 0, none⟩) hDl).trans c0; have f2 := Blk.free (HBk.out.later hb) 0; clear hO hb)
      go_ret
      refine ⟨_, rfl, ?_, HFin.out w2 _ k HB.out HCut.out⟩
      exact HO.out.chg (F := [D]) ((Chg.refl _ _).set (Or.inl (by simp)) 0 _) (fun g hg hm => by have := (HO.out.block g hg).1; simp at hm; omega)
end Go.Proofs.Ytakpdhmfbgfblaa
