/- ChainGrows: the chain and the two lists in memory. -/
import Derived.Test.YtgkabdmeggaphabGrowsM
namespace Go.Proofs.Ytgkabdmeggaphab
open Go.RowKit

theorem owns_chg {w w' : World} {base E z n : Nat} {v : Value} {xs : List Value} {F : List Nat} (h : w.ownsRow base E z v n xs) (hb : Chg F w w') (hn : ∀ g ∈ v.ownBlock.toList, g ∉ F) : w'.ownsRow base E z v n xs := by
  refine ⟨h.1, ?_⟩
  rcases h.2 with h2 | ⟨g, cap, cur, hv, hgb, hg, r⟩
  · exact Or.inl h2
  · refine Or.inr ⟨g, cap, cur, hv, hgb, ?_, r⟩
    have hlt : g < w.heap.size := by
      rcases Nat.lt_or_ge g w.heap.size with hlt | hge
      · exact hlt
      · rw [Array.getElem?_eq_none hge] at hg; cases hg
    rw [hb.block g hlt (hn g (by rw [hv]; simp [Value.ownBlock]))]
    exact hg
theorem owns_lt {w : World} {base E z n : Nat} {v : Value} {xs : List Value} (h : w.ownsRow base E z v n xs) : ∀ g ∈ v.ownBlock.toList, g < w.heap.size := by
  intro g hg
  obtain ⟨cur, hc⟩ := owns_typed h g hg
  rcases Nat.lt_or_ge g w.heap.size with hlt | hge
  · exact hlt
  · rw [Array.getElem?_eq_none hge] at hc; cases hc
/-- 'append(v, y)', of numbers, and in which block the answer lies. -/
theorem run_app_int1 {w : World} {base n : Nat} {v : Value} {L : List Int} (hown : w.ownsRow base 3 1 v n (intsV L)) (hl : L.length = n) (ty : TypeId) (x : Nat) (y : Int) (hx : Blk w x #[.int .i64 y] 3) (hbytes : (n + 1) * 8 ≤ 140737488355328) (hbase : base ≤ w.heap.size) :
    ∃ v' w', (Builtin.append_ #[22, 22] ty #[v, .slice (some ⟨x, 0, none⟩) 1 1]).run Try.prog w = .ok v' w' ∧ w'.ownsRow base 3 1 v' (n + 1) (intsV (L ++ [y])) ∧ w.grownBy w' v.ownBlock ∧ ∀ g ∈ v'.ownBlock.toList, g ∈ v.ownBlock.toList ∨ w.heap.size ≤ g := by
  obtain ⟨i0, hi, hz0, hz1, hz2⟩ := info_parts Try.infoI
  have hcell : ∀ j u, ([Value.int .i64 y])[j]? = some u → w.cell? ((⟨x, 0, none⟩ : Addr).add j) = some u := by
    intro j u hu
    rw [addr_add, Nat.zero_add, hx.cell j, ← hu]
    simp
  have hone : ∀ u ∈ [Value.int .i64 y], u.oneCell' = true := fun u hu => by simp at hu; rw [hu]; rfl
  obtain ⟨v', w', hr, h2, h3, -⟩ := run_append_own (P := Try.prog) w base 22 ty 3 i0 _ 1 8 Try.underlying22 hi hz0 hz1 hz2 rfl (by decide) v n _ hown ⟨x, 0, none⟩ 1 1 [.int .i64 y] rfl hcell hone (by unfold maxLen; omega) hbytes hbase
  have hb : ∀ g ∈ v'.ownBlock.toList, g ∈ v.ownBlock.toList ∨ w.heap.size ≤ g := by
    rcases hown.2 with ⟨e, h0⟩ | ⟨g0, cap0, cur, e, hbg, hg, hnc, hcm, hcs, htake⟩
    · subst e h0
      obtain rfl : L = [] := List.eq_nil_of_length_eq_zero hl
      obtain ⟨v2, w2, hr2, h22, -, -⟩ := run_append_own (P := Try.prog) w w.heap.size 22 ty 3 i0 _ 1 8 Try.underlying22 hi hz0 hz1 hz2 rfl (by decide) (.slice none 0 0) 0 [] (World.ownsRow_nil _ _ _ _) ⟨x, 0, none⟩ 1 1 [.int .i64 y] rfl hcell hone (by unfold maxLen; omega) (by omega) (Nat.le_refl _)
      rw [hr] at hr2
      cases hr2
      intro g hg
      rcases h22.2 with ⟨rfl, -⟩ | ⟨g', cap, cur, rfl, hb, -⟩
      · cases hg
      · simp [Value.ownBlock] at hg; subst hg; exact Or.inr hb
    · subst e
      by_cases hroom : n + 1 ≤ cap0
      · have hq := run_append_room (P := Try.prog) w 22 ty 3 i0 Try.underlying22 hi g0 n cap0 cur hg ⟨x, 0, none⟩ 1 1 [.int .i64 y] (by rw [hz1]; rfl) hcell hone hroom (by rw [hz1, hcs]; simp; omega)
        rw [hr] at hq
        cases hq
        exact fun g hg => Or.inl hg
      · have holds : ∀ j u, (intsV L)[j]? = some u → w.cell? ((⟨g0, 0, none⟩ : Addr).add j) = some u := World.ownsRow.cells hown (g := g0) rfl
        have hq := run_append_grow (P := Try.prog) w 22 ty 3 i0 _ Try.underlying22 hi hz0 ⟨g0, 0, none⟩ n cap0 (intsV L) (by rw [hz1]; exact hown.1) holds ⟨x, 0, none⟩ 1 1 [.int .i64 y] (by rw [hz1]; rfl) hcell (by omega) (by omega) (growslice_fits (by omega) (by rw [hz2]; omega))
        rw [hr] at hq
        cases hq
        exact fun g hg => by simp [Value.ownBlock] at hg; subst hg; exact Or.inr (Nat.le_refl _)
  exact ⟨v', w', hr, by unfold intsV at *; rw [List.map_append]; exact h2, h3, hb⟩
theorem app_int1 {w : World} {ops : Array Oper} {rest : List Oper} {o : Oper} {a : Act} {Q : Exit → Act → World → Prop} (hgd : o.guard = none) (s x : Operand) (ho : o.op = .call { callee := .builtin .append, args := #[s, x], argTypes := #[22, 22] })
    (base n : Nat) (v : Value) (L : List Int) (hs : a.eval s = v) (hown : w.ownsRow base 3 1 v n (intsV L)) (hl : L.length = n) (g : Nat) (y : Int) (hx : a.eval x = .slice (some ⟨g, 0, none⟩) 1 1) (hb : Blk w g #[.int .i64 y] 3)
    (hbytes : (n + 1) * 8 ≤ 140737488355328) (hbase : base ≤ w.heap.size)
    (h : ∀ v' w', w'.ownsRow base 3 1 v' (n + 1) (intsV (L ++ [y])) → w.grownBy w' v.ownBlock → (∀ g ∈ v'.ownBlock.toList, g ∈ v.ownBlock.toList ∨ w.heap.size ≤ g) → wpList Try.prog ops Q rest (a.put o.dst v') w') : wpList Try.prog ops Q (o :: rest) a w := by
  obtain ⟨v', w', hrun, h1, h2, h3⟩ := run_app_int1 hown hl o.type g y hb hbytes hbase
  refine wpList_plain hgd fun K hK' => ?_
  unfold Oper.wp
  simp [execOp, ho, resolve, invoke, builtin, hs, hx, hrun, Result.andThen]
  exact hK' _ _ (h v' w' h1 h2 h3)
/-- The first k ends; the first k numbers. -/
def firstsN (xs : List Int) (k : Nat) : List Int := (List.range k).map (endsN xs)
def idsN (k : Nat) : List Int := (List.range k).map (fun i : Nat => (i : Int))
theorem firstsN_len (xs : List Int) (k : Nat) : (firstsN xs k).length = k := by simp [firstsN]
theorem idsN_len (k : Nat) : (idsN k).length = k := by simp [idsN]
theorem firstsN_succ (xs : List Int) (k : Nat) : firstsN xs k ++ [endsN xs k] = firstsN xs (k + 1) := by simp [firstsN, List.range_succ]
theorem idsN_succ (k : Nat) : idsN k ++ [(k : Int)] = idsN (k + 1) := by simp [idsN, List.range_succ]
theorem firstsN_get (xs : List Int) (k i : Nat) (h : i < k) : (firstsN xs k).getD i 0 = endsN xs i := by
  unfold firstsN
  rw [List.getD_eq_getElem?_getD, List.getElem?_map, List.getElem?_range h]; rfl
theorem idsN_get (k i : Nat) (h : i < k) : (idsN k).getD i 0 = (i : Int) := by
  unfold idsN
  rw [List.getD_eq_getElem?_getD, List.getElem?_map, List.getElem?_range h]; rfl
/-- ChainGrows in its midst. -/
structure GW (w : World) (xs : List Int) (k : Nat) (ow : Int) (adc : Option Addr) (mc cc : Nat) (v5 v6 : Value) (W : World) : Prop where
  below : Below w.heap.size w W
  box : Blk W w.heap.size #[.int .i64 ow, .int .i64 0, .slice adc mc cc] 25
  own : 0 ≤ ow ∧ ow ≤ 15
  chain : ∃ A, CArg W (growsN xs k) A adc mc cc ∧ CBlk (fun b => w.heap.size < b ∧ b ∉ v5.ownBlock.toList ∧ b ∉ v6.ownBlock.toList) A adc mc
  f5 : W.ownsRow (w.heap.size + 1) 3 1 v5 k (intsV (firstsN xs k))
  f6 : W.ownsRow (w.heap.size + 1) 3 1 v6 k (intsV (idsN k))
  ne : ∀ g ∈ v5.ownBlock.toList, g ∉ v6.ownBlock.toList
variable {w W w2 w6 w8 : World} {xs : List Int} {k : Nat} {ow0 ow : Int} {adc ad' : Option Addr} {mc cc m' c' : Nat} {v5 v6 v5' v6' : Value}
theorem GW.start (w : World) (xs : List Int) : GW w xs 0 0 none 0 0 (.slice none 0 0) (.slice none 0 0) (w.alloc (.cells #[.int .i64 0, .int .i64 0, .slice none 0 0] 25)) :=
  ⟨(Below.refl _ _).alloc (Nat.le_refl _) _, heap_alloc_new w _, by omega, ⟨fun _ => ⟨none, 0, 0⟩, CArg.none _ _, ⟨fun h => absurd rfl h, fun _ hi => absurd hi (Nat.not_lt_zero _)⟩⟩, World.ownsRow_nil _ _ _ _, World.ownsRow_nil _ _ _ _, fun g hg => by simp [Value.ownBlock] at hg⟩
/-- Behind the Extend, and the store of its chain. -/
structure GX (w : World) (xs : List Int) (k : Nat) (ow : Int) (adc : Option Addr) (mc cc : Nat) (v5 v6 : Value) (W : World) : Prop where
  below : Below w.heap.size w W
  box : Blk W w.heap.size #[.int .i64 ow, .int .i64 0, .slice adc mc cc] 25
  own : 0 ≤ ow ∧ ow ≤ 15
  chain : ∃ A, CArg W (growsN xs (k + 1)) A adc mc cc ∧ CBlk (fun b => w.heap.size < b ∧ b ∉ v5.ownBlock.toList ∧ b ∉ v6.ownBlock.toList) A adc mc
  f5 : W.ownsRow (w.heap.size + 1) 3 1 v5 k (intsV (firstsN xs k))
  f6 : W.ownsRow (w.heap.size + 1) 3 1 v6 k (intsV (idsN k))
  ne : ∀ g ∈ v5.ownBlock.toList, g ∉ v6.ownBlock.toList
theorem GW.ext (h : GW w xs k ow0 adc mc cc v5 v6 W) (how : 0 ≤ ow ∧ ow ≤ 15) (o : Obj) (h2 : Below (W.alloc o).heap.size (W.alloc o) w2) (hans : CAns w2 (W.alloc o).heap.size (growsN xs (k + 1)) ad' m' c') : GX w xs k ow ad' m' c' v5 v6 ((((w2.alloc (.cells #[.int .i64 ow, .int .i64 0, .slice ad' m' c'] 25)).setCell ⟨w.heap.size, 0, none⟩ (.int .i64 ow)).setCell ⟨w.heap.size, 1, none⟩ (.int .i64 0)).setCell ⟨w.heap.size, 2, none⟩ (.slice ad' m' c')) := by
  have b1 : Below W.heap.size W w2 := ((Below.refl _ W).alloc (Nat.le_refl _) o).trans (h2.mono (by simp))
  have bx := (Below.refl _ w2).alloc (Nat.le_refl _) (.cells #[.int .i64 ow, .int .i64 0, .slice ad' m' c'] 25)
  have b2 : Below W.heap.size W (w2.alloc (.cells #[.int .i64 ow, .int .i64 0, .slice ad' m' c'] 25)) := b1.trans (bx.mono b1.size)
  have hcg : Chg [w.heap.size] (w2.alloc (.cells #[.int .i64 ow, .int .i64 0, .slice ad' m' c'] 25)) ((((w2.alloc (.cells #[.int .i64 ow, .int .i64 0, .slice ad' m' c'] 25)).setCell ⟨w.heap.size, 0, none⟩ (.int .i64 ow)).setCell ⟨w.heap.size, 1, none⟩ (.int .i64 0)).setCell ⟨w.heap.size, 2, none⟩ (.slice ad' m' c')) := (((Chg.refl _ _).set (Or.inl (by simp)) _ _).set (Or.inl (by simp)) _ _).set (Or.inl (by simp)) _ _
  have hbase5 := owns_base h.f5
  have hbase6 := owns_base h.f6
  have hwl := h.box.lt
  have hlt5 := owns_lt h.f5
  have hlt6 := owns_lt h.f6
  have hbb : Below w.heap.size w (w2.alloc (.cells #[.int .i64 ow, .int .i64 0, .slice ad' m' c'] 25)) := h.below.trans (b2.mono h.below.size)
  have n5 : ∀ g ∈ v5.ownBlock.toList, g ∉ [w.heap.size] := fun g hg hm => by
    simp at hm hg
    have := hbase5 g hg; omega
  have n6 : ∀ g ∈ v6.ownBlock.toList, g ∉ [w.heap.size] := fun g hg hm => by
    simp at hm hg
    have := hbase6 g hg; omega
  obtain ⟨A, hA, hB⟩ := hans.arg
  have hsz : (W.alloc o).heap.size = W.heap.size + 1 := by simp
  refine ⟨hbb.trans (hcg.below (fun g hg => by simp at hg; omega) hbb.size), (((h.box.later b2).set 0 _).set 1 _).set 2 _, how, ⟨A, (hA.later bx).chg hcg (hB.mono (fun b hb hm => by simp at hm; rw [hsz] at hb; omega)), hB.mono (fun b hb => ⟨by rw [hsz] at hb; omega, fun hm => by have := hlt5 b hm; rw [hsz] at hb; omega, fun hm => by have := hlt6 b hm; rw [hsz] at hb; omega⟩)⟩, owns_chg (own_kept h.f5 b2) hcg n5, owns_chg (own_kept h.f6 b2) hcg n6, h.ne⟩
theorem GX.apps (h : GX w xs k ow adc mc cc v5 v6 W) (o5 o6 : Obj) (r5 : w6.ownsRow (w.heap.size + 1) 3 1 v5' (k + 1) (intsV (firstsN xs k ++ [endsN xs k]))) (g5 : (W.alloc o5).grownBy w6 v5.ownBlock) (e5 : ∀ g ∈ v5'.ownBlock.toList, g ∈ v5.ownBlock.toList ∨ (W.alloc o5).heap.size ≤ g)
    (r6 : w8.ownsRow (w.heap.size + 1) 3 1 v6' (k + 1) (intsV (idsN k ++ [(k : Int)]))) (g6 : (w6.alloc o6).grownBy w8 v6.ownBlock) (e6 : ∀ g ∈ v6'.ownBlock.toList, g ∈ v6.ownBlock.toList ∨ (w6.alloc o6).heap.size ≤ g) : GW w xs (k + 1) ow adc mc cc v5' v6' w8 := by
  have c1 : Chg [] W (W.alloc o5) := Chg.of ((Below.refl _ _).alloc (Nat.le_refl _) _)
  have c2 := grown_chg g5
  have c3 : Chg [] w6 (w6.alloc o6) := Chg.of ((Below.refl _ _).alloc (Nat.le_refl _) _)
  have c4 := grown_chg g6
  have hs1 := c1.size
  have hs2 := c2.size
  have hs3 := c3.size
  have hlt5 := owns_lt h.f5
  have hlt6 := owns_lt h.f6
  have hbase5 := owns_base h.f5
  have hbase6 := owns_base h.f6
  have hwl := h.box.lt
  have b5 : w.heap.size ∉ v5.ownBlock.toList := fun hm => by simp at hm; have := hbase5 _ hm; omega
  have b6 : w.heap.size ∉ v6.ownBlock.toList := fun hm => by simp at hm; have := hbase6 _ hm; omega
  have hlt5' : ∀ g ∈ v5'.ownBlock.toList, g < w6.heap.size := owns_lt r5
  obtain ⟨A, hA, hB⟩ := h.chain
  have hAlt := hA.lt
  have hsz5 : (W.alloc o5).heap.size = W.heap.size + 1 := by simp
  have hsz6 : (w6.alloc o6).heap.size = w6.heap.size + 1 := by simp
  have hA8 : CArg w8 (growsN xs (k + 1)) A adc mc cc := (((hA.chg c1 ⟨fun _ _ _ _ => by simp, fun _ _ _ _ _ _ => by simp⟩).chg c2 (hB.mono (fun b hb => hb.2.1))).chg c3 ⟨fun _ _ _ _ => by simp, fun _ _ _ _ _ _ => by simp⟩).chg c4 (hB.mono (fun b hb => hb.2.2))
  have hbel : Below w.heap.size w w8 := by
    have d1 := h.below.trans (c1.below (N := w.heap.size) (fun g hg => by cases hg) h.below.size)
    have d2 := d1.trans (c2.below (N := w.heap.size) (fun g hg => by simp at hg; have := hbase5 g hg; omega) d1.size)
    have d3 := d2.trans (c3.below (N := w.heap.size) (fun g hg => by cases hg) d2.size)
    exact d3.trans (c4.below (N := w.heap.size) (fun g hg => by simp at hg; have := hbase6 g hg; omega) d3.size)
  have key : ∀ b, (w.heap.size < b ∧ b ∉ v5.ownBlock.toList ∧ b ∉ v6.ownBlock.toList) → b < W.heap.size → (w.heap.size < b ∧ b ∉ v5'.ownBlock.toList ∧ b ∉ v6'.ownBlock.toList) := fun b hb hl => ⟨hb.1, fun hm => by
      rcases e5 b hm with h1 | h1
      · exact hb.2.1 h1
      · omega, fun hm => by
      rcases e6 b hm with h1 | h1
      · exact hb.2.2 h1
      · omega⟩
  refine ⟨hbel, (((h.box.chg c1 (by simp)).chg c2 b5).chg c3 (by simp)).chg c4 b6, h.own, ⟨A, hA8, ⟨fun h0 b off e => key b (hB.row h0 b off e) (hAlt.row h0 b off e), fun i hi h0 b off e => key b (hB.ints i hi h0 b off e) (hAlt.ints i hi h0 b off e)⟩⟩, ?_, ?_, fun g hg hm => ?_⟩
  · rw [firstsN_succ] at r5
    refine owns_chg (owns_chg r5 c3 (fun g hg => by simp)) c4 (fun g hg hm => ?_)
    rcases e5 g hg with h1 | h1
    · exact h.ne g h1 hm
    · have := hlt6 g hm; omega
  · rw [idsN_succ] at r6; exact r6
  · rcases e6 g hm with h1 | h1
    · rcases e5 g hg with h2 | h2
      · exact h.ne g h2 h1
      · have := hlt6 g h1; omega
    · have := hlt5' g hg; omega
theorem GX.own5 (h : GX w xs k ow adc mc cc v5 v6 W) (o : Obj) : (W.alloc o).ownsRow (w.heap.size + 1) 3 1 v5 k (intsV (firstsN xs k)) := own_kept h.f5 ((Below.refl _ _).alloc (Nat.le_refl _) o)
theorem GX.own6 (h : GX w xs k ow adc mc cc v5 v6 W) (o5 o6 : Obj) (g5 : (W.alloc o5).grownBy w6 v5.ownBlock) : (w6.alloc o6).ownsRow (w.heap.size + 1) 3 1 v6 k (intsV (idsN k)) := by
  have h1 := own_kept h.f6 ((Below.refl _ W).alloc (Nat.le_refl _) o5)
  have h2 := owns_chg h1 (grown_chg g5) (fun g hg hm => h.ne g hm hg)
  exact own_kept h2 ((Below.refl _ w6).alloc (Nat.le_refl _) o6)
end Go.Proofs.Ytgkabdmeggaphab
