/- Load of package producer (by genpload.py). -/
import Derived.Test.YtobaeiicacpbnaaPMay
import Derived.Test.YtobaeiicacpbnaaPState
import Derived.Test.YtobaeiicacpbnaaPKnows
namespace Go.Proofs.Ytobaeiicacpbnaa
open Go.RowKit Go.Shelf
variable {w w' W W' : World} {t M n : Nat} {T : Tb}

/-- Which entries make a table, the producers from least on. -/
def loadOk : List En → Int → Bool
  | [], _ => true
  | x :: l, least => decide (least ≤ x.p) && rightE x && loadOk l (x.p + 1)
/-- The table of some entries. -/
def loadT (l : List En) : Tb := l.foldl (fun T x => T.set x.p (stF x.e x.n x.l)) tb0
theorem loadT_snoc (l : List En) (x : En) : loadT (l ++ [x]) = (loadT l).set x.p (stF x.e x.n x.l) := by unfold loadT; rw [List.foldl_append]; rfl
def leastN (l : List En) : Int := match l.getLast? with
  | some x => x.p + 1
  | none => 0
theorem leastN_snoc (l : List En) (x : En) : leastN (l ++ [x]) = x.p + 1 := by simp [leastN]
theorem ensV_at : ∀ (L : List (En × Value)) (k : Nat) (x : En × Value), L[k]? = some x → ∀ i, i < 4 → (ensV L)[k * 4 + i]? = (enL x.1 x.2)[i]?
  | [], k, x, h, i, hi => by simp at h
  | y :: L, 0, x, h, i, hi => by
    simp at h; subst h
    rw [ensV, List.flatMap_cons, List.getElem?_append_left (by show 0 * 4 + i < 4; omega)]
    simp
  | y :: L, k + 1, x, h, i, hi => by
    have ih := ensV_at L k x (by simpa using h) i hi
    rw [ensV, List.flatMap_cons, List.getElem?_append_right (by show 4 ≤ (k + 1) * 4 + i; omega)]
    rw [← ih]
    unfold ensV
    congr 1
    show (k + 1) * 4 + i - 4 = _
    omega
theorem OwnE.at {base : Nat} {a : Option Addr} {m c : Nat} {L : List (En × Value)} (h : OwnE W base (.slice a m c) L) {k : Nat} {x : En} {sl : Value} (hx : L[k]? = some (x, sl)) : ∃ g a3 c3, a = some ⟨g, 0, none⟩ ∧ g < W.heap.size ∧ sl = .slice a3 x.l.length c3 ∧ x.l.length ≤ maxLen ∧ DRow W a3 x.l.length x.l ∧ W.cell? ⟨g, k * 4, none⟩ = some (.int .i64 x.p) ∧ W.cell? ⟨g, k * 4 + 1, none⟩ = some (.int .i64 x.e) ∧ W.cell? ⟨g, k * 4 + 2, none⟩ = some (.int .i64 x.n) ∧ W.cell? ⟨g, k * 4 + 3, none⟩ = some sl := by
  have hd := h.each _ (List.mem_of_getElem? hx)
  obtain ⟨a3, c3, hs⟩ := hd.slice
  simp only at hs
  rcases h.row.2 with ⟨-, h0⟩ | ⟨g, cap, cur, hv, hgb, hgc, -⟩
  · have := (List.getElem?_eq_some_iff.1 hx).1; omega
  · cases hv
    have key : ∀ i, i < 4 → W.cell? ⟨g, k * 4 + i, none⟩ = (enL x sl)[i]? := fun i hi => by
      have hn := ensV_at L k _ hx i hi
      obtain ⟨u, hu⟩ : ∃ u, (enL x sl)[i]? = some u := ⟨_, List.getElem?_eq_getElem (by show i < 4; exact hi)⟩
      simp only at hn
      rw [hu] at hn
      have hc := World.ownsRow.cells h.row (g := g) rfl (k * 4 + i) u hn
      rw [addr_add, Nat.zero_add] at hc
      rw [hc, hu]
    have hml : x.l.length ≤ maxLen := by
      rcases hd.2 with ⟨-, h0⟩ | ⟨g', cap', cur', -, -, -, h1, h2, -⟩
      · simp only at h0; rw [h0]; exact Nat.zero_le _
      · exact Nat.le_trans h1 h2
    refine ⟨g, a3, c3, rfl, (Array.getElem?_eq_some_iff.1 hgc).1, hs, hml, ?_, key 0 (by omega), key 1 (by omega), key 2 (by omega), key 3 (by omega)⟩
    simp only [hs] at hd
    exact hd.drow rfl
theorem rightE_parts {x : En} (h : rightE x = true) : 0 ≤ x.p ∧ x.p < 281474976710656 ∧ x.l.length ≤ 5 := by
  simp only [rightE, Bool.and_eq_true, decide_eq_true_eq] at h
  exact ⟨h.1.1.1.1.1.1.1, h.1.1.1.1.1.1.2, h.1.2⟩
theorem loadOk_drop : ∀ (l : List En) (k : Nat) (least : Int) (x : En), l[k]? = some x → loadOk (l.drop k) least = (decide (least ≤ x.p) && rightE x && loadOk (l.drop (k + 1)) (x.p + 1)) := fun l k least x hx => by
  obtain ⟨hk, e⟩ := List.getElem?_eq_some_iff.1 hx
  rw [List.drop_eq_getElem_cons hk, e]
  rfl
/-- What Load answers. -/
def LoadPost (w : World) (m : Nat) (ls : List En) (x : Ending) (w' : World) : Prop := if loadOk ls 0 = true then ∃ t M, x = .returned (.tuple #[.pointer (some ⟨t, 0, none⟩), .int .i64 0]) ∧ TPic w' t M m (loadT ls) ∧ w.heap.size ≤ t ∧ w.heap.size ≤ M ∧ Below w.heap.size w w' else x = .returned (.tuple #[.pointer none, .int .i64 1]) ∧ Below w.heap.size w w'
theorem LoadPost.yes {m : Nat} {ls : List En} (hl : loadOk ls 0 = true) (h : TPic w' (w.heap.size + 1) w.heap.size m (loadT ls)) (hb : Below w.heap.size w w') : LoadPost w m ls (.returned (.tuple #[.pointer (some ⟨w.heap.size + 1, 0, none⟩), .int .i64 0])) w' := by
  unfold LoadPost
  rw [if_pos hl]
  exact ⟨_, _, rfl, h, by omega, Nat.le_refl _, hb⟩
theorem LoadPost.no {m : Nat} {ls : List En} (hl : loadOk ls 0 = false) (hb : Below w.heap.size w w') : LoadPost w m ls (.returned (.tuple #[.pointer none, .int .i64 1])) w' := by
  unfold LoadPost
  rw [if_neg (by rw [hl]; simp)]
  exact ⟨rfl, hb⟩
set_option maxRecDepth 20000 in
set_option maxHeartbeats 2000000 in
theorem Load_any {base : Nat} {a : Option Addr} {m c : Nat} {L : List (En × Value)} (h : OwnE w base (.slice a m c) L) (hL : L.length = m) (hmx : m ≤ 1000000000000000) :
    Calls Try.prog 13 #[.slice a m c] w (LoadPost w m (L.map (·.1))) := by
  have HE := hid h
  have HL := hid hL
  obtain ⟨ls, hls⟩ : ∃ ls, L.map (·.1) = ls := ⟨_, rfl⟩
  have HX : Hid (∀ k, k < m → ∃ x sl, L[k]? = some (x, sl) ∧ ls[k]? = some x) := fun k hk => by
    obtain ⟨y, hy⟩ : ∃ y, L[k]? = some y := ⟨_, List.getElem?_eq_getElem (by omega)⟩
    exact ⟨y.1, y.2, hy, by rw [← hls, List.getElem?_map, hy]; rfl⟩
  have HLs : Hid (ls.length = m) := by rw [← hls, List.length_map]; exact hL
  rw [hls]
  clear h hL hls
  go_enter Try.func13, Try.ntmps13
  go_wp2_with (go_at_call 9; refine (New_any _).mono ?_; rintro x w1 ⟨rfl, hp1, hb1⟩; have HP1 := hid hp1; have HB1 := hid hb1; clear hp1 hb1)
  go_loopw [5, 11] (fun o i wr => ∃ k : Nat, k ≤ m ∧ i = .int .i64 (k : Int) ∧ (∃ le : Int, o = .int .i64 le ∧ loadOk ls 0 = loadOk (ls.drop k) le ∧ 0 ≤ le ∧ le ≤ 281474976710656) ∧ Hid (TPic wr (w.heap.size + 1) w.heap.size k (loadT (ls.take k))) ∧ Hid (Below w.heap.size w wr)) (fun _ i _ => m - (intOf i).toNat)
  case atStart => exact ⟨0, by omega, rfl, ⟨0, rfl, rfl, by omega, by omega⟩, HP1, HB1⟩
  case round =>
    obtain ⟨k, hk, rfl, ⟨le, rfl, hlo, hle0, hle1⟩, HP, HB⟩ := hrel
    clear HP1 HB1
    by_cases hkl : k < m
    · obtain ⟨y, sl, hy, hyl⟩ := HX.out k hkl
      have HDr := hid (loadOk_drop ls k le y hyl)
      have HTk : Hid (ls.take (k + 1) = ls.take k ++ [y]) := by
        have h := HLs.out
        obtain ⟨hk2, e2⟩ := List.getElem?_eq_some_iff.1 hyl
        rw [List.take_succ_eq_append_getElem hk2, e2]; exact rfl
      obtain ⟨g, a3, c3, rfl, hgl, rfl, hml, hdr, r0, r1, r2, r3⟩ := HE.out.at hy
      replace r0 := (HB.out.cell (p := ⟨g, k * 4, none⟩) hgl).trans r0
      replace r1 := (HB.out.cell (p := ⟨g, k * 4 + 1, none⟩) hgl).trans r1
      replace r2 := (HB.out.cell (p := ⟨g, k * 4 + 2, none⟩) hgl).trans r2
      replace r3 := (HB.out.cell (p := ⟨g, k * 4 + 3, none⟩) hgl).trans r3
      obtain ⟨p, e, n, l⟩ := y
      simp only at r0 r1 r2 r3 hdr hml
      obtain ⟨q, hq⟩ : ∃ q, l.length = q := ⟨_, rfl⟩
      rw [hq] at r3 hdr hml
      have hml2 : q ≤ 9223372036854775807 := by unfold maxLen at hml; omega
      have HLo := hid hlo
      clear hlo hy hyl
      obtain ⟨W3, hW3⟩ : ∃ W3, wr.alloc (.cells #[.int .i64 p, .int .i64 e, .int .i64 n, .slice a3 q c3] TEn) = W3 := ⟨_, rfl⟩
      have b3 : Below wr.heap.size wr W3 := by rw [← hW3]; exact (Below.refl _ _).alloc (Nat.le_refl _) _
      have HBx3 : Hid (Blk W3 wr.heap.size #[.int .i64 p, .int .i64 e, .int .i64 n, .slice a3 q c3] TEn) := by rw [← hW3]; exact heap_alloc_new wr _
      have c0 : W3.cell? ⟨wr.heap.size, 0, none⟩ = some (.int .i64 p) := HBx3.out.cell 0
      have c1 : W3.cell? ⟨wr.heap.size, 1, none⟩ = some (.int .i64 e) := HBx3.out.cell 1
      have c2 : W3.cell? ⟨wr.heap.size, 2, none⟩ = some (.int .i64 n) := HBx3.out.cell 2
      have c3' : W3.cell? ⟨wr.heap.size, 3, none⟩ = some (.slice a3 q c3) := HBx3.out.cell 3
      have HB3 := hid (HB.out.trans (b3.mono HB.out.size))
      have HP3 := hid (HP.out.later b3)
      have HDr3 := hid (hdr.later HB3.out)
      have hlt3 := HBx3.out.lt
      clear b3 hdr
      by_cases hpl : p < le
      · have hd : decide (p < le) = true := by simpa using hpl
        have HF : Hid (loadOk ls 0 = false) := (HLo.out.trans HDr.out).trans (by simp; intro h; omega)
        clear hpl HLo HDr HTk
        go_wp2_with fail
        exact bodyPost_ret (results_tmp2 Try.results13 _ _ _) rfl (LoadPost.no HF.out HB3.out)
      have hd : decide (p < le) = false := by simpa using hpl
      have HMb := hid (mayBe_any (c := c3) HDr3.out hml2 p e n)
      cases hr : rightE ⟨p, e, n, l⟩ with
      | false =>
        rw [hr] at HMb
        have HF : Hid (loadOk ls 0 = false) := (HLo.out.trans HDr.out).trans (by simp [hr])
        clear hpl HLo HDr HTk hr
        go_wp2_with (go_at_call 25; (with_reducible_and_instances (refine HMb.out.mono ?_)); rintro x w4 ⟨rfl, hb4⟩; have HB4 := hid (HB3.out.trans (hb4.mono HB3.out.size)); clear hb4)
        exact bodyPost_ret (results_tmp2 Try.results13 _ _ _) rfl (LoadPost.no HF.out HB4.out)
      | true =>
      rw [hr] at HMb
      obtain ⟨hr1, hr2, hr3⟩ := rightE_parts hr
      simp only at hr1 hr2 hr3
      have HF : Hid (loadOk ls 0 = loadOk (ls.drop (k + 1)) (p + 1)) := (HLo.out.trans HDr.out).trans (by simp [hr]; omega)
      have hp1 : -9223372036854775808 ≤ p := by omega
      have hp2 : p ≤ 9223372036854775807 := by omega
      have hkm : k < maxLen := by unfold maxLen; omega
      have hMne : wr.heap.size ≠ w.heap.size := by have := HP.out.lt.2; omega
      rw [hq] at hr3
      clear hpl HLo HDr hr
      go_wp2_with (go_at_call 25; (with_reducible_and_instances (refine HMb.out.mono ?_)); rintro x w4 ⟨rfl, hb4⟩; have HB4 := hid (HB3.out.trans (hb4.mono HB3.out.size)); have HP4 := hid (HP3.out.later hb4); have HDr4 := hid (HDr3.out.later hb4); have HBx4 := hid (HBx3.out.later hb4); have hlt4 := HBx4.out.lt; clear hb4)
      have HBx : Hid (∀ W, Below w4.heap.size w4 W → Blk W wr.heap.size #[.int .i64 p, .int .i64 e, .int .i64 n, .slice a3 q c3] TEn) := fun W hW => HBx4.out.later hW
      have HS7 : Hid (∀ W, Below w4.heap.size w4 W → (W.cell? ⟨w.heap.size + 1, 0, none⟩ = some (.map (some w.heap.size))) ∧ W.cell? ⟨wr.heap.size, 0, none⟩ = some (.int .i64 p) ∧ W.cell? ⟨wr.heap.size, 1, none⟩ = some (.int .i64 e) ∧ W.cell? ⟨wr.heap.size, 2, none⟩ = some (.int .i64 n) ∧ W.cell? ⟨wr.heap.size, 3, none⟩ = some (.slice a3 q c3)) := fun W hW => ⟨(HP4.out.later hW).made, (HBx.out W hW).cell 0, (HBx.out W hW).cell 1, (HBx.out W hW).cell 2, (HBx.out W hW).cell 3⟩
      have HSt := hid (stateOf_any (c := c3) (HDr4.out.later (Below.refl _ _).drew) hr3 p e n)
      clear hW3 c0 c1 c2 c3' r0 r1 r2 r3 HMb HBx3 HDr3
      refine wp_region_held_drew (S := fun W => (W.cell? ⟨w.heap.size + 1, 0, none⟩ = some (.map (some w.heap.size))) ∧ W.cell? ⟨wr.heap.size, 0, none⟩ = some (.int .i64 p) ∧ W.cell? ⟨wr.heap.size, 1, none⟩ = some (.int .i64 e) ∧ W.cell? ⟨wr.heap.size, 2, none⟩ = some (.int .i64 n) ∧ W.cell? ⟨wr.heap.size, 3, none⟩ = some (.slice a3 q c3)) (by kernel_rfl) (HS7.out _ (Below.refl _ _).drew) (fun hHeld => ?_)
      refine wpAnyH_take (i := 0) (oi := { dst := some 24, op := Op.move (Operand.tmp 4), type := 23, pos := "producer.go:47", after := #[], guard := none }) (v := ?_) rfl (by kernel_rfl) (by kernel_rfl) (by kernel_rfl) (fun _ _ _ h => h) (Or.inl ⟨by rfl, ?_⟩) hHeld ?_
      rotate_left
      · intro w hSw; (try dsimp only at hSw); go_simp; try with_reducible rfl
      try simp only [Act.put, List.setIfInBounds_toArray, List.set_cons_zero, List.set_cons_succ]
      refine wpAnyH_take (i := 1) (oi := { dst := some 25, op := Op.nilCheck (Operand.tmp 24), type := 0, pos := "producer.go:47", after := #[{ on := 0, ground := Ground.data }], guard := none }) (v := ?_) rfl (by kernel_rfl) (by kernel_rfl) (by kernel_rfl) (fun _ _ _ h => h) (Or.inl ⟨by rfl, ?_⟩) hHeld ?_
      rotate_left
      · intro w hSw; (try dsimp only at hSw); go_simp; try with_reducible rfl
      try simp only [Act.put, List.setIfInBounds_toArray, List.set_cons_zero, List.set_cons_succ]
      refine wpAnyH_take (i := 2) (oi := { dst := some 26, op := Op.fieldAddr 52 (Operand.tmp 25) 0, type := 0, pos := "producer.go:47", after := #[{ on := 1, ground := Ground.data }], guard := none }) (v := ?_) rfl (by kernel_rfl) (by kernel_rfl) (by kernel_rfl) (fun _ _ _ h => h) (Or.inl ⟨by rfl, ?_⟩) hHeld ?_
      rotate_left
      · intro w hSw; (try dsimp only at hSw); go_simp; try with_reducible rfl
      try simp only [Act.put, List.setIfInBounds_toArray, List.set_cons_zero, List.set_cons_succ]
      refine wpAnyH_take (i := 3) (oi := { dst := some 27, op := Op.load 50 (Operand.tmp 26), type := 50, pos := "producer.go:47", after := #[{ on := 2, ground := Ground.data }], guard := none }) (v := ?_) rfl (by kernel_rfl) (by kernel_rfl) (by kernel_rfl) (fun _ _ _ h => h) (Or.inl ⟨by rfl, ?_⟩) hHeld ?_
      rotate_left
      · intro w hSw; (try dsimp only at hSw); go_simp; try with_reducible rfl
      try simp only [Act.put, List.setIfInBounds_toArray, List.set_cons_zero, List.set_cons_succ]
      refine wpAnyH_take (i := 4) (oi := { dst := some 28, op := Op.fieldAddr 65 (Operand.tmp 7) 0, type := 0, pos := "producer.go:47", after := #[], guard := none }) (v := ?_) rfl (by kernel_rfl) (by kernel_rfl) (by kernel_rfl) (fun _ _ _ h => h) (Or.inl ⟨by rfl, ?_⟩) hHeld ?_
      rotate_left
      · intro w hSw; (try dsimp only at hSw); go_simp; try with_reducible rfl
      try simp only [Act.put, List.setIfInBounds_toArray, List.set_cons_zero, List.set_cons_succ]
      refine wpAnyH_take (i := 5) (oi := { dst := some 29, op := Op.load 3 (Operand.tmp 28), type := 3, pos := "producer.go:47", after := #[{ on := 4, ground := Ground.data }], guard := none }) (v := ?_) rfl (by kernel_rfl) (by kernel_rfl) (by kernel_rfl) (fun _ _ _ h => h) (Or.inl ⟨by rfl, ?_⟩) hHeld ?_
      rotate_left
      · intro w hSw; (try dsimp only at hSw); go_simp; try with_reducible rfl
      try simp only [Act.put, List.setIfInBounds_toArray, List.set_cons_zero, List.set_cons_succ]
      refine wpAnyH_take (i := 6) (oi := { dst := some 30, op := Op.load 65 (Operand.tmp 7), type := 65, pos := "producer.go:47", after := #[], guard := none }) (v := ?_) rfl (by kernel_rfl) (by kernel_rfl) (by kernel_rfl) (fun _ _ _ h => h) (Or.inl ⟨by rfl, ?_⟩) hHeld ?_
      rotate_left
      · intro w hSw; (try dsimp only at hSw); go_simp; try with_reducible rfl
      try simp only [Act.put, List.setIfInBounds_toArray, List.set_cons_zero, List.set_cons_succ]
      refine wpAnyH_ready (rs := [7]) (by kernel_rfl) (by simp) ?_
      refine AllReadyH.cons rfl (fun K hK => ?_) (AllReadyH.nil)
      go_simp
      go_wp2_with (go_at_call 26; (with_reducible_and_instances (refine HSt.out.mono ?_)); rintro x w7 ⟨rfl, hb7⟩; obtain ⟨W8, hup, hp8, hc8⟩ := (HP4.out.later ((Below.refl _ w4).drew.trans hb7)).store hkm hp1 hp2 (stF_ok e n l); have HB7 := hid ((Below.refl _ w4).drew.trans hb7); have HP8 := hid hp8; have HC8 := hid hc8; clear hb7 hp8 hc8)
      refine hK.out _ _ (HS7.out _ HB7.out) (fun hHeld => ?_)
      clear hK K
      try simp only [Act.put, List.setIfInBounds_toArray, List.set_cons_zero, List.set_cons_succ]
      refine wpAnyH_ready (rs := [8]) (by kernel_rfl) (by simp) ?_
      refine AllReadyH.cons rfl (fun K hK => ?_) (AllReadyH.nil)
      go_simp
      refine hK.out _ _ (⟨HP8.out.made, (HC8.out.cell (HBx.out _ HB7.out).lt (by simp; exact hMne)).trans ((HBx.out _ HB7.out).cell 0), (HC8.out.cell (HBx.out _ HB7.out).lt (by simp; exact hMne)).trans ((HBx.out _ HB7.out).cell 1), (HC8.out.cell (HBx.out _ HB7.out).lt (by simp; exact hMne)).trans ((HBx.out _ HB7.out).cell 2), (HC8.out.cell (HBx.out _ HB7.out).lt (by simp; exact hMne)).trans ((HBx.out _ HB7.out).cell 3)⟩) (fun hHeld => ?_)
      clear hK K
      try simp only [Act.put, List.setIfInBounds_toArray]
      refine wpAnyH_done (by kernel_rfl) ?_ _
      clear hHeld HS7 hup
      have HB8 := hid ((HB4.out.trans (HB7.out.mono HB4.out.size)).trans (HC8.out.below (N := w.heap.size) (fun g hg => by simp at hg; omega) (Nat.le_trans HB4.out.size HB7.out.size)))
      have k0 : W8.cell? ⟨wr.heap.size, 0, none⟩ = some (.int .i64 p) := (HC8.out.cell (HBx.out _ HB7.out).lt (by simp; exact hMne)).trans ((HBx.out _ HB7.out).cell 0)
      have HP9 : Hid (TPic W8 (w.heap.size + 1) w.heap.size (k + 1) (loadT (ls.take (k + 1)))) := by rw [HTk.out, loadT_snoc]; exact HP8.out
      clear HP8
      go_wp2_with fail
      exact ⟨⟨k + 1, by omega, by go_num, ⟨p + 1, rfl, HF.out, by omega, by omega⟩, HP9, HB8⟩, by simp [intOf]; omega⟩
    · obtain rfl : k = m := by omega
      have HT : Hid (loadOk ls 0 = true) := hlo.trans (by rw [List.drop_of_length_le (by rw [HLs.out]; exact Nat.le_refl _)]; rfl)
      have HP2 : Hid (TPic wr (w.heap.size + 1) w.heap.size k (loadT ls)) := by have h := HP.out; rw [List.take_of_length_le (by rw [HLs.out]; exact Nat.le_refl _)] at h; exact h
      clear hlo
      go_wp2_with fail
      exact bodyPost_ret (results_tmp2 Try.results13 _ _ _) rfl (LoadPost.yes HT.out HP2.out HB.out)
end Go.Proofs.Ytobaeiicacpbnaa
