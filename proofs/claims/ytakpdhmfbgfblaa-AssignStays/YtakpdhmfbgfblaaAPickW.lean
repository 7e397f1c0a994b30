/- pick of a deck, walked. -/
import Derived.Test.YtakpdhmfbgfblaaAPick
namespace Go.Proofs.Ytakpdhmfbgfblaa
open Go.RowKit Go.Sort
variable {w w' : World} {D b : Nat} {v : Value} {xs : List Int} {ad : Option Addr} {m c : Nat}

theorem pickS_len (s : List Int × List Int) (z : Int) : (pickS s z).1.length + (pickS s z).2.length = s.1.length + s.2.length := by
  unfold pickS
  by_cases h : s.1.contains z = true
  · rw [if_pos h]
    have hm : z ∈ s.1 := by simpa using h
    have := List.length_erase_of_mem hm
    have := List.length_pos_of_mem hm
    simp
    omega
  · rw [if_neg h]
theorem foldl_len (ws : List Int) (s : List Int × List Int) : (ws.foldl pickS s).1.length + (ws.foldl pickS s).2.length = s.1.length + s.2.length := by
  induction ws generalizing s with
  | nil => rfl
  | cons z ws ih => rw [List.foldl_cons, ih, pickS_len]
theorem pickN_len (xs ws : List Int) : (pickN xs ws).1.length + (pickN xs ws).2.length = xs.length := by
  have := foldl_len ws (xs, [])
  simpa [pickN] using this
theorem pickN_rise (xs ws : List Int) (h : xs.Pairwise (· < ·)) : (pickN xs ws).1.Pairwise (· < ·) := by
  unfold pickN
  suffices ∀ (s : List Int × List Int), s.1.Pairwise (· < ·) → (ws.foldl pickS s).1.Pairwise (· < ·) from this (xs, []) h
  induction ws with
  | nil => exact fun s h => h
  | cons z ws ih => exact fun s h => ih _ (pickS_rise h)
theorem RowK.chg {α : Type} {K : Kd α} {l : List α} {F : List Nat} (h : RowK K w ad l) (hc : Chg F w w') (hn : l ≠ [] → ∀ b off, ad = some ⟨b, off, none⟩ → b ∉ F) : RowK K w' ad l := h.keep hc.size (fun b off e hlt h0 => hc.block b hlt (hn h0 b off e))
theorem ArgK.chg {α : Type} {K : Kd α} {l : List α} {F : List Nat} (h : ArgK K w l ad m c) (hc : Chg F w w') (hn : l ≠ [] → ∀ b off, ad = some ⟨b, off, none⟩ → b ∉ F) : ArgK K w' l ad m c := ⟨h.len, h.nil, h.cap, h.room, h.row.chg hc hn⟩
/-- One card less in the deck: what Delete, the store and the append leave. -/
theorem pick_step {wr w1 w2 w5 : World} {av : Option Addr} {cv n : Nat} {vd v5 : Value} {xs' pk : List Int} {z : Int} {o : Obj} (hbl : b < w.heap.size) (hDl : D < w.heap.size)
    (hC : Chg [D, b] w wr) (hb1 : Below wr.heap.size wr w1) (hbD : Blk w1 D #[v] TDk) (hc2 : Chg [b] w1 w2) (hcd : CardsAt w2 b vd xs') (hne : b ≠ D) (hO : OwnK kZ wr w.heap.size (.slice av n cv) pk) :
    (w2.cell? ⟨D, 0, none⟩ = some v ∧ w2.frozen? ⟨D, 0, none⟩ = false) ∧ OwnK kZ ((w2.setCell ⟨D, 0, none⟩ vd).alloc o) w.heap.size (.slice av n cv) pk ∧ w.heap.size ≤ ((w2.setCell ⟨D, 0, none⟩ vd).alloc o).heap.size ∧
    (OwnK kZ w5 w.heap.size v5 (pk ++ [z]) → ((w2.setCell ⟨D, 0, none⟩ vd).alloc o).grownBy w5 (Value.slice av n cv).ownBlock → DeckP w5 D b xs' ∧ Chg [D, b] w w5 ∧ ∃ a5 c5, v5 = .slice a5 (pk.length + 1) c5) := by
  have hbD2 : Blk w2 D #[v] TDk := hbD.chg hc2 (by simp; exact fun e => hne e.symm)
  have hc1 : Chg [D, b] w w1 := hC.trans (Chg.of (F := []) hb1) (by simp)
  have hc12 : Chg [D, b] w w2 := hc1.trans hc2 (by simp)
  have hw3 : Chg [D, b] w (w2.setCell ⟨D, 0, none⟩ vd) := hc12.set (Or.inl (by simp)) 0 vd
  have hs1 := hC.size
  have hs2 := hc12.size
  have hO1 : OwnK kZ w1 w.heap.size (.slice av n cv) pk := hO.later hb1
  have hO2 : OwnK kZ w2 w.heap.size (.slice av n cv) pk := hO1.chg hc2 (fun g hg hm => by have := (hO1.block g hg).1; simp at hm; omega)
  have hO3 : OwnK kZ (w2.setCell ⟨D, 0, none⟩ vd) w.heap.size (.slice av n cv) pk := hO2.chg (F := [D]) ((Chg.refl _ _).set (Or.inl (by simp)) 0 vd) (fun g hg hm => by have := (hO2.block g hg).1; simp at hm; omega)
  have hb4 := (Below.refl _ (w2.setCell ⟨D, 0, none⟩ vd)).alloc (Nat.le_refl _) o
  refine ⟨⟨hbD2.cell 0, hbD2.free 0⟩, hO3.later hb4, by have := hb4.size; simp [World.setCell] at this ⊢; omega, fun h5 hg => ?_⟩
  have hD3 : DeckP (w2.setCell ⟨D, 0, none⟩ vd) D b xs' := ⟨vd, hbD2.set 0 vd, hcd.keep (fun _ => Below.heap_setCell _ _ _ _ hne)⟩
  have hc4 : Chg [D, b] w ((w2.setCell ⟨D, 0, none⟩ vd).alloc o) := hw3.trans (Chg.of (F := []) hb4) (by simp)
  obtain ⟨g5, hg5⟩ : ∃ F : List Nat, (∀ k ∈ F, w.heap.size ≤ k) ∧ Chg F ((w2.setCell ⟨D, 0, none⟩ vd).alloc o) w5 := by
    cases ho : (Value.slice av n cv).ownBlock with
    | none => exact ⟨[], by simp, grown_chg (v := .slice av n cv) (by rw [ho] at hg ⊢; exact hg) _ (fun g hg => by rw [ho] at hg; cases hg)⟩
    | some g => exact ⟨[g], fun k hk => by simp at hk; subst hk; exact (hO.block k ho).1, grown_chg (v := .slice av n cv) (by rw [ho] at hg ⊢; exact hg) _ (fun g hg => by rw [ho] at hg; cases hg; simp)⟩
  refine ⟨(hD3.later hb4).chg hg5.2 (fun hm => by have := hg5.1 _ hm; omega) (fun hm => by have := hg5.1 _ hm; omega), hc4.trans hg5.2 (fun k hk => Or.inr (hg5.1 k hk)), ?_⟩
  obtain ⟨a5, c5, e, -⟩ := h5.form kZ_ok.tofit
  exact ⟨a5, c5, by rw [e]; simp⟩
set_option maxHeartbeats 2000000 in
theorem pick_any (h : DeckP w D b xs) (hbl : b < w.heap.size) (hs : xs.Pairwise (· < ·)) (hx : xs.length ≤ 1048576) {ws : List Int} (ha : ArgK kZ w ws ad m c) (hn : ws ≠ [] → ∀ b' off, ad = some ⟨b', off, none⟩ → b' ≠ D ∧ b' ≠ b) :
    Calls Try.prog 18 #[.pointer (some ⟨D, 0, none⟩), .slice ad m c] w fun e w' => ∃ v, e = .returned v ∧ OwnK kZ w' w.heap.size v (risZ (pickN xs ws).2) ∧ DeckP w' D b (pickN xs ws).1 ∧ Chg [D, b] w w' := by
  have H := hid ha
  have HN := hid hn
  have HS := hid hs
  have HX := hid hx
  have HDk := hid h
  have hDl : D < w.heap.size := by obtain ⟨v, hb, _⟩ := h; exact hb.lt
  have hm : m ≤ 9223372036854775807 := by have := ha.cap; have := ha.room; unfold maxLen at this; omega
  clear h hs hx ha hn
  go_enter Try.func18, Try.ntmps18
  go_wp2_with fail
  go_loopw [5, 12] (fun v i wr => ∃ (k n : Nat) (av : Option Addr) (cv : Nat), k ≤ m ∧ i = .int .i64 (k : Int) ∧ v = .slice av n cv ∧ Hid ((pickN xs (ws.take k)).2.length = n) ∧ Hid (OwnK kZ wr w.heap.size (.slice av n cv) (pickN xs (ws.take k)).2) ∧ Hid (DeckP wr D b (pickN xs (ws.take k)).1) ∧ Hid (Chg [D, b] w wr)) (fun _ i _ => m - (intOf i).toNat)
  case atStart => exact ⟨0, 0, none, 0, by omega, rfl, rfl, (by rw [List.take_zero]; exact rfl), (by rw [List.take_zero]; exact OwnK.nil (K := kZ) w _), (by rw [List.take_zero]; exact HDk.out), Chg.refl _ _⟩
  case round =>
    obtain ⟨k, n, av, cv, hk, rfl, rfl, HLn, HO, HD, HC⟩ := hrel
    clear HDk
    by_cases hlt : k < m
    · have hws : ws ≠ [] := fun e => by have := H.out.len; rw [e] at this; simp at this; omega
      have H2 := H.out.chg HC.out (fun _ b' off e hm => by have := HN.out hws b' off e; simp at hm; omega)
      obtain ⟨bw, offw, rfl, hsw, hcw⟩ := H2.cells (by omega)
      have r0 : wr.cell? ⟨bw, offw + k, none⟩ = some (.int .i64 (ws.getD k 0)) := by have := hcw k hlt 0 (by decide); rw [Nat.mul_one, Nat.add_zero] at this; exact this
      have HTk := hid (take_snoc_any ws 0 k (by rw [H.out.len]; exact hlt))
      have HPr := hid (pickN_rise xs (ws.take k) HS.out)
      have HPl := hid (pickN_len xs (ws.take k))
      have HSn : Hid (pickN xs (ws.take (k + 1)) = pickS (pickN xs (ws.take k)) (ws.getD k 0)) := by rw [HTk.out]; exact pickN_snoc _ _ _
      generalize ws.getD k 0 = z at *
      obtain ⟨⟨xs', pk⟩, hp⟩ : ∃ p, pickN xs (ws.take k) = p := ⟨_, rfl⟩
      rw [hp] at HLn HO HD HPr HPl HSn
      dsimp only at HLn HO HD HPr HPl
      clear hcw hsw H2 hws HTk hp
      have hsz : w.heap.size ≤ wr.heap.size := HC.out.size
      obtain ⟨vd, hbd, hcd⟩ := HD.out
      have HSr := hid (search_any hcd HPr.out (by have := HPl.out; have := HX.out; omega) z)
      cases hz : xs'.contains z with
      | false =>
        have HSn2 : Hid (pickN xs (ws.take (k + 1)) = (xs', pk)) := by rw [HSn.out]; unfold pickS; rw [hz]; exact rfl
        rw [hz] at HSr
        have c0 := hbd.cell 0
        simp only [List.getElem?_toArray, List.getElem?_cons_zero] at c0
        obtain ⟨da, dm, dc, rfl, -, -, -, -⟩ := hcd.cut
        clear hz hbd hcd
        generalize (cntP z xs' : Int) = q at *
        go_wp2_with (go_at_call 35; (with_reducible_and_instances (refine HSr.out.mono ?_)); rintro e w1 ⟨rfl, hb⟩; have HB1 := hid hb; clear hb)
        refine ⟨⟨k + 1, n, av, cv, by omega, by go_num, rfl, (by rw [HSn2.out]; exact HLn), (by rw [HSn2.out]; exact HO.out.later HB1.out), (by rw [HSn2.out]; exact HD.out.later HB1.out), HC.out.trans (Chg.of (F := []) HB1.out) (by simp)⟩, by simp [intOf]; omega⟩
      | true =>
        have hzm : z ∈ xs' := by simpa using hz
        obtain ⟨hq1, hq2⟩ := erase_cnt HPr.out hzm
        have HSn2 : Hid (pickN xs (ws.take (k + 1)) = (xs'.erase z, pk ++ [z])) := by rw [HSn.out]; unfold pickS; rw [hz]; exact rfl
        rw [hz] at HSr
        rcases hcd with ⟨-, h0⟩ | ⟨off, dc, cur, rfl, h1, h2, h3, h4, h5⟩
        · rw [h0] at hzm; cases hzm
        · have hne := deck_ne hbd h3
          have c0 := hbd.cell 0
          simp only [List.getElem?_toArray, List.getElem?_cons_zero] at c0
          have hDw := hbd.lt
          have HBd := hid hbd
          have HDel : Hid (∀ w1, Below wr.heap.size wr w1 → Calls Try.prog 36 #[.slice (some ⟨b, off, none⟩) xs'.length dc, .int .i64 ((cntP z xs' : Nat) : Int), .int .i64 (((cntP z xs' : Nat) : Int) + 1)] w1 fun e w' => e = .returned (.slice (some ⟨b, off, none⟩) (xs'.length - 1) dc) ∧ CardsAt w' b (.slice (some ⟨b, off, none⟩) (xs'.length - 1) dc) (xs'.erase z) ∧ Chg [b] w1 w') := fun w1 hb1 => by
            have := delete_at (w := w1) h1 h2 ((hb1.block b (Array.getElem?_eq_some_iff.1 h3).1).trans h3) h4 h5 hq1
            rw [hq2] at this
            exact this
          have hqb : cntP z xs' ≤ 1048576 := by have := HPl.out; have := HX.out; omega
          have hpb : n + 1 ≤ 1048577 := by have := HPl.out; have := HX.out; have := HLn.out; omega
          clear hz hzm hq2 h1 h2 h3 h4 h5 hq1 hbd
          generalize cntP z xs' = q at *
          generalize xs'.length = mx at *
          go_wp2_with (first
            | (go_at_call 35; (with_reducible_and_instances (refine HSr.out.mono ?_)); rintro e w1 ⟨rfl, hb1⟩; have HB1 := hid hb1; have HDl := hid (HDel.out w1 hb1); have c1 := (hb1.cell (p := ⟨D, 0, none⟩) hDw).trans c0; have HBd1 := hid (HBd.out.later hb1); clear hb1)
            | (go_at_call 36; (with_reducible_and_instances (refine HDl.out.mono ?_)); rintro e w2 ⟨rfl, hcd2, hc2⟩; have HSt := hid (fun w5 v5 o => pick_step (w5 := w5) (v5 := v5) (o := o) (z := z) hbl hDl HC.out HB1.out HBd1.out hc2 hcd2 hne HO.out); obtain ⟨c2, f2⟩ := (HSt.out w2 (.slice none 0 0) (.cells #[] 0)).1; have hHO2 := (HSt.out w2 (.slice none 0 0) (.cells #[.int .i64 z] 3)).2.1; have hSz2 := (HSt.out w2 (.slice none 0 0) (.cells #[.int .i64 z] 3)).2.2.1; have HO2 := hid hHO2; have HSz := hid hSz2; have hrw := z_row (w2.setCell ⟨D, 0, none⟩ (.slice (some ⟨b, off, none⟩) (mx - 1) dc)) z; rw [show (w2.setCell ⟨D, 0, none⟩ (.slice (some ⟨b, off, none⟩) (mx - 1) dc)).heap.size = w2.heap.size from (by simp [World.setCell])] at hrw; have HRw := hid hrw; clear hrw; clear hHO2 hSz2 hcd2 hc2)
            | (at_builtin; refine app_kd kZ_ok rfl _ _ rfl w.heap.size (.slice av n cv) pk rfl HO2.out (some ⟨w2.heap.size, 0, none⟩) 1 1 [z] rfl rfl (fun e => by cases e) HRw.out (by rw [HLn.out]; unfold maxLen; omega) (by rw [HLn.out]; show (n + 1) * 8 ≤ _; omega) HSz.out ?_; intro v5 w5 hO5 hg5; obtain ⟨d1, d2, a5, c5, hv5⟩ := (HSt.out w5 v5 (.cells #[.int .i64 z] 3)).2.2.2 hO5 hg5; rw [HLn.out] at hv5; subst hv5; have HD5 := hid d1; have HC5 := hid d2; have HO5 := hid hO5; clear hO5 hg5 d1 d2))
          refine ⟨⟨k + 1, n + 1, a5, c5, by omega, by go_num, rfl, (by rw [HSn2.out, List.length_append, HLn.out]; exact rfl), (by rw [HSn2.out]; exact HO5.out), (by rw [HSn2.out]; exact HD5.out), HC5⟩, by simp [intOf]; omega⟩
    · obtain rfl : k = m := by omega
      have HFin : Hid (ws.take k = ws) := List.take_of_length_le (by rw [H.out.len]; exact Nat.le_refl _)
      rw [HFin.out] at HLn HO HD
      have HSo := hid (sortZ_own HO.out (by have := pickN_len xs ws; have := HX.out; have := HLn.out; omega))
      have HBk := hid HO.out.block
      go_wp2_with (go_at_call 37; (with_reducible_and_instances (refine HSo.out.mono ?_)); rintro e w1 ⟨rfl, hO1, hg1⟩; have HO1 := hid hO1; have HG1 := hid hg1; clear hO1 hg1)
      go_ret
      have hg : ∃ F : List Nat, (∀ k ∈ F, w.heap.size ≤ k) ∧ Chg F wr w1 := by
        cases ho : (Value.slice av n cv).ownBlock with
        | none => exact ⟨[], by simp, grown_chg (v := .slice av n cv) HG1.out _ (fun g hg => by rw [ho] at hg; cases hg)⟩
        | some g => exact ⟨[g], fun k hk => by simp at hk; subst hk; exact (HBk.out k ho).1, grown_chg (v := .slice av n cv) HG1.out _ (fun g hg => by rw [ho] at hg; cases hg; simp)⟩
      obtain ⟨F, hF, hcF⟩ := hg
      exact ⟨_, rfl, HO1.out, HD.out.chg hcF (fun hm => by have := hF _ hm; omega) (fun hm => by have := hF _ hm; omega), HC.out.trans hcF (fun k hk => Or.inr (hF k hk))⟩
end Go.Proofs.Ytakpdhmfbgfblaa
