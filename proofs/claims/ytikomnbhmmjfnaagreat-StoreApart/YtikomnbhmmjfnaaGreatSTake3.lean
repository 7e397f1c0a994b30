/- take of package store: what is given up. -/
import Derived.Test.YtikomnbhmmjfnaaGreatSTake2
import Derived.Test.YtikomnbhmmjfnaaGreatSGive
namespace Go.Proofs.YtikomnbhmmjfnaaGreat
open Go.RowKit
variable {w w' : World} {FD G : List Nat} {S D X Y : Nat} {fx fy : Lit → Option Value} {A : Nat → Nat → Value} {s : SSt}

set_option maxRecDepth 100000 in
set_option maxHeartbeats 400000 in
theorem take3_pic (h : SPic w FD G S D X Y fx fy A s) (l p : Nat) (hl : l < 281474976710656) (hp : p ≤ 4096) (hfin : s.fin + 1 ≤ s.d.bs.length) :
    Calls Tryz.prog 79 #[.pointer (some ⟨S, 0, none⟩), .agg #[.int .i64 3, .int .i64 (l : Int), .int .i64 (p : Int), .slice none 0 0]] w fun x w' => x = .returned (.tuple #[]) ∧ ∃ fx' fy' A', SPic w' FD G S D X Y fx' fy' A' (s.takeE ⟨3, l, p, []⟩) ∧ Chg [S, X, Y] w w' := by
  have hS := h.ltS
  obtain ⟨-, -, -, c3, c4, -⟩ := h.cells
  have f3 := h.free 3
  have f4 := h.free 4
  obtain ⟨N, hN1⟩ : ∃ N : Nat, 1 = N := ⟨_, rfl⟩
  have hN : partsN (13 + 0) = N := by rw [← hN1]; rfl
  rw [hN1] at hfin
  have hpp : N ≤ 4096 := by have := h.disk.n2; omega
  have hnm := h.num_le
  have hfn := h.fin_le
  have hwr : IntKind.i64.wrap ((s.fin : Int) + (N : Int)) = (s.fin : Int) + (N : Int) := by rw [IntKind.wrap_i64]; omega
  have hbe := fun W => blocks_eq 3 (l : Int) (p : Int) none 0 0 W (by omega)
  rw [hN] at hbe
  have hca : Chg [S] w ((w.setCell ⟨S, 3, none⟩ (.int .i64 ((s.num : Int) + 1))).setCell ⟨S, 4, none⟩ (.int .i64 ((s.fin : Int) + (N : Int)))) := ((Chg.refl [S] w).set (Or.inl (by simp)) _ _).set (Or.inl (by simp)) _ _
  have ha : SPic ((w.setCell ⟨S, 3, none⟩ (.int .i64 ((s.num : Int) + 1))).setCell ⟨S, 4, none⟩ (.int .i64 ((s.fin : Int) + (N : Int)))) FD G S D X Y fx fy A { s with num := s.num + 1, fin := s.fin + N } := by
    refine h.setS hca (heap_setCell_same _ S 4 _ TS _ (heap_setCell_same w S 3 _ TS _ h.hS)) ?_ rfl ⟨h.ok.slots, h.ok.logs, ?_, hfin⟩ (Nat.le_succ _)
    · simp [storeV, Int.natCast_add]
    · have := h.ok.num; have h2 : 1 ≤ N := by rw [← hN]; unfold partsN; omega
      show s.num + 1 ≤ s.fin + N
      omega
  obtain ⟨Wg, hWg⟩ : ∃ Wg, ((((w.setCell ⟨S, 3, none⟩ (.int .i64 ((s.num : Int) + 1))).setCell ⟨S, 4, none⟩ (.int .i64 ((s.fin : Int) + (N : Int)))).alloc (.cells #[.int .i64 3, .int .i64 (l : Int), .int .i64 (p : Int), .slice none 0 0] 103)).alloc (.cells #[.int .i64 3, .int .i64 (l : Int), .int .i64 (p : Int), .slice none 0 0] 103)).drew = Wg := ⟨_, rfl⟩
  obtain ⟨W6, hW6⟩ : ∃ W6, (Wg.alloc (.cells #[.nilFunc, .func (.func 126) #[] #[], .func (.func 127) #[] #[], .func (.func 128) #[] #[]] 150)).drew = W6 := ⟨_, rfl⟩
  have bg : Below ((w.setCell ⟨S, 3, none⟩ (.int .i64 ((s.num : Int) + 1))).setCell ⟨S, 4, none⟩ (.int .i64 ((s.fin : Int) + (N : Int)))).heap.size ((w.setCell ⟨S, 3, none⟩ (.int .i64 ((s.num : Int) + 1))).setCell ⟨S, 4, none⟩ (.int .i64 ((s.fin : Int) + (N : Int)))) Wg := by
    rw [← hWg]
    exact (((Below.refl _ _).alloc (Nat.le_refl _) _).alloc (by simp) _).drew
  have bw : Below ((w.setCell ⟨S, 3, none⟩ (.int .i64 ((s.num : Int) + 1))).setCell ⟨S, 4, none⟩ (.int .i64 ((s.fin : Int) + (N : Int)))).heap.size ((w.setCell ⟨S, 3, none⟩ (.int .i64 ((s.num : Int) + 1))).setCell ⟨S, 4, none⟩ (.int .i64 ((s.fin : Int) + (N : Int)))) W6 := by
    rw [← hW6]
    exact (bg.alloc bg.size _).drew
  have hkg : Wg.heap[w.heap.size]? = some (.cells #[.int .i64 3, .int .i64 (l : Int), .int .i64 (p : Int), .slice none 0 0] 103 (0, 0)) := by
    rw [← hWg]
    have := heap_alloc2_old ((w.setCell ⟨S, 3, none⟩ (.int .i64 ((s.num : Int) + 1))).setCell ⟨S, 4, none⟩ (.int .i64 ((s.fin : Int) + (N : Int)))) (.cells #[.int .i64 3, .int .i64 (l : Int), .int .i64 (p : Int), .slice none 0 0] 103) (.cells #[.int .i64 3, .int .i64 (l : Int), .int .i64 (p : Int), .slice none 0 0] 103)
    simp only [World.setCell, Array.size_modify] at this
    exact this
  have g0 : Wg.cell? ⟨w.heap.size, 0, none⟩ = some (.int .i64 3) := cell_of_row _ _ _ _ _ _ hkg
  have g1 : Wg.cell? ⟨w.heap.size, 1, none⟩ = some (.int .i64 (l : Int)) := cell_of_row _ _ _ _ _ _ hkg
  have g2 : Wg.cell? ⟨w.heap.size, 2, none⟩ = some (.int .i64 (p : Int)) := cell_of_row _ _ _ _ _ _ hkg
  have g3 : Wg.cell? ⟨w.heap.size, 3, none⟩ = some (.slice none 0 0) := cell_of_row _ _ _ _ _ _ hkg
  have hgs : w.heap.size < Wg.heap.size := (Array.getElem?_eq_some_iff.1 hkg).1
  have h6 := ha.below bw
  have hcw : Chg [S] w W6 := hca.trans (Chg.of (F := [S]) bw) (fun k hk => Or.inl hk)
  have hY6 : MapF W6 3 Y s.num fy := h.hY.keep (hcw.block Y (h.lt Y h.mY) (by simpa using h.neS.2.symm))
  have hX6 : MapF W6 TSl X s.num fx := h.hX.keep (hcw.block X (h.lt X h.mX) (by simpa using h.neS.1.symm))
  have hfi := giveUp_pic h6 s.num (Nat.le_refl _) hX6 hY6 l p hl hp none 0 0
  have hfi2 : Calls Tryz.prog 128 #[.pointer (some ⟨S, 0, none⟩), .agg #[.int .i64 (l : Int), .int .i64 (p : Int)], .slice none 0 0] W6 fun e w' => e = .returned (.tuple #[]) ∧ (w'.cell? ⟨w.heap.size, 0, none⟩ = some (.int .i64 3) ∧ w'.cell? ⟨w.heap.size, 1, none⟩ = some (.int .i64 (l : Int)) ∧ w'.cell? ⟨w.heap.size, 2, none⟩ = some (.int .i64 (p : Int)) ∧ w'.cell? ⟨w.heap.size, 3, none⟩ = some (.slice none 0 0)) ∧ Hid (∃ fx' fy' A', SPic w' FD G S D X Y fx' fy' A' (s.takeE ⟨3, l, p, []⟩) ∧ Chg [S, X, Y] w w') := by
    refine hfi.mono ?_
    rintro e w' ⟨rfl, fx', fy', hp', hc'⟩
    have hk7 : ∀ i, w'.cell? ⟨w.heap.size, i, none⟩ = Wg.cell? ⟨w.heap.size, i, none⟩ := fun i => by
      rw [hc'.cell (by rw [← hW6]; show w.heap.size < (Wg.alloc _).heap.size; simp; omega) (by have h8 := h.lt Y h.mY; have h9 := h.lt X h.mX; simp; omega), ← hW6]
      exact (Below.refl Wg.heap.size Wg |>.alloc (Nat.le_refl _) _ |>.drew).cell (p := ⟨w.heap.size, i, none⟩) hgs
    refine ⟨rfl, ⟨(hk7 0).trans g0, (hk7 1).trans g1, (hk7 2).trans g2, (hk7 3).trans g3⟩, fx', fy', A, ?_, (hcw.mono (G := [S, X, Y]) (fun k hk => by simp at hk; simp [hk])).trans hc' (fun k hk => Or.inl (by simp at hk ⊢; omega))⟩
    have e1 : ({ s with num := s.num + 1, fin := s.fin + N } : SSt).giveUp l p = s.takeE ⟨3, l, p, []⟩ := by
      have e2 : (⟨3, l, p, []⟩ : Ent).parts = N := hN
      unfold SSt.takeE SSt.doE SSt.giveUp
      rw [e2]
      rfl
    rw [← e1]
    exact hp'
  rw [← hW6] at hfi2
  have HFi := hide hfi2
  have hix := fun a b c d W => (doers_at a b c d W).2.2
  clear h hca ha bw h6 hcw hY6 hX6 hfi hfi2 hfin hW6 W6 bg hkg hN1
  go_enter Tryz.func79, Tryz.ntmps79
  go_wp2
  apply once
  case main =>
    intro hm
    go_region_with (go_at_call 86; refine (hbe _).mono ?_; rintro x w' ⟨rfl, hw'⟩; obtain rfl := hw'.symm)
    all_goals exact hm
  clear hbe c3 c4 f3 f4
  clear hWg
  go_wp2
  go_region_held3 (fun W => W.cell? ⟨w.heap.size, 0, none⟩ = some (.int .i64 3) ∧ W.cell? ⟨w.heap.size, 1, none⟩ = some (.int .i64 (l : Int)) ∧ W.cell? ⟨w.heap.size, 2, none⟩ = some (.int .i64 (p : Int)) ∧ W.cell? ⟨w.heap.size, 3, none⟩ = some (.slice none 0 0)) (go_keep)
    (first
    | (go_at_call 104; refine (doers_eq _).mono ?_; rintro x w' ⟨rfl, hw'⟩; obtain rfl := hw'.symm)
    | (go_at_call 128; (with_reducible_and_instances (refine HFi.out.mono ?_)); rintro x w7 ⟨rfl, ⟨q0, q1, q2, q3⟩, hX⟩))
  all_goals go_wp2
  all_goals exact bodyPost_end (results_none rfl _ _ _) rfl ⟨rfl, hX.out⟩
end Go.Proofs.YtikomnbhmmjfnaaGreat
