/- take of package store: an entry is done. -/
import Derived.Test.YtikomnbhmmjfnaaGreatSGive
import Derived.Test.YtikomnbhmmjfnaaGreatSSmall
import Derived.Laws.EntriesVeiled
namespace Go.Proofs.YtikomnbhmmjfnaaGreat
open Go.RowKit
variable {w w' : World} {FD G : List Nat} {S D X Y : Nat} {fx fy : Lit → Option Value} {A : Nat → Nat → Value} {s : SSt}

set_option maxRecDepth 100000 in
theorem blocks_eq (a b c : Int) (ad : Option Addr) (len cap : Nat) (w : World) (hn : len ≤ 100000000) : Calls Tryz.prog 86 #[.agg #[.int .i64 a, .int .i64 b, .int .i64 c, .slice ad len cap]] w fun x w' => x = .returned (.int .i64 (partsN (13 + len) : Nat)) ∧ w' = w.alloc (.cells #[.int .i64 a, .int .i64 b, .int .i64 c, .slice ad len cap] 103) := by
  have hc := fun W => count_any (13 + len) W (by omega)
  have e1 : ((13 + len : Nat) : Int) = 13 + (len : Int) := by omega
  simp only [e1] at hc
  go_enter Tryz.func86, Tryz.ntmps86
  go_wp2_with (go_at_call 109; refine (hc _).mono ?_; rintro x w' ⟨rfl, hw'⟩; obtain rfl := hw'.symm)
  go_ret
  exact ⟨rfl, rfl⟩
set_option maxRecDepth 100000 in
theorem doers_eq (w : World) : Calls Tryz.prog 104 #[] w fun x w' => x = .returned (.agg #[.nilFunc, .func (.func 126) #[] #[], .func (.func 127) #[] #[], .func (.func 128) #[] #[]]) ∧ w' = w.alloc (.cells #[.nilFunc, .func (.func 126) #[] #[], .func (.func 127) #[] #[], .func (.func 128) #[] #[]] 150) := by
  go_enter Tryz.func104, Tryz.ntmps104
  go_wp2
  refine bodyPost_ret (v := .agg #[.nilFunc, .func (.func 126) #[] #[], .func (.func 127) #[] #[], .func (.func 128) #[] #[]]) (by simp [results, Tryz.results104, go_sem]) rfl ⟨rfl, rfl⟩
theorem doers_at (a b c d : Value) (W : World) : (Instr.index 150 (.agg #[a, b, c, d]) (.int .i64 1)).run Tryz.prog W = .ok b W ∧ (Instr.index 150 (.agg #[a, b, c, d]) (.int .i64 2)).run Tryz.prog W = .ok c W ∧ (Instr.index 150 (.agg #[a, b, c, d]) (.int .i64 3)).run Tryz.prog W = .ok d W := by
  refine ⟨?_, ?_, ?_⟩ <;> simp [Instr.index, go_sem]
set_option maxRecDepth 100000 in
set_option maxHeartbeats 400000 in
theorem take1_pic (h : SPic w FD G S D X Y fx fy A s) (l p : Nat) (data : List Nat) (hl : l < 281474976710656) (hp : p < 4096) (ad : Option Addr) (len cap : Nat) (hda : Part.ok w ⟨ad, len, cap, data⟩) (hlen : data.length ≤ 65536) (hb : ∀ g ∈ dB ad, g < w.heap.size ∧ g ∉ FD) (hfin : s.fin + partsN (13 + len) ≤ s.d.bs.length) :
    Calls Tryz.prog 79 #[.pointer (some ⟨S, 0, none⟩), .agg #[.int .i64 1, .int .i64 (l : Int), .int .i64 (p : Int), .slice ad len cap]] w fun x w' => x = .returned (.tuple #[]) ∧ ∃ fx' fy' A', SPic w' FD (dB ad ++ G) S D X Y fx' fy' A' (s.takeE ⟨1, l, p, data⟩) ∧ Chg [S, X, Y] w w' := by
  have hS := h.ltS
  obtain ⟨-, -, -, c3, c4, -⟩ := h.cells
  have f3 := h.free 3
  have f4 := h.free 4
  have hdl : data.length = len := hda.1
  have hln2 : len ≤ 65536 := by omega
  obtain ⟨N, hN⟩ : ∃ N, partsN (13 + len) = N := ⟨_, rfl⟩
  rw [hN] at hfin
  have hpp : N ≤ 4096 := by have := h.disk.n2; omega
  have hnm := h.num_le
  have hfn := h.fin_le
  have hwr : IntKind.i64.wrap ((s.fin : Int) + (N : Int)) = (s.fin : Int) + (N : Int) := by rw [IntKind.wrap_i64]; omega
  have hbe := fun W => blocks_eq 1 (l : Int) (p : Int) ad len cap W (by omega)
  rw [hN] at hbe
  have hca : Chg [S] w ((w.setCell ⟨S, 3, none⟩ (.int .i64 ((s.num : Int) + 1))).setCell ⟨S, 4, none⟩ (.int .i64 ((s.fin : Int) + (N : Int)))) := ((Chg.refl [S] w).set (Or.inl (by simp)) _ _).set (Or.inl (by simp)) _ _
  have ha : SPic ((w.setCell ⟨S, 3, none⟩ (.int .i64 ((s.num : Int) + 1))).setCell ⟨S, 4, none⟩ (.int .i64 ((s.fin : Int) + (N : Int)))) FD G S D X Y fx fy A { s with num := s.num + 1, fin := s.fin + N } := by
    refine h.setS hca (heap_setCell_same _ S 4 _ TS _ (heap_setCell_same w S 3 _ TS _ h.hS)) ?_ rfl ⟨h.ok.slots, h.ok.logs, ?_, hfin⟩ (Nat.le_succ _)
    · simp [storeV, Int.natCast_add]
    · have := h.ok.num; have h2 : 1 ≤ N := by rw [← hN]; unfold partsN; omega
      show s.num + 1 ≤ s.fin + N
      omega
  obtain ⟨Wg, hWg⟩ : ∃ Wg, ((((w.setCell ⟨S, 3, none⟩ (.int .i64 ((s.num : Int) + 1))).setCell ⟨S, 4, none⟩ (.int .i64 ((s.fin : Int) + (N : Int)))).alloc (.cells #[.int .i64 1, .int .i64 (l : Int), .int .i64 (p : Int), .slice ad len cap] 103)).alloc (.cells #[.int .i64 1, .int .i64 (l : Int), .int .i64 (p : Int), .slice ad len cap] 103)).drew = Wg := ⟨_, rfl⟩
  obtain ⟨W6, hW6⟩ : ∃ W6, (Wg.alloc (.cells #[.nilFunc, .func (.func 126) #[] #[], .func (.func 127) #[] #[], .func (.func 128) #[] #[]] 150)).drew = W6 := ⟨_, rfl⟩
  have bg : Below ((w.setCell ⟨S, 3, none⟩ (.int .i64 ((s.num : Int) + 1))).setCell ⟨S, 4, none⟩ (.int .i64 ((s.fin : Int) + (N : Int)))).heap.size ((w.setCell ⟨S, 3, none⟩ (.int .i64 ((s.num : Int) + 1))).setCell ⟨S, 4, none⟩ (.int .i64 ((s.fin : Int) + (N : Int)))) Wg := by
    rw [← hWg]
    exact (((Below.refl _ _).alloc (Nat.le_refl _) _).alloc (by simp) _).drew
  have bw : Below ((w.setCell ⟨S, 3, none⟩ (.int .i64 ((s.num : Int) + 1))).setCell ⟨S, 4, none⟩ (.int .i64 ((s.fin : Int) + (N : Int)))).heap.size ((w.setCell ⟨S, 3, none⟩ (.int .i64 ((s.num : Int) + 1))).setCell ⟨S, 4, none⟩ (.int .i64 ((s.fin : Int) + (N : Int)))) W6 := by
    rw [← hW6]
    exact (bg.alloc bg.size _).drew
  have hkg : Wg.heap[w.heap.size]? = some (.cells #[.int .i64 1, .int .i64 (l : Int), .int .i64 (p : Int), .slice ad len cap] 103 (0, 0)) := by
    rw [← hWg]
    have := heap_alloc2_old ((w.setCell ⟨S, 3, none⟩ (.int .i64 ((s.num : Int) + 1))).setCell ⟨S, 4, none⟩ (.int .i64 ((s.fin : Int) + (N : Int)))) (.cells #[.int .i64 1, .int .i64 (l : Int), .int .i64 (p : Int), .slice ad len cap] 103) (.cells #[.int .i64 1, .int .i64 (l : Int), .int .i64 (p : Int), .slice ad len cap] 103)
    simp only [World.setCell, Array.size_modify] at this
    exact this
  have g0 : Wg.cell? ⟨w.heap.size, 0, none⟩ = some (.int .i64 1) := cell_of_row _ _ _ _ _ _ hkg
  have g1 : Wg.cell? ⟨w.heap.size, 1, none⟩ = some (.int .i64 (l : Int)) := cell_of_row _ _ _ _ _ _ hkg
  have g2 : Wg.cell? ⟨w.heap.size, 2, none⟩ = some (.int .i64 (p : Int)) := cell_of_row _ _ _ _ _ _ hkg
  have g3 : Wg.cell? ⟨w.heap.size, 3, none⟩ = some (.slice ad len cap) := cell_of_row _ _ _ _ _ _ hkg
  have hgs : w.heap.size < Wg.heap.size := (Array.getElem?_eq_some_iff.1 hkg).1
  have h6 := ha.below bw
  have hcw : Chg [S] w W6 := hca.trans (Chg.of (F := [S]) bw) (fun k hk => Or.inl hk)
  have hpt : Part.ok W6 ⟨ad, len, cap, data⟩ := by
    refine hda.chg hcw (fun b off e h0 hm => ?_)
    have e3 : b = S := by simpa using hm
    subst e3
    rcases hda.2.2.2 with h1 | ⟨b', off', e4, hlt, hcell⟩
    · exact h0 h1
    · rw [e] at e4
      cases e4
      exact h.not_byte (hcell 0 (List.length_pos_iff.2 h0))
  have hX6 : MapF W6 TSl X s.num fx := h.hX.keep (hcw.block X (h.lt X h.mX) (by simpa using h.neS.1.symm))
  have hY6 : MapF W6 3 Y s.num fy := h.hY.keep (hcw.block Y (h.lt Y h.mY) (by simpa using h.neS.2.symm))
  have hfi := fill_pic h6 s.num (Nat.le_refl _) hX6 hY6 l p hl hp ad len cap data hpt hlen (fun g hg => ⟨Nat.lt_of_lt_of_le (hb g hg).1 hcw.size, (hb g hg).2⟩)
  have hfi2 : Calls Tryz.prog 126 #[.pointer (some ⟨S, 0, none⟩), .agg #[.int .i64 (l : Int), .int .i64 (p : Int)], .slice ad len cap] W6 fun e w' => e = .returned (.tuple #[]) ∧ (w'.cell? ⟨w.heap.size, 0, none⟩ = some (.int .i64 1) ∧ w'.cell? ⟨w.heap.size, 1, none⟩ = some (.int .i64 (l : Int)) ∧ w'.cell? ⟨w.heap.size, 2, none⟩ = some (.int .i64 (p : Int)) ∧ w'.cell? ⟨w.heap.size, 3, none⟩ = some (.slice ad len cap)) ∧ Hid (∃ fx' fy' A', SPic w' FD (dB ad ++ G) S D X Y fx' fy' A' (s.takeE ⟨1, l, p, data⟩) ∧ Chg [S, X, Y] w w') := by
    refine hfi.mono ?_
    rintro e w' ⟨rfl, fx', fy', A', hp', hc'⟩
    have hk7 : ∀ i, w'.cell? ⟨w.heap.size, i, none⟩ = Wg.cell? ⟨w.heap.size, i, none⟩ := fun i => by
      rw [hc'.cell (by rw [← hW6]; show w.heap.size < (Wg.alloc _).heap.size; simp; omega) (by have h7 := h.lt X h.mX; have h8 := h.lt Y h.mY; simp; omega), ← hW6]
      exact (Below.refl Wg.heap.size Wg |>.alloc (Nat.le_refl _) _ |>.drew).cell (p := ⟨w.heap.size, i, none⟩) hgs
    refine ⟨rfl, ⟨(hk7 0).trans g0, (hk7 1).trans g1, (hk7 2).trans g2, (hk7 3).trans g3⟩, fx', fy', A', ?_, (hcw.mono (G := [S, X, Y]) (fun k hk => by simp at hk; simp [hk])).trans hc' (fun k hk => Or.inl (by simp at hk; simp [hk]))⟩
    have e1 : ({ s with num := s.num + 1, fin := s.fin + N } : SSt).fill l p data = s.takeE ⟨1, l, p, data⟩ := by
      have e2 : (⟨1, l, p, data⟩ : Ent).parts = N := by unfold Ent.parts; rw [hdl, hN]
      by_cases h0 : s.slots l p = none ∧ (s.log l).trim ≤ p
      · have h1 : ({ s with num := s.num + 1, fin := s.fin + N } : SSt).slots l p = none ∧ (({ s with num := s.num + 1, fin := s.fin + N } : SSt).log l).trim ≤ p := h0
        unfold SSt.takeE SSt.doE SSt.fill
        rw [e2, if_pos h1, if_pos rfl, if_pos h0]; rfl
      · have h1 : ¬ (({ s with num := s.num + 1, fin := s.fin + N } : SSt).slots l p = none ∧ (({ s with num := s.num + 1, fin := s.fin + N } : SSt).log l).trim ≤ p) := h0
        unfold SSt.takeE SSt.doE SSt.fill
        rw [e2, if_neg h1, if_pos rfl, if_neg h0]; rfl
    rw [← e1]
    exact hp'
  rw [← hW6] at hfi2
  have HFi := hide hfi2
  have hix := fun a b c d W => (doers_at a b c d W).1
  clear h hdl hlen hca ha bw h6 hcw hpt hX6 hY6 hfi hfi2 hda hb hfin hW6 W6 bg hkg
  go_enter Tryz.func79, Tryz.ntmps79
  go_wp2
  apply once
  case main =>
    intro hm
    go_region_with (go_at_call 86; refine (hbe _).mono ?_; rintro x w' ⟨rfl, hw'⟩; obtain rfl := hw'.symm)
    all_goals exact hm
  clear hbe c3 c4 f3 f4
  clear hWg
  go_wp2
  go_region_held3 (fun W => W.cell? ⟨w.heap.size, 0, none⟩ = some (.int .i64 1) ∧ W.cell? ⟨w.heap.size, 1, none⟩ = some (.int .i64 (l : Int)) ∧ W.cell? ⟨w.heap.size, 2, none⟩ = some (.int .i64 (p : Int)) ∧ W.cell? ⟨w.heap.size, 3, none⟩ = some (.slice ad len cap)) (go_keep)
    (first
    | (go_at_call 104; refine (doers_eq _).mono ?_; rintro x w' ⟨rfl, hw'⟩; obtain rfl := hw'.symm)
    | (go_at_call 126; (with_reducible_and_instances (refine HFi.out.mono ?_)); rintro x w7 ⟨rfl, ⟨q0, q1, q2, q3⟩, hX⟩))
  all_goals go_wp2
  all_goals exact bodyPost_end (results_none rfl _ _ _) rfl ⟨rfl, hX.out⟩
end Go.Proofs.YtikomnbhmmjfnaaGreat

/- take of package store: a seal. -/
namespace Go.Proofs.YtikomnbhmmjfnaaGreat
open Go.RowKit
variable {w w' : World} {FD G : List Nat} {S D X Y : Nat} {fx fy : Lit → Option Value} {A : Nat → Nat → Value} {s : SSt}

set_option maxRecDepth 100000 in
set_option maxHeartbeats 400000 in
theorem take2_pic (h : SPic w FD G S D X Y fx fy A s) (l p : Nat) (hl : l < 281474976710656) (hfin : s.fin + 1 ≤ s.d.bs.length) :
    Calls Tryz.prog 79 #[.pointer (some ⟨S, 0, none⟩), .agg #[.int .i64 2, .int .i64 (l : Int), .int .i64 (p : Int), .slice none 0 0]] w fun x w' => x = .returned (.tuple #[]) ∧ ∃ fx' fy' A', SPic w' FD G S D X Y fx' fy' A' (s.takeE ⟨2, l, p, []⟩) ∧ Chg [S, X, Y] w w' := by
  have hS := h.ltS
  obtain ⟨-, -, -, c3, c4, -⟩ := h.cells
  have f3 := h.free 3
  have f4 := h.free 4
  obtain ⟨N, hN1⟩ : ∃ N : Nat, 1 = N := ⟨_, rfl⟩
  have hN : partsN (13 + 0) = N := by rw [← hN1]; rfl
  rw [hN1] at hfin
  have hpp : N ≤ 4096 := by have := h.disk.n2; omega
  have hnm := h.num_le
  have hfn := h.fin_le
  have hwr : IntKind.i64.wrap ((s.fin : Int) + (N : Int)) = (s.fin : Int) + (N : Int) := by rw [IntKind.wrap_i64]; omega
  have hbe := fun W => blocks_eq 2 (l : Int) (p : Int) none 0 0 W (by omega)
  rw [hN] at hbe
  have hca : Chg [S] w ((w.setCell ⟨S, 3, none⟩ (.int .i64 ((s.num : Int) + 1))).setCell ⟨S, 4, none⟩ (.int .i64 ((s.fin : Int) + (N : Int)))) := ((Chg.refl [S] w).set (Or.inl (by simp)) _ _).set (Or.inl (by simp)) _ _
  have ha : SPic ((w.setCell ⟨S, 3, none⟩ (.int .i64 ((s.num : Int) + 1))).setCell ⟨S, 4, none⟩ (.int .i64 ((s.fin : Int) + (N : Int)))) FD G S D X Y fx fy A { s with num := s.num + 1, fin := s.fin + N } := by
    refine h.setS hca (heap_setCell_same _ S 4 _ TS _ (heap_setCell_same w S 3 _ TS _ h.hS)) ?_ rfl ⟨h.ok.slots, h.ok.logs, ?_, hfin⟩ (Nat.le_succ _)
    · simp [storeV, Int.natCast_add]
    · have := h.ok.num; have h2 : 1 ≤ N := by rw [← hN]; unfold partsN; omega
      show s.num + 1 ≤ s.fin + N
      omega
  obtain ⟨Wg, hWg⟩ : ∃ Wg, ((((w.setCell ⟨S, 3, none⟩ (.int .i64 ((s.num : Int) + 1))).setCell ⟨S, 4, none⟩ (.int .i64 ((s.fin : Int) + (N : Int)))).alloc (.cells #[.int .i64 2, .int .i64 (l : Int), .int .i64 (p : Int), .slice none 0 0] 103)).alloc (.cells #[.int .i64 2, .int .i64 (l : Int), .int .i64 (p : Int), .slice none 0 0] 103)).drew = Wg := ⟨_, rfl⟩
  obtain ⟨W6, hW6⟩ : ∃ W6, (Wg.alloc (.cells #[.nilFunc, .func (.func 126) #[] #[], .func (.func 127) #[] #[], .func (.func 128) #[] #[]] 150)).drew = W6 := ⟨_, rfl⟩
  have bg : Below ((w.setCell ⟨S, 3, none⟩ (.int .i64 ((s.num : Int) + 1))).setCell ⟨S, 4, none⟩ (.int .i64 ((s.fin : Int) + (N : Int)))).heap.size ((w.setCell ⟨S, 3, none⟩ (.int .i64 ((s.num : Int) + 1))).setCell ⟨S, 4, none⟩ (.int .i64 ((s.fin : Int) + (N : Int)))) Wg := by
    rw [← hWg]
    exact (((Below.refl _ _).alloc (Nat.le_refl _) _).alloc (by simp) _).drew
  have bw : Below ((w.setCell ⟨S, 3, none⟩ (.int .i64 ((s.num : Int) + 1))).setCell ⟨S, 4, none⟩ (.int .i64 ((s.fin : Int) + (N : Int)))).heap.size ((w.setCell ⟨S, 3, none⟩ (.int .i64 ((s.num : Int) + 1))).setCell ⟨S, 4, none⟩ (.int .i64 ((s.fin : Int) + (N : Int)))) W6 := by
    rw [← hW6]
    exact (bg.alloc bg.size _).drew
  have hkg : Wg.heap[w.heap.size]? = some (.cells #[.int .i64 2, .int .i64 (l : Int), .int .i64 (p : Int), .slice none 0 0] 103 (0, 0)) := by
    rw [← hWg]
    have := heap_alloc2_old ((w.setCell ⟨S, 3, none⟩ (.int .i64 ((s.num : Int) + 1))).setCell ⟨S, 4, none⟩ (.int .i64 ((s.fin : Int) + (N : Int)))) (.cells #[.int .i64 2, .int .i64 (l : Int), .int .i64 (p : Int), .slice none 0 0] 103) (.cells #[.int .i64 2, .int .i64 (l : Int), .int .i64 (p : Int), .slice none 0 0] 103)
    simp only [World.setCell, Array.size_modify] at this
    exact this
  have g0 : Wg.cell? ⟨w.heap.size, 0, none⟩ = some (.int .i64 2) := cell_of_row _ _ _ _ _ _ hkg
  have g1 : Wg.cell? ⟨w.heap.size, 1, none⟩ = some (.int .i64 (l : Int)) := cell_of_row _ _ _ _ _ _ hkg
  have g2 : Wg.cell? ⟨w.heap.size, 2, none⟩ = some (.int .i64 (p : Int)) := cell_of_row _ _ _ _ _ _ hkg
  have g3 : Wg.cell? ⟨w.heap.size, 3, none⟩ = some (.slice none 0 0) := cell_of_row _ _ _ _ _ _ hkg
  have hgs : w.heap.size < Wg.heap.size := (Array.getElem?_eq_some_iff.1 hkg).1
  have h6 := ha.below bw
  have hcw : Chg [S] w W6 := hca.trans (Chg.of (F := [S]) bw) (fun k hk => Or.inl hk)
  have hY6 : MapF W6 3 Y s.num fy := h.hY.keep (hcw.block Y (h.lt Y h.mY) (by simpa using h.neS.2.symm))
  have hfi := sealL_pic h6 s.num (Nat.le_refl _) hY6 l p hl none 0 0
  have hfi2 : Calls Tryz.prog 127 #[.pointer (some ⟨S, 0, none⟩), .agg #[.int .i64 (l : Int), .int .i64 (p : Int)], .slice none 0 0] W6 fun e w' => e = .returned (.tuple #[]) ∧ (w'.cell? ⟨w.heap.size, 0, none⟩ = some (.int .i64 2) ∧ w'.cell? ⟨w.heap.size, 1, none⟩ = some (.int .i64 (l : Int)) ∧ w'.cell? ⟨w.heap.size, 2, none⟩ = some (.int .i64 (p : Int)) ∧ w'.cell? ⟨w.heap.size, 3, none⟩ = some (.slice none 0 0)) ∧ Hid (∃ fx' fy' A', SPic w' FD G S D X Y fx' fy' A' (s.takeE ⟨2, l, p, []⟩) ∧ Chg [S, X, Y] w w') := by
    refine hfi.mono ?_
    rintro e w' ⟨rfl, fy', hp', hc'⟩
    have hk7 : ∀ i, w'.cell? ⟨w.heap.size, i, none⟩ = Wg.cell? ⟨w.heap.size, i, none⟩ := fun i => by
      rw [hc'.cell (by rw [← hW6]; show w.heap.size < (Wg.alloc _).heap.size; simp; omega) (by have h8 := h.lt Y h.mY; simp; omega), ← hW6]
      exact (Below.refl Wg.heap.size Wg |>.alloc (Nat.le_refl _) _ |>.drew).cell (p := ⟨w.heap.size, i, none⟩) hgs
    refine ⟨rfl, ⟨(hk7 0).trans g0, (hk7 1).trans g1, (hk7 2).trans g2, (hk7 3).trans g3⟩, fx, fy', A, ?_, (hcw.mono (G := [S, X, Y]) (fun k hk => by simp at hk; simp [hk])).trans hc' (fun k hk => Or.inl (by simp at hk; simp [hk]))⟩
    have e1 : ({ s with num := s.num + 1, fin := s.fin + N } : SSt).sealL l = s.takeE ⟨2, l, p, []⟩ := by
      have e2 : (⟨2, l, p, []⟩ : Ent).parts = N := hN
      unfold SSt.takeE SSt.doE SSt.sealL
      rw [e2]
      rfl
    rw [← e1]
    exact hp'
  rw [← hW6] at hfi2
  have HFi := hide hfi2
  have hix := fun a b c d W => (doers_at a b c d W).2.1
  clear h hca ha bw h6 hcw hY6 hfi hfi2 hfin hW6 W6 bg hkg hN1
  go_enter Tryz.func79, Tryz.ntmps79
  go_wp2
  apply once
  case main =>
    intro hm
    go_region_with (go_at_call 86; refine (hbe _).mono ?_; rintro x w' ⟨rfl, hw'⟩; obtain rfl := hw'.symm)
    all_goals exact hm
  clear hbe c3 c4 f3 f4
  clear hWg
  go_wp2
  go_region_held3 (fun W => W.cell? ⟨w.heap.size, 0, none⟩ = some (.int .i64 2) ∧ W.cell? ⟨w.heap.size, 1, none⟩ = some (.int .i64 (l : Int)) ∧ W.cell? ⟨w.heap.size, 2, none⟩ = some (.int .i64 (p : Int)) ∧ W.cell? ⟨w.heap.size, 3, none⟩ = some (.slice none 0 0)) (go_keep)
    (first
    | (go_at_call 104; refine (doers_eq _).mono ?_; rintro x w' ⟨rfl, hw'⟩; obtain rfl := hw'.symm)
    | (go_at_call 127; (with_reducible_and_instances (refine HFi.out.mono ?_)); rintro x w7 ⟨rfl, ⟨q0, q1, q2, q3⟩, hX⟩))
  all_goals go_wp2
  all_goals exact bodyPost_end (results_none rfl _ _ _) rfl ⟨rfl, hX.out⟩
end Go.Proofs.YtikomnbhmmjfnaaGreat
