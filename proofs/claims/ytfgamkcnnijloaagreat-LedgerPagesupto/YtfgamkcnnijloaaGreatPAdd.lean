/- add of package producer: one batch more in a window. -/
import Derived.Test.YtfgamkcnnijloaaGreatPZPW
import Derived.Deep.RegionLaw
import Derived.Deep.RegionWith
namespace Go.Proofs.YtfgamkcnnijloaaGreat
open Go.RowKit Go.Shelf
variable {w w' : World} {B : Nat} {s : PSt}

/-- A batch is stored at a place. -/
def putW (w : World) (B p : Nat) (d : Dn) : World := ((w.setCell ⟨B, 2 + p * 3, none⟩ (.int .i64 d.seq)).setCell ⟨B, 2 + p * 3 + 1, none⟩ (.int .i64 d.len)).setCell ⟨B, 2 + p * 3 + 2, none⟩ (.int .i64 d.off)
theorem SBox.put (h : SBox w B s) (p : Nat) (hp : p < 5) (d : Dn) : SBox (putW w B p d) B (s.put p d) := by
  unfold SBox putW
  have h1 := ((Blk.set h (2 + p * 3) (.int .i64 d.seq)).set (2 + p * 3 + 1) (.int .i64 d.len)).set (2 + p * 3 + 2) (.int .i64 d.off)
  rcases (show p = 0 ∨ p = 1 ∨ p = 2 ∨ p = 3 ∨ p = 4 by omega) with rfl | rfl | rfl | rfl | rfl
  all_goals exact h1
theorem putW_chg (w : World) (B p : Nat) (d : Dn) : Chg [B] w (putW w B p d) := (((Chg.refl _ _).set (Or.inl (by simp)) _ _).set (Or.inl (by simp)) _ _).set (Or.inl (by simp)) _ _
theorem SBox.setOld (h : SBox w B s) (p : Nat) : SBox (w.setCell ⟨B, 17, none⟩ (.int .i64 (p : Int))) B { s with old := p } := Blk.set h 17 _
theorem SBox.setCnt (h : SBox w B s) (p : Nat) : SBox (w.setCell ⟨B, 18, none⟩ (.int .i64 (p : Int))) B { s with cnt := p } := Blk.set h 18 _
theorem SBox.drew (h : SBox w B s) : SBox w.drew B s := h
set_option maxHeartbeats 400000 in
theorem add_at0 (h : SBox w B s) (hok : s.ok) (d : Dn) (hpp : s.place s.cnt = 0) : Calls Tryz.prog 80 #[.pointer (some ⟨B, 2, none⟩), .agg #[.int .i64 d.seq, .int .i64 d.len, .int .i64 d.off]] w fun e w' => (∃ v, e = .returned v) ∧ SBox w' B (s.add d) ∧ Chg [B] w w' := by
  obtain ⟨W, hW⟩ : ∃ W, w.alloc (.cells #[.int .i64 d.seq, .int .i64 d.len, .int .i64 d.off] TDn) = W := ⟨_, rfl⟩
  have hb : Below w.heap.size w W := by rw [← hW]; exact (Below.refl _ _).alloc (Nat.le_refl _) _
  have hd : Blk W w.heap.size #[.int .i64 d.seq, .int .i64 d.len, .int .i64 d.off] TDn := by rw [← hW]; exact heap_alloc_new w _
  have hBl : B < w.heap.size := Blk.lt h
  have hs := h.later hb
  have hc5 := hok.cnt
  have hpl0 := place_any hs.drew hok.old s.cnt hc5
  rw [hpp] at hpl0
  have hpl : Hid (Calls Tryz.prog 115 #[.pointer (some ⟨B, 2, none⟩), .int .i64 (s.cnt : Int)] W.drew fun e w' => e = .returned (.int .i64 0) ∧ w' = W.drew) := hpl0
  have d0 : W.cell? ⟨w.heap.size, 0, none⟩ = some (.int .i64 d.seq) := hd.cell 0
  have d1 : W.cell? ⟨w.heap.size, 1, none⟩ = some (.int .i64 d.len) := hd.cell 1
  have d2 : W.cell? ⟨w.heap.size, 2, none⟩ = some (.int .i64 d.off) := hd.cell 2
  have c0 : W.cell? ⟨B, 2, none⟩ = some (.int .i64 (s.slot 0).seq) := Blk.cell hs 2
  have c1 : W.cell? ⟨B, 3, none⟩ = some (.int .i64 (s.slot 0).len) := Blk.cell hs 3
  have c2 : W.cell? ⟨B, 4, none⟩ = some (.int .i64 (s.slot 0).off) := Blk.cell hs 4
  have f0 := Blk.free hs 2
  have f1 := Blk.free hs 3
  have f2 := Blk.free hs 4
  have cc := hs.cnt
  obtain ⟨W2, hW2⟩ : ∃ W2, (((W.setCell ⟨B, 2, none⟩ (.int .i64 d.seq)).setCell ⟨B, 3, none⟩ (.int .i64 d.len)).setCell ⟨B, 4, none⟩ (.int .i64 d.off)).drew = W2 := ⟨_, rfl⟩
  have hs2 : SBox W2 B (s.put 0 d) := by rw [← hW2]; exact (hs.put 0 (by omega) d).drew
  have hc2 : Chg [B] w W2 := by rw [← hW2]; exact ((Chg.of (F := [B]) hb).trans (putW_chg W B 0 d) (fun k hk => Or.inl hk)).drew
  have HS : Hid (s.add d = if s.cnt < 5 then { s.put 0 d with cnt := s.cnt + 1 } else { s.put 0 d with old := s.place 1 }) := by unfold PSt.add; rw [hpp]; exact rfl
  have HO := hid hok.old
  generalize (s.slot 0).seq = x0 at *
  generalize (s.slot 0).len = x1 at *
  generalize (s.slot 0).off = x2 at *
  clear h hb hd hs hpp hok hpl0
  have HS2 := hid hs2
  have HC2 := hid hc2
  clear hs2 hc2
  go_enter Tryz.func80, Tryz.ntmps80
  go_wp2
  apply once
  case main =>
    intro hm
    go_region_with (go_at_call 115; (with_reducible_and_instances (refine hpl.out.mono ?_)); rintro x v2 ⟨rfl, hv2⟩; obtain rfl := hv2.symm)
    all_goals exact hm
  have q18 : W2.cell? ⟨B, 18, none⟩ = some (.int .i64 (s.cnt : Int)) := HS2.out.cnt
  have q17 : W2.cell? ⟨B, 17, none⟩ = some (.int .i64 (s.old : Int)) := HS2.out.old
  have g18 := Blk.free HS2.out 18
  have g17 := Blk.free HS2.out 17
  clear hW2 hW d0 d1 d2 c0 c1 c2 f0 f1 f2 cc hpl
  by_cases h5 : s.cnt < 5
  · have hd5 : decide ((s.cnt : Int) < 5) = true := by simp; omega
    have HF : Hid (SBox (W2.setCell ⟨B, 18, none⟩ (.int .i64 ((s.cnt : Int) + 1))) B (s.add d)) := by rw [HS.out, if_pos h5]; exact HS2.out.setCnt (s.cnt + 1)
    have HG := hid (HC2.out.set (g := B) (Or.inl (by simp)) 18 (.int .i64 ((s.cnt : Int) + 1)))
    clear HS HC2 HS2
    go_wp2
    go_end0
    exact ⟨⟨_, rfl⟩, HF.out, HG.out⟩
  · have hd5 : decide ((s.cnt : Int) < 5) = false := by simp; omega
    have hq := hid (place_any HS2.out HO.out 1 (by omega))
    have HF : Hid (SBox (W2.setCell ⟨B, 17, none⟩ (.int .i64 ((s.place 1 : Nat) : Int))) B (s.add d)) := by rw [HS.out, if_neg h5]; exact HS2.out.setOld (s.place 1)
    have HG := hid (HC2.out.set (g := B) (Or.inl (by simp)) 17 (.int .i64 ((s.place 1 : Nat) : Int)))
    clear HS HC2 HS2
    go_wp2_with (go_at_call 115; (with_reducible_and_instances (refine hq.out.mono ?_)); rintro x v3 ⟨rfl, hv3⟩; obtain rfl := hv3.symm)
    go_end0
    exact ⟨⟨_, rfl⟩, HF.out, HG.out⟩
set_option maxHeartbeats 400000 in
theorem add_at1 (h : SBox w B s) (hok : s.ok) (d : Dn) (hpp : s.place s.cnt = 1) : Calls Tryz.prog 80 #[.pointer (some ⟨B, 2, none⟩), .agg #[.int .i64 d.seq, .int .i64 d.len, .int .i64 d.off]] w fun e w' => (∃ v, e = .returned v) ∧ SBox w' B (s.add d) ∧ Chg [B] w w' := by
  obtain ⟨W, hW⟩ : ∃ W, w.alloc (.cells #[.int .i64 d.seq, .int .i64 d.len, .int .i64 d.off] TDn) = W := ⟨_, rfl⟩
  have hb : Below w.heap.size w W := by rw [← hW]; exact (Below.refl _ _).alloc (Nat.le_refl _) _
  have hd : Blk W w.heap.size #[.int .i64 d.seq, .int .i64 d.len, .int .i64 d.off] TDn := by rw [← hW]; exact heap_alloc_new w _
  have hBl : B < w.heap.size := Blk.lt h
  have hs := h.later hb
  have hc5 := hok.cnt
  have hpl0 := place_any hs.drew hok.old s.cnt hc5
  rw [hpp] at hpl0
  have hpl : Hid (Calls Tryz.prog 115 #[.pointer (some ⟨B, 2, none⟩), .int .i64 (s.cnt : Int)] W.drew fun e w' => e = .returned (.int .i64 1) ∧ w' = W.drew) := hpl0
  have d0 : W.cell? ⟨w.heap.size, 0, none⟩ = some (.int .i64 d.seq) := hd.cell 0
  have d1 : W.cell? ⟨w.heap.size, 1, none⟩ = some (.int .i64 d.len) := hd.cell 1
  have d2 : W.cell? ⟨w.heap.size, 2, none⟩ = some (.int .i64 d.off) := hd.cell 2
  have c0 : W.cell? ⟨B, 5, none⟩ = some (.int .i64 (s.slot 1).seq) := Blk.cell hs 5
  have c1 : W.cell? ⟨B, 6, none⟩ = some (.int .i64 (s.slot 1).len) := Blk.cell hs 6
  have c2 : W.cell? ⟨B, 7, none⟩ = some (.int .i64 (s.slot 1).off) := Blk.cell hs 7
  have f0 := Blk.free hs 5
  have f1 := Blk.free hs 6
  have f2 := Blk.free hs 7
  have cc := hs.cnt
  obtain ⟨W2, hW2⟩ : ∃ W2, (((W.setCell ⟨B, 5, none⟩ (.int .i64 d.seq)).setCell ⟨B, 6, none⟩ (.int .i64 d.len)).setCell ⟨B, 7, none⟩ (.int .i64 d.off)).drew = W2 := ⟨_, rfl⟩
  have hs2 : SBox W2 B (s.put 1 d) := by rw [← hW2]; exact (hs.put 1 (by omega) d).drew
  have hc2 : Chg [B] w W2 := by rw [← hW2]; exact ((Chg.of (F := [B]) hb).trans (putW_chg W B 1 d) (fun k hk => Or.inl hk)).drew
  have HS : Hid (s.add d = if s.cnt < 5 then { s.put 1 d with cnt := s.cnt + 1 } else { s.put 1 d with old := s.place 1 }) := by unfold PSt.add; rw [hpp]; exact rfl
  have HO := hid hok.old
  generalize (s.slot 1).seq = x0 at *
  generalize (s.slot 1).len = x1 at *
  generalize (s.slot 1).off = x2 at *
  clear h hb hd hs hpp hok hpl0
  have HS2 := hid hs2
  have HC2 := hid hc2
  clear hs2 hc2
  go_enter Tryz.func80, Tryz.ntmps80
  go_wp2
  apply once
  case main =>
    intro hm
    go_region_with (go_at_call 115; (with_reducible_and_instances (refine hpl.out.mono ?_)); rintro x v2 ⟨rfl, hv2⟩; obtain rfl := hv2.symm)
    all_goals exact hm
  have q18 : W2.cell? ⟨B, 18, none⟩ = some (.int .i64 (s.cnt : Int)) := HS2.out.cnt
  have q17 : W2.cell? ⟨B, 17, none⟩ = some (.int .i64 (s.old : Int)) := HS2.out.old
  have g18 := Blk.free HS2.out 18
  have g17 := Blk.free HS2.out 17
  clear hW2 hW d0 d1 d2 c0 c1 c2 f0 f1 f2 cc hpl
  by_cases h5 : s.cnt < 5
  · have hd5 : decide ((s.cnt : Int) < 5) = true := by simp; omega
    have HF : Hid (SBox (W2.setCell ⟨B, 18, none⟩ (.int .i64 ((s.cnt : Int) + 1))) B (s.add d)) := by rw [HS.out, if_pos h5]; exact HS2.out.setCnt (s.cnt + 1)
    have HG := hid (HC2.out.set (g := B) (Or.inl (by simp)) 18 (.int .i64 ((s.cnt : Int) + 1)))
    clear HS HC2 HS2
    go_wp2
    go_end0
    exact ⟨⟨_, rfl⟩, HF.out, HG.out⟩
  · have hd5 : decide ((s.cnt : Int) < 5) = false := by simp; omega
    have hq := hid (place_any HS2.out HO.out 1 (by omega))
    have HF : Hid (SBox (W2.setCell ⟨B, 17, none⟩ (.int .i64 ((s.place 1 : Nat) : Int))) B (s.add d)) := by rw [HS.out, if_neg h5]; exact HS2.out.setOld (s.place 1)
    have HG := hid (HC2.out.set (g := B) (Or.inl (by simp)) 17 (.int .i64 ((s.place 1 : Nat) : Int)))
    clear HS HC2 HS2
    go_wp2_with (go_at_call 115; (with_reducible_and_instances (refine hq.out.mono ?_)); rintro x v3 ⟨rfl, hv3⟩; obtain rfl := hv3.symm)
    go_end0
    exact ⟨⟨_, rfl⟩, HF.out, HG.out⟩
set_option maxHeartbeats 400000 in
theorem add_at2 (h : SBox w B s) (hok : s.ok) (d : Dn) (hpp : s.place s.cnt = 2) : Calls Tryz.prog 80 #[.pointer (some ⟨B, 2, none⟩), .agg #[.int .i64 d.seq, .int .i64 d.len, .int .i64 d.off]] w fun e w' => (∃ v, e = .returned v) ∧ SBox w' B (s.add d) ∧ Chg [B] w w' := by
  obtain ⟨W, hW⟩ : ∃ W, w.alloc (.cells #[.int .i64 d.seq, .int .i64 d.len, .int .i64 d.off] TDn) = W := ⟨_, rfl⟩
  have hb : Below w.heap.size w W := by rw [← hW]; exact (Below.refl _ _).alloc (Nat.le_refl _) _
  have hd : Blk W w.heap.size #[.int .i64 d.seq, .int .i64 d.len, .int .i64 d.off] TDn := by rw [← hW]; exact heap_alloc_new w _
  have hBl : B < w.heap.size := Blk.lt h
  have hs := h.later hb
  have hc5 := hok.cnt
  have hpl0 := place_any hs.drew hok.old s.cnt hc5
  rw [hpp] at hpl0
  have hpl : Hid (Calls Tryz.prog 115 #[.pointer (some ⟨B, 2, none⟩), .int .i64 (s.cnt : Int)] W.drew fun e w' => e = .returned (.int .i64 2) ∧ w' = W.drew) := hpl0
  have d0 : W.cell? ⟨w.heap.size, 0, none⟩ = some (.int .i64 d.seq) := hd.cell 0
  have d1 : W.cell? ⟨w.heap.size, 1, none⟩ = some (.int .i64 d.len) := hd.cell 1
  have d2 : W.cell? ⟨w.heap.size, 2, none⟩ = some (.int .i64 d.off) := hd.cell 2
  have c0 : W.cell? ⟨B, 8, none⟩ = some (.int .i64 (s.slot 2).seq) := Blk.cell hs 8
  have c1 : W.cell? ⟨B, 9, none⟩ = some (.int .i64 (s.slot 2).len) := Blk.cell hs 9
  have c2 : W.cell? ⟨B, 10, none⟩ = some (.int .i64 (s.slot 2).off) := Blk.cell hs 10
  have f0 := Blk.free hs 8
  have f1 := Blk.free hs 9
  have f2 := Blk.free hs 10
  have cc := hs.cnt
  obtain ⟨W2, hW2⟩ : ∃ W2, (((W.setCell ⟨B, 8, none⟩ (.int .i64 d.seq)).setCell ⟨B, 9, none⟩ (.int .i64 d.len)).setCell ⟨B, 10, none⟩ (.int .i64 d.off)).drew = W2 := ⟨_, rfl⟩
  have hs2 : SBox W2 B (s.put 2 d) := by rw [← hW2]; exact (hs.put 2 (by omega) d).drew
  have hc2 : Chg [B] w W2 := by rw [← hW2]; exact ((Chg.of (F := [B]) hb).trans (putW_chg W B 2 d) (fun k hk => Or.inl hk)).drew
  have HS : Hid (s.add d = if s.cnt < 5 then { s.put 2 d with cnt := s.cnt + 1 } else { s.put 2 d with old := s.place 1 }) := by unfold PSt.add; rw [hpp]; exact rfl
  have HO := hid hok.old
  generalize (s.slot 2).seq = x0 at *
  generalize (s.slot 2).len = x1 at *
  generalize (s.slot 2).off = x2 at *
  clear h hb hd hs hpp hok hpl0
  have HS2 := hid hs2
  have HC2 := hid hc2
  clear hs2 hc2
  go_enter Tryz.func80, Tryz.ntmps80
  go_wp2
  apply once
  case main =>
    intro hm
    go_region_with (go_at_call 115; (with_reducible_and_instances (refine hpl.out.mono ?_)); rintro x v2 ⟨rfl, hv2⟩; obtain rfl := hv2.symm)
    all_goals exact hm
  have q18 : W2.cell? ⟨B, 18, none⟩ = some (.int .i64 (s.cnt : Int)) := HS2.out.cnt
  have q17 : W2.cell? ⟨B, 17, none⟩ = some (.int .i64 (s.old : Int)) := HS2.out.old
  have g18 := Blk.free HS2.out 18
  have g17 := Blk.free HS2.out 17
  clear hW2 hW d0 d1 d2 c0 c1 c2 f0 f1 f2 cc hpl
  by_cases h5 : s.cnt < 5
  · have hd5 : decide ((s.cnt : Int) < 5) = true := by simp; omega
    have HF : Hid (SBox (W2.setCell ⟨B, 18, none⟩ (.int .i64 ((s.cnt : Int) + 1))) B (s.add d)) := by rw [HS.out, if_pos h5]; exact HS2.out.setCnt (s.cnt + 1)
    have HG := hid (HC2.out.set (g := B) (Or.inl (by simp)) 18 (.int .i64 ((s.cnt : Int) + 1)))
    clear HS HC2 HS2
    go_wp2
    go_end0
    exact ⟨⟨_, rfl⟩, HF.out, HG.out⟩
  · have hd5 : decide ((s.cnt : Int) < 5) = false := by simp; omega
    have hq := hid (place_any HS2.out HO.out 1 (by omega))
    have HF : Hid (SBox (W2.setCell ⟨B, 17, none⟩ (.int .i64 ((s.place 1 : Nat) : Int))) B (s.add d)) := by rw [HS.out, if_neg h5]; exact HS2.out.setOld (s.place 1)
    have HG := hid (HC2.out.set (g := B) (Or.inl (by simp)) 17 (.int .i64 ((s.place 1 : Nat) : Int)))
    clear HS HC2 HS2
    go_wp2_with (go_at_call 115; (with_reducible_and_instances (refine hq.out.mono ?_)); rintro x v3 ⟨rfl, hv3⟩; obtain rfl := hv3.symm)
    go_end0
    exact ⟨⟨_, rfl⟩, HF.out, HG.out⟩
set_option maxHeartbeats 400000 in
theorem add_at3 (h : SBox w B s) (hok : s.ok) (d : Dn) (hpp : s.place s.cnt = 3) : Calls Tryz.prog 80 #[.pointer (some ⟨B, 2, none⟩), .agg #[.int .i64 d.seq, .int .i64 d.len, .int .i64 d.off]] w fun e w' => (∃ v, e = .returned v) ∧ SBox w' B (s.add d) ∧ Chg [B] w w' := by
  obtain ⟨W, hW⟩ : ∃ W, w.alloc (.cells #[.int .i64 d.seq, .int .i64 d.len, .int .i64 d.off] TDn) = W := ⟨_, rfl⟩
  have hb : Below w.heap.size w W := by rw [← hW]; exact (Below.refl _ _).alloc (Nat.le_refl _) _
  have hd : Blk W w.heap.size #[.int .i64 d.seq, .int .i64 d.len, .int .i64 d.off] TDn := by rw [← hW]; exact heap_alloc_new w _
  have hBl : B < w.heap.size := Blk.lt h
  have hs := h.later hb
  have hc5 := hok.cnt
  have hpl0 := place_any hs.drew hok.old s.cnt hc5
  rw [hpp] at hpl0
  have hpl : Hid (Calls Tryz.prog 115 #[.pointer (some ⟨B, 2, none⟩), .int .i64 (s.cnt : Int)] W.drew fun e w' => e = .returned (.int .i64 3) ∧ w' = W.drew) := hpl0
  have d0 : W.cell? ⟨w.heap.size, 0, none⟩ = some (.int .i64 d.seq) := hd.cell 0
  have d1 : W.cell? ⟨w.heap.size, 1, none⟩ = some (.int .i64 d.len) := hd.cell 1
  have d2 : W.cell? ⟨w.heap.size, 2, none⟩ = some (.int .i64 d.off) := hd.cell 2
  have c0 : W.cell? ⟨B, 11, none⟩ = some (.int .i64 (s.slot 3).seq) := Blk.cell hs 11
  have c1 : W.cell? ⟨B, 12, none⟩ = some (.int .i64 (s.slot 3).len) := Blk.cell hs 12
  have c2 : W.cell? ⟨B, 13, none⟩ = some (.int .i64 (s.slot 3).off) := Blk.cell hs 13
  have f0 := Blk.free hs 11
  have f1 := Blk.free hs 12
  have f2 := Blk.free hs 13
  have cc := hs.cnt
  obtain ⟨W2, hW2⟩ : ∃ W2, (((W.setCell ⟨B, 11, none⟩ (.int .i64 d.seq)).setCell ⟨B, 12, none⟩ (.int .i64 d.len)).setCell ⟨B, 13, none⟩ (.int .i64 d.off)).drew = W2 := ⟨_, rfl⟩
  have hs2 : SBox W2 B (s.put 3 d) := by rw [← hW2]; exact (hs.put 3 (by omega) d).drew
  have hc2 : Chg [B] w W2 := by rw [← hW2]; exact ((Chg.of (F := [B]) hb).trans (putW_chg W B 3 d) (fun k hk => Or.inl hk)).drew
  have HS : Hid (s.add d = if s.cnt < 5 then { s.put 3 d with cnt := s.cnt + 1 } else { s.put 3 d with old := s.place 1 }) := by unfold PSt.add; rw [hpp]; exact rfl
  have HO := hid hok.old
  generalize (s.slot 3).seq = x0 at *
  generalize (s.slot 3).len = x1 at *
  generalize (s.slot 3).off = x2 at *
  clear h hb hd hs hpp hok hpl0
  have HS2 := hid hs2
  have HC2 := hid hc2
  clear hs2 hc2
  go_enter Tryz.func80, Tryz.ntmps80
  go_wp2
  apply once
  case main =>
    intro hm
    go_region_with (go_at_call 115; (with_reducible_and_instances (refine hpl.out.mono ?_)); rintro x v2 ⟨rfl, hv2⟩; obtain rfl := hv2.symm)
    all_goals exact hm
  have q18 : W2.cell? ⟨B, 18, none⟩ = some (.int .i64 (s.cnt : Int)) := HS2.out.cnt
  have q17 : W2.cell? ⟨B, 17, none⟩ = some (.int .i64 (s.old : Int)) := HS2.out.old
  have g18 := Blk.free HS2.out 18
  have g17 := Blk.free HS2.out 17
  clear hW2 hW d0 d1 d2 c0 c1 c2 f0 f1 f2 cc hpl
  by_cases h5 : s.cnt < 5
  · have hd5 : decide ((s.cnt : Int) < 5) = true := by simp; omega
    have HF : Hid (SBox (W2.setCell ⟨B, 18, none⟩ (.int .i64 ((s.cnt : Int) + 1))) B (s.add d)) := by rw [HS.out, if_pos h5]; exact HS2.out.setCnt (s.cnt + 1)
    have HG := hid (HC2.out.set (g := B) (Or.inl (by simp)) 18 (.int .i64 ((s.cnt : Int) + 1)))
    clear HS HC2 HS2
    go_wp2
    go_end0
    exact ⟨⟨_, rfl⟩, HF.out, HG.out⟩
  · have hd5 : decide ((s.cnt : Int) < 5) = false := by simp; omega
    have hq := hid (place_any HS2.out HO.out 1 (by omega))
    have HF : Hid (SBox (W2.setCell ⟨B, 17, none⟩ (.int .i64 ((s.place 1 : Nat) : Int))) B (s.add d)) := by rw [HS.out, if_neg h5]; exact HS2.out.setOld (s.place 1)
    have HG := hid (HC2.out.set (g := B) (Or.inl (by simp)) 17 (.int .i64 ((s.place 1 : Nat) : Int)))
    clear HS HC2 HS2
    go_wp2_with (go_at_call 115; (with_reducible_and_instances (refine hq.out.mono ?_)); rintro x v3 ⟨rfl, hv3⟩; obtain rfl := hv3.symm)
    go_end0
    exact ⟨⟨_, rfl⟩, HF.out, HG.out⟩
set_option maxHeartbeats 400000 in
theorem add_at4 (h : SBox w B s) (hok : s.ok) (d : Dn) (hpp : s.place s.cnt = 4) : Calls Tryz.prog 80 #[.pointer (some ⟨B, 2, none⟩), .agg #[.int .i64 d.seq, .int .i64 d.len, .int .i64 d.off]] w fun e w' => (∃ v, e = .returned v) ∧ SBox w' B (s.add d) ∧ Chg [B] w w' := by
  obtain ⟨W, hW⟩ : ∃ W, w.alloc (.cells #[.int .i64 d.seq, .int .i64 d.len, .int .i64 d.off] TDn) = W := ⟨_, rfl⟩
  have hb : Below w.heap.size w W := by rw [← hW]; exact (Below.refl _ _).alloc (Nat.le_refl _) _
  have hd : Blk W w.heap.size #[.int .i64 d.seq, .int .i64 d.len, .int .i64 d.off] TDn := by rw [← hW]; exact heap_alloc_new w _
  have hBl : B < w.heap.size := Blk.lt h
  have hs := h.later hb
  have hc5 := hok.cnt
  have hpl0 := place_any hs.drew hok.old s.cnt hc5
  rw [hpp] at hpl0
  have hpl : Hid (Calls Tryz.prog 115 #[.pointer (some ⟨B, 2, none⟩), .int .i64 (s.cnt : Int)] W.drew fun e w' => e = .returned (.int .i64 4) ∧ w' = W.drew) := hpl0
  have d0 : W.cell? ⟨w.heap.size, 0, none⟩ = some (.int .i64 d.seq) := hd.cell 0
  have d1 : W.cell? ⟨w.heap.size, 1, none⟩ = some (.int .i64 d.len) := hd.cell 1
  have d2 : W.cell? ⟨w.heap.size, 2, none⟩ = some (.int .i64 d.off) := hd.cell 2
  have c0 : W.cell? ⟨B, 14, none⟩ = some (.int .i64 (s.slot 4).seq) := Blk.cell hs 14
  have c1 : W.cell? ⟨B, 15, none⟩ = some (.int .i64 (s.slot 4).len) := Blk.cell hs 15
  have c2 : W.cell? ⟨B, 16, none⟩ = some (.int .i64 (s.slot 4).off) := Blk.cell hs 16
  have f0 := Blk.free hs 14
  have f1 := Blk.free hs 15
  have f2 := Blk.free hs 16
  have cc := hs.cnt
  obtain ⟨W2, hW2⟩ : ∃ W2, (((W.setCell ⟨B, 14, none⟩ (.int .i64 d.seq)).setCell ⟨B, 15, none⟩ (.int .i64 d.len)).setCell ⟨B, 16, none⟩ (.int .i64 d.off)).drew = W2 := ⟨_, rfl⟩
  have hs2 : SBox W2 B (s.put 4 d) := by rw [← hW2]; exact (hs.put 4 (by omega) d).drew
  have hc2 : Chg [B] w W2 := by rw [← hW2]; exact ((Chg.of (F := [B]) hb).trans (putW_chg W B 4 d) (fun k hk => Or.inl hk)).drew
  have HS : Hid (s.add d = if s.cnt < 5 then { s.put 4 d with cnt := s.cnt + 1 } else { s.put 4 d with old := s.place 1 }) := by unfold PSt.add; rw [hpp]; exact rfl
  have HO := hid hok.old
  generalize (s.slot 4).seq = x0 at *
  generalize (s.slot 4).len = x1 at *
  generalize (s.slot 4).off = x2 at *
  clear h hb hd hs hpp hok hpl0
  have HS2 := hid hs2
  have HC2 := hid hc2
  clear hs2 hc2
  go_enter Tryz.func80, Tryz.ntmps80
  go_wp2
  apply once
  case main =>
    intro hm
    go_region_with (go_at_call 115; (with_reducible_and_instances (refine hpl.out.mono ?_)); rintro x v2 ⟨rfl, hv2⟩; obtain rfl := hv2.symm)
    all_goals exact hm
  have q18 : W2.cell? ⟨B, 18, none⟩ = some (.int .i64 (s.cnt : Int)) := HS2.out.cnt
  have q17 : W2.cell? ⟨B, 17, none⟩ = some (.int .i64 (s.old : Int)) := HS2.out.old
  have g18 := Blk.free HS2.out 18
  have g17 := Blk.free HS2.out 17
  clear hW2 hW d0 d1 d2 c0 c1 c2 f0 f1 f2 cc hpl
  by_cases h5 : s.cnt < 5
  · have hd5 : decide ((s.cnt : Int) < 5) = true := by simp; omega
    have HF : Hid (SBox (W2.setCell ⟨B, 18, none⟩ (.int .i64 ((s.cnt : Int) + 1))) B (s.add d)) := by rw [HS.out, if_pos h5]; exact HS2.out.setCnt (s.cnt + 1)
    have HG := hid (HC2.out.set (g := B) (Or.inl (by simp)) 18 (.int .i64 ((s.cnt : Int) + 1)))
    clear HS HC2 HS2
    go_wp2
    go_end0
    exact ⟨⟨_, rfl⟩, HF.out, HG.out⟩
  · have hd5 : decide ((s.cnt : Int) < 5) = false := by simp; omega
    have hq := hid (place_any HS2.out HO.out 1 (by omega))
    have HF : Hid (SBox (W2.setCell ⟨B, 17, none⟩ (.int .i64 ((s.place 1 : Nat) : Int))) B (s.add d)) := by rw [HS.out, if_neg h5]; exact HS2.out.setOld (s.place 1)
    have HG := hid (HC2.out.set (g := B) (Or.inl (by simp)) 17 (.int .i64 ((s.place 1 : Nat) : Int)))
    clear HS HC2 HS2
    go_wp2_with (go_at_call 115; (with_reducible_and_instances (refine hq.out.mono ?_)); rintro x v3 ⟨rfl, hv3⟩; obtain rfl := hv3.symm)
    go_end0
    exact ⟨⟨_, rfl⟩, HF.out, HG.out⟩
theorem add_any (h : SBox w B s) (hok : s.ok) (d : Dn) : Calls Tryz.prog 80 #[.pointer (some ⟨B, 2, none⟩), .agg #[.int .i64 d.seq, .int .i64 d.len, .int .i64 d.off]] w fun e w' => (∃ v, e = .returned v) ∧ SBox w' B (s.add d) ∧ Chg [B] w w' := by
  have hp := s.place_lt s.cnt
  rcases (show s.place s.cnt = 0 ∨ s.place s.cnt = 1 ∨ s.place s.cnt = 2 ∨ s.place s.cnt = 3 ∨ s.place s.cnt = 4 by omega) with e | e | e | e | e
  · exact add_at0 h hok d e
  · exact add_at1 h hok d e
  · exact add_at2 h hok d e
  · exact add_at3 h hok d e
  · exact add_at4 h hok d e
end Go.Proofs.YtfgamkcnnijloaaGreat
