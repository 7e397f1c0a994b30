/- next and Send of package net. -/
import Derived.Test.YtgbjlkaaniaaaaaDoorNCalls
import Derived.Laws.StructEq
namespace Go.Proofs.YtgbjlkaaniaaaaaDoor
open Go.RowKit
variable {w : World} {F : List Nat} {D : Nat} {v1 v2 : Value} {s : NSt}

abbrev TF : TypeId := 60
def tabV : List Value := [.int .i64 1, .bool true, .bool false, .int .i64 0, .bool false, .bool false, .int .i64 1, .bool false, .bool false, .int .i64 0, .bool false, .bool true, .int .i64 2, .bool true, .bool false]
/-- The package's table of fates is there. -/
def Tab (w : World) : Prop := 0 < w.heap.size ∧ ∀ i, i < 15 → w.cell? ⟨0, i, none⟩ = tabV[i]?
theorem Tab.chg {w' : World} (h : Tab w) (hb : Chg F w w') (hn : 0 ∉ F) : Tab w' := ⟨Nat.lt_of_lt_of_le h.1 hb.size, fun i hi => (hb.cell h.1 hn).trans (h.2 i hi)⟩
theorem Tab.below {w' : World} (h : Tab w) (hb : Below w.heap.size w w') : Tab w' := h.chg (Chg.of (F := []) hb) (by simp)
theorem feq0 (w : World) : (binOp .eql TF (.agg #[.int .i64 1, .bool true, .bool false]) (.agg #[.int .i64 0, .bool false, .bool true])).run Tryd.prog w = .ok (.bool false) w := by kernel_rfl
theorem feq1 (w : World) : (binOp .eql TF (.agg #[.int .i64 0, .bool false, .bool false]) (.agg #[.int .i64 0, .bool false, .bool true])).run Tryd.prog w = .ok (.bool false) w := by kernel_rfl
theorem feq2 (w : World) : (binOp .eql TF (.agg #[.int .i64 1, .bool false, .bool false]) (.agg #[.int .i64 0, .bool false, .bool true])).run Tryd.prog w = .ok (.bool false) w := by kernel_rfl
theorem feq3 (w : World) : (binOp .eql TF (.agg #[.int .i64 0, .bool false, .bool true]) (.agg #[.int .i64 0, .bool false, .bool true])).run Tryd.prog w = .ok (.bool true) w := by kernel_rfl
theorem feq4 (w : World) : (binOp .eql TF (.agg #[.int .i64 2, .bool true, .bool false]) (.agg #[.int .i64 0, .bool false, .bool true])).run Tryd.prog w = .ok (.bool false) w := by kernel_rfl
theorem fguard (x y : Operand) (xs ys : Array Value) (w : World) : (eqGuard .eql TF x y (.agg xs) (.agg ys)).run Tryd.prog w = .ok () w := run_eqGuard_agg w .eql _ x y xs ys (by kernel_rfl)
set_option maxRecDepth 100000 in
set_option maxHeartbeats 1000000 in
theorem next_pic (h : NPic w F D v1 v2 s) : Calls Tryd.prog 26 #[.pointer (some ⟨D, 0, none⟩)] w fun e w' => e = .returned (.int .i64 (fateD s : Nat)) ∧ NMoved F D ⟨s.luck.tail, s.late⟩ w w' := by
  obtain ⟨-, c1, -⟩ := h.cells
  obtain ⟨luck, late⟩ := s
  cases luck with
  | nil =>
    obtain ⟨ad, cap, rfl, -, -⟩ := h.r1.form
    have hh := hasi_at ⟨D, 1, none⟩ ad 0 cap w c1 0
    have H := hide h
    clear h
    go_enter Tryd.func26, Tryd.ntmps26
    go_wp2_with (go_at_call 34; refine hh.mono ?_; rintro e w' ⟨rfl, hw'⟩; obtain rfl := hw'.symm)
    go_ret
    exact ⟨rfl, NMoved.refl ⟨_, _, H.out⟩⟩
  | cons x r =>
    obtain ⟨ad, cap, rfl, -, -⟩ := h.r1.form
    have hh : Calls Tryd.prog 34 #[.pointer (some ⟨D, 1, none⟩), .int .i64 0] w fun e w' => e = .returned (.bool true) ∧ w' = w := by
      refine (hasi_at ⟨D, 1, none⟩ ad _ cap w c1 0).mono ?_
      rintro e w' ⟨rfl, rfl⟩
      refine ⟨?_, rfl⟩
      congr 2
      simp
    have ht : Calls Tryd.prog 36 #[.pointer (some ⟨D, 1, none⟩), .int .i64 0] w fun e w' => e = .returned (.int .i64 x) ∧ NMoved F D ⟨r, late⟩ w w' := takeI_pic h 0 (by simp)
    have hr := rest_any x
    clear h
    go_enter Tryd.func26, Tryd.ntmps26
    go_wp2_with (first
      | (go_at_call 34; refine hh.mono ?_; rintro e w' ⟨rfl, hw'⟩; obtain rfl := hw'.symm)
      | (go_at_call 36; refine ht.mono ?_; rintro e w1 ⟨rfl, hw1⟩; have M1 := hide hw1; clear hw1)
      | (go_at_call 35; refine (hr _).mono ?_; rintro e w' ⟨rfl, hw'⟩; obtain rfl := hw'.symm))
    go_ret
    exact ⟨rfl, M1.out⟩
set_option maxRecDepth 100000 in
set_option maxHeartbeats 1000000 in
theorem send0_pic (h : NPic w F D v1 v2 s) (hT : Tab w) (h0 : 0 ∉ F) (hc : fateD s = 0) (to : Int) (ad : Option Addr) (len cap : Nat) : Calls Tryd.prog 12 #[.pointer (some ⟨D, 0, none⟩), .int .i64 to, .slice ad len cap] w fun e w' => e = .returned (.tuple #[.int .i64 1, .bool true]) ∧ NMoved F D ⟨s.luck.tail, s.late⟩ w w' := by
  have hm := made_pic h
  have hn := next_pic h
  rw [hc] at hn
  have HT := hide hT
  have H0 := hide h0
  clear h hT h0 hc
  go_enter Tryd.func12, Tryd.ntmps12
  go_wp2_with (go_at_call 8; refine hm.mono ?_; rintro e w' ⟨rfl, hw'⟩; obtain rfl := hw'.symm)
  refine hn.mono ?_
  rintro e w1 ⟨rfl, m1⟩
  have M1 := hide m1
  have T1 : Tab w1 := HT.out.chg m1.chg H0.out
  have t0 : w1.cell? ⟨0, 0, none⟩ = some (.int .i64 1) := T1.2 0 (by omega)
  have t1 : w1.cell? ⟨0, 1, none⟩ = some (.bool true) := T1.2 1 (by omega)
  have t2 : w1.cell? ⟨0, 2, none⟩ = some (.bool false) := T1.2 2 (by omega)
  have T2 : Tab (w1.alloc (.cells #[.int .i64 1, .bool true, .bool false] TF)) := T1.below ((Below.refl _ _).alloc (Nat.le_refl _) _)
  have l0 : (w1.alloc (.cells #[.int .i64 1, .bool true, .bool false] TF)).cell? ⟨0, 9, none⟩ = some (.int .i64 0) := T2.2 9 (by omega)
  have l1 : (w1.alloc (.cells #[.int .i64 1, .bool true, .bool false] TF)).cell? ⟨0, 10, none⟩ = some (.bool false) := T2.2 10 (by omega)
  have l2 : (w1.alloc (.cells #[.int .i64 1, .bool true, .bool false] TF)).cell? ⟨0, 11, none⟩ = some (.bool true) := T2.2 11 (by omega)
  have fe := feq0
  have fg := fguard
  clear m1 T1 T2
  go_wp2_with fail
  go_region_law (fail)
  all_goals go_wp2
  all_goals go_ret2
  all_goals exact ⟨rfl, M1.out.later (((Below.refl _ _).alloc (Nat.le_refl _) _).drew)⟩
set_option maxRecDepth 100000 in
set_option maxHeartbeats 1000000 in
theorem send1_pic (h : NPic w F D v1 v2 s) (hT : Tab w) (h0 : 0 ∉ F) (hc : fateD s = 1) (to : Int) (ad : Option Addr) (len cap : Nat) : Calls Tryd.prog 12 #[.pointer (some ⟨D, 0, none⟩), .int .i64 to, .slice ad len cap] w fun e w' => e = .returned (.tuple #[.int .i64 0, .bool false]) ∧ NMoved F D ⟨s.luck.tail, s.late⟩ w w' := by
  have hm := made_pic h
  have hn := next_pic h
  rw [hc] at hn
  have HT := hide hT
  have H0 := hide h0
  clear h hT h0 hc
  go_enter Tryd.func12, Tryd.ntmps12
  go_wp2_with (go_at_call 8; refine hm.mono ?_; rintro e w' ⟨rfl, hw'⟩; obtain rfl := hw'.symm)
  refine hn.mono ?_
  rintro e w1 ⟨rfl, m1⟩
  have M1 := hide m1
  have T1 : Tab w1 := HT.out.chg m1.chg H0.out
  have t0 : w1.cell? ⟨0, 3, none⟩ = some (.int .i64 0) := T1.2 3 (by omega)
  have t1 : w1.cell? ⟨0, 4, none⟩ = some (.bool false) := T1.2 4 (by omega)
  have t2 : w1.cell? ⟨0, 5, none⟩ = some (.bool false) := T1.2 5 (by omega)
  have T2 : Tab (w1.alloc (.cells #[.int .i64 0, .bool false, .bool false] TF)) := T1.below ((Below.refl _ _).alloc (Nat.le_refl _) _)
  have l0 : (w1.alloc (.cells #[.int .i64 0, .bool false, .bool false] TF)).cell? ⟨0, 9, none⟩ = some (.int .i64 0) := T2.2 9 (by omega)
  have l1 : (w1.alloc (.cells #[.int .i64 0, .bool false, .bool false] TF)).cell? ⟨0, 10, none⟩ = some (.bool false) := T2.2 10 (by omega)
  have l2 : (w1.alloc (.cells #[.int .i64 0, .bool false, .bool false] TF)).cell? ⟨0, 11, none⟩ = some (.bool true) := T2.2 11 (by omega)
  have fe := feq1
  have fg := fguard
  clear m1 T1 T2
  go_wp2_with fail
  go_region_law (fail)
  all_goals go_wp2
  all_goals go_ret2
  all_goals exact ⟨rfl, M1.out.later (((Below.refl _ _).alloc (Nat.le_refl _) _).drew)⟩
set_option maxRecDepth 100000 in
set_option maxHeartbeats 1000000 in
theorem send2_pic (h : NPic w F D v1 v2 s) (hT : Tab w) (h0 : 0 ∉ F) (hc : fateD s = 2) (to : Int) (ad : Option Addr) (len cap : Nat) : Calls Tryd.prog 12 #[.pointer (some ⟨D, 0, none⟩), .int .i64 to, .slice ad len cap] w fun e w' => e = .returned (.tuple #[.int .i64 1, .bool false]) ∧ NMoved F D ⟨s.luck.tail, s.late⟩ w w' := by
  have hm := made_pic h
  have hn := next_pic h
  rw [hc] at hn
  have HT := hide hT
  have H0 := hide h0
  clear h hT h0 hc
  go_enter Tryd.func12, Tryd.ntmps12
  go_wp2_with (go_at_call 8; refine hm.mono ?_; rintro e w' ⟨rfl, hw'⟩; obtain rfl := hw'.symm)
  refine hn.mono ?_
  rintro e w1 ⟨rfl, m1⟩
  have M1 := hide m1
  have T1 : Tab w1 := HT.out.chg m1.chg H0.out
  have t0 : w1.cell? ⟨0, 6, none⟩ = some (.int .i64 1) := T1.2 6 (by omega)
  have t1 : w1.cell? ⟨0, 7, none⟩ = some (.bool false) := T1.2 7 (by omega)
  have t2 : w1.cell? ⟨0, 8, none⟩ = some (.bool false) := T1.2 8 (by omega)
  have T2 : Tab (w1.alloc (.cells #[.int .i64 1, .bool false, .bool false] TF)) := T1.below ((Below.refl _ _).alloc (Nat.le_refl _) _)
  have l0 : (w1.alloc (.cells #[.int .i64 1, .bool false, .bool false] TF)).cell? ⟨0, 9, none⟩ = some (.int .i64 0) := T2.2 9 (by omega)
  have l1 : (w1.alloc (.cells #[.int .i64 1, .bool false, .bool false] TF)).cell? ⟨0, 10, none⟩ = some (.bool false) := T2.2 10 (by omega)
  have l2 : (w1.alloc (.cells #[.int .i64 1, .bool false, .bool false] TF)).cell? ⟨0, 11, none⟩ = some (.bool true) := T2.2 11 (by omega)
  have fe := feq2
  have fg := fguard
  clear m1 T1 T2
  go_wp2_with fail
  go_region_law (fail)
  all_goals go_wp2
  all_goals go_ret2
  all_goals exact ⟨rfl, M1.out.later (((Below.refl _ _).alloc (Nat.le_refl _) _).drew)⟩
set_option maxRecDepth 100000 in
set_option maxHeartbeats 1000000 in
theorem send4_pic (h : NPic w F D v1 v2 s) (hT : Tab w) (h0 : 0 ∉ F) (hc : fateD s = 4) (to : Int) (ad : Option Addr) (len cap : Nat) : Calls Tryd.prog 12 #[.pointer (some ⟨D, 0, none⟩), .int .i64 to, .slice ad len cap] w fun e w' => e = .returned (.tuple #[.int .i64 2, .bool true]) ∧ NMoved F D ⟨s.luck.tail, s.late⟩ w w' := by
  have hm := made_pic h
  have hn := next_pic h
  rw [hc] at hn
  have HT := hide hT
  have H0 := hide h0
  clear h hT h0 hc
  go_enter Tryd.func12, Tryd.ntmps12
  go_wp2_with (go_at_call 8; refine hm.mono ?_; rintro e w' ⟨rfl, hw'⟩; obtain rfl := hw'.symm)
  refine hn.mono ?_
  rintro e w1 ⟨rfl, m1⟩
  have M1 := hide m1
  have T1 : Tab w1 := HT.out.chg m1.chg H0.out
  have t0 : w1.cell? ⟨0, 12, none⟩ = some (.int .i64 2) := T1.2 12 (by omega)
  have t1 : w1.cell? ⟨0, 13, none⟩ = some (.bool true) := T1.2 13 (by omega)
  have t2 : w1.cell? ⟨0, 14, none⟩ = some (.bool false) := T1.2 14 (by omega)
  have T2 : Tab (w1.alloc (.cells #[.int .i64 2, .bool true, .bool false] TF)) := T1.below ((Below.refl _ _).alloc (Nat.le_refl _) _)
  have l0 : (w1.alloc (.cells #[.int .i64 2, .bool true, .bool false] TF)).cell? ⟨0, 9, none⟩ = some (.int .i64 0) := T2.2 9 (by omega)
  have l1 : (w1.alloc (.cells #[.int .i64 2, .bool true, .bool false] TF)).cell? ⟨0, 10, none⟩ = some (.bool false) := T2.2 10 (by omega)
  have l2 : (w1.alloc (.cells #[.int .i64 2, .bool true, .bool false] TF)).cell? ⟨0, 11, none⟩ = some (.bool true) := T2.2 11 (by omega)
  have fe := feq4
  have fg := fguard
  clear m1 T1 T2
  go_wp2_with fail
  go_region_law (fail)
  all_goals go_wp2
  all_goals go_ret2
  all_goals exact ⟨rfl, M1.out.later (((Below.refl _ _).alloc (Nat.le_refl _) _).drew)⟩
set_option maxRecDepth 100000 in
set_option maxHeartbeats 1000000 in
theorem send3_pic (h : NPic w F D v1 v2 s) (hT : Tab w) (h0 : 0 ∉ F) (hc : fateD s = 3) (to : Int) (hto : fits to) (ad : Option Addr) (len cap : Nat) (l : List Nat) (hp : Part.ok w ⟨ad, len, cap, l⟩) (hn0 : ∀ b off, ad = some ⟨b, off, none⟩ → l ≠ [] → b ∉ F) (hb : s.late.length + 1 ≤ 4398046511104) :
    Calls Tryd.prog 12 #[.pointer (some ⟨D, 0, none⟩), .int .i64 to, .slice ad len cap] w fun e w' => e = .returned (.tuple #[.int .i64 0, .bool false]) ∧ NMoved F D ⟨s.luck.tail, s.late ++ [⟨to, l⟩]⟩ w w' := by
  have hm := made_pic h
  have hn := next_pic h
  rw [hc] at hn
  have HT := hide hT
  have H0 := hide h0
  have HP := hide hp
  have HN0 := hide hn0
  have HB := hide hb
  have HTO := hide hto
  clear h hT h0 hc hp hn0 hb hto
  go_enter Tryd.func12, Tryd.ntmps12
  go_wp2_with (go_at_call 8; refine hm.mono ?_; rintro e w' ⟨rfl, hw'⟩; obtain rfl := hw'.symm)
  refine hn.mono ?_
  rintro e w1 ⟨rfl, m1⟩
  have M1 := hide m1
  have T1 : Tab w1 := HT.out.chg m1.chg H0.out
  have t0 : w1.cell? ⟨0, 9, none⟩ = some (.int .i64 0) := T1.2 9 (by omega)
  have t1 : w1.cell? ⟨0, 10, none⟩ = some (.bool false) := T1.2 10 (by omega)
  have t2 : w1.cell? ⟨0, 11, none⟩ = some (.bool true) := T1.2 11 (by omega)
  have T2 : Tab (w1.alloc (.cells #[.int .i64 0, .bool false, .bool true] TF)) := T1.below ((Below.refl _ _).alloc (Nat.le_refl _) _)
  have l0 : (w1.alloc (.cells #[.int .i64 0, .bool false, .bool true] TF)).cell? ⟨0, 9, none⟩ = some (.int .i64 0) := T2.2 9 (by omega)
  have l1 : (w1.alloc (.cells #[.int .i64 0, .bool false, .bool true] TF)).cell? ⟨0, 10, none⟩ = some (.bool false) := T2.2 10 (by omega)
  have l2 : (w1.alloc (.cells #[.int .i64 0, .bool false, .bool true] TF)).cell? ⟨0, 11, none⟩ = some (.bool true) := T2.2 11 (by omega)
  have fe := feq3
  have fg := fguard
  have b1 : Below w1.heap.size w1 (w1.alloc (.cells #[.int .i64 0, .bool false, .bool true] TF)).drew := ((Below.refl _ _).alloc (Nat.le_refl _) _).drew
  have p1 : Part.ok (w1.alloc (.cells #[.int .i64 0, .bool false, .bool true] TF)).drew ⟨ad, len, cap, l⟩ := (HP.out.chg m1.chg HN0.out).later b1
  have cv := conv_any p1.2.2 len cap p1.1
  have hlb : ∀ x ∈ l, x < 256 := HP.out.2.2.1
  obtain ⟨y, hy⟩ : ∃ y, y = bstr l := ⟨_, rfl⟩
  simp only at cv
  rw [← hy] at cv
  have b2 : Below w1.heap.size w1 ((w1.alloc (.cells #[.int .i64 0, .bool false, .bool true] TF)).drew.alloc (.cells #[.int .i64 to, .string y] TM)) := b1.alloc (by simp) _
  obtain ⟨F1, ⟨u1, u2, hp1⟩, hF1⟩ := m1.net
  have hadd := addm_pic (hp1.below b2) (some ⟨w1.heap.size + 1, 0, none⟩) 1 1 [⟨to, l⟩] rfl (fun m hm => by simp at hm; subst hm; exact ⟨HTO.out, hlb⟩) (Or.inr ⟨_, rfl, fun j u hu => by
      have hb1 := heap_alloc_last (w1.alloc (.cells #[.int .i64 0, .bool false, .bool true] TF)).drew (.cells #[.int .i64 to, .string y] TM)
      have e : (w1.alloc (.cells #[.int .i64 0, .bool false, .bool true] TF)).drew.heap.size = w1.heap.size + 1 := by simp
      rw [e] at hb1
      rw [addr_add, cell_of_row _ _ _ _ _ _ hb1, Nat.zero_add, hy]
      simpa [lateV, msgV] using hu⟩) HB.out
  have hbx : Blk ((w1.alloc (.cells #[.int .i64 0, .bool false, .bool true] TF)).drew.alloc (.cells #[.int .i64 to, .string y] TM)) w1.heap.size #[.int .i64 0, .bool false, .bool true] TF := by
    have := heap_alloc2_old w1 (.cells #[.int .i64 0, .bool false, .bool true] TF) (.cells #[.int .i64 to, .string y] TM)
    exact this
  have hnF : w1.heap.size ∉ F1 := fun hm => by have := hp1.lt _ hm; omega
  have HX := hide hbx
  have HNF := hide hnF
  have B2 := hide b2
  have HF1 := hide hF1
  clear m1 T1 T2 b1 b2 p1 hy hlb hp1 hF1 hbx hnF
  go_wp2_with fail
  go_region_with (go_at_call 27; refine hadd.mono ?_; rintro e w3 ⟨rfl, m3⟩; have M3 := hide m3; have X3 : Blk w3 w1.heap.size #[.int .i64 0, .bool false, .bool true] TF := HX.out.chg m3.chg HNF.out; have r0 : w3.cell? ⟨w1.heap.size, 0, none⟩ = some (.int .i64 0) := X3.cell 0; have r1 : w3.cell? ⟨w1.heap.size, 1, none⟩ = some (.bool false) := X3.cell 1; clear m3 X3)
  all_goals go_wp2_with fail
  all_goals go_region_law (fail)
  all_goals go_wp2
  all_goals go_ret2
  all_goals exact ⟨rfl, (M3.out.after B2.out |>.comp M1.out HF1.out).later ((Below.refl _ _).drew)⟩
/-- What Send answers and leaves. -/
theorem send_pic (h : NPic w F D v1 v2 s) (hT : Tab w) (h0 : 0 ∉ F) (to : Int) (hto : fits to) (ad : Option Addr) (len cap : Nat) (l : List Nat) (hp : Part.ok w ⟨ad, len, cap, l⟩) (hn0 : ∀ b off, ad = some ⟨b, off, none⟩ → l ≠ [] → b ∉ F) (hb : s.late.length + 1 ≤ 4398046511104) :
    Calls Tryd.prog 12 #[.pointer (some ⟨D, 0, none⟩), .int .i64 to, .slice ad len cap] w fun e w' => e = .returned (.tuple #[.int .i64 (timesN (fateD s)), .bool (replyN (fateD s))]) ∧ NMoved F D (sendD s to l) w w' := by
  have hlt := fateD_lt s
  unfold sendD
  rcases (show fateD s = 0 ∨ fateD s = 1 ∨ fateD s = 2 ∨ fateD s = 3 ∨ fateD s = 4 by omega) with hc | hc | hc | hc | hc
  · rw [hc]; exact send0_pic h hT h0 hc to ad len cap
  · rw [hc]; exact send1_pic h hT h0 hc to ad len cap
  · rw [hc]; exact send2_pic h hT h0 hc to ad len cap
  · rw [hc]; exact send3_pic h hT h0 hc to hto ad len cap l hp hn0 hb
  · rw [hc]; exact send4_pic h hT h0 hc to ad len cap
end Go.Proofs.YtgbjlkaaniaaaaaDoor
