/- insistEvent of package group (by geninsist15.py). -/
import Derived.Test.YtipgociofjokeaaGreatPGTk
import Derived.Test.YtipgociofjokeaaGreatGEq
import Derived.Deep.RegionHeld3
import Derived.OrdersHeld
namespace Go.Proofs.YtipgociofjokeaaGreat
open Go.RowKit
variable {w w' : World}

theorem ev_guard (x y : Operand) (xs ys : Array Value) (w : World) : (eqGuard .eql TEv x y (.agg xs) (.agg ys)).run Tryz.prog w = .ok () w := run_eqGuard_agg w .eql _ x y xs ys (by kernel_rfl)
theorem exec_eql {a : Act} {o : Oper} (x y : Ev) (p q : Operand) (ho : o.op = .binOp .eql TEv p q TEv) (h1 : a.eval p = .agg (evA x)) (h2 : a.eval q = .agg (evA y)) : (execOp a.eval o).run Tryz.prog w = .ok (.value (.bool (decide (x = y)))) w := by
  unfold execOp
  simp only [ho, h1, h2, Sem.run_bind, ev_eql, ev_guard, Sem.run_pure, Result.andThen_ok]
set_option maxRecDepth 100000 in
theorem idx_at (a b c d e f : Int) (W : World) : (Instr.index 71 (.agg #[.int .i64 a, .int .i64 b, .int .i64 c, .int .i64 d, .int .i64 e, .int .i64 f]) (.int .i64 0)).run Tryz.prog W = .ok (.int .i64 a) W ∧ (Instr.index 71 (.agg #[.int .i64 a, .int .i64 b, .int .i64 c, .int .i64 d, .int .i64 e, .int .i64 f]) (.int .i64 1)).run Tryz.prog W = .ok (.int .i64 b) W ∧ (Instr.index 71 (.agg #[.int .i64 a, .int .i64 b, .int .i64 c, .int .i64 d, .int .i64 e, .int .i64 f]) (.int .i64 2)).run Tryz.prog W = .ok (.int .i64 c) W ∧ (Instr.index 71 (.agg #[.int .i64 a, .int .i64 b, .int .i64 c, .int .i64 d, .int .i64 e, .int .i64 f]) (.int .i64 3)).run Tryz.prog W = .ok (.int .i64 d) W ∧ (Instr.index 71 (.agg #[.int .i64 a, .int .i64 b, .int .i64 c, .int .i64 d, .int .i64 e, .int .i64 f]) (.int .i64 4)).run Tryz.prog W = .ok (.int .i64 e) W ∧ (Instr.index 71 (.agg #[.int .i64 a, .int .i64 b, .int .i64 c, .int .i64 d, .int .i64 e, .int .i64 f]) (.int .i64 5)).run Tryz.prog W = .ok (.int .i64 f) W := by
  refine ⟨?_, ?_, ?_, ?_, ?_, ?_⟩ <;> kernel_rfl
def numL (x : Ev) : List Int := [x.gen, x.part, x.off, x.prod, x.ep, x.now]
set_option maxRecDepth 100000 in
set_option maxHeartbeats 4000000 in
theorem insistEvent_any (x : Ev) (y : Int) (w : World) : Calls Tryz.prog 23 #[.agg (evA x), .int .i64 y] w fun r w' => r = insC (decide x.may) y ∧ Below w.heap.size w w' := by
  have HNu := hid (numbers_any x)
  have HMay : Hid (((1 ≤ x.kind ∧ x.kind < 8) ∧ x = x.taken ∧ nameOk x.mem = x.isM ∧ (∀ i, i < 6 → inN ((numL x).getD i 0)) ∧ x.part < 32 ∧ x.ep ≤ 2147483647) ↔ x.may) := by
    refine ⟨fun ⟨h1, h2, h3, h4, h5, h6⟩ => ⟨h1, h2, h3, ⟨h4 0 (by omega), h4 1 (by omega), h4 2 (by omega), h4 3 (by omega), h4 4 (by omega), h4 5 (by omega)⟩, h5, h6⟩, fun ⟨h1, h2, h3, ⟨n0, n1, n2, n3, n4, n5⟩, h5, h6⟩ => ⟨h1, h2, h3, fun i hi => ?_, h5, h6⟩⟩
    rcases (show i = 0 ∨ i = 1 ∨ i = 2 ∨ i = 3 ∨ i = 4 ∨ i = 5 by omega) with rfl | rfl | rfl | rfl | rfl | rfl
    · exact n0
    · exact n1
    · exact n2
    · exact n3
    · exact n4
    · exact n5
  have HT := hid (taken_any x)
  have HN := hid (isName_any x.mem)
  have HI := hid (isMembers_any x)
  obtain ⟨mx, hmx⟩ : ∃ mx, x.may = mx := ⟨_, rfl⟩
  obtain ⟨im, him⟩ : ∃ im, x.isM = im := ⟨_, rfl⟩
  obtain ⟨k, s, a, b, c, d, e, f, q⟩ := x
  obtain ⟨t, ht⟩ : ∃ t, nmS s = t := ⟨_, rfl⟩
  obtain ⟨TV, hTV⟩ : ∃ TV, Value.agg (evA (Ev.taken ⟨k, s, a, b, c, d, e, f, q⟩)) = TV := ⟨_, rfl⟩
  rw [hTV] at HT
  dsimp only [evA] at HT HN HI HNu
  show Calls Tryz.prog 23 #[.agg #[.int .i64 k, .string (nmS s), .int .i64 a, .int .i64 b, .int .i64 c, .int .i64 d, .int .i64 e, .int .i64 f, .bool q], .int .i64 y] w _
  rw [ht] at HT HN HI HNu ⊢
  rw [him] at HI
  obtain ⟨W1, hW1⟩ : ∃ W1, w.alloc (.cells #[.int .i64 k, .string t, .int .i64 a, .int .i64 b, .int .i64 c, .int .i64 d, .int .i64 e, .int .i64 f, .bool q] TEv) = W1 := ⟨_, rfl⟩
  have b1 : Below w.heap.size w W1 := by rw [← hW1]; exact (Below.refl _ _).alloc (Nat.le_refl _) _
  have x1 : Blk W1 w.heap.size #[.int .i64 k, .string t, .int .i64 a, .int .i64 b, .int .i64 c, .int .i64 d, .int .i64 e, .int .i64 f, .bool q] TEv := by rw [← hW1]; exact heap_alloc_new w _
  have HB1 := hid b1
  have HS : Hid (∀ W, Below W1.heap.size W1 W → (W.cell? ⟨w.heap.size, 0, none⟩ = some (.int .i64 k)) ∧ (W.cell? ⟨w.heap.size, 1, none⟩ = some (.string t)) ∧ (W.cell? ⟨w.heap.size, 2, none⟩ = some (.int .i64 a)) ∧ (W.cell? ⟨w.heap.size, 3, none⟩ = some (.int .i64 b)) ∧ (W.cell? ⟨w.heap.size, 4, none⟩ = some (.int .i64 c)) ∧ (W.cell? ⟨w.heap.size, 5, none⟩ = some (.int .i64 d)) ∧ (W.cell? ⟨w.heap.size, 6, none⟩ = some (.int .i64 e)) ∧ (W.cell? ⟨w.heap.size, 7, none⟩ = some (.int .i64 f)) ∧ (W.cell? ⟨w.heap.size, 8, none⟩ = some (.bool q))) := fun W hW => by
    have hx := x1.later hW
    exact ⟨hx.cell 0, hx.cell 1, hx.cell 2, hx.cell 3, hx.cell 4, hx.cell 5, hx.cell 6, hx.cell 7, hx.cell 8⟩
  have HSA : Hid (∀ W2, Below W1.heap.size W1 W2 → ((W2.drew.alloc (.cells #[.int .i64 k, .string t, .int .i64 a, .int .i64 b, .int .i64 c, .int .i64 d, .int .i64 e, .int .i64 f, .bool q] TEv)).cell? ⟨w.heap.size, 0, none⟩ = some (.int .i64 k)) ∧ ((W2.drew.alloc (.cells #[.int .i64 k, .string t, .int .i64 a, .int .i64 b, .int .i64 c, .int .i64 d, .int .i64 e, .int .i64 f, .bool q] TEv)).cell? ⟨w.heap.size, 1, none⟩ = some (.string t)) ∧ ((W2.drew.alloc (.cells #[.int .i64 k, .string t, .int .i64 a, .int .i64 b, .int .i64 c, .int .i64 d, .int .i64 e, .int .i64 f, .bool q] TEv)).cell? ⟨w.heap.size, 2, none⟩ = some (.int .i64 a)) ∧ ((W2.drew.alloc (.cells #[.int .i64 k, .string t, .int .i64 a, .int .i64 b, .int .i64 c, .int .i64 d, .int .i64 e, .int .i64 f, .bool q] TEv)).cell? ⟨w.heap.size, 3, none⟩ = some (.int .i64 b)) ∧ ((W2.drew.alloc (.cells #[.int .i64 k, .string t, .int .i64 a, .int .i64 b, .int .i64 c, .int .i64 d, .int .i64 e, .int .i64 f, .bool q] TEv)).cell? ⟨w.heap.size, 4, none⟩ = some (.int .i64 c)) ∧ ((W2.drew.alloc (.cells #[.int .i64 k, .string t, .int .i64 a, .int .i64 b, .int .i64 c, .int .i64 d, .int .i64 e, .int .i64 f, .bool q] TEv)).cell? ⟨w.heap.size, 5, none⟩ = some (.int .i64 d)) ∧ ((W2.drew.alloc (.cells #[.int .i64 k, .string t, .int .i64 a, .int .i64 b, .int .i64 c, .int .i64 d, .int .i64 e, .int .i64 f, .bool q] TEv)).cell? ⟨w.heap.size, 6, none⟩ = some (.int .i64 e)) ∧ ((W2.drew.alloc (.cells #[.int .i64 k, .string t, .int .i64 a, .int .i64 b, .int .i64 c, .int .i64 d, .int .i64 e, .int .i64 f, .bool q] TEv)).cell? ⟨w.heap.size, 7, none⟩ = some (.int .i64 f)) ∧ ((W2.drew.alloc (.cells #[.int .i64 k, .string t, .int .i64 a, .int .i64 b, .int .i64 c, .int .i64 d, .int .i64 e, .int .i64 f, .bool q] TEv)).cell? ⟨w.heap.size, 8, none⟩ = some (.bool q))) := fun W2 hW => HS.out _ (hW.drew.alloc (by have := hW.size; simpa using this) _)
  have HBA : Hid (∀ W2, Below W1.heap.size W1 W2 → Below w.heap.size w (W2.drew.alloc (.cells #[.int .i64 k, .string t, .int .i64 a, .int .i64 b, .int .i64 c, .int .i64 d, .int .i64 e, .int .i64 f, .bool q] TEv))) := fun W2 hW => HB1.out.trans ((hW.drew.alloc (by have := hW.size; simpa using this) _).mono HB1.out.size)
  obtain ⟨c0, c1, c2, c3, c4, c5, c6, c7, c8⟩ := HS.out W1 (Below.refl _ _)
  clear b1 x1
  by_cases a1 : 1 ≤ k
  case neg =>
    rw [insC_no (fun hh => a1 (HMay.out.2 hh).1.1)]
    have d1 : decide (1 ≤ k) = false := by simpa using a1
    go_enter Tryz.func23, Tryz.ntmps23
    go_wp2_with (go_at_call 22; refine (insist_no y _).mono ?_; rintro r w9 ⟨rfl, hw9⟩; obtain rfl := hw9.symm)
    exact ⟨rfl, rfl, HB1.out⟩
  have d1 : decide (1 ≤ k) = true := by simpa using a1
  by_cases a2 : k < 8
  case neg =>
    rw [insC_no (fun hh => a2 (HMay.out.2 hh).1.2)]
    have d2 : decide (k < 8) = false := by simpa using a2
    go_enter Tryz.func23, Tryz.ntmps23
    go_wp2_with (go_at_call 22; refine (insist_no y _).mono ?_; rintro r w9 ⟨rfl, hw9⟩; obtain rfl := hw9.symm)
    exact ⟨rfl, rfl, HB1.out⟩
  have d2 : decide (k < 8) = true := by simpa using a2
  by_cases a3 : (⟨k, s, a, b, c, d, e, f, q⟩ : Ev) = Ev.taken ⟨k, s, a, b, c, d, e, f, q⟩
  case neg =>
    rw [insC_no (fun hh => a3 (HMay.out.2 hh).2.1)]
    have hcmp : decide ((⟨k, s, a, b, c, d, e, f, q⟩ : Ev) = Ev.taken ⟨k, s, a, b, c, d, e, f, q⟩) = false := decide_eq_false a3
    go_enter Tryz.func23, Tryz.ntmps23
    go_wp2_with (go_at_call 22; refine (insist_ok y _).mono ?_; rintro r w9 ⟨rfl, hw9⟩; obtain rfl := hw9.symm)
    refine wp_region_held_drew (S := fun W => (W.cell? ⟨w.heap.size, 0, none⟩ = some (.int .i64 k)) ∧ (W.cell? ⟨w.heap.size, 1, none⟩ = some (.string t)) ∧ (W.cell? ⟨w.heap.size, 2, none⟩ = some (.int .i64 a)) ∧ (W.cell? ⟨w.heap.size, 3, none⟩ = some (.int .i64 b)) ∧ (W.cell? ⟨w.heap.size, 4, none⟩ = some (.int .i64 c)) ∧ (W.cell? ⟨w.heap.size, 5, none⟩ = some (.int .i64 d)) ∧ (W.cell? ⟨w.heap.size, 6, none⟩ = some (.int .i64 e)) ∧ (W.cell? ⟨w.heap.size, 7, none⟩ = some (.int .i64 f)) ∧ (W.cell? ⟨w.heap.size, 8, none⟩ = some (.bool q))) (by kernel_rfl) (HS.out _ (Below.refl _ W1).drew) (fun hHeld => ?_)
    refine wpAnyH_take (i := 0) (oi := { dst := some 16, op := Op.load 31 (Operand.tmp 2), type := 31, pos := "event.go:62", after := #[], guard := none }) (v := ?_) rfl (by kernel_rfl) (by kernel_rfl) (by kernel_rfl) (fun _ _ _ h => h) (Or.inl ⟨by rfl, ?_⟩) hHeld ?_
    rotate_left
    · intro w hSw; (try dsimp only at hSw); go_simp; try with_reducible rfl
    try simp only [Act.put, List.setIfInBounds_toArray, List.set_cons_zero, List.set_cons_succ]
    refine wpAnyH_take (i := 1) (oi := { dst := some 17, op := Op.load 31 (Operand.tmp 2), type := 31, pos := "event.go:62", after := #[], guard := none }) (v := ?_) rfl (by kernel_rfl) (by kernel_rfl) (by kernel_rfl) (fun _ _ _ h => h) (Or.inl ⟨by rfl, ?_⟩) hHeld ?_
    rotate_left
    · intro w hSw; (try dsimp only at hSw); go_simp; try with_reducible rfl
    try simp only [Act.put, List.setIfInBounds_toArray, List.set_cons_zero, List.set_cons_succ]
    refine wpAnyH_take (i := 4) (oi := { dst := some 20, op := Op.move (Operand.tmp 1), type := 24, pos := "event.go:62", after := #[], guard := none }) (v := ?_) rfl (by kernel_rfl) (by kernel_rfl) (by kernel_rfl) (fun _ _ _ h => h) (Or.inl ⟨by rfl, ?_⟩) hHeld ?_
    rotate_left
    · intro w hSw; (try dsimp only at hSw); go_simp; try with_reducible rfl
    try simp only [Act.put, List.setIfInBounds_toArray, List.set_cons_zero, List.set_cons_succ]
    refine wpAnyH_ready (rs := [2]) (by kernel_rfl) (by simp) ?_
    refine AllReadyH.cons rfl (fun K hK => ?_) (AllReadyH.nil)
    go_simp
    go_wp2_with (go_at_call 36; refine (HT.out _).mono ?_; rintro r W2 ⟨rfl, hb2⟩; have HB2 := hid ((Below.refl _ W1).drew.trans hb2); clear hb2)
    refine hK.out _ _ (HS.out _ HB2.out) (fun hHeld => ?_)
    clear hK K
    refine wpAnyH_take (i := 3) (oi := { dst := some 19, op := Op.binOp BinOp.eql 31 (Operand.tmp 16) (Operand.tmp 18) 31, type := 4, pos := "event.go:62", after := #[{ on := 0, ground := Ground.data }, { on := 2, ground := Ground.data }], guard := none }) (v := .bool false) rfl (by kernel_rfl) (by kernel_rfl) (by kernel_rfl) (fun _ _ _ h => h) (Or.inl ⟨by rfl, ?_⟩) hHeld ?_
    · intro w hSw; rw [← hcmp]; exact exec_eql ⟨k, s, a, b, c, d, e, f, q⟩ (Ev.taken ⟨k, s, a, b, c, d, e, f, q⟩) (.tmp 16) (.tmp 18) (by rfl) (by subst ht; rfl) (by rw [hTV]; rfl)
    refine wpAnyH_ready (rs := [5]) (by kernel_rfl) (by simp) ?_
    refine AllReadyH.cons rfl (fun K hK => ?_) (AllReadyH.nil)
    go_simp
    go_wp2_with (go_at_call 22; refine (insist_no y _).mono ?_; rintro r w9 ⟨rfl, hw9⟩; obtain rfl := hw9.symm)
    exact ⟨rfl, rfl, HB1.out.trans (HB2.out.mono HB1.out.size)⟩
  have hcmp : decide ((⟨k, s, a, b, c, d, e, f, q⟩ : Ev) = Ev.taken ⟨k, s, a, b, c, d, e, f, q⟩) = true := decide_eq_true a3
  by_cases a4 : nameOk s = im
  case neg =>
    rw [insC_no (fun hh => a4 (him ▸ (HMay.out.2 hh).2.2.1))]
    have d4 : (nameOk s == im) = false := by simpa using a4
    go_enter Tryz.func23, Tryz.ntmps23
    go_wp2_with (go_at_call 22; refine (insist_ok y _).mono ?_; rintro r w9 ⟨rfl, hw9⟩; obtain rfl := hw9.symm)
    refine wp_region_held_drew (S := fun W => (W.cell? ⟨w.heap.size, 0, none⟩ = some (.int .i64 k)) ∧ (W.cell? ⟨w.heap.size, 1, none⟩ = some (.string t)) ∧ (W.cell? ⟨w.heap.size, 2, none⟩ = some (.int .i64 a)) ∧ (W.cell? ⟨w.heap.size, 3, none⟩ = some (.int .i64 b)) ∧ (W.cell? ⟨w.heap.size, 4, none⟩ = some (.int .i64 c)) ∧ (W.cell? ⟨w.heap.size, 5, none⟩ = some (.int .i64 d)) ∧ (W.cell? ⟨w.heap.size, 6, none⟩ = some (.int .i64 e)) ∧ (W.cell? ⟨w.heap.size, 7, none⟩ = some (.int .i64 f)) ∧ (W.cell? ⟨w.heap.size, 8, none⟩ = some (.bool q))) (by kernel_rfl) (HS.out _ (Below.refl _ W1).drew) (fun hHeld => ?_)
    refine wpAnyH_take (i := 0) (oi := { dst := some 16, op := Op.load 31 (Operand.tmp 2), type := 31, pos := "event.go:62", after := #[], guard := none }) (v := ?_) rfl (by kernel_rfl) (by kernel_rfl) (by kernel_rfl) (fun _ _ _ h => h) (Or.inl ⟨by rfl, ?_⟩) hHeld ?_
    rotate_left
    · intro w hSw; (try dsimp only at hSw); go_simp; try with_reducible rfl
    try simp only [Act.put, List.setIfInBounds_toArray, List.set_cons_zero, List.set_cons_succ]
    refine wpAnyH_take (i := 1) (oi := { dst := some 17, op := Op.load 31 (Operand.tmp 2), type := 31, pos := "event.go:62", after := #[], guard := none }) (v := ?_) rfl (by kernel_rfl) (by kernel_rfl) (by kernel_rfl) (fun _ _ _ h => h) (Or.inl ⟨by rfl, ?_⟩) hHeld ?_
    rotate_left
    · intro w hSw; (try dsimp only at hSw); go_simp; try with_reducible rfl
    try simp only [Act.put, List.setIfInBounds_toArray, List.set_cons_zero, List.set_cons_succ]
    refine wpAnyH_take (i := 4) (oi := { dst := some 20, op := Op.move (Operand.tmp 1), type := 24, pos := "event.go:62", after := #[], guard := none }) (v := ?_) rfl (by kernel_rfl) (by kernel_rfl) (by kernel_rfl) (fun _ _ _ h => h) (Or.inl ⟨by rfl, ?_⟩) hHeld ?_
    rotate_left
    · intro w hSw; (try dsimp only at hSw); go_simp; try with_reducible rfl
    try simp only [Act.put, List.setIfInBounds_toArray, List.set_cons_zero, List.set_cons_succ]
    refine wpAnyH_ready (rs := [2]) (by kernel_rfl) (by simp) ?_
    refine AllReadyH.cons rfl (fun K hK => ?_) (AllReadyH.nil)
    go_simp
    go_wp2_with (go_at_call 36; refine (HT.out _).mono ?_; rintro r W2 ⟨rfl, hb2⟩; have HB2 := hid ((Below.refl _ W1).drew.trans hb2); clear hb2)
    refine hK.out _ _ (HS.out _ HB2.out) (fun hHeld => ?_)
    clear hK K
    refine wpAnyH_take (i := 3) (oi := { dst := some 19, op := Op.binOp BinOp.eql 31 (Operand.tmp 16) (Operand.tmp 18) 31, type := 4, pos := "event.go:62", after := #[{ on := 0, ground := Ground.data }, { on := 2, ground := Ground.data }], guard := none }) (v := .bool true) rfl (by kernel_rfl) (by kernel_rfl) (by kernel_rfl) (fun _ _ _ h => h) (Or.inl ⟨by rfl, ?_⟩) hHeld ?_
    · intro w hSw; rw [← hcmp]; exact exec_eql ⟨k, s, a, b, c, d, e, f, q⟩ (Ev.taken ⟨k, s, a, b, c, d, e, f, q⟩) (.tmp 16) (.tmp 18) (by rfl) (by subst ht; rfl) (by rw [hTV]; rfl)
    refine wpAnyH_ready (rs := [5]) (by kernel_rfl) (by simp) ?_
    refine AllReadyH.cons rfl (fun K hK => ?_) (AllReadyH.nil)
    go_simp
    go_wp2_with (go_at_call 22; refine (insist_ok y _).mono ?_; rintro r w9 ⟨rfl, hw9⟩; obtain rfl := hw9.symm)
    refine hK.out _ _ (HS.out _ HB2.out) (fun hHeld => ?_)
    clear hK K
    try simp only [Act.put, List.setIfInBounds_toArray, List.set_cons_zero, List.set_cons_succ]
    refine wpAnyH_done (by kernel_rfl) ?_ _
    clear hHeld
    go_wp2_with fail
    refine wp_region_held_drew (S := fun W => (W.cell? ⟨w.heap.size, 0, none⟩ = some (.int .i64 k)) ∧ (W.cell? ⟨w.heap.size, 1, none⟩ = some (.string t)) ∧ (W.cell? ⟨w.heap.size, 2, none⟩ = some (.int .i64 a)) ∧ (W.cell? ⟨w.heap.size, 3, none⟩ = some (.int .i64 b)) ∧ (W.cell? ⟨w.heap.size, 4, none⟩ = some (.int .i64 c)) ∧ (W.cell? ⟨w.heap.size, 5, none⟩ = some (.int .i64 d)) ∧ (W.cell? ⟨w.heap.size, 6, none⟩ = some (.int .i64 e)) ∧ (W.cell? ⟨w.heap.size, 7, none⟩ = some (.int .i64 f)) ∧ (W.cell? ⟨w.heap.size, 8, none⟩ = some (.bool q))) (by kernel_rfl) (HS.out _ HB2.out.drew) (fun hHeld => ?_)
    refine wpAnyH_take (i := 0) (oi := { dst := some 22, op := Op.fieldAddr 31 (Operand.tmp 2) 1, type := 0, pos := "event.go:63", after := #[], guard := none }) (v := ?_) rfl (by kernel_rfl) (by kernel_rfl) (by kernel_rfl) (fun _ _ _ h => h) (Or.inl ⟨by rfl, ?_⟩) hHeld ?_
    rotate_left
    · intro w hSw; (try dsimp only at hSw); go_simp; try with_reducible rfl
    try simp only [Act.put, List.setIfInBounds_toArray, List.set_cons_zero, List.set_cons_succ]
    refine wpAnyH_take (i := 1) (oi := { dst := some 23, op := Op.load 9 (Operand.tmp 22), type := 9, pos := "event.go:63", after := #[{ on := 0, ground := Ground.data }], guard := none }) (v := ?_) rfl (by kernel_rfl) (by kernel_rfl) (by kernel_rfl) (fun _ _ _ h => h) (Or.inl ⟨by rfl, ?_⟩) hHeld ?_
    rotate_left
    · intro w hSw; (try dsimp only at hSw); go_simp; try with_reducible rfl
    try simp only [Act.put, List.setIfInBounds_toArray, List.set_cons_zero, List.set_cons_succ]
    refine wpAnyH_take (i := 3) (oi := { dst := some 25, op := Op.load 31 (Operand.tmp 2), type := 31, pos := "event.go:63", after := #[], guard := none }) (v := ?_) rfl (by kernel_rfl) (by kernel_rfl) (by kernel_rfl) (fun _ _ _ h => h) (Or.inl ⟨by rfl, ?_⟩) hHeld ?_
    rotate_left
    · intro w hSw; (try dsimp only at hSw); go_simp; try with_reducible rfl
    try simp only [Act.put, List.setIfInBounds_toArray, List.set_cons_zero, List.set_cons_succ]
    refine wpAnyH_take (i := 6) (oi := { dst := some 28, op := Op.move (Operand.tmp 1), type := 24, pos := "event.go:63", after := #[], guard := none }) (v := ?_) rfl (by kernel_rfl) (by kernel_rfl) (by kernel_rfl) (fun _ _ _ h => h) (Or.inl ⟨by rfl, ?_⟩) hHeld ?_
    rotate_left
    · intro w hSw; (try dsimp only at hSw); go_simp; try with_reducible rfl
    try simp only [Act.put, List.setIfInBounds_toArray, List.set_cons_zero, List.set_cons_succ]
    refine wpAnyH_ready (rs := [2]) (by kernel_rfl) (by simp) ?_
    refine AllReadyH.cons rfl (fun K hK => ?_) (AllReadyH.nil)
    go_simp
    go_wp2_with (go_at_call 37; refine (HN.out _).mono ?_; rintro r w9 ⟨rfl, hw9⟩; obtain rfl := hw9.symm)
    refine hK.out _ _ (HS.out _ HB2.out.drew) (fun hHeld => ?_)
    clear hK K
    try simp only [Act.put, List.setIfInBounds_toArray, List.set_cons_zero, List.set_cons_succ]
    refine wpAnyH_ready (rs := [4]) (by kernel_rfl) (by simp) ?_
    refine AllReadyH.cons rfl (fun K hK => ?_) (AllReadyH.nil)
    go_simp
    go_wp2_with (go_at_call 38; refine (HI.out _).mono ?_; rintro r w9 ⟨rfl, hw9⟩; obtain rfl := hw9.symm)
    refine hK.out _ _ (HSA.out _ HB2.out) (fun hHeld => ?_)
    clear hK K
    try simp only [Act.put, List.setIfInBounds_toArray, List.set_cons_zero, List.set_cons_succ]
    refine wpAnyH_take (i := 5) (oi := { dst := some 27, op := Op.binOp BinOp.eql 4 (Operand.tmp 24) (Operand.tmp 26) 4, type := 4, pos := "event.go:63", after := #[{ on := 2, ground := Ground.data }, { on := 4, ground := Ground.data }], guard := none }) (v := ?_) rfl (by kernel_rfl) (by kernel_rfl) (by kernel_rfl) (fun _ _ _ h => h) (Or.inl ⟨by rfl, ?_⟩) hHeld ?_
    rotate_left
    · intro w hSw; (try dsimp only at hSw); go_simp; try with_reducible rfl
    try simp only [Act.put, List.setIfInBounds_toArray, List.set_cons_zero, List.set_cons_succ]
    refine wpAnyH_ready (rs := [7]) (by kernel_rfl) (by simp) ?_
    refine AllReadyH.cons rfl (fun K hK => ?_) (AllReadyH.nil)
    go_simp
    go_wp2_with (go_at_call 22; refine (insist_no y _).mono ?_; rintro r w9 ⟨rfl, hw9⟩; obtain rfl := hw9.symm)
    exact ⟨rfl, rfl, HBA.out _ HB2.out⟩
  have d4 : (nameOk s == im) = true := by simpa using a4
  have HMn : Hid (∀ i, i < 6 → ¬ inN ((numL ⟨k, s, a, b, c, d, e, f, q⟩).getD i 0) → ¬ Ev.may ⟨k, s, a, b, c, d, e, f, q⟩) := fun i hi hn hh => hn ((HMay.out.2 hh).2.2.2.1 i hi)
  have HMe : Hid (¬ (b < 32 ∧ e ≤ 2147483647) → ¬ Ev.may ⟨k, s, a, b, c, d, e, f, q⟩) := fun hn hh => hn ⟨(HMay.out.2 hh).2.2.2.2.1, (HMay.out.2 hh).2.2.2.2.2⟩
  have HMy : Hid ((∀ i, i < 6 → inN ((numL ⟨k, s, a, b, c, d, e, f, q⟩).getD i 0)) → (b < 32 ∧ e ≤ 2147483647) → Ev.may ⟨k, s, a, b, c, d, e, f, q⟩) := fun h1 h2 => HMay.out.1 ⟨⟨a1, a2⟩, a3, by rw [him]; exact a4, h1, h2.1, h2.2⟩
  clear HMay a1 a2 a3 a4
  go_enter Tryz.func23, Tryz.ntmps23
  go_wp2_with (go_at_call 22; refine (insist_ok y _).mono ?_; rintro r w9 ⟨rfl, hw9⟩; obtain rfl := hw9.symm)
  refine wp_region_held_drew (S := fun W => (W.cell? ⟨w.heap.size, 0, none⟩ = some (.int .i64 k)) ∧ (W.cell? ⟨w.heap.size, 1, none⟩ = some (.string t)) ∧ (W.cell? ⟨w.heap.size, 2, none⟩ = some (.int .i64 a)) ∧ (W.cell? ⟨w.heap.size, 3, none⟩ = some (.int .i64 b)) ∧ (W.cell? ⟨w.heap.size, 4, none⟩ = some (.int .i64 c)) ∧ (W.cell? ⟨w.heap.size, 5, none⟩ = some (.int .i64 d)) ∧ (W.cell? ⟨w.heap.size, 6, none⟩ = some (.int .i64 e)) ∧ (W.cell? ⟨w.heap.size, 7, none⟩ = some (.int .i64 f)) ∧ (W.cell? ⟨w.heap.size, 8, none⟩ = some (.bool q))) (by kernel_rfl) (HS.out _ (Below.refl _ W1).drew) (fun hHeld => ?_)
  refine wpAnyH_take (i := 0) (oi := { dst := some 16, op := Op.load 31 (Operand.tmp 2), type := 31, pos := "event.go:62", after := #[], guard := none }) (v := ?_) rfl (by kernel_rfl) (by kernel_rfl) (by kernel_rfl) (fun _ _ _ h => h) (Or.inl ⟨by rfl, ?_⟩) hHeld ?_
  rotate_left
  · intro w hSw; (try dsimp only at hSw); go_simp; try with_reducible rfl
  try simp only [Act.put, List.setIfInBounds_toArray, List.set_cons_zero, List.set_cons_succ]
  refine wpAnyH_take (i := 1) (oi := { dst := some 17, op := Op.load 31 (Operand.tmp 2), type := 31, pos := "event.go:62", after := #[], guard := none }) (v := ?_) rfl (by kernel_rfl) (by kernel_rfl) (by kernel_rfl) (fun _ _ _ h => h) (Or.inl ⟨by rfl, ?_⟩) hHeld ?_
  rotate_left
  · intro w hSw; (try dsimp only at hSw); go_simp; try with_reducible rfl
  try simp only [Act.put, List.setIfInBounds_toArray, List.set_cons_zero, List.set_cons_succ]
  refine wpAnyH_take (i := 4) (oi := { dst := some 20, op := Op.move (Operand.tmp 1), type := 24, pos := "event.go:62", after := #[], guard := none }) (v := ?_) rfl (by kernel_rfl) (by kernel_rfl) (by kernel_rfl) (fun _ _ _ h => h) (Or.inl ⟨by rfl, ?_⟩) hHeld ?_
  rotate_left
  · intro w hSw; (try dsimp only at hSw); go_simp; try with_reducible rfl
  try simp only [Act.put, List.setIfInBounds_toArray, List.set_cons_zero, List.set_cons_succ]
  refine wpAnyH_ready (rs := [2]) (by kernel_rfl) (by simp) ?_
  refine AllReadyH.cons rfl (fun K hK => ?_) (AllReadyH.nil)
  go_simp
  go_wp2_with (go_at_call 36; refine (HT.out _).mono ?_; rintro r W2 ⟨rfl, hb2⟩; have HB2 := hid ((Below.refl _ W1).drew.trans hb2); clear hb2)
  refine hK.out _ _ (HS.out _ HB2.out) (fun hHeld => ?_)
  clear hK K
  refine wpAnyH_take (i := 3) (oi := { dst := some 19, op := Op.binOp BinOp.eql 31 (Operand.tmp 16) (Operand.tmp 18) 31, type := 4, pos := "event.go:62", after := #[{ on := 0, ground := Ground.data }, { on := 2, ground := Ground.data }], guard := none }) (v := .bool true) rfl (by kernel_rfl) (by kernel_rfl) (by kernel_rfl) (fun _ _ _ h => h) (Or.inl ⟨by rfl, ?_⟩) hHeld ?_
  · intro w hSw; rw [← hcmp]; exact exec_eql ⟨k, s, a, b, c, d, e, f, q⟩ (Ev.taken ⟨k, s, a, b, c, d, e, f, q⟩) (.tmp 16) (.tmp 18) (by rfl) (by subst ht; rfl) (by rw [hTV]; rfl)
  refine wpAnyH_ready (rs := [5]) (by kernel_rfl) (by simp) ?_
  refine AllReadyH.cons rfl (fun K hK => ?_) (AllReadyH.nil)
  go_simp
  go_wp2_with (go_at_call 22; refine (insist_ok y _).mono ?_; rintro r w9 ⟨rfl, hw9⟩; obtain rfl := hw9.symm)
  refine hK.out _ _ (HS.out _ HB2.out) (fun hHeld => ?_)
  clear hK K
  try simp only [Act.put, List.setIfInBounds_toArray, List.set_cons_zero, List.set_cons_succ]
  refine wpAnyH_done (by kernel_rfl) ?_ _
  clear hHeld
  go_wp2_with fail
  refine wp_region_held_drew (S := fun W => (W.cell? ⟨w.heap.size, 0, none⟩ = some (.int .i64 k)) ∧ (W.cell? ⟨w.heap.size, 1, none⟩ = some (.string t)) ∧ (W.cell? ⟨w.heap.size, 2, none⟩ = some (.int .i64 a)) ∧ (W.cell? ⟨w.heap.size, 3, none⟩ = some (.int .i64 b)) ∧ (W.cell? ⟨w.heap.size, 4, none⟩ = some (.int .i64 c)) ∧ (W.cell? ⟨w.heap.size, 5, none⟩ = some (.int .i64 d)) ∧ (W.cell? ⟨w.heap.size, 6, none⟩ = some (.int .i64 e)) ∧ (W.cell? ⟨w.heap.size, 7, none⟩ = some (.int .i64 f)) ∧ (W.cell? ⟨w.heap.size, 8, none⟩ = some (.bool q))) (by kernel_rfl) (HS.out _ HB2.out.drew) (fun hHeld => ?_)
  refine wpAnyH_take (i := 0) (oi := { dst := some 22, op := Op.fieldAddr 31 (Operand.tmp 2) 1, type := 0, pos := "event.go:63", after := #[], guard := none }) (v := ?_) rfl (by kernel_rfl) (by kernel_rfl) (by kernel_rfl) (fun _ _ _ h => h) (Or.inl ⟨by rfl, ?_⟩) hHeld ?_
  rotate_left
  · intro w hSw; (try dsimp only at hSw); go_simp; try with_reducible rfl
  try simp only [Act.put, List.setIfInBounds_toArray, List.set_cons_zero, List.set_cons_succ]
  refine wpAnyH_take (i := 1) (oi := { dst := some 23, op := Op.load 9 (Operand.tmp 22), type := 9, pos := "event.go:63", after := #[{ on := 0, ground := Ground.data }], guard := none }) (v := ?_) rfl (by kernel_rfl) (by kernel_rfl) (by kernel_rfl) (fun _ _ _ h => h) (Or.inl ⟨by rfl, ?_⟩) hHeld ?_
  rotate_left
  · intro w hSw; (try dsimp only at hSw); go_simp; try with_reducible rfl
  try simp only [Act.put, List.setIfInBounds_toArray, List.set_cons_zero, List.set_cons_succ]
  refine wpAnyH_take (i := 3) (oi := { dst := some 25, op := Op.load 31 (Operand.tmp 2), type := 31, pos := "event.go:63", after := #[], guard := none }) (v := ?_) rfl (by kernel_rfl) (by kernel_rfl) (by kernel_rfl) (fun _ _ _ h => h) (Or.inl ⟨by rfl, ?_⟩) hHeld ?_
  rotate_left
  · intro w hSw; (try dsimp only at hSw); go_simp; try with_reducible rfl
  try simp only [Act.put, List.setIfInBounds_toArray, List.set_cons_zero, List.set_cons_succ]
  refine wpAnyH_take (i := 6) (oi := { dst := some 28, op := Op.move (Operand.tmp 1), type := 24, pos := "event.go:63", after := #[], guard := none }) (v := ?_) rfl (by kernel_rfl) (by kernel_rfl) (by kernel_rfl) (fun _ _ _ h => h) (Or.inl ⟨by rfl, ?_⟩) hHeld ?_
  rotate_left
  · intro w hSw; (try dsimp only at hSw); go_simp; try with_reducible rfl
  try simp only [Act.put, List.setIfInBounds_toArray, List.set_cons_zero, List.set_cons_succ]
  refine wpAnyH_ready (rs := [2]) (by kernel_rfl) (by simp) ?_
  refine AllReadyH.cons rfl (fun K hK => ?_) (AllReadyH.nil)
  go_simp
  go_wp2_with (go_at_call 37; refine (HN.out _).mono ?_; rintro r w9 ⟨rfl, hw9⟩; obtain rfl := hw9.symm)
  refine hK.out _ _ (HS.out _ HB2.out.drew) (fun hHeld => ?_)
  clear hK K
  try simp only [Act.put, List.setIfInBounds_toArray, List.set_cons_zero, List.set_cons_succ]
  refine wpAnyH_ready (rs := [4]) (by kernel_rfl) (by simp) ?_
  refine AllReadyH.cons rfl (fun K hK => ?_) (AllReadyH.nil)
  go_simp
  go_wp2_with (go_at_call 38; refine (HI.out _).mono ?_; rintro r w9 ⟨rfl, hw9⟩; obtain rfl := hw9.symm)
  refine hK.out _ _ (HSA.out _ HB2.out) (fun hHeld => ?_)
  clear hK K
  try simp only [Act.put, List.setIfInBounds_toArray, List.set_cons_zero, List.set_cons_succ]
  refine wpAnyH_take (i := 5) (oi := { dst := some 27, op := Op.binOp BinOp.eql 4 (Operand.tmp 24) (Operand.tmp 26) 4, type := 4, pos := "event.go:63", after := #[{ on := 2, ground := Ground.data }, { on := 4, ground := Ground.data }], guard := none }) (v := ?_) rfl (by kernel_rfl) (by kernel_rfl) (by kernel_rfl) (fun _ _ _ h => h) (Or.inl ⟨by rfl, ?_⟩) hHeld ?_
  rotate_left
  · intro w hSw; (try dsimp only at hSw); go_simp; try with_reducible rfl
  try simp only [Act.put, List.setIfInBounds_toArray, List.set_cons_zero, List.set_cons_succ]
  refine wpAnyH_ready (rs := [7]) (by kernel_rfl) (by simp) ?_
  refine AllReadyH.cons rfl (fun K hK => ?_) (AllReadyH.nil)
  go_simp
  go_wp2_with (go_at_call 22; refine (insist_ok y _).mono ?_; rintro r w9 ⟨rfl, hw9⟩; obtain rfl := hw9.symm)
  refine hK.out _ _ (HSA.out _ HB2.out) (fun hHeld => ?_)
  clear hK K
  try simp only [Act.put, List.setIfInBounds_toArray, List.set_cons_zero, List.set_cons_succ]
  refine wpAnyH_done (by kernel_rfl) ?_ _
  clear hHeld
  clear c0 c1 c2 c3 c4 c5 c6 c7 c8
  obtain ⟨W3, hW3⟩ : ∃ W3, (W2.alloc (.cells #[.int .i64 k, .string t, .int .i64 a, .int .i64 b, .int .i64 c, .int .i64 d, .int .i64 e, .int .i64 f, .bool q] TEv)).drew = W3 := ⟨_, rfl⟩
  rw [hW3]
  have HB3 : Hid (Below W1.heap.size W1 W3) := by rw [← hW3]; exact (HB2.out.alloc HB2.out.size _).drew
  obtain ⟨c0, c1, c2, c3, c4, c5, c6, c7, c8⟩ := HS.out W3 HB3.out
  clear hW3 HB2 HSA HBA HT HN HI
  go_wp2_with (go_at_call 39; refine (HNu.out _).mono ?_; rintro r W4 ⟨rfl, hb4⟩; have HB4 := hid (HB3.out.trans (hb4.mono HB3.out.size)); clear hb4)
  go_loopw [32] (fun i wr => ∃ j : Nat, j ≤ 6 ∧ i = .int .i64 j ∧ Hid (∀ i, i < j → inN ((numL ⟨k, s, a, b, c, d, e, f, q⟩).getD i 0)) ∧ wr = W4) (fun i _ => 6 - (intOf i).toNat)
  case atStart => exact ⟨0, by omega, rfl, fun i hi => absurd hi (Nat.not_lt_zero _), rfl⟩
  case round =>
    obtain ⟨j, hj, rfl, HL, rfl⟩ := hrel
    clear c0 c1 c2 c3 c4 c5 c6 c7 c8
    obtain ⟨c0, c1, c2, c3, c4, c5, c6, c7, c8⟩ := HS.out wr HB4.out
    obtain ⟨i0, i1, i2, i3, i4, i5⟩ := idx_at a b c d e f wr
    rcases (show j = 0 ∨ j = 1 ∨ j = 2 ∨ j = 3 ∨ j = 4 ∨ j = 5 ∨ j = 6 by omega) with rfl | rfl | rfl | rfl | rfl | rfl | rfl
    · by_cases h1 : 0 ≤ a
      case neg =>
        have g1 : decide (0 ≤ a) = false := by simpa using h1
        have HX := hid (insC_no (y := y) (HMn.out 0 (by omega) (fun hh => h1 hh.1)))
        go_wp2_with (go_at_call 22; refine (insist_no y _).mono ?_; rintro r w9 ⟨rfl, hw9⟩; obtain rfl := hw9.symm)
        exact ⟨rfl, HX.out.symm, HB1.out.trans (HB4.out.mono HB1.out.size)⟩
      have g1 : decide (0 ≤ a) = true := by simpa using h1
      by_cases h2 : a < 281474976710656
      case neg =>
        have g2 : decide (a < 281474976710656) = false := by simpa using h2
        have HX := hid (insC_no (y := y) (HMn.out 0 (by omega) (fun hh => h2 hh.2)))
        go_wp2_with (go_at_call 22; refine (insist_no y _).mono ?_; rintro r w9 ⟨rfl, hw9⟩; obtain rfl := hw9.symm)
        exact ⟨rfl, HX.out.symm, HB1.out.trans (HB4.out.mono HB1.out.size)⟩
      have g2 : decide (a < 281474976710656) = true := by simpa using h2
      have HL2 : Hid (∀ i, i < 0 + 1 → inN ((numL ⟨k, s, a, b, c, d, e, f, q⟩).getD i 0)) := fun i hi => by
        rcases Nat.lt_succ_iff_lt_or_eq.1 hi with h | rfl
        · exact HL.out i h
        · exact ⟨h1, h2⟩
      go_wp2_with (go_at_call 22; refine (insist_ok y _).mono ?_; rintro r w9 ⟨rfl, hw9⟩; obtain rfl := hw9.symm)
      exact ⟨⟨0 + 1, by omega, by go_num, HL2, trivial⟩, by simp [intOf]⟩
    · by_cases h1 : 0 ≤ b
      case neg =>
        have g1 : decide (0 ≤ b) = false := by simpa using h1
        have HX := hid (insC_no (y := y) (HMn.out 1 (by omega) (fun hh => h1 hh.1)))
        go_wp2_with (go_at_call 22; refine (insist_no y _).mono ?_; rintro r w9 ⟨rfl, hw9⟩; obtain rfl := hw9.symm)
        exact ⟨rfl, HX.out.symm, HB1.out.trans (HB4.out.mono HB1.out.size)⟩
      have g1 : decide (0 ≤ b) = true := by simpa using h1
      by_cases h2 : b < 281474976710656
      case neg =>
        have g2 : decide (b < 281474976710656) = false := by simpa using h2
        have HX := hid (insC_no (y := y) (HMn.out 1 (by omega) (fun hh => h2 hh.2)))
        go_wp2_with (go_at_call 22; refine (insist_no y _).mono ?_; rintro r w9 ⟨rfl, hw9⟩; obtain rfl := hw9.symm)
        exact ⟨rfl, HX.out.symm, HB1.out.trans (HB4.out.mono HB1.out.size)⟩
      have g2 : decide (b < 281474976710656) = true := by simpa using h2
      have HL2 : Hid (∀ i, i < 1 + 1 → inN ((numL ⟨k, s, a, b, c, d, e, f, q⟩).getD i 0)) := fun i hi => by
        rcases Nat.lt_succ_iff_lt_or_eq.1 hi with h | rfl
        · exact HL.out i h
        · exact ⟨h1, h2⟩
      go_wp2_with (go_at_call 22; refine (insist_ok y _).mono ?_; rintro r w9 ⟨rfl, hw9⟩; obtain rfl := hw9.symm)
      exact ⟨⟨1 + 1, by omega, by go_num, HL2, trivial⟩, by simp [intOf]⟩
    · by_cases h1 : 0 ≤ c
      case neg =>
        have g1 : decide (0 ≤ c) = false := by simpa using h1
        have HX := hid (insC_no (y := y) (HMn.out 2 (by omega) (fun hh => h1 hh.1)))
        go_wp2_with (go_at_call 22; refine (insist_no y _).mono ?_; rintro r w9 ⟨rfl, hw9⟩; obtain rfl := hw9.symm)
        exact ⟨rfl, HX.out.symm, HB1.out.trans (HB4.out.mono HB1.out.size)⟩
      have g1 : decide (0 ≤ c) = true := by simpa using h1
      by_cases h2 : c < 281474976710656
      case neg =>
        have g2 : decide (c < 281474976710656) = false := by simpa using h2
        have HX := hid (insC_no (y := y) (HMn.out 2 (by omega) (fun hh => h2 hh.2)))
        go_wp2_with (go_at_call 22; refine (insist_no y _).mono ?_; rintro r w9 ⟨rfl, hw9⟩; obtain rfl := hw9.symm)
        exact ⟨rfl, HX.out.symm, HB1.out.trans (HB4.out.mono HB1.out.size)⟩
      have g2 : decide (c < 281474976710656) = true := by simpa using h2
      have HL2 : Hid (∀ i, i < 2 + 1 → inN ((numL ⟨k, s, a, b, c, d, e, f, q⟩).getD i 0)) := fun i hi => by
        rcases Nat.lt_succ_iff_lt_or_eq.1 hi with h | rfl
        · exact HL.out i h
        · exact ⟨h1, h2⟩
      go_wp2_with (go_at_call 22; refine (insist_ok y _).mono ?_; rintro r w9 ⟨rfl, hw9⟩; obtain rfl := hw9.symm)
      exact ⟨⟨2 + 1, by omega, by go_num, HL2, trivial⟩, by simp [intOf]⟩
    · by_cases h1 : 0 ≤ d
      case neg =>
        have g1 : decide (0 ≤ d) = false := by simpa using h1
        have HX := hid (insC_no (y := y) (HMn.out 3 (by omega) (fun hh => h1 hh.1)))
        go_wp2_with (go_at_call 22; refine (insist_no y _).mono ?_; rintro r w9 ⟨rfl, hw9⟩; obtain rfl := hw9.symm)
        exact ⟨rfl, HX.out.symm, HB1.out.trans (HB4.out.mono HB1.out.size)⟩
      have g1 : decide (0 ≤ d) = true := by simpa using h1
      by_cases h2 : d < 281474976710656
      case neg =>
        have g2 : decide (d < 281474976710656) = false := by simpa using h2
        have HX := hid (insC_no (y := y) (HMn.out 3 (by omega) (fun hh => h2 hh.2)))
        go_wp2_with (go_at_call 22; refine (insist_no y _).mono ?_; rintro r w9 ⟨rfl, hw9⟩; obtain rfl := hw9.symm)
        exact ⟨rfl, HX.out.symm, HB1.out.trans (HB4.out.mono HB1.out.size)⟩
      have g2 : decide (d < 281474976710656) = true := by simpa using h2
      have HL2 : Hid (∀ i, i < 3 + 1 → inN ((numL ⟨k, s, a, b, c, d, e, f, q⟩).getD i 0)) := fun i hi => by
        rcases Nat.lt_succ_iff_lt_or_eq.1 hi with h | rfl
        · exact HL.out i h
        · exact ⟨h1, h2⟩
      go_wp2_with (go_at_call 22; refine (insist_ok y _).mono ?_; rintro r w9 ⟨rfl, hw9⟩; obtain rfl := hw9.symm)
      exact ⟨⟨3 + 1, by omega, by go_num, HL2, trivial⟩, by simp [intOf]⟩
    · by_cases h1 : 0 ≤ e
      case neg =>
        have g1 : decide (0 ≤ e) = false := by simpa using h1
        have HX := hid (insC_no (y := y) (HMn.out 4 (by omega) (fun hh => h1 hh.1)))
        go_wp2_with (go_at_call 22; refine (insist_no y _).mono ?_; rintro r w9 ⟨rfl, hw9⟩; obtain rfl := hw9.symm)
        exact ⟨rfl, HX.out.symm, HB1.out.trans (HB4.out.mono HB1.out.size)⟩
      have g1 : decide (0 ≤ e) = true := by simpa using h1
      by_cases h2 : e < 281474976710656
      case neg =>
        have g2 : decide (e < 281474976710656) = false := by simpa using h2
        have HX := hid (insC_no (y := y) (HMn.out 4 (by omega) (fun hh => h2 hh.2)))
        go_wp2_with (go_at_call 22; refine (insist_no y _).mono ?_; rintro r w9 ⟨rfl, hw9⟩; obtain rfl := hw9.symm)
        exact ⟨rfl, HX.out.symm, HB1.out.trans (HB4.out.mono HB1.out.size)⟩
      have g2 : decide (e < 281474976710656) = true := by simpa using h2
      have HL2 : Hid (∀ i, i < 4 + 1 → inN ((numL ⟨k, s, a, b, c, d, e, f, q⟩).getD i 0)) := fun i hi => by
        rcases Nat.lt_succ_iff_lt_or_eq.1 hi with h | rfl
        · exact HL.out i h
        · exact ⟨h1, h2⟩
      go_wp2_with (go_at_call 22; refine (insist_ok y _).mono ?_; rintro r w9 ⟨rfl, hw9⟩; obtain rfl := hw9.symm)
      exact ⟨⟨4 + 1, by omega, by go_num, HL2, trivial⟩, by simp [intOf]⟩
    · by_cases h1 : 0 ≤ f
      case neg =>
        have g1 : decide (0 ≤ f) = false := by simpa using h1
        have HX := hid (insC_no (y := y) (HMn.out 5 (by omega) (fun hh => h1 hh.1)))
        go_wp2_with (go_at_call 22; refine (insist_no y _).mono ?_; rintro r w9 ⟨rfl, hw9⟩; obtain rfl := hw9.symm)
        exact ⟨rfl, HX.out.symm, HB1.out.trans (HB4.out.mono HB1.out.size)⟩
      have g1 : decide (0 ≤ f) = true := by simpa using h1
      by_cases h2 : f < 281474976710656
      case neg =>
        have g2 : decide (f < 281474976710656) = false := by simpa using h2
        have HX := hid (insC_no (y := y) (HMn.out 5 (by omega) (fun hh => h2 hh.2)))
        go_wp2_with (go_at_call 22; refine (insist_no y _).mono ?_; rintro r w9 ⟨rfl, hw9⟩; obtain rfl := hw9.symm)
        exact ⟨rfl, HX.out.symm, HB1.out.trans (HB4.out.mono HB1.out.size)⟩
      have g2 : decide (f < 281474976710656) = true := by simpa using h2
      have HL2 : Hid (∀ i, i < 5 + 1 → inN ((numL ⟨k, s, a, b, c, d, e, f, q⟩).getD i 0)) := fun i hi => by
        rcases Nat.lt_succ_iff_lt_or_eq.1 hi with h | rfl
        · exact HL.out i h
        · exact ⟨h1, h2⟩
      go_wp2_with (go_at_call 22; refine (insist_ok y _).mono ?_; rintro r w9 ⟨rfl, hw9⟩; obtain rfl := hw9.symm)
      exact ⟨⟨5 + 1, by omega, by go_num, HL2, trivial⟩, by simp [intOf]⟩
    · by_cases h1 : b < 32
      case neg =>
        have g1 : decide (b < 32) = false := by simpa using h1
        have HX := hid (insC_no (y := y) (HMe.out (fun hh => h1 hh.1)))
        go_wp2_with (go_at_call 22; refine (insist_no y _).mono ?_; rintro r w9 ⟨rfl, hw9⟩; obtain rfl := hw9.symm)
        exact ⟨rfl, HX.out.symm, HB1.out.trans (HB4.out.mono HB1.out.size)⟩
      have g1 : decide (b < 32) = true := by simpa using h1
      by_cases h2 : e ≤ 2147483647
      case neg =>
        have g2 : decide (e ≤ 2147483647) = false := by simpa using h2
        have HX := hid (insC_no (y := y) (HMe.out (fun hh => h2 hh.2)))
        go_wp2_with (go_at_call 22; refine (insist_no y _).mono ?_; rintro r w9 ⟨rfl, hw9⟩; obtain rfl := hw9.symm)
        exact ⟨rfl, HX.out.symm, HB1.out.trans (HB4.out.mono HB1.out.size)⟩
      have g2 : decide (e ≤ 2147483647) = true := by simpa using h2
      go_wp2_with (go_at_call 22; refine (insist_ok y _).mono ?_; rintro r w9 ⟨rfl, hw9⟩; obtain rfl := hw9.symm)
      go_end0
      exact ⟨(insC_ok (HMy.out HL.out ⟨h1, h2⟩)).symm, HB1.out.trans (HB4.out.mono HB1.out.size)⟩
end Go.Proofs.YtipgociofjokeaaGreat
