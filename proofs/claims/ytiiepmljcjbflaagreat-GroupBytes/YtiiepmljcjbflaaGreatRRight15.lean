/- The document's right of an event of package group (by genrright15.py). -/
import Derived.Test.YtiiepmljcjbflaaGreatRTk15
import Derived.Test.YtiiepmljcjbflaaGreatGEq
import Derived.Deep.RegionHeld3
namespace Go.Proofs.YtiiepmljcjbflaaGreat
open Go.RowKit
variable {w w' : World}

set_option maxRecDepth 100000 in
theorem rev_fields : Tryz.prog.underlying REv = some (.struct (Tryz.prog.fieldsOf REv)) := by simp [Program.fieldsOf, Tryz.underlying23]
theorem rev_held : Tryz.prog.stoodInHeld REv = false := by kernel_rfl
set_option maxRecDepth 100000 in
set_option maxHeartbeats 2000000 in
theorem rev_eql (x y : Ev) (W : World) : (binOp .eql REv (.agg (evA x)) (.agg (evA y))).run Tryz.prog W = .ok (.bool (decide (x = y))) W := by
  obtain ⟨k, s, a, b, c, d, e, f, q⟩ := x
  obtain ⟨k', s', a', b', c', d', e', f', q'⟩ := y
  show (binOp .eql REv (.agg #[.int .i64 k, .string (nmS s), .int .i64 a, .int .i64 b, .int .i64 c, .int .i64 d, .int .i64 e, .int .i64 f, .bool q]) (.agg #[.int .i64 k', .string (nmS s'), .int .i64 a', .int .i64 b', .int .i64 c', .int .i64 d', .int .i64 e', .int .i64 f', .bool q'])).run Tryz.prog W = _
  have hs : ((nmS s).toList == (nmS s').toList) = decide (s = s') := by rw [nm_list, nm_list]; by_cases h : s = s' <;> simp [h]
  generalize nmS s = t at *
  generalize nmS s' = t' at *
  rw [run_eql_struct, show (10000 : Nat) = 9999 + 1 from rfl, run_equalIn_struct _ _ _ _ _ rev_fields rev_held]
  simp only [Program.fieldsOf, Tryz.underlying23, Ev.mk.injEq]
  by_cases h1 : k = k'
  case neg => simp [Op.eqFields, go_sem, h1, Tryz.underlying3]
  by_cases h2 : s = s'
  case neg => simp [Op.eqFields, go_sem, h1, h2, hs, Tryz.underlying3, Tryz.underlying9]
  by_cases h3 : a = a'
  case neg => simp [Op.eqFields, go_sem, h1, h2, h3, hs, Tryz.underlying3, Tryz.underlying9]
  by_cases h4 : b = b'
  case neg => simp [Op.eqFields, go_sem, h1, h2, h3, h4, hs, Tryz.underlying3, Tryz.underlying9]
  by_cases h5 : c = c'
  case neg => simp [Op.eqFields, go_sem, h1, h2, h3, h4, h5, hs, Tryz.underlying3, Tryz.underlying9]
  by_cases h6 : d = d'
  case neg => simp [Op.eqFields, go_sem, h1, h2, h3, h4, h5, h6, hs, Tryz.underlying3, Tryz.underlying9]
  by_cases h7 : e = e'
  case neg => simp [Op.eqFields, go_sem, h1, h2, h3, h4, h5, h6, h7, hs, Tryz.underlying3, Tryz.underlying9]
  by_cases h8 : f = f'
  case neg => simp [Op.eqFields, go_sem, h1, h2, h3, h4, h5, h6, h7, h8, hs, Tryz.underlying3, Tryz.underlying9]
  by_cases h9 : q = q'
  case neg => simp [Op.eqFields, go_sem, h1, h2, h3, h4, h5, h6, h7, h8, h9, hs, Tryz.underlying3, Tryz.underlying9, Tryz.underlying4]
  simp [Op.eqFields, go_sem, h1, h2, h3, h4, h5, h6, h7, h8, h9, hs, Tryz.underlying3, Tryz.underlying9, Tryz.underlying4]


theorem rev_neq (x y : Ev) (W : World) : (binOp .neq REv (.agg (evA x)) (.agg (evA y))).run Tryz.prog W = .ok (.bool (!decide (x = y))) W := by
  have h := rev_eql x y W
  simp only [binOp, Sem.run_bind] at h ⊢
  cases hr : Sem.run Tryz.prog (Op.equal REv (Value.agg (evA x)) (Value.agg (evA y))) W <;> rw [hr] at h <;> simp_all
theorem rev_guard (x y : Operand) (xs ys : Array Value) (w : World) : (eqGuard .neq REv x y (.agg xs) (.agg ys)).run Tryz.prog w = .ok () w := run_eqGuard_agg w .neq _ x y xs ys (by kernel_rfl)
theorem exec_rneq {a : Act} {o : Oper} (x y : Ev) (p q : Operand) (ho : o.op = .binOp .neq REv p q REv) (h1 : a.eval p = .agg (evA x)) (h2 : a.eval q = .agg (evA y)) : (execOp a.eval o).run Tryz.prog w = .ok (.value (.bool (!decide (x = y)))) w := by
  unfold execOp
  simp only [ho, h1, h2, Sem.run_bind, rev_neq, rev_guard, Sem.run_pure, Result.andThen_ok]
def inb (n m : Int) : Bool := decide (0 ≤ n) && decide (n < m)
theorem may_inb {k a b c d e f : Int} {s : Nm} {q : Bool} (h1 : 1 ≤ k) (h7 : k ≤ 7) (ht : (⟨k, s, a, b, c, d, e, f, q⟩ : Ev) = Ev.taken ⟨k, s, a, b, c, d, e, f, q⟩) (hn : k ≠ 5 → k ≠ 7 → 1 ≤ s.length ∧ s.length ≤ 64) : decide (Ev.may ⟨k, s, a, b, c, d, e, f, q⟩) = (inb a 281474976710656 && (inb b 32 && (inb c 281474976710656 && (inb d 281474976710656 && (inb e 2147483648 && inb f 281474976710656))))) := by
  have h : Ev.may ⟨k, s, a, b, c, d, e, f, q⟩ ↔ ((0 ≤ a ∧ a < 281474976710656) ∧ (0 ≤ b ∧ b < 32) ∧ (0 ≤ c ∧ c < 281474976710656) ∧ (0 ≤ d ∧ d < 281474976710656) ∧ (0 ≤ e ∧ e < 2147483648) ∧ (0 ≤ f ∧ f < 281474976710656)) := by
    constructor
    · rintro ⟨-, -, -, ⟨g1, g2, g3, g4, g5, g6⟩, g7, g8⟩
      unfold inN at g1 g2 g3 g4 g5 g6
      dsimp only at g1 g2 g3 g4 g5 g6 g7 g8
      exact ⟨g1, ⟨g2.1, g7⟩, g3, g4, ⟨g5.1, by omega⟩, g6⟩
    · rintro ⟨g1, g2, g3, g4, g5, g6⟩
      refine ⟨⟨h1, by show k < 8; omega⟩, ht, ?_, ⟨g1, ⟨g2.1, by show b < _; omega⟩, g3, g4, ⟨g5.1, by show e < _; omega⟩, g6⟩, g2.2, by show e ≤ _; omega⟩
      show nameOk s = Ev.isM ⟨k, s, a, b, c, d, e, f, q⟩
      by_cases e5 : k = 5
      · have hs : s = [] := by
          have h0 : s = (Ev.taken ⟨k, s, a, b, c, d, e, f, q⟩).mem := congrArg Ev.mem ht
          rw [h0, e5]
          rfl
        rw [hs, e5]
        rfl
      by_cases e7 : k = 7
      · have hs : s = [] := by
          have h0 : s = (Ev.taken ⟨k, s, a, b, c, d, e, f, q⟩).mem := congrArg Ev.mem ht
          rw [h0, e7]
          rfl
        rw [hs, e7]
        rfl
      have hm := hn e5 e7
      have e5b : (k == 5) = false := by simpa using e5
      have e7b : (k == 7) = false := by simpa using e7
      unfold nameOk Ev.isM
      simp [e5b, e7b]
      exact hm
  have h2 : decide (Ev.may ⟨k, s, a, b, c, d, e, f, q⟩) = decide ((0 ≤ a ∧ a < 281474976710656) ∧ (0 ≤ b ∧ b < 32) ∧ (0 ≤ c ∧ c < 281474976710656) ∧ (0 ≤ d ∧ d < 281474976710656) ∧ (0 ≤ e ∧ e < 2147483648) ∧ (0 ≤ f ∧ f < 281474976710656)) := decide_eq_decide.2 h
  rw [h2]
  unfold inb
  simp only [Bool.decide_and]
theorem may_name15 {k a b c d e f : Int} {s : Nm} {q : Bool} (h5 : k ≠ 5) (h7 : k ≠ 7) (hn : ¬ (1 ≤ s.length ∧ s.length ≤ 64)) : decide (Ev.may ⟨k, s, a, b, c, d, e, f, q⟩) = false := by
  refine decide_eq_false (fun h => hn ?_)
  have h3 : nameOk s = Ev.isM ⟨k, s, a, b, c, d, e, f, q⟩ := h.2.2.1
  have e5b : (k == 5) = false := by simpa using h5
  have e7b : (k == 7) = false := by simpa using h7
  unfold nameOk Ev.isM at h3
  simp [e5b, e7b] at h3
  exact h3
set_option maxRecDepth 100000 in
set_option maxHeartbeats 4000000 in
theorem rright_any (x : Ev) (w : World) : Calls Tryz.prog 29 #[.agg (evA x)] w fun r w' => r = .returned (.bool (decide x.may)) ∧ Below w.heap.size w w' := by
  have HT := hid (rtakes_any x)
  obtain ⟨k, s, a, b, c, d, e, f, q⟩ := x
  have HIn : Hid (∀ n m W, Calls Tryz.prog 58 #[.int .i64 n, .int .i64 m] W fun r w' => r = .returned (.bool (inb n m)) ∧ w' = W) := fun n m W => rin_any n m W
  obtain ⟨t, ht⟩ : ∃ t, nmS s = t := ⟨_, rfl⟩
  have hsz : t.size = s.length := by rw [← ht]; unfold nmS; simp [ByteArray.size]
  obtain ⟨TV, hTV⟩ : ∃ TV, Value.agg (evA (Ev.taken ⟨k, s, a, b, c, d, e, f, q⟩)) = TV := ⟨_, rfl⟩
  rw [hTV] at HT
  dsimp only [evA] at HT
  show Calls Tryz.prog 29 #[.agg #[.int .i64 k, .string (nmS s), .int .i64 a, .int .i64 b, .int .i64 c, .int .i64 d, .int .i64 e, .int .i64 f, .bool q]] w _
  rw [ht] at HT ⊢
  obtain ⟨W1, hW1⟩ : ∃ W1, w.alloc (.cells #[.int .i64 k, .string t, .int .i64 a, .int .i64 b, .int .i64 c, .int .i64 d, .int .i64 e, .int .i64 f, .bool q] REv) = W1 := ⟨_, rfl⟩
  have b1 : Below w.heap.size w W1 := by rw [← hW1]; exact (Below.refl _ _).alloc (Nat.le_refl _) _
  have x1 : Blk W1 w.heap.size #[.int .i64 k, .string t, .int .i64 a, .int .i64 b, .int .i64 c, .int .i64 d, .int .i64 e, .int .i64 f, .bool q] REv := by rw [← hW1]; exact heap_alloc_new w _
  have HB1 := hid b1
  have HS : Hid (∀ W, Below W1.heap.size W1 W → (W.cell? ⟨w.heap.size, 0, none⟩ = some (.int .i64 k)) ∧ (W.cell? ⟨w.heap.size, 1, none⟩ = some (.string t)) ∧ (W.cell? ⟨w.heap.size, 2, none⟩ = some (.int .i64 a)) ∧ (W.cell? ⟨w.heap.size, 3, none⟩ = some (.int .i64 b)) ∧ (W.cell? ⟨w.heap.size, 4, none⟩ = some (.int .i64 c)) ∧ (W.cell? ⟨w.heap.size, 5, none⟩ = some (.int .i64 d)) ∧ (W.cell? ⟨w.heap.size, 6, none⟩ = some (.int .i64 e)) ∧ (W.cell? ⟨w.heap.size, 7, none⟩ = some (.int .i64 f)) ∧ (W.cell? ⟨w.heap.size, 8, none⟩ = some (.bool q))) := fun W hW => by
    have hx := x1.later hW
    exact ⟨hx.cell 0, hx.cell 1, hx.cell 2, hx.cell 3, hx.cell 4, hx.cell 5, hx.cell 6, hx.cell 7, hx.cell 8⟩
  obtain ⟨c0, c1, c2, c3, c4, c5, c6, c7, c8⟩ := HS.out W1 (Below.refl _ _)
  clear b1 x1
  obtain ⟨my, hmy⟩ : ∃ my, decide (Ev.may ⟨k, s, a, b, c, d, e, f, q⟩) = my := ⟨_, rfl⟩
  rw [hmy]
  by_cases a1 : 1 ≤ k
  case neg =>
    obtain rfl : my = false := by rw [← hmy]; exact decide_eq_false (fun h => a1 h.1.1)
    have d1 : decide (k < 1) = true := by simp; omega
    clear hmy
    go_enter Tryz.func29, Tryz.ntmps29
    go_wp2_with fail
    refine wp_region_held_drew (S := fun W => (W.cell? ⟨w.heap.size, 0, none⟩ = some (.int .i64 k)) ∧ (W.cell? ⟨w.heap.size, 1, none⟩ = some (.string t)) ∧ (W.cell? ⟨w.heap.size, 2, none⟩ = some (.int .i64 a)) ∧ (W.cell? ⟨w.heap.size, 3, none⟩ = some (.int .i64 b)) ∧ (W.cell? ⟨w.heap.size, 4, none⟩ = some (.int .i64 c)) ∧ (W.cell? ⟨w.heap.size, 5, none⟩ = some (.int .i64 d)) ∧ (W.cell? ⟨w.heap.size, 6, none⟩ = some (.int .i64 e)) ∧ (W.cell? ⟨w.heap.size, 7, none⟩ = some (.int .i64 f)) ∧ (W.cell? ⟨w.heap.size, 8, none⟩ = some (.bool q))) (by kernel_rfl) (HS.out _ (Below.refl _ W1).drew) (fun hHeld => ?_)
    refine wpAnyH_take (i := 0) (oi := { dst := some 3, op := Op.fieldAddr 23 (Operand.tmp 1) 0, type := 0, pos := "ref.go:78", after := #[], guard := none }) (v := ?_) rfl (by kernel_rfl) (by kernel_rfl) (by kernel_rfl) (fun _ _ _ h => h) (Or.inl ⟨by rfl, ?_⟩) hHeld ?_
    rotate_left
    · intro w hSw; (try dsimp only at hSw); go_simp; try with_reducible rfl
    try simp only [Act.put, List.setIfInBounds_toArray, List.set_cons_zero, List.set_cons_succ]
    refine wpAnyH_take (i := 1) (oi := { dst := some 4, op := Op.load 3 (Operand.tmp 3), type := 3, pos := "ref.go:78", after := #[{ on := 0, ground := Ground.data }], guard := none }) (v := ?_) rfl (by kernel_rfl) (by kernel_rfl) (by kernel_rfl) (fun _ _ _ h => h) (Or.inl ⟨by rfl, ?_⟩) hHeld ?_
    rotate_left
    · intro w hSw; (try dsimp only at hSw); go_simp; try with_reducible rfl
    try simp only [Act.put, List.setIfInBounds_toArray, List.set_cons_zero, List.set_cons_succ]
    refine wpAnyH_take (i := 2) (oi := { dst := some 5, op := Op.binOp BinOp.lss 3 (Operand.tmp 4) (Operand.const (Value.int IntKind.i64 1)) 3, type := 4, pos := "ref.go:78", after := #[{ on := 1, ground := Ground.data }], guard := none }) (v := ?_) rfl (by kernel_rfl) (by kernel_rfl) (by kernel_rfl) (fun _ _ _ h => h) (Or.inl ⟨by rfl, ?_⟩) hHeld ?_
    rotate_left
    · intro w hSw; (try dsimp only at hSw); go_simp; try with_reducible rfl
    try simp only [Act.put, List.setIfInBounds_toArray, List.set_cons_zero, List.set_cons_succ]
    refine wpAnyH_take (i := 3) (oi := { dst := some 6, op := Op.move (Operand.tmp 5), type := 4, pos := "ref.go:78", after := #[{ on := 2, ground := Ground.data }], guard := none }) (v := ?_) rfl (by kernel_rfl) (by kernel_rfl) (by kernel_rfl) (fun _ _ _ h => h) (Or.inl ⟨by rfl, ?_⟩) hHeld ?_
    rotate_left
    · intro w hSw; (try dsimp only at hSw); go_simp; try with_reducible rfl
    try simp only [Act.put, List.setIfInBounds_toArray, List.set_cons_zero, List.set_cons_succ]
    refine wpAnyH_take (i := 4) (oi := { dst := some 7, op := Op.fieldAddr 23 (Operand.tmp 1) 0, type := 0, pos := "ref.go:78", after := #[{ on := 3, ground := Ground.guard }], guard := some (3, false) }) (v := undef) rfl (by kernel_rfl) (by kernel_rfl) (by kernel_rfl) (fun _ _ _ h => h) (Or.inr ⟨by kernel_rfl, rfl⟩) hHeld ?_
    try simp only [Act.put, List.setIfInBounds_toArray, List.set_cons_zero, List.set_cons_succ]
    refine wpAnyH_take (i := 5) (oi := { dst := some 8, op := Op.load 3 (Operand.tmp 7), type := 3, pos := "ref.go:78", after := #[{ on := 4, ground := Ground.data }, { on := 3, ground := Ground.guard }], guard := some (3, false) }) (v := undef) rfl (by kernel_rfl) (by kernel_rfl) (by kernel_rfl) (fun _ _ _ h => h) (Or.inr ⟨by kernel_rfl, rfl⟩) hHeld ?_
    try simp only [Act.put, List.setIfInBounds_toArray, List.set_cons_zero, List.set_cons_succ]
    refine wpAnyH_take (i := 6) (oi := { dst := some 9, op := Op.binOp BinOp.gtr 3 (Operand.tmp 8) (Operand.const (Value.int IntKind.i64 7)) 3, type := 4, pos := "ref.go:78", after := #[{ on := 5, ground := Ground.data }, { on := 3, ground := Ground.guard }], guard := some (3, false) }) (v := undef) rfl (by kernel_rfl) (by kernel_rfl) (by kernel_rfl) (fun _ _ _ h => h) (Or.inr ⟨by kernel_rfl, rfl⟩) hHeld ?_
    try simp only [Act.put, List.setIfInBounds_toArray, List.set_cons_zero, List.set_cons_succ]
    refine wpAnyH_take (i := 7) (oi := { dst := some 10, op := Op.pick (Operand.tmp 6) (Operand.const (Value.bool true)) (Operand.tmp 9), type := 4, pos := "ref.go:78", after := #[{ on := 3, ground := Ground.data }, { on := 6, ground := Ground.data }], guard := none }) (v := ?_) rfl (by kernel_rfl) (by kernel_rfl) (by kernel_rfl) (fun _ _ _ h => h) (Or.inl ⟨by rfl, ?_⟩) hHeld ?_
    rotate_left
    · intro w hSw; (try dsimp only at hSw); go_simp; try with_reducible rfl
    try simp only [Act.put, List.setIfInBounds_toArray, List.set_cons_zero, List.set_cons_succ]
    refine wpAnyH_take (i := 8) (oi := { dst := some 11, op := Op.move (Operand.tmp 10), type := 4, pos := "ref.go:78", after := #[{ on := 7, ground := Ground.data }, { on := 3, ground := Ground.chain }], guard := none }) (v := ?_) rfl (by kernel_rfl) (by kernel_rfl) (by kernel_rfl) (fun _ _ _ h => h) (Or.inl ⟨by rfl, ?_⟩) hHeld ?_
    rotate_left
    · intro w hSw; (try dsimp only at hSw); go_simp; try with_reducible rfl
    try simp only [Act.put, List.setIfInBounds_toArray, List.set_cons_zero, List.set_cons_succ]
    refine wpAnyH_take (i := 9) (oi := { dst := some 12, op := Op.load 23 (Operand.tmp 1), type := 23, pos := "ref.go:78", after := #[{ on := 8, ground := Ground.guard }], guard := some (8, false) }) (v := undef) rfl (by kernel_rfl) (by kernel_rfl) (by kernel_rfl) (fun _ _ _ h => h) (Or.inr ⟨by kernel_rfl, rfl⟩) hHeld ?_
    try simp only [Act.put, List.setIfInBounds_toArray, List.set_cons_zero, List.set_cons_succ]
    refine wpAnyH_take (i := 10) (oi := { dst := some 13, op := Op.call { callee := Callee.value (Operand.func 57), args := #[Operand.tmp 12], argTypes := #[23] }, type := 23, pos := "ref.go:78", after := #[{ on := 9, ground := Ground.data }, { on := 8, ground := Ground.chain }, { on := 8, ground := Ground.guard }], guard := some (8, false) }) (v := undef) rfl (by kernel_rfl) (by kernel_rfl) (by kernel_rfl) (fun _ _ _ h => h) (Or.inr ⟨by kernel_rfl, rfl⟩) hHeld ?_
    try simp only [Act.put, List.setIfInBounds_toArray, List.set_cons_zero, List.set_cons_succ]
    refine wpAnyH_take (i := 11) (oi := { dst := some 14, op := Op.load 23 (Operand.tmp 1), type := 23, pos := "ref.go:78", after := #[{ on := 8, ground := Ground.guard }], guard := some (8, false) }) (v := undef) rfl (by kernel_rfl) (by kernel_rfl) (by kernel_rfl) (fun _ _ _ h => h) (Or.inr ⟨by kernel_rfl, rfl⟩) hHeld ?_
    try simp only [Act.put, List.setIfInBounds_toArray, List.set_cons_zero, List.set_cons_succ]
    refine wpAnyH_take (i := 12) (oi := { dst := some 15, op := Op.binOp BinOp.neq 23 (Operand.tmp 13) (Operand.tmp 14) 23, type := 4, pos := "ref.go:78", after := #[{ on := 10, ground := Ground.data }, { on := 11, ground := Ground.data }, { on := 8, ground := Ground.guard }], guard := some (8, false) }) (v := undef) rfl (by kernel_rfl) (by kernel_rfl) (by kernel_rfl) (fun _ _ _ h => h) (Or.inr ⟨by kernel_rfl, rfl⟩) hHeld ?_
    try simp only [Act.put, List.setIfInBounds_toArray, List.set_cons_zero, List.set_cons_succ]
    refine wpAnyH_take (i := 13) (oi := { dst := some 16, op := Op.pick (Operand.tmp 11) (Operand.const (Value.bool true)) (Operand.tmp 15), type := 4, pos := "ref.go:78", after := #[{ on := 8, ground := Ground.data }, { on := 12, ground := Ground.data }], guard := none }) (v := ?_) rfl (by kernel_rfl) (by kernel_rfl) (by kernel_rfl) (fun _ _ _ h => h) (Or.inl ⟨by rfl, ?_⟩) hHeld ?_
    rotate_left
    · intro w hSw; (try dsimp only at hSw); go_simp; try with_reducible rfl
    try simp only [Act.put, List.setIfInBounds_toArray, List.set_cons_zero, List.set_cons_succ]
    refine wpAnyH_done (by kernel_rfl) ?_ _
    clear hHeld
    go_wp2_with fail
    go_ret
    exact ⟨rfl, HB1.out.drew⟩
  have d1 : decide (k < 1) = false := by simp; omega
  by_cases a2 : k ≤ 7
  case neg =>
    obtain rfl : my = false := by rw [← hmy]; exact decide_eq_false (fun h => a2 (by have := h.1.2; dsimp only at this; omega))
    have d2 : decide (7 < k) = true := by simp; omega
    clear hmy
    go_enter Tryz.func29, Tryz.ntmps29
    go_wp2_with fail
    refine wp_region_held_drew (S := fun W => (W.cell? ⟨w.heap.size, 0, none⟩ = some (.int .i64 k)) ∧ (W.cell? ⟨w.heap.size, 1, none⟩ = some (.string t)) ∧ (W.cell? ⟨w.heap.size, 2, none⟩ = some (.int .i64 a)) ∧ (W.cell? ⟨w.heap.size, 3, none⟩ = some (.int .i64 b)) ∧ (W.cell? ⟨w.heap.size, 4, none⟩ = some (.int .i64 c)) ∧ (W.cell? ⟨w.heap.size, 5, none⟩ = some (.int .i64 d)) ∧ (W.cell? ⟨w.heap.size, 6, none⟩ = some (.int .i64 e)) ∧ (W.cell? ⟨w.heap.size, 7, none⟩ = some (.int .i64 f)) ∧ (W.cell? ⟨w.heap.size, 8, none⟩ = some (.bool q))) (by kernel_rfl) (HS.out _ (Below.refl _ W1).drew) (fun hHeld => ?_)
    refine wpAnyH_take (i := 0) (oi := { dst := some 3, op := Op.fieldAddr 23 (Operand.tmp 1) 0, type := 0, pos := "ref.go:78", after := #[], guard := none }) (v := ?_) rfl (by kernel_rfl) (by kernel_rfl) (by kernel_rfl) (fun _ _ _ h => h) (Or.inl ⟨by rfl, ?_⟩) hHeld ?_
    rotate_left
    · intro w hSw; (try dsimp only at hSw); go_simp; try with_reducible rfl
    try simp only [Act.put, List.setIfInBounds_toArray, List.set_cons_zero, List.set_cons_succ]
    refine wpAnyH_take (i := 1) (oi := { dst := some 4, op := Op.load 3 (Operand.tmp 3), type := 3, pos := "ref.go:78", after := #[{ on := 0, ground := Ground.data }], guard := none }) (v := ?_) rfl (by kernel_rfl) (by kernel_rfl) (by kernel_rfl) (fun _ _ _ h => h) (Or.inl ⟨by rfl, ?_⟩) hHeld ?_
    rotate_left
    · intro w hSw; (try dsimp only at hSw); go_simp; try with_reducible rfl
    try simp only [Act.put, List.setIfInBounds_toArray, List.set_cons_zero, List.set_cons_succ]
    refine wpAnyH_take (i := 2) (oi := { dst := some 5, op := Op.binOp BinOp.lss 3 (Operand.tmp 4) (Operand.const (Value.int IntKind.i64 1)) 3, type := 4, pos := "ref.go:78", after := #[{ on := 1, ground := Ground.data }], guard := none }) (v := ?_) rfl (by kernel_rfl) (by kernel_rfl) (by kernel_rfl) (fun _ _ _ h => h) (Or.inl ⟨by rfl, ?_⟩) hHeld ?_
    rotate_left
    · intro w hSw; (try dsimp only at hSw); go_simp; try with_reducible rfl
    try simp only [Act.put, List.setIfInBounds_toArray, List.set_cons_zero, List.set_cons_succ]
    refine wpAnyH_take (i := 3) (oi := { dst := some 6, op := Op.move (Operand.tmp 5), type := 4, pos := "ref.go:78", after := #[{ on := 2, ground := Ground.data }], guard := none }) (v := ?_) rfl (by kernel_rfl) (by kernel_rfl) (by kernel_rfl) (fun _ _ _ h => h) (Or.inl ⟨by rfl, ?_⟩) hHeld ?_
    rotate_left
    · intro w hSw; (try dsimp only at hSw); go_simp; try with_reducible rfl
    try simp only [Act.put, List.setIfInBounds_toArray, List.set_cons_zero, List.set_cons_succ]
    refine wpAnyH_take (i := 4) (oi := { dst := some 7, op := Op.fieldAddr 23 (Operand.tmp 1) 0, type := 0, pos := "ref.go:78", after := #[{ on := 3, ground := Ground.guard }], guard := some (3, false) }) (v := ?_) rfl (by kernel_rfl) (by kernel_rfl) (by kernel_rfl) (fun _ _ _ h => h) (Or.inl ⟨by rfl, ?_⟩) hHeld ?_
    rotate_left
    · intro w hSw; (try dsimp only at hSw); go_simp; try with_reducible rfl
    try simp only [Act.put, List.setIfInBounds_toArray, List.set_cons_zero, List.set_cons_succ]
    refine wpAnyH_take (i := 5) (oi := { dst := some 8, op := Op.load 3 (Operand.tmp 7), type := 3, pos := "ref.go:78", after := #[{ on := 4, ground := Ground.data }, { on := 3, ground := Ground.guard }], guard := some (3, false) }) (v := ?_) rfl (by kernel_rfl) (by kernel_rfl) (by kernel_rfl) (fun _ _ _ h => h) (Or.inl ⟨by rfl, ?_⟩) hHeld ?_
    rotate_left
    · intro w hSw; (try dsimp only at hSw); go_simp; try with_reducible rfl
    try simp only [Act.put, List.setIfInBounds_toArray, List.set_cons_zero, List.set_cons_succ]
    refine wpAnyH_take (i := 6) (oi := { dst := some 9, op := Op.binOp BinOp.gtr 3 (Operand.tmp 8) (Operand.const (Value.int IntKind.i64 7)) 3, type := 4, pos := "ref.go:78", after := #[{ on := 5, ground := Ground.data }, { on := 3, ground := Ground.guard }], guard := some (3, false) }) (v := ?_) rfl (by kernel_rfl) (by kernel_rfl) (by kernel_rfl) (fun _ _ _ h => h) (Or.inl ⟨by rfl, ?_⟩) hHeld ?_
    rotate_left
    · intro w hSw; (try dsimp only at hSw); go_simp; try with_reducible rfl
    try simp only [Act.put, List.setIfInBounds_toArray, List.set_cons_zero, List.set_cons_succ]
    refine wpAnyH_take (i := 7) (oi := { dst := some 10, op := Op.pick (Operand.tmp 6) (Operand.const (Value.bool true)) (Operand.tmp 9), type := 4, pos := "ref.go:78", after := #[{ on := 3, ground := Ground.data }, { on := 6, ground := Ground.data }], guard := none }) (v := ?_) rfl (by kernel_rfl) (by kernel_rfl) (by kernel_rfl) (fun _ _ _ h => h) (Or.inl ⟨by rfl, ?_⟩) hHeld ?_
    rotate_left
    · intro w hSw; (try dsimp only at hSw); go_simp; try with_reducible rfl
    try simp only [Act.put, List.setIfInBounds_toArray, List.set_cons_zero, List.set_cons_succ]
    refine wpAnyH_take (i := 8) (oi := { dst := some 11, op := Op.move (Operand.tmp 10), type := 4, pos := "ref.go:78", after := #[{ on := 7, ground := Ground.data }, { on := 3, ground := Ground.chain }], guard := none }) (v := ?_) rfl (by kernel_rfl) (by kernel_rfl) (by kernel_rfl) (fun _ _ _ h => h) (Or.inl ⟨by rfl, ?_⟩) hHeld ?_
    rotate_left
    · intro w hSw; (try dsimp only at hSw); go_simp; try with_reducible rfl
    try simp only [Act.put, List.setIfInBounds_toArray, List.set_cons_zero, List.set_cons_succ]
    refine wpAnyH_take (i := 9) (oi := { dst := some 12, op := Op.load 23 (Operand.tmp 1), type := 23, pos := "ref.go:78", after := #[{ on := 8, ground := Ground.guard }], guard := some (8, false) }) (v := undef) rfl (by kernel_rfl) (by kernel_rfl) (by kernel_rfl) (fun _ _ _ h => h) (Or.inr ⟨by kernel_rfl, rfl⟩) hHeld ?_
    try simp only [Act.put, List.setIfInBounds_toArray, List.set_cons_zero, List.set_cons_succ]
    refine wpAnyH_take (i := 10) (oi := { dst := some 13, op := Op.call { callee := Callee.value (Operand.func 57), args := #[Operand.tmp 12], argTypes := #[23] }, type := 23, pos := "ref.go:78", after := #[{ on := 9, ground := Ground.data }, { on := 8, ground := Ground.chain }, { on := 8, ground := Ground.guard }], guard := some (8, false) }) (v := undef) rfl (by kernel_rfl) (by kernel_rfl) (by kernel_rfl) (fun _ _ _ h => h) (Or.inr ⟨by kernel_rfl, rfl⟩) hHeld ?_
    try simp only [Act.put, List.setIfInBounds_toArray, List.set_cons_zero, List.set_cons_succ]
    refine wpAnyH_take (i := 11) (oi := { dst := some 14, op := Op.load 23 (Operand.tmp 1), type := 23, pos := "ref.go:78", after := #[{ on := 8, ground := Ground.guard }], guard := some (8, false) }) (v := undef) rfl (by kernel_rfl) (by kernel_rfl) (by kernel_rfl) (fun _ _ _ h => h) (Or.inr ⟨by kernel_rfl, rfl⟩) hHeld ?_
    try simp only [Act.put, List.setIfInBounds_toArray, List.set_cons_zero, List.set_cons_succ]
    refine wpAnyH_take (i := 12) (oi := { dst := some 15, op := Op.binOp BinOp.neq 23 (Operand.tmp 13) (Operand.tmp 14) 23, type := 4, pos := "ref.go:78", after := #[{ on := 10, ground := Ground.data }, { on := 11, ground := Ground.data }, { on := 8, ground := Ground.guard }], guard := some (8, false) }) (v := undef) rfl (by kernel_rfl) (by kernel_rfl) (by kernel_rfl) (fun _ _ _ h => h) (Or.inr ⟨by kernel_rfl, rfl⟩) hHeld ?_
    try simp only [Act.put, List.setIfInBounds_toArray, List.set_cons_zero, List.set_cons_succ]
    refine wpAnyH_take (i := 13) (oi := { dst := some 16, op := Op.pick (Operand.tmp 11) (Operand.const (Value.bool true)) (Operand.tmp 15), type := 4, pos := "ref.go:78", after := #[{ on := 8, ground := Ground.data }, { on := 12, ground := Ground.data }], guard := none }) (v := ?_) rfl (by kernel_rfl) (by kernel_rfl) (by kernel_rfl) (fun _ _ _ h => h) (Or.inl ⟨by rfl, ?_⟩) hHeld ?_
    rotate_left
    · intro w hSw; (try dsimp only at hSw); go_simp; try with_reducible rfl
    try simp only [Act.put, List.setIfInBounds_toArray, List.set_cons_zero, List.set_cons_succ]
    refine wpAnyH_done (by kernel_rfl) ?_ _
    clear hHeld
    go_wp2_with fail
    go_ret
    exact ⟨rfl, HB1.out.drew⟩
  have d2 : decide (7 < k) = false := by simp; omega
  by_cases a3 : (⟨k, s, a, b, c, d, e, f, q⟩ : Ev) = Ev.taken ⟨k, s, a, b, c, d, e, f, q⟩
  case neg =>
    obtain rfl : my = false := by rw [← hmy]; exact decide_eq_false (fun h => a3 h.2.1)
    have hcmp : (!decide (Ev.taken ⟨k, s, a, b, c, d, e, f, q⟩ = (⟨k, s, a, b, c, d, e, f, q⟩ : Ev))) = true := by simp; exact fun h => a3 h.symm
    clear hmy
    go_enter Tryz.func29, Tryz.ntmps29
    go_wp2_with fail
    refine wp_region_held_drew (S := fun W => (W.cell? ⟨w.heap.size, 0, none⟩ = some (.int .i64 k)) ∧ (W.cell? ⟨w.heap.size, 1, none⟩ = some (.string t)) ∧ (W.cell? ⟨w.heap.size, 2, none⟩ = some (.int .i64 a)) ∧ (W.cell? ⟨w.heap.size, 3, none⟩ = some (.int .i64 b)) ∧ (W.cell? ⟨w.heap.size, 4, none⟩ = some (.int .i64 c)) ∧ (W.cell? ⟨w.heap.size, 5, none⟩ = some (.int .i64 d)) ∧ (W.cell? ⟨w.heap.size, 6, none⟩ = some (.int .i64 e)) ∧ (W.cell? ⟨w.heap.size, 7, none⟩ = some (.int .i64 f)) ∧ (W.cell? ⟨w.heap.size, 8, none⟩ = some (.bool q))) (by kernel_rfl) (HS.out _ (Below.refl _ W1).drew) (fun hHeld => ?_)
    refine wpAnyH_take (i := 0) (oi := { dst := some 3, op := Op.fieldAddr 23 (Operand.tmp 1) 0, type := 0, pos := "ref.go:78", after := #[], guard := none }) (v := ?_) rfl (by kernel_rfl) (by kernel_rfl) (by kernel_rfl) (fun _ _ _ h => h) (Or.inl ⟨by rfl, ?_⟩) hHeld ?_
    rotate_left
    · intro w hSw; (try dsimp only at hSw); go_simp; try with_reducible rfl
    try simp only [Act.put, List.setIfInBounds_toArray, List.set_cons_zero, List.set_cons_succ]
    refine wpAnyH_take (i := 1) (oi := { dst := some 4, op := Op.load 3 (Operand.tmp 3), type := 3, pos := "ref.go:78", after := #[{ on := 0, ground := Ground.data }], guard := none }) (v := ?_) rfl (by kernel_rfl) (by kernel_rfl) (by kernel_rfl) (fun _ _ _ h => h) (Or.inl ⟨by rfl, ?_⟩) hHeld ?_
    rotate_left
    · intro w hSw; (try dsimp only at hSw); go_simp; try with_reducible rfl
    try simp only [Act.put, List.setIfInBounds_toArray, List.set_cons_zero, List.set_cons_succ]
    refine wpAnyH_take (i := 2) (oi := { dst := some 5, op := Op.binOp BinOp.lss 3 (Operand.tmp 4) (Operand.const (Value.int IntKind.i64 1)) 3, type := 4, pos := "ref.go:78", after := #[{ on := 1, ground := Ground.data }], guard := none }) (v := ?_) rfl (by kernel_rfl) (by kernel_rfl) (by kernel_rfl) (fun _ _ _ h => h) (Or.inl ⟨by rfl, ?_⟩) hHeld ?_
    rotate_left
    · intro w hSw; (try dsimp only at hSw); go_simp; try with_reducible rfl
    try simp only [Act.put, List.setIfInBounds_toArray, List.set_cons_zero, List.set_cons_succ]
    refine wpAnyH_take (i := 3) (oi := { dst := some 6, op := Op.move (Operand.tmp 5), type := 4, pos := "ref.go:78", after := #[{ on := 2, ground := Ground.data }], guard := none }) (v := ?_) rfl (by kernel_rfl) (by kernel_rfl) (by kernel_rfl) (fun _ _ _ h => h) (Or.inl ⟨by rfl, ?_⟩) hHeld ?_
    rotate_left
    · intro w hSw; (try dsimp only at hSw); go_simp; try with_reducible rfl
    try simp only [Act.put, List.setIfInBounds_toArray, List.set_cons_zero, List.set_cons_succ]
    refine wpAnyH_take (i := 4) (oi := { dst := some 7, op := Op.fieldAddr 23 (Operand.tmp 1) 0, type := 0, pos := "ref.go:78", after := #[{ on := 3, ground := Ground.guard }], guard := some (3, false) }) (v := ?_) rfl (by kernel_rfl) (by kernel_rfl) (by kernel_rfl) (fun _ _ _ h => h) (Or.inl ⟨by rfl, ?_⟩) hHeld ?_
    rotate_left
    · intro w hSw; (try dsimp only at hSw); go_simp; try with_reducible rfl
    try simp only [Act.put, List.setIfInBounds_toArray, List.set_cons_zero, List.set_cons_succ]
    refine wpAnyH_take (i := 5) (oi := { dst := some 8, op := Op.load 3 (Operand.tmp 7), type := 3, pos := "ref.go:78", after := #[{ on := 4, ground := Ground.data }, { on := 3, ground := Ground.guard }], guard := some (3, false) }) (v := ?_) rfl (by kernel_rfl) (by kernel_rfl) (by kernel_rfl) (fun _ _ _ h => h) (Or.inl ⟨by rfl, ?_⟩) hHeld ?_
    rotate_left
    · intro w hSw; (try dsimp only at hSw); go_simp; try with_reducible rfl
    try simp only [Act.put, List.setIfInBounds_toArray, List.set_cons_zero, List.set_cons_succ]
    refine wpAnyH_take (i := 6) (oi := { dst := some 9, op := Op.binOp BinOp.gtr 3 (Operand.tmp 8) (Operand.const (Value.int IntKind.i64 7)) 3, type := 4, pos := "ref.go:78", after := #[{ on := 5, ground := Ground.data }, { on := 3, ground := Ground.guard }], guard := some (3, false) }) (v := ?_) rfl (by kernel_rfl) (by kernel_rfl) (by kernel_rfl) (fun _ _ _ h => h) (Or.inl ⟨by rfl, ?_⟩) hHeld ?_
    rotate_left
    · intro w hSw; (try dsimp only at hSw); go_simp; try with_reducible rfl
    try simp only [Act.put, List.setIfInBounds_toArray, List.set_cons_zero, List.set_cons_succ]
    refine wpAnyH_take (i := 7) (oi := { dst := some 10, op := Op.pick (Operand.tmp 6) (Operand.const (Value.bool true)) (Operand.tmp 9), type := 4, pos := "ref.go:78", after := #[{ on := 3, ground := Ground.data }, { on := 6, ground := Ground.data }], guard := none }) (v := ?_) rfl (by kernel_rfl) (by kernel_rfl) (by kernel_rfl) (fun _ _ _ h => h) (Or.inl ⟨by rfl, ?_⟩) hHeld ?_
    rotate_left
    · intro w hSw; (try dsimp only at hSw); go_simp; try with_reducible rfl
    try simp only [Act.put, List.setIfInBounds_toArray, List.set_cons_zero, List.set_cons_succ]
    refine wpAnyH_take (i := 8) (oi := { dst := some 11, op := Op.move (Operand.tmp 10), type := 4, pos := "ref.go:78", after := #[{ on := 7, ground := Ground.data }, { on := 3, ground := Ground.chain }], guard := none }) (v := ?_) rfl (by kernel_rfl) (by kernel_rfl) (by kernel_rfl) (fun _ _ _ h => h) (Or.inl ⟨by rfl, ?_⟩) hHeld ?_
    rotate_left
    · intro w hSw; (try dsimp only at hSw); go_simp; try with_reducible rfl
    try simp only [Act.put, List.setIfInBounds_toArray, List.set_cons_zero, List.set_cons_succ]
    refine wpAnyH_take (i := 9) (oi := { dst := some 12, op := Op.load 23 (Operand.tmp 1), type := 23, pos := "ref.go:78", after := #[{ on := 8, ground := Ground.guard }], guard := some (8, false) }) (v := ?_) rfl (by kernel_rfl) (by kernel_rfl) (by kernel_rfl) (fun _ _ _ h => h) (Or.inl ⟨by rfl, ?_⟩) hHeld ?_
    rotate_left
    · intro w hSw; (try dsimp only at hSw); go_simp; try with_reducible rfl
    try simp only [Act.put, List.setIfInBounds_toArray, List.set_cons_zero, List.set_cons_succ]
    refine wpAnyH_take (i := 11) (oi := { dst := some 14, op := Op.load 23 (Operand.tmp 1), type := 23, pos := "ref.go:78", after := #[{ on := 8, ground := Ground.guard }], guard := some (8, false) }) (v := ?_) rfl (by kernel_rfl) (by kernel_rfl) (by kernel_rfl) (fun _ _ _ h => h) (Or.inl ⟨by rfl, ?_⟩) hHeld ?_
    rotate_left
    · intro w hSw; (try dsimp only at hSw); go_simp; try with_reducible rfl
    try simp only [Act.put, List.setIfInBounds_toArray, List.set_cons_zero, List.set_cons_succ]
    refine wpAnyH_ready (rs := [10]) (by kernel_rfl) (by simp) ?_
    refine AllReadyH.cons rfl (fun K hK => ?_) (AllReadyH.nil)
    go_simp
    go_wp2_with (go_at_call 57; refine (HT.out _).mono ?_; rintro r W2 ⟨rfl, hb2⟩; have HB2 := hid ((Below.refl _ W1).drew.trans hb2); clear hb2)
    refine hK.out _ _ (HS.out _ HB2.out) (fun hHeld => ?_)
    clear hK K
    refine wpAnyH_take (i := 12) (oi := { dst := some 15, op := Op.binOp BinOp.neq 23 (Operand.tmp 13) (Operand.tmp 14) 23, type := 4, pos := "ref.go:78", after := #[{ on := 10, ground := Ground.data }, { on := 11, ground := Ground.data }, { on := 8, ground := Ground.guard }], guard := some (8, false) }) (v := .bool true) rfl (by kernel_rfl) (by kernel_rfl) (by kernel_rfl) (fun _ _ _ h => h) (Or.inl ⟨by rfl, ?_⟩) hHeld ?_
    · intro w hSw; rw [← hcmp]; exact exec_rneq (Ev.taken ⟨k, s, a, b, c, d, e, f, q⟩) ⟨k, s, a, b, c, d, e, f, q⟩ (.tmp 13) (.tmp 14) (by rfl) (by rw [hTV]; rfl) (by subst ht; rfl)
    refine wpAnyH_take (i := 13) (oi := { dst := some 16, op := Op.pick (Operand.tmp 11) (Operand.const (Value.bool true)) (Operand.tmp 15), type := 4, pos := "ref.go:78", after := #[{ on := 8, ground := Ground.data }, { on := 12, ground := Ground.data }], guard := none }) (v := ?_) rfl (by kernel_rfl) (by kernel_rfl) (by kernel_rfl) (fun _ _ _ h => h) (Or.inl ⟨by rfl, ?_⟩) hHeld ?_
    rotate_left
    · intro w hSw; (try dsimp only at hSw); go_simp; try with_reducible rfl
    try simp only [Act.put, List.setIfInBounds_toArray, List.set_cons_zero, List.set_cons_succ]
    refine wpAnyH_done (by kernel_rfl) ?_ _
    clear hHeld
    go_wp2_with fail
    go_ret
    exact ⟨rfl, HB1.out.trans (HB2.out.mono HB1.out.size)⟩
  have hcmp : (!decide (Ev.taken ⟨k, s, a, b, c, d, e, f, q⟩ = (⟨k, s, a, b, c, d, e, f, q⟩ : Ev))) = false := by rw [decide_eq_true a3.symm]; rfl
  by_cases a5 : k = 5
  case pos =>
    have hq : my = (inb a 281474976710656 && (inb b 32 && (inb c 281474976710656 && (inb d 281474976710656 && (inb e 2147483648 && inb f 281474976710656))))) := by rw [← hmy]; exact may_inb a1 a2 a3 (fun h => absurd a5 h)
    subst a5
    clear d1 d2
    have HQ := hid hq
    clear hq
    go_enter Tryz.func29, Tryz.ntmps29
    go_wp2_with fail
    refine wp_region_held_drew (S := fun W => (W.cell? ⟨w.heap.size, 0, none⟩ = some (.int .i64 5)) ∧ (W.cell? ⟨w.heap.size, 1, none⟩ = some (.string t)) ∧ (W.cell? ⟨w.heap.size, 2, none⟩ = some (.int .i64 a)) ∧ (W.cell? ⟨w.heap.size, 3, none⟩ = some (.int .i64 b)) ∧ (W.cell? ⟨w.heap.size, 4, none⟩ = some (.int .i64 c)) ∧ (W.cell? ⟨w.heap.size, 5, none⟩ = some (.int .i64 d)) ∧ (W.cell? ⟨w.heap.size, 6, none⟩ = some (.int .i64 e)) ∧ (W.cell? ⟨w.heap.size, 7, none⟩ = some (.int .i64 f)) ∧ (W.cell? ⟨w.heap.size, 8, none⟩ = some (.bool q))) (by kernel_rfl) (HS.out _ (Below.refl _ W1).drew) (fun hHeld => ?_)
    refine wpAnyH_take (i := 0) (oi := { dst := some 3, op := Op.fieldAddr 23 (Operand.tmp 1) 0, type := 0, pos := "ref.go:78", after := #[], guard := none }) (v := ?_) rfl (by kernel_rfl) (by kernel_rfl) (by kernel_rfl) (fun _ _ _ h => h) (Or.inl ⟨by rfl, ?_⟩) hHeld ?_
    rotate_left
    · intro w hSw; (try dsimp only at hSw); go_simp; try with_reducible rfl
    try simp only [Act.put, List.setIfInBounds_toArray, List.set_cons_zero, List.set_cons_succ]
    refine wpAnyH_take (i := 1) (oi := { dst := some 4, op := Op.load 3 (Operand.tmp 3), type := 3, pos := "ref.go:78", after := #[{ on := 0, ground := Ground.data }], guard := none }) (v := ?_) rfl (by kernel_rfl) (by kernel_rfl) (by kernel_rfl) (fun _ _ _ h => h) (Or.inl ⟨by rfl, ?_⟩) hHeld ?_
    rotate_left
    · intro w hSw; (try dsimp only at hSw); go_simp; try with_reducible rfl
    try simp only [Act.put, List.setIfInBounds_toArray, List.set_cons_zero, List.set_cons_succ]
    refine wpAnyH_take (i := 2) (oi := { dst := some 5, op := Op.binOp BinOp.lss 3 (Operand.tmp 4) (Operand.const (Value.int IntKind.i64 1)) 3, type := 4, pos := "ref.go:78", after := #[{ on := 1, ground := Ground.data }], guard := none }) (v := ?_) rfl (by kernel_rfl) (by kernel_rfl) (by kernel_rfl) (fun _ _ _ h => h) (Or.inl ⟨by rfl, ?_⟩) hHeld ?_
    rotate_left
    · intro w hSw; (try dsimp only at hSw); go_simp; try with_reducible rfl
    try simp only [Act.put, List.setIfInBounds_toArray, List.set_cons_zero, List.set_cons_succ]
    refine wpAnyH_take (i := 3) (oi := { dst := some 6, op := Op.move (Operand.tmp 5), type := 4, pos := "ref.go:78", after := #[{ on := 2, ground := Ground.data }], guard := none }) (v := ?_) rfl (by kernel_rfl) (by kernel_rfl) (by kernel_rfl) (fun _ _ _ h => h) (Or.inl ⟨by rfl, ?_⟩) hHeld ?_
    rotate_left
    · intro w hSw; (try dsimp only at hSw); go_simp; try with_reducible rfl
    try simp only [Act.put, List.setIfInBounds_toArray, List.set_cons_zero, List.set_cons_succ]
    refine wpAnyH_take (i := 4) (oi := { dst := some 7, op := Op.fieldAddr 23 (Operand.tmp 1) 0, type := 0, pos := "ref.go:78", after := #[{ on := 3, ground := Ground.guard }], guard := some (3, false) }) (v := ?_) rfl (by kernel_rfl) (by kernel_rfl) (by kernel_rfl) (fun _ _ _ h => h) (Or.inl ⟨by rfl, ?_⟩) hHeld ?_
    rotate_left
    · intro w hSw; (try dsimp only at hSw); go_simp; try with_reducible rfl
    try simp only [Act.put, List.setIfInBounds_toArray, List.set_cons_zero, List.set_cons_succ]
    refine wpAnyH_take (i := 5) (oi := { dst := some 8, op := Op.load 3 (Operand.tmp 7), type := 3, pos := "ref.go:78", after := #[{ on := 4, ground := Ground.data }, { on := 3, ground := Ground.guard }], guard := some (3, false) }) (v := ?_) rfl (by kernel_rfl) (by kernel_rfl) (by kernel_rfl) (fun _ _ _ h => h) (Or.inl ⟨by rfl, ?_⟩) hHeld ?_
    rotate_left
    · intro w hSw; (try dsimp only at hSw); go_simp; try with_reducible rfl
    try simp only [Act.put, List.setIfInBounds_toArray, List.set_cons_zero, List.set_cons_succ]
    refine wpAnyH_take (i := 6) (oi := { dst := some 9, op := Op.binOp BinOp.gtr 3 (Operand.tmp 8) (Operand.const (Value.int IntKind.i64 7)) 3, type := 4, pos := "ref.go:78", after := #[{ on := 5, ground := Ground.data }, { on := 3, ground := Ground.guard }], guard := some (3, false) }) (v := ?_) rfl (by kernel_rfl) (by kernel_rfl) (by kernel_rfl) (fun _ _ _ h => h) (Or.inl ⟨by rfl, ?_⟩) hHeld ?_
    rotate_left
    · intro w hSw; (try dsimp only at hSw); go_simp; try with_reducible rfl
    try simp only [Act.put, List.setIfInBounds_toArray, List.set_cons_zero, List.set_cons_succ]
    refine wpAnyH_take (i := 7) (oi := { dst := some 10, op := Op.pick (Operand.tmp 6) (Operand.const (Value.bool true)) (Operand.tmp 9), type := 4, pos := "ref.go:78", after := #[{ on := 3, ground := Ground.data }, { on := 6, ground := Ground.data }], guard := none }) (v := ?_) rfl (by kernel_rfl) (by kernel_rfl) (by kernel_rfl) (fun _ _ _ h => h) (Or.inl ⟨by rfl, ?_⟩) hHeld ?_
    rotate_left
    · intro w hSw; (try dsimp only at hSw); go_simp; try with_reducible rfl
    try simp only [Act.put, List.setIfInBounds_toArray, List.set_cons_zero, List.set_cons_succ]
    refine wpAnyH_take (i := 8) (oi := { dst := some 11, op := Op.move (Operand.tmp 10), type := 4, pos := "ref.go:78", after := #[{ on := 7, ground := Ground.data }, { on := 3, ground := Ground.chain }], guard := none }) (v := ?_) rfl (by kernel_rfl) (by kernel_rfl) (by kernel_rfl) (fun _ _ _ h => h) (Or.inl ⟨by rfl, ?_⟩) hHeld ?_
    rotate_left
    · intro w hSw; (try dsimp only at hSw); go_simp; try with_reducible rfl
    try simp only [Act.put, List.setIfInBounds_toArray, List.set_cons_zero, List.set_cons_succ]
    refine wpAnyH_take (i := 9) (oi := { dst := some 12, op := Op.load 23 (Operand.tmp 1), type := 23, pos := "ref.go:78", after := #[{ on := 8, ground := Ground.guard }], guard := some (8, false) }) (v := ?_) rfl (by kernel_rfl) (by kernel_rfl) (by kernel_rfl) (fun _ _ _ h => h) (Or.inl ⟨by rfl, ?_⟩) hHeld ?_
    rotate_left
    · intro w hSw; (try dsimp only at hSw); go_simp; try with_reducible rfl
    try simp only [Act.put, List.setIfInBounds_toArray, List.set_cons_zero, List.set_cons_succ]
    refine wpAnyH_take (i := 11) (oi := { dst := some 14, op := Op.load 23 (Operand.tmp 1), type := 23, pos := "ref.go:78", after := #[{ on := 8, ground := Ground.guard }], guard := some (8, false) }) (v := ?_) rfl (by kernel_rfl) (by kernel_rfl) (by kernel_rfl) (fun _ _ _ h => h) (Or.inl ⟨by rfl, ?_⟩) hHeld ?_
    rotate_left
    · intro w hSw; (try dsimp only at hSw); go_simp; try with_reducible rfl
    try simp only [Act.put, List.setIfInBounds_toArray, List.set_cons_zero, List.set_cons_succ]
    refine wpAnyH_ready (rs := [10]) (by kernel_rfl) (by simp) ?_
    refine AllReadyH.cons rfl (fun K hK => ?_) (AllReadyH.nil)
    go_simp
    go_wp2_with (go_at_call 57; refine (HT.out _).mono ?_; rintro r W2 ⟨rfl, hb2⟩; have HB2 := hid ((Below.refl _ W1).drew.trans hb2); clear hb2)
    refine hK.out _ _ (HS.out _ HB2.out) (fun hHeld => ?_)
    clear hK K
    refine wpAnyH_take (i := 12) (oi := { dst := some 15, op := Op.binOp BinOp.neq 23 (Operand.tmp 13) (Operand.tmp 14) 23, type := 4, pos := "ref.go:78", after := #[{ on := 10, ground := Ground.data }, { on := 11, ground := Ground.data }, { on := 8, ground := Ground.guard }], guard := some (8, false) }) (v := .bool false) rfl (by kernel_rfl) (by kernel_rfl) (by kernel_rfl) (fun _ _ _ h => h) (Or.inl ⟨by rfl, ?_⟩) hHeld ?_
    · intro w hSw; rw [← hcmp]; exact exec_rneq (Ev.taken ⟨5, s, a, b, c, d, e, f, q⟩) ⟨5, s, a, b, c, d, e, f, q⟩ (.tmp 13) (.tmp 14) (by rfl) (by rw [hTV]; rfl) (by subst ht; rfl)
    refine wpAnyH_take (i := 13) (oi := { dst := some 16, op := Op.pick (Operand.tmp 11) (Operand.const (Value.bool true)) (Operand.tmp 15), type := 4, pos := "ref.go:78", after := #[{ on := 8, ground := Ground.data }, { on := 12, ground := Ground.data }], guard := none }) (v := ?_) rfl (by kernel_rfl) (by kernel_rfl) (by kernel_rfl) (fun _ _ _ h => h) (Or.inl ⟨by rfl, ?_⟩) hHeld ?_
    rotate_left
    · intro w hSw; (try dsimp only at hSw); go_simp; try with_reducible rfl
    try simp only [Act.put, List.setIfInBounds_toArray, List.set_cons_zero, List.set_cons_succ]
    refine wpAnyH_done (by kernel_rfl) ?_ _
    clear hHeld
    clear c0 c1 c2 c3 c4 c5 c6 c7 c8
    obtain ⟨c0, c1, c2, c3, c4, c5, c6, c7, c8⟩ := HS.out W2 HB2.out
    clear a1 a2 a3 hmy
    have Ha := hid (HIn.out a 281474976710656 W2)
    have Hb := hid (HIn.out b 32 W2)
    have Hc := hid (HIn.out c 281474976710656 W2)
    have Hd := hid (HIn.out d 281474976710656 W2)
    have He := hid (HIn.out e 2147483648 W2)
    have Hf := hid (HIn.out f 281474976710656 W2)
    generalize inb a 281474976710656 = pa at *
    generalize inb b 32 = pb at *
    generalize inb c 281474976710656 = pc at *
    generalize inb d 281474976710656 = pd at *
    generalize inb e 2147483648 = pe at *
    generalize inb f 281474976710656 = pf at *
    cases pa with
    | false =>
      obtain rfl : my = false := by rw [HQ.out]; cases pb <;> cases pc <;> cases pd <;> cases pe <;> cases pf <;> rfl
      go_wp2_with (first | (go_at_call 58; (with_reducible_and_instances (refine Ha.out.mono ?_)); rintro r w9 ⟨rfl, hw9⟩; obtain rfl := hw9.symm) | (go_at_call 58; (with_reducible_and_instances (refine Hb.out.mono ?_)); rintro r w9 ⟨rfl, hw9⟩; obtain rfl := hw9.symm) | (go_at_call 58; (with_reducible_and_instances (refine Hc.out.mono ?_)); rintro r w9 ⟨rfl, hw9⟩; obtain rfl := hw9.symm) | (go_at_call 58; (with_reducible_and_instances (refine Hd.out.mono ?_)); rintro r w9 ⟨rfl, hw9⟩; obtain rfl := hw9.symm) | (go_at_call 58; (with_reducible_and_instances (refine He.out.mono ?_)); rintro r w9 ⟨rfl, hw9⟩; obtain rfl := hw9.symm) | (go_at_call 58; (with_reducible_and_instances (refine Hf.out.mono ?_)); rintro r w9 ⟨rfl, hw9⟩; obtain rfl := hw9.symm))
      go_ret
      exact ⟨rfl, HB1.out.trans (HB2.out.mono HB1.out.size)⟩
    | true =>
      cases pb with
      | false =>
        obtain rfl : my = false := by rw [HQ.out]; cases pc <;> cases pd <;> cases pe <;> cases pf <;> rfl
        go_wp2_with (first | (go_at_call 58; (with_reducible_and_instances (refine Ha.out.mono ?_)); rintro r w9 ⟨rfl, hw9⟩; obtain rfl := hw9.symm) | (go_at_call 58; (with_reducible_and_instances (refine Hb.out.mono ?_)); rintro r w9 ⟨rfl, hw9⟩; obtain rfl := hw9.symm) | (go_at_call 58; (with_reducible_and_instances (refine Hc.out.mono ?_)); rintro r w9 ⟨rfl, hw9⟩; obtain rfl := hw9.symm) | (go_at_call 58; (with_reducible_and_instances (refine Hd.out.mono ?_)); rintro r w9 ⟨rfl, hw9⟩; obtain rfl := hw9.symm) | (go_at_call 58; (with_reducible_and_instances (refine He.out.mono ?_)); rintro r w9 ⟨rfl, hw9⟩; obtain rfl := hw9.symm) | (go_at_call 58; (with_reducible_and_instances (refine Hf.out.mono ?_)); rintro r w9 ⟨rfl, hw9⟩; obtain rfl := hw9.symm))
        go_ret
        exact ⟨rfl, HB1.out.trans (HB2.out.mono HB1.out.size)⟩
      | true =>
        cases pc with
        | false =>
          obtain rfl : my = false := by rw [HQ.out]; cases pd <;> cases pe <;> cases pf <;> rfl
          go_wp2_with (first | (go_at_call 58; (with_reducible_and_instances (refine Ha.out.mono ?_)); rintro r w9 ⟨rfl, hw9⟩; obtain rfl := hw9.symm) | (go_at_call 58; (with_reducible_and_instances (refine Hb.out.mono ?_)); rintro r w9 ⟨rfl, hw9⟩; obtain rfl := hw9.symm) | (go_at_call 58; (with_reducible_and_instances (refine Hc.out.mono ?_)); rintro r w9 ⟨rfl, hw9⟩; obtain rfl := hw9.symm) | (go_at_call 58; (with_reducible_and_instances (refine Hd.out.mono ?_)); rintro r w9 ⟨rfl, hw9⟩; obtain rfl := hw9.symm) | (go_at_call 58; (with_reducible_and_instances (refine He.out.mono ?_)); rintro r w9 ⟨rfl, hw9⟩; obtain rfl := hw9.symm) | (go_at_call 58; (with_reducible_and_instances (refine Hf.out.mono ?_)); rintro r w9 ⟨rfl, hw9⟩; obtain rfl := hw9.symm))
          go_ret
          exact ⟨rfl, HB1.out.trans (HB2.out.mono HB1.out.size)⟩
        | true =>
          cases pd with
          | false =>
            obtain rfl : my = false := by rw [HQ.out]; cases pe <;> cases pf <;> rfl
            go_wp2_with (first | (go_at_call 58; (with_reducible_and_instances (refine Ha.out.mono ?_)); rintro r w9 ⟨rfl, hw9⟩; obtain rfl := hw9.symm) | (go_at_call 58; (with_reducible_and_instances (refine Hb.out.mono ?_)); rintro r w9 ⟨rfl, hw9⟩; obtain rfl := hw9.symm) | (go_at_call 58; (with_reducible_and_instances (refine Hc.out.mono ?_)); rintro r w9 ⟨rfl, hw9⟩; obtain rfl := hw9.symm) | (go_at_call 58; (with_reducible_and_instances (refine Hd.out.mono ?_)); rintro r w9 ⟨rfl, hw9⟩; obtain rfl := hw9.symm) | (go_at_call 58; (with_reducible_and_instances (refine He.out.mono ?_)); rintro r w9 ⟨rfl, hw9⟩; obtain rfl := hw9.symm) | (go_at_call 58; (with_reducible_and_instances (refine Hf.out.mono ?_)); rintro r w9 ⟨rfl, hw9⟩; obtain rfl := hw9.symm))
            go_ret
            exact ⟨rfl, HB1.out.trans (HB2.out.mono HB1.out.size)⟩
          | true =>
            cases pe with
            | false =>
              obtain rfl : my = false := by rw [HQ.out]; cases pf <;> rfl
              go_wp2_with (first | (go_at_call 58; (with_reducible_and_instances (refine Ha.out.mono ?_)); rintro r w9 ⟨rfl, hw9⟩; obtain rfl := hw9.symm) | (go_at_call 58; (with_reducible_and_instances (refine Hb.out.mono ?_)); rintro r w9 ⟨rfl, hw9⟩; obtain rfl := hw9.symm) | (go_at_call 58; (with_reducible_and_instances (refine Hc.out.mono ?_)); rintro r w9 ⟨rfl, hw9⟩; obtain rfl := hw9.symm) | (go_at_call 58; (with_reducible_and_instances (refine Hd.out.mono ?_)); rintro r w9 ⟨rfl, hw9⟩; obtain rfl := hw9.symm) | (go_at_call 58; (with_reducible_and_instances (refine He.out.mono ?_)); rintro r w9 ⟨rfl, hw9⟩; obtain rfl := hw9.symm) | (go_at_call 58; (with_reducible_and_instances (refine Hf.out.mono ?_)); rintro r w9 ⟨rfl, hw9⟩; obtain rfl := hw9.symm))
              go_ret
              exact ⟨rfl, HB1.out.trans (HB2.out.mono HB1.out.size)⟩
            | true =>
              obtain rfl : my = pf := by rw [HQ.out]; cases pf <;> rfl
              go_wp2_with (first | (go_at_call 58; (with_reducible_and_instances (refine Ha.out.mono ?_)); rintro r w9 ⟨rfl, hw9⟩; obtain rfl := hw9.symm) | (go_at_call 58; (with_reducible_and_instances (refine Hb.out.mono ?_)); rintro r w9 ⟨rfl, hw9⟩; obtain rfl := hw9.symm) | (go_at_call 58; (with_reducible_and_instances (refine Hc.out.mono ?_)); rintro r w9 ⟨rfl, hw9⟩; obtain rfl := hw9.symm) | (go_at_call 58; (with_reducible_and_instances (refine Hd.out.mono ?_)); rintro r w9 ⟨rfl, hw9⟩; obtain rfl := hw9.symm) | (go_at_call 58; (with_reducible_and_instances (refine He.out.mono ?_)); rintro r w9 ⟨rfl, hw9⟩; obtain rfl := hw9.symm) | (go_at_call 58; (with_reducible_and_instances (refine Hf.out.mono ?_)); rintro r w9 ⟨rfl, hw9⟩; obtain rfl := hw9.symm))
              go_ret
              exact ⟨rfl, HB1.out.trans (HB2.out.mono HB1.out.size)⟩
  by_cases a7 : k = 7
  case pos =>
    have hq : my = (inb a 281474976710656 && (inb b 32 && (inb c 281474976710656 && (inb d 281474976710656 && (inb e 2147483648 && inb f 281474976710656))))) := by rw [← hmy]; exact may_inb a1 a2 a3 (fun _ h => absurd a7 h)
    clear a5
    subst a7
    clear d1 d2
    have HQ := hid hq
    clear hq
    go_enter Tryz.func29, Tryz.ntmps29
    go_wp2_with fail
    refine wp_region_held_drew (S := fun W => (W.cell? ⟨w.heap.size, 0, none⟩ = some (.int .i64 7)) ∧ (W.cell? ⟨w.heap.size, 1, none⟩ = some (.string t)) ∧ (W.cell? ⟨w.heap.size, 2, none⟩ = some (.int .i64 a)) ∧ (W.cell? ⟨w.heap.size, 3, none⟩ = some (.int .i64 b)) ∧ (W.cell? ⟨w.heap.size, 4, none⟩ = some (.int .i64 c)) ∧ (W.cell? ⟨w.heap.size, 5, none⟩ = some (.int .i64 d)) ∧ (W.cell? ⟨w.heap.size, 6, none⟩ = some (.int .i64 e)) ∧ (W.cell? ⟨w.heap.size, 7, none⟩ = some (.int .i64 f)) ∧ (W.cell? ⟨w.heap.size, 8, none⟩ = some (.bool q))) (by kernel_rfl) (HS.out _ (Below.refl _ W1).drew) (fun hHeld => ?_)
    refine wpAnyH_take (i := 0) (oi := { dst := some 3, op := Op.fieldAddr 23 (Operand.tmp 1) 0, type := 0, pos := "ref.go:78", after := #[], guard := none }) (v := ?_) rfl (by kernel_rfl) (by kernel_rfl) (by kernel_rfl) (fun _ _ _ h => h) (Or.inl ⟨by rfl, ?_⟩) hHeld ?_
    rotate_left
    · intro w hSw; (try dsimp only at hSw); go_simp; try with_reducible rfl
    try simp only [Act.put, List.setIfInBounds_toArray, List.set_cons_zero, List.set_cons_succ]
    refine wpAnyH_take (i := 1) (oi := { dst := some 4, op := Op.load 3 (Operand.tmp 3), type := 3, pos := "ref.go:78", after := #[{ on := 0, ground := Ground.data }], guard := none }) (v := ?_) rfl (by kernel_rfl) (by kernel_rfl) (by kernel_rfl) (fun _ _ _ h => h) (Or.inl ⟨by rfl, ?_⟩) hHeld ?_
    rotate_left
    · intro w hSw; (try dsimp only at hSw); go_simp; try with_reducible rfl
    try simp only [Act.put, List.setIfInBounds_toArray, List.set_cons_zero, List.set_cons_succ]
    refine wpAnyH_take (i := 2) (oi := { dst := some 5, op := Op.binOp BinOp.lss 3 (Operand.tmp 4) (Operand.const (Value.int IntKind.i64 1)) 3, type := 4, pos := "ref.go:78", after := #[{ on := 1, ground := Ground.data }], guard := none }) (v := ?_) rfl (by kernel_rfl) (by kernel_rfl) (by kernel_rfl) (fun _ _ _ h => h) (Or.inl ⟨by rfl, ?_⟩) hHeld ?_
    rotate_left
    · intro w hSw; (try dsimp only at hSw); go_simp; try with_reducible rfl
    try simp only [Act.put, List.setIfInBounds_toArray, List.set_cons_zero, List.set_cons_succ]
    refine wpAnyH_take (i := 3) (oi := { dst := some 6, op := Op.move (Operand.tmp 5), type := 4, pos := "ref.go:78", after := #[{ on := 2, ground := Ground.data }], guard := none }) (v := ?_) rfl (by kernel_rfl) (by kernel_rfl) (by kernel_rfl) (fun _ _ _ h => h) (Or.inl ⟨by rfl, ?_⟩) hHeld ?_
    rotate_left
    · intro w hSw; (try dsimp only at hSw); go_simp; try with_reducible rfl
    try simp only [Act.put, List.setIfInBounds_toArray, List.set_cons_zero, List.set_cons_succ]
    refine wpAnyH_take (i := 4) (oi := { dst := some 7, op := Op.fieldAddr 23 (Operand.tmp 1) 0, type := 0, pos := "ref.go:78", after := #[{ on := 3, ground := Ground.guard }], guard := some (3, false) }) (v := ?_) rfl (by kernel_rfl) (by kernel_rfl) (by kernel_rfl) (fun _ _ _ h => h) (Or.inl ⟨by rfl, ?_⟩) hHeld ?_
    rotate_left
    · intro w hSw; (try dsimp only at hSw); go_simp; try with_reducible rfl
    try simp only [Act.put, List.setIfInBounds_toArray, List.set_cons_zero, List.set_cons_succ]
    refine wpAnyH_take (i := 5) (oi := { dst := some 8, op := Op.load 3 (Operand.tmp 7), type := 3, pos := "ref.go:78", after := #[{ on := 4, ground := Ground.data }, { on := 3, ground := Ground.guard }], guard := some (3, false) }) (v := ?_) rfl (by kernel_rfl) (by kernel_rfl) (by kernel_rfl) (fun _ _ _ h => h) (Or.inl ⟨by rfl, ?_⟩) hHeld ?_
    rotate_left
    · intro w hSw; (try dsimp only at hSw); go_simp; try with_reducible rfl
    try simp only [Act.put, List.setIfInBounds_toArray, List.set_cons_zero, List.set_cons_succ]
    refine wpAnyH_take (i := 6) (oi := { dst := some 9, op := Op.binOp BinOp.gtr 3 (Operand.tmp 8) (Operand.const (Value.int IntKind.i64 7)) 3, type := 4, pos := "ref.go:78", after := #[{ on := 5, ground := Ground.data }, { on := 3, ground := Ground.guard }], guard := some (3, false) }) (v := ?_) rfl (by kernel_rfl) (by kernel_rfl) (by kernel_rfl) (fun _ _ _ h => h) (Or.inl ⟨by rfl, ?_⟩) hHeld ?_
    rotate_left
    · intro w hSw; (try dsimp only at hSw); go_simp; try with_reducible rfl
    try simp only [Act.put, List.setIfInBounds_toArray, List.set_cons_zero, List.set_cons_succ]
    refine wpAnyH_take (i := 7) (oi := { dst := some 10, op := Op.pick (Operand.tmp 6) (Operand.const (Value.bool true)) (Operand.tmp 9), type := 4, pos := "ref.go:78", after := #[{ on := 3, ground := Ground.data }, { on := 6, ground := Ground.data }], guard := none }) (v := ?_) rfl (by kernel_rfl) (by kernel_rfl) (by kernel_rfl) (fun _ _ _ h => h) (Or.inl ⟨by rfl, ?_⟩) hHeld ?_
    rotate_left
    · intro w hSw; (try dsimp only at hSw); go_simp; try with_reducible rfl
    try simp only [Act.put, List.setIfInBounds_toArray, List.set_cons_zero, List.set_cons_succ]
    refine wpAnyH_take (i := 8) (oi := { dst := some 11, op := Op.move (Operand.tmp 10), type := 4, pos := "ref.go:78", after := #[{ on := 7, ground := Ground.data }, { on := 3, ground := Ground.chain }], guard := none }) (v := ?_) rfl (by kernel_rfl) (by kernel_rfl) (by kernel_rfl) (fun _ _ _ h => h) (Or.inl ⟨by rfl, ?_⟩) hHeld ?_
    rotate_left
    · intro w hSw; (try dsimp only at hSw); go_simp; try with_reducible rfl
    try simp only [Act.put, List.setIfInBounds_toArray, List.set_cons_zero, List.set_cons_succ]
    refine wpAnyH_take (i := 9) (oi := { dst := some 12, op := Op.load 23 (Operand.tmp 1), type := 23, pos := "ref.go:78", after := #[{ on := 8, ground := Ground.guard }], guard := some (8, false) }) (v := ?_) rfl (by kernel_rfl) (by kernel_rfl) (by kernel_rfl) (fun _ _ _ h => h) (Or.inl ⟨by rfl, ?_⟩) hHeld ?_
    rotate_left
    · intro w hSw; (try dsimp only at hSw); go_simp; try with_reducible rfl
    try simp only [Act.put, List.setIfInBounds_toArray, List.set_cons_zero, List.set_cons_succ]
    refine wpAnyH_take (i := 11) (oi := { dst := some 14, op := Op.load 23 (Operand.tmp 1), type := 23, pos := "ref.go:78", after := #[{ on := 8, ground := Ground.guard }], guard := some (8, false) }) (v := ?_) rfl (by kernel_rfl) (by kernel_rfl) (by kernel_rfl) (fun _ _ _ h => h) (Or.inl ⟨by rfl, ?_⟩) hHeld ?_
    rotate_left
    · intro w hSw; (try dsimp only at hSw); go_simp; try with_reducible rfl
    try simp only [Act.put, List.setIfInBounds_toArray, List.set_cons_zero, List.set_cons_succ]
    refine wpAnyH_ready (rs := [10]) (by kernel_rfl) (by simp) ?_
    refine AllReadyH.cons rfl (fun K hK => ?_) (AllReadyH.nil)
    go_simp
    go_wp2_with (go_at_call 57; refine (HT.out _).mono ?_; rintro r W2 ⟨rfl, hb2⟩; have HB2 := hid ((Below.refl _ W1).drew.trans hb2); clear hb2)
    refine hK.out _ _ (HS.out _ HB2.out) (fun hHeld => ?_)
    clear hK K
    refine wpAnyH_take (i := 12) (oi := { dst := some 15, op := Op.binOp BinOp.neq 23 (Operand.tmp 13) (Operand.tmp 14) 23, type := 4, pos := "ref.go:78", after := #[{ on := 10, ground := Ground.data }, { on := 11, ground := Ground.data }, { on := 8, ground := Ground.guard }], guard := some (8, false) }) (v := .bool false) rfl (by kernel_rfl) (by kernel_rfl) (by kernel_rfl) (fun _ _ _ h => h) (Or.inl ⟨by rfl, ?_⟩) hHeld ?_
    · intro w hSw; rw [← hcmp]; exact exec_rneq (Ev.taken ⟨7, s, a, b, c, d, e, f, q⟩) ⟨7, s, a, b, c, d, e, f, q⟩ (.tmp 13) (.tmp 14) (by rfl) (by rw [hTV]; rfl) (by subst ht; rfl)
    refine wpAnyH_take (i := 13) (oi := { dst := some 16, op := Op.pick (Operand.tmp 11) (Operand.const (Value.bool true)) (Operand.tmp 15), type := 4, pos := "ref.go:78", after := #[{ on := 8, ground := Ground.data }, { on := 12, ground := Ground.data }], guard := none }) (v := ?_) rfl (by kernel_rfl) (by kernel_rfl) (by kernel_rfl) (fun _ _ _ h => h) (Or.inl ⟨by rfl, ?_⟩) hHeld ?_
    rotate_left
    · intro w hSw; (try dsimp only at hSw); go_simp; try with_reducible rfl
    try simp only [Act.put, List.setIfInBounds_toArray, List.set_cons_zero, List.set_cons_succ]
    refine wpAnyH_done (by kernel_rfl) ?_ _
    clear hHeld
    clear c0 c1 c2 c3 c4 c5 c6 c7 c8
    obtain ⟨c0, c1, c2, c3, c4, c5, c6, c7, c8⟩ := HS.out W2 HB2.out
    clear a1 a2 a3 hmy
    have Ha := hid (HIn.out a 281474976710656 W2)
    have Hb := hid (HIn.out b 32 W2)
    have Hc := hid (HIn.out c 281474976710656 W2)
    have Hd := hid (HIn.out d 281474976710656 W2)
    have He := hid (HIn.out e 2147483648 W2)
    have Hf := hid (HIn.out f 281474976710656 W2)
    generalize inb a 281474976710656 = pa at *
    generalize inb b 32 = pb at *
    generalize inb c 281474976710656 = pc at *
    generalize inb d 281474976710656 = pd at *
    generalize inb e 2147483648 = pe at *
    generalize inb f 281474976710656 = pf at *
    cases pa with
    | false =>
      obtain rfl : my = false := by rw [HQ.out]; cases pb <;> cases pc <;> cases pd <;> cases pe <;> cases pf <;> rfl
      go_wp2_with (first | (go_at_call 58; (with_reducible_and_instances (refine Ha.out.mono ?_)); rintro r w9 ⟨rfl, hw9⟩; obtain rfl := hw9.symm) | (go_at_call 58; (with_reducible_and_instances (refine Hb.out.mono ?_)); rintro r w9 ⟨rfl, hw9⟩; obtain rfl := hw9.symm) | (go_at_call 58; (with_reducible_and_instances (refine Hc.out.mono ?_)); rintro r w9 ⟨rfl, hw9⟩; obtain rfl := hw9.symm) | (go_at_call 58; (with_reducible_and_instances (refine Hd.out.mono ?_)); rintro r w9 ⟨rfl, hw9⟩; obtain rfl := hw9.symm) | (go_at_call 58; (with_reducible_and_instances (refine He.out.mono ?_)); rintro r w9 ⟨rfl, hw9⟩; obtain rfl := hw9.symm) | (go_at_call 58; (with_reducible_and_instances (refine Hf.out.mono ?_)); rintro r w9 ⟨rfl, hw9⟩; obtain rfl := hw9.symm))
      go_ret
      exact ⟨rfl, HB1.out.trans (HB2.out.mono HB1.out.size)⟩
    | true =>
      cases pb with
      | false =>
        obtain rfl : my = false := by rw [HQ.out]; cases pc <;> cases pd <;> cases pe <;> cases pf <;> rfl
        go_wp2_with (first | (go_at_call 58; (with_reducible_and_instances (refine Ha.out.mono ?_)); rintro r w9 ⟨rfl, hw9⟩; obtain rfl := hw9.symm) | (go_at_call 58; (with_reducible_and_instances (refine Hb.out.mono ?_)); rintro r w9 ⟨rfl, hw9⟩; obtain rfl := hw9.symm) | (go_at_call 58; (with_reducible_and_instances (refine Hc.out.mono ?_)); rintro r w9 ⟨rfl, hw9⟩; obtain rfl := hw9.symm) | (go_at_call 58; (with_reducible_and_instances (refine Hd.out.mono ?_)); rintro r w9 ⟨rfl, hw9⟩; obtain rfl := hw9.symm) | (go_at_call 58; (with_reducible_and_instances (refine He.out.mono ?_)); rintro r w9 ⟨rfl, hw9⟩; obtain rfl := hw9.symm) | (go_at_call 58; (with_reducible_and_instances (refine Hf.out.mono ?_)); rintro r w9 ⟨rfl, hw9⟩; obtain rfl := hw9.symm))
        go_ret
        exact ⟨rfl, HB1.out.trans (HB2.out.mono HB1.out.size)⟩
      | true =>
        cases pc with
        | false =>
          obtain rfl : my = false := by rw [HQ.out]; cases pd <;> cases pe <;> cases pf <;> rfl
          go_wp2_with (first | (go_at_call 58; (with_reducible_and_instances (refine Ha.out.mono ?_)); rintro r w9 ⟨rfl, hw9⟩; obtain rfl := hw9.symm) | (go_at_call 58; (with_reducible_and_instances (refine Hb.out.mono ?_)); rintro r w9 ⟨rfl, hw9⟩; obtain rfl := hw9.symm) | (go_at_call 58; (with_reducible_and_instances (refine Hc.out.mono ?_)); rintro r w9 ⟨rfl, hw9⟩; obtain rfl := hw9.symm) | (go_at_call 58; (with_reducible_and_instances (refine Hd.out.mono ?_)); rintro r w9 ⟨rfl, hw9⟩; obtain rfl := hw9.symm) | (go_at_call 58; (with_reducible_and_instances (refine He.out.mono ?_)); rintro r w9 ⟨rfl, hw9⟩; obtain rfl := hw9.symm) | (go_at_call 58; (with_reducible_and_instances (refine Hf.out.mono ?_)); rintro r w9 ⟨rfl, hw9⟩; obtain rfl := hw9.symm))
          go_ret
          exact ⟨rfl, HB1.out.trans (HB2.out.mono HB1.out.size)⟩
        | true =>
          cases pd with
          | false =>
            obtain rfl : my = false := by rw [HQ.out]; cases pe <;> cases pf <;> rfl
            go_wp2_with (first | (go_at_call 58; (with_reducible_and_instances (refine Ha.out.mono ?_)); rintro r w9 ⟨rfl, hw9⟩; obtain rfl := hw9.symm) | (go_at_call 58; (with_reducible_and_instances (refine Hb.out.mono ?_)); rintro r w9 ⟨rfl, hw9⟩; obtain rfl := hw9.symm) | (go_at_call 58; (with_reducible_and_instances (refine Hc.out.mono ?_)); rintro r w9 ⟨rfl, hw9⟩; obtain rfl := hw9.symm) | (go_at_call 58; (with_reducible_and_instances (refine Hd.out.mono ?_)); rintro r w9 ⟨rfl, hw9⟩; obtain rfl := hw9.symm) | (go_at_call 58; (with_reducible_and_instances (refine He.out.mono ?_)); rintro r w9 ⟨rfl, hw9⟩; obtain rfl := hw9.symm) | (go_at_call 58; (with_reducible_and_instances (refine Hf.out.mono ?_)); rintro r w9 ⟨rfl, hw9⟩; obtain rfl := hw9.symm))
            go_ret
            exact ⟨rfl, HB1.out.trans (HB2.out.mono HB1.out.size)⟩
          | true =>
            cases pe with
            | false =>
              obtain rfl : my = false := by rw [HQ.out]; cases pf <;> rfl
              go_wp2_with (first | (go_at_call 58; (with_reducible_and_instances (refine Ha.out.mono ?_)); rintro r w9 ⟨rfl, hw9⟩; obtain rfl := hw9.symm) | (go_at_call 58; (with_reducible_and_instances (refine Hb.out.mono ?_)); rintro r w9 ⟨rfl, hw9⟩; obtain rfl := hw9.symm) | (go_at_call 58; (with_reducible_and_instances (refine Hc.out.mono ?_)); rintro r w9 ⟨rfl, hw9⟩; obtain rfl := hw9.symm) | (go_at_call 58; (with_reducible_and_instances (refine Hd.out.mono ?_)); rintro r w9 ⟨rfl, hw9⟩; obtain rfl := hw9.symm) | (go_at_call 58; (with_reducible_and_instances (refine He.out.mono ?_)); rintro r w9 ⟨rfl, hw9⟩; obtain rfl := hw9.symm) | (go_at_call 58; (with_reducible_and_instances (refine Hf.out.mono ?_)); rintro r w9 ⟨rfl, hw9⟩; obtain rfl := hw9.symm))
              go_ret
              exact ⟨rfl, HB1.out.trans (HB2.out.mono HB1.out.size)⟩
            | true =>
              obtain rfl : my = pf := by rw [HQ.out]; cases pf <;> rfl
              go_wp2_with (first | (go_at_call 58; (with_reducible_and_instances (refine Ha.out.mono ?_)); rintro r w9 ⟨rfl, hw9⟩; obtain rfl := hw9.symm) | (go_at_call 58; (with_reducible_and_instances (refine Hb.out.mono ?_)); rintro r w9 ⟨rfl, hw9⟩; obtain rfl := hw9.symm) | (go_at_call 58; (with_reducible_and_instances (refine Hc.out.mono ?_)); rintro r w9 ⟨rfl, hw9⟩; obtain rfl := hw9.symm) | (go_at_call 58; (with_reducible_and_instances (refine Hd.out.mono ?_)); rintro r w9 ⟨rfl, hw9⟩; obtain rfl := hw9.symm) | (go_at_call 58; (with_reducible_and_instances (refine He.out.mono ?_)); rintro r w9 ⟨rfl, hw9⟩; obtain rfl := hw9.symm) | (go_at_call 58; (with_reducible_and_instances (refine Hf.out.mono ?_)); rintro r w9 ⟨rfl, hw9⟩; obtain rfl := hw9.symm))
              go_ret
              exact ⟨rfl, HB1.out.trans (HB2.out.mono HB1.out.size)⟩
  have d5 : (k == 5) = false := by simpa using a5
  have d7 : (k == 7) = false := by simpa using a7
  have d5' : decide (k = 5) = false := decide_eq_false a5
  have d7' : decide (k = 7) = false := decide_eq_false a7
  have d5n : (k != 5) = true := by simpa using a5
  have d7n : (k != 7) = true := by simpa using a7
  by_cases n1 : 1 ≤ s.length
  case neg =>
    obtain rfl : my = false := by rw [← hmy]; exact may_name15 a5 a7 (fun h => n1 h.1)
    have e1 : decide ((s.length : Int) < 1) = true := by exact decide_eq_true (by omega)
    clear hmy a1 a2 a3 n1
    go_enter Tryz.func29, Tryz.ntmps29
    go_wp2_with fail
    refine wp_region_held_drew (S := fun W => (W.cell? ⟨w.heap.size, 0, none⟩ = some (.int .i64 k)) ∧ (W.cell? ⟨w.heap.size, 1, none⟩ = some (.string t)) ∧ (W.cell? ⟨w.heap.size, 2, none⟩ = some (.int .i64 a)) ∧ (W.cell? ⟨w.heap.size, 3, none⟩ = some (.int .i64 b)) ∧ (W.cell? ⟨w.heap.size, 4, none⟩ = some (.int .i64 c)) ∧ (W.cell? ⟨w.heap.size, 5, none⟩ = some (.int .i64 d)) ∧ (W.cell? ⟨w.heap.size, 6, none⟩ = some (.int .i64 e)) ∧ (W.cell? ⟨w.heap.size, 7, none⟩ = some (.int .i64 f)) ∧ (W.cell? ⟨w.heap.size, 8, none⟩ = some (.bool q))) (by kernel_rfl) (HS.out _ (Below.refl _ W1).drew) (fun hHeld => ?_)
    refine wpAnyH_take (i := 0) (oi := { dst := some 3, op := Op.fieldAddr 23 (Operand.tmp 1) 0, type := 0, pos := "ref.go:78", after := #[], guard := none }) (v := ?_) rfl (by kernel_rfl) (by kernel_rfl) (by kernel_rfl) (fun _ _ _ h => h) (Or.inl ⟨by rfl, ?_⟩) hHeld ?_
    rotate_left
    · intro w hSw; (try dsimp only at hSw); go_simp; try with_reducible rfl
    try simp only [Act.put, List.setIfInBounds_toArray, List.set_cons_zero, List.set_cons_succ]
    refine wpAnyH_take (i := 1) (oi := { dst := some 4, op := Op.load 3 (Operand.tmp 3), type := 3, pos := "ref.go:78", after := #[{ on := 0, ground := Ground.data }], guard := none }) (v := ?_) rfl (by kernel_rfl) (by kernel_rfl) (by kernel_rfl) (fun _ _ _ h => h) (Or.inl ⟨by rfl, ?_⟩) hHeld ?_
    rotate_left
    · intro w hSw; (try dsimp only at hSw); go_simp; try with_reducible rfl
    try simp only [Act.put, List.setIfInBounds_toArray, List.set_cons_zero, List.set_cons_succ]
    refine wpAnyH_take (i := 2) (oi := { dst := some 5, op := Op.binOp BinOp.lss 3 (Operand.tmp 4) (Operand.const (Value.int IntKind.i64 1)) 3, type := 4, pos := "ref.go:78", after := #[{ on := 1, ground := Ground.data }], guard := none }) (v := ?_) rfl (by kernel_rfl) (by kernel_rfl) (by kernel_rfl) (fun _ _ _ h => h) (Or.inl ⟨by rfl, ?_⟩) hHeld ?_
    rotate_left
    · intro w hSw; (try dsimp only at hSw); go_simp; try with_reducible rfl
    try simp only [Act.put, List.setIfInBounds_toArray, List.set_cons_zero, List.set_cons_succ]
    refine wpAnyH_take (i := 3) (oi := { dst := some 6, op := Op.move (Operand.tmp 5), type := 4, pos := "ref.go:78", after := #[{ on := 2, ground := Ground.data }], guard := none }) (v := ?_) rfl (by kernel_rfl) (by kernel_rfl) (by kernel_rfl) (fun _ _ _ h => h) (Or.inl ⟨by rfl, ?_⟩) hHeld ?_
    rotate_left
    · intro w hSw; (try dsimp only at hSw); go_simp; try with_reducible rfl
    try simp only [Act.put, List.setIfInBounds_toArray, List.set_cons_zero, List.set_cons_succ]
    refine wpAnyH_take (i := 4) (oi := { dst := some 7, op := Op.fieldAddr 23 (Operand.tmp 1) 0, type := 0, pos := "ref.go:78", after := #[{ on := 3, ground := Ground.guard }], guard := some (3, false) }) (v := ?_) rfl (by kernel_rfl) (by kernel_rfl) (by kernel_rfl) (fun _ _ _ h => h) (Or.inl ⟨by rfl, ?_⟩) hHeld ?_
    rotate_left
    · intro w hSw; (try dsimp only at hSw); go_simp; try with_reducible rfl
    try simp only [Act.put, List.setIfInBounds_toArray, List.set_cons_zero, List.set_cons_succ]
    refine wpAnyH_take (i := 5) (oi := { dst := some 8, op := Op.load 3 (Operand.tmp 7), type := 3, pos := "ref.go:78", after := #[{ on := 4, ground := Ground.data }, { on := 3, ground := Ground.guard }], guard := some (3, false) }) (v := ?_) rfl (by kernel_rfl) (by kernel_rfl) (by kernel_rfl) (fun _ _ _ h => h) (Or.inl ⟨by rfl, ?_⟩) hHeld ?_
    rotate_left
    · intro w hSw; (try dsimp only at hSw); go_simp; try with_reducible rfl
    try simp only [Act.put, List.setIfInBounds_toArray, List.set_cons_zero, List.set_cons_succ]
    refine wpAnyH_take (i := 6) (oi := { dst := some 9, op := Op.binOp BinOp.gtr 3 (Operand.tmp 8) (Operand.const (Value.int IntKind.i64 7)) 3, type := 4, pos := "ref.go:78", after := #[{ on := 5, ground := Ground.data }, { on := 3, ground := Ground.guard }], guard := some (3, false) }) (v := ?_) rfl (by kernel_rfl) (by kernel_rfl) (by kernel_rfl) (fun _ _ _ h => h) (Or.inl ⟨by rfl, ?_⟩) hHeld ?_
    rotate_left
    · intro w hSw; (try dsimp only at hSw); go_simp; try with_reducible rfl
    try simp only [Act.put, List.setIfInBounds_toArray, List.set_cons_zero, List.set_cons_succ]
    refine wpAnyH_take (i := 7) (oi := { dst := some 10, op := Op.pick (Operand.tmp 6) (Operand.const (Value.bool true)) (Operand.tmp 9), type := 4, pos := "ref.go:78", after := #[{ on := 3, ground := Ground.data }, { on := 6, ground := Ground.data }], guard := none }) (v := ?_) rfl (by kernel_rfl) (by kernel_rfl) (by kernel_rfl) (fun _ _ _ h => h) (Or.inl ⟨by rfl, ?_⟩) hHeld ?_
    rotate_left
    · intro w hSw; (try dsimp only at hSw); go_simp; try with_reducible rfl
    try simp only [Act.put, List.setIfInBounds_toArray, List.set_cons_zero, List.set_cons_succ]
    refine wpAnyH_take (i := 8) (oi := { dst := some 11, op := Op.move (Operand.tmp 10), type := 4, pos := "ref.go:78", after := #[{ on := 7, ground := Ground.data }, { on := 3, ground := Ground.chain }], guard := none }) (v := ?_) rfl (by kernel_rfl) (by kernel_rfl) (by kernel_rfl) (fun _ _ _ h => h) (Or.inl ⟨by rfl, ?_⟩) hHeld ?_
    rotate_left
    · intro w hSw; (try dsimp only at hSw); go_simp; try with_reducible rfl
    try simp only [Act.put, List.setIfInBounds_toArray, List.set_cons_zero, List.set_cons_succ]
    refine wpAnyH_take (i := 9) (oi := { dst := some 12, op := Op.load 23 (Operand.tmp 1), type := 23, pos := "ref.go:78", after := #[{ on := 8, ground := Ground.guard }], guard := some (8, false) }) (v := ?_) rfl (by kernel_rfl) (by kernel_rfl) (by kernel_rfl) (fun _ _ _ h => h) (Or.inl ⟨by rfl, ?_⟩) hHeld ?_
    rotate_left
    · intro w hSw; (try dsimp only at hSw); go_simp; try with_reducible rfl
    try simp only [Act.put, List.setIfInBounds_toArray, List.set_cons_zero, List.set_cons_succ]
    refine wpAnyH_take (i := 11) (oi := { dst := some 14, op := Op.load 23 (Operand.tmp 1), type := 23, pos := "ref.go:78", after := #[{ on := 8, ground := Ground.guard }], guard := some (8, false) }) (v := ?_) rfl (by kernel_rfl) (by kernel_rfl) (by kernel_rfl) (fun _ _ _ h => h) (Or.inl ⟨by rfl, ?_⟩) hHeld ?_
    rotate_left
    · intro w hSw; (try dsimp only at hSw); go_simp; try with_reducible rfl
    try simp only [Act.put, List.setIfInBounds_toArray, List.set_cons_zero, List.set_cons_succ]
    refine wpAnyH_ready (rs := [10]) (by kernel_rfl) (by simp) ?_
    refine AllReadyH.cons rfl (fun K hK => ?_) (AllReadyH.nil)
    go_simp
    go_wp2_with (go_at_call 57; refine (HT.out _).mono ?_; rintro r W2 ⟨rfl, hb2⟩; have HB2 := hid ((Below.refl _ W1).drew.trans hb2); clear hb2)
    refine hK.out _ _ (HS.out _ HB2.out) (fun hHeld => ?_)
    clear hK K
    refine wpAnyH_take (i := 12) (oi := { dst := some 15, op := Op.binOp BinOp.neq 23 (Operand.tmp 13) (Operand.tmp 14) 23, type := 4, pos := "ref.go:78", after := #[{ on := 10, ground := Ground.data }, { on := 11, ground := Ground.data }, { on := 8, ground := Ground.guard }], guard := some (8, false) }) (v := .bool false) rfl (by kernel_rfl) (by kernel_rfl) (by kernel_rfl) (fun _ _ _ h => h) (Or.inl ⟨by rfl, ?_⟩) hHeld ?_
    · intro w hSw; rw [← hcmp]; exact exec_rneq (Ev.taken ⟨k, s, a, b, c, d, e, f, q⟩) ⟨k, s, a, b, c, d, e, f, q⟩ (.tmp 13) (.tmp 14) (by rfl) (by rw [hTV]; rfl) (by subst ht; rfl)
    refine wpAnyH_take (i := 13) (oi := { dst := some 16, op := Op.pick (Operand.tmp 11) (Operand.const (Value.bool true)) (Operand.tmp 15), type := 4, pos := "ref.go:78", after := #[{ on := 8, ground := Ground.data }, { on := 12, ground := Ground.data }], guard := none }) (v := ?_) rfl (by kernel_rfl) (by kernel_rfl) (by kernel_rfl) (fun _ _ _ h => h) (Or.inl ⟨by rfl, ?_⟩) hHeld ?_
    rotate_left
    · intro w hSw; (try dsimp only at hSw); go_simp; try with_reducible rfl
    try simp only [Act.put, List.setIfInBounds_toArray, List.set_cons_zero, List.set_cons_succ]
    refine wpAnyH_done (by kernel_rfl) ?_ _
    clear hHeld
    clear c0 c1 c2 c3 c4 c5 c6 c7 c8
    obtain ⟨c0, c1, c2, c3, c4, c5, c6, c7, c8⟩ := HS.out W2 HB2.out
    go_wp2_with fail
    go_ret
    exact ⟨rfl, HB1.out.trans (HB2.out.mono HB1.out.size)⟩
  have e1 : decide ((s.length : Int) < 1) = false := by exact decide_eq_false (by omega)
  by_cases n2 : s.length ≤ 64
  case neg =>
    obtain rfl : my = false := by rw [← hmy]; exact may_name15 a5 a7 (fun h => n2 h.2)
    have e2 : decide ((64 : Int) < (s.length : Int)) = true := decide_eq_true (by omega)
    clear hmy a1 a2 a3 n1 n2
    go_enter Tryz.func29, Tryz.ntmps29
    go_wp2_with fail
    refine wp_region_held_drew (S := fun W => (W.cell? ⟨w.heap.size, 0, none⟩ = some (.int .i64 k)) ∧ (W.cell? ⟨w.heap.size, 1, none⟩ = some (.string t)) ∧ (W.cell? ⟨w.heap.size, 2, none⟩ = some (.int .i64 a)) ∧ (W.cell? ⟨w.heap.size, 3, none⟩ = some (.int .i64 b)) ∧ (W.cell? ⟨w.heap.size, 4, none⟩ = some (.int .i64 c)) ∧ (W.cell? ⟨w.heap.size, 5, none⟩ = some (.int .i64 d)) ∧ (W.cell? ⟨w.heap.size, 6, none⟩ = some (.int .i64 e)) ∧ (W.cell? ⟨w.heap.size, 7, none⟩ = some (.int .i64 f)) ∧ (W.cell? ⟨w.heap.size, 8, none⟩ = some (.bool q))) (by kernel_rfl) (HS.out _ (Below.refl _ W1).drew) (fun hHeld => ?_)
    refine wpAnyH_take (i := 0) (oi := { dst := some 3, op := Op.fieldAddr 23 (Operand.tmp 1) 0, type := 0, pos := "ref.go:78", after := #[], guard := none }) (v := ?_) rfl (by kernel_rfl) (by kernel_rfl) (by kernel_rfl) (fun _ _ _ h => h) (Or.inl ⟨by rfl, ?_⟩) hHeld ?_
    rotate_left
    · intro w hSw; (try dsimp only at hSw); go_simp; try with_reducible rfl
    try simp only [Act.put, List.setIfInBounds_toArray, List.set_cons_zero, List.set_cons_succ]
    refine wpAnyH_take (i := 1) (oi := { dst := some 4, op := Op.load 3 (Operand.tmp 3), type := 3, pos := "ref.go:78", after := #[{ on := 0, ground := Ground.data }], guard := none }) (v := ?_) rfl (by kernel_rfl) (by kernel_rfl) (by kernel_rfl) (fun _ _ _ h => h) (Or.inl ⟨by rfl, ?_⟩) hHeld ?_
    rotate_left
    · intro w hSw; (try dsimp only at hSw); go_simp; try with_reducible rfl
    try simp only [Act.put, List.setIfInBounds_toArray, List.set_cons_zero, List.set_cons_succ]
    refine wpAnyH_take (i := 2) (oi := { dst := some 5, op := Op.binOp BinOp.lss 3 (Operand.tmp 4) (Operand.const (Value.int IntKind.i64 1)) 3, type := 4, pos := "ref.go:78", after := #[{ on := 1, ground := Ground.data }], guard := none }) (v := ?_) rfl (by kernel_rfl) (by kernel_rfl) (by kernel_rfl) (fun _ _ _ h => h) (Or.inl ⟨by rfl, ?_⟩) hHeld ?_
    rotate_left
    · intro w hSw; (try dsimp only at hSw); go_simp; try with_reducible rfl
    try simp only [Act.put, List.setIfInBounds_toArray, List.set_cons_zero, List.set_cons_succ]
    refine wpAnyH_take (i := 3) (oi := { dst := some 6, op := Op.move (Operand.tmp 5), type := 4, pos := "ref.go:78", after := #[{ on := 2, ground := Ground.data }], guard := none }) (v := ?_) rfl (by kernel_rfl) (by kernel_rfl) (by kernel_rfl) (fun _ _ _ h => h) (Or.inl ⟨by rfl, ?_⟩) hHeld ?_
    rotate_left
    · intro w hSw; (try dsimp only at hSw); go_simp; try with_reducible rfl
    try simp only [Act.put, List.setIfInBounds_toArray, List.set_cons_zero, List.set_cons_succ]
    refine wpAnyH_take (i := 4) (oi := { dst := some 7, op := Op.fieldAddr 23 (Operand.tmp 1) 0, type := 0, pos := "ref.go:78", after := #[{ on := 3, ground := Ground.guard }], guard := some (3, false) }) (v := ?_) rfl (by kernel_rfl) (by kernel_rfl) (by kernel_rfl) (fun _ _ _ h => h) (Or.inl ⟨by rfl, ?_⟩) hHeld ?_
    rotate_left
    · intro w hSw; (try dsimp only at hSw); go_simp; try with_reducible rfl
    try simp only [Act.put, List.setIfInBounds_toArray, List.set_cons_zero, List.set_cons_succ]
    refine wpAnyH_take (i := 5) (oi := { dst := some 8, op := Op.load 3 (Operand.tmp 7), type := 3, pos := "ref.go:78", after := #[{ on := 4, ground := Ground.data }, { on := 3, ground := Ground.guard }], guard := some (3, false) }) (v := ?_) rfl (by kernel_rfl) (by kernel_rfl) (by kernel_rfl) (fun _ _ _ h => h) (Or.inl ⟨by rfl, ?_⟩) hHeld ?_
    rotate_left
    · intro w hSw; (try dsimp only at hSw); go_simp; try with_reducible rfl
    try simp only [Act.put, List.setIfInBounds_toArray, List.set_cons_zero, List.set_cons_succ]
    refine wpAnyH_take (i := 6) (oi := { dst := some 9, op := Op.binOp BinOp.gtr 3 (Operand.tmp 8) (Operand.const (Value.int IntKind.i64 7)) 3, type := 4, pos := "ref.go:78", after := #[{ on := 5, ground := Ground.data }, { on := 3, ground := Ground.guard }], guard := some (3, false) }) (v := ?_) rfl (by kernel_rfl) (by kernel_rfl) (by kernel_rfl) (fun _ _ _ h => h) (Or.inl ⟨by rfl, ?_⟩) hHeld ?_
    rotate_left
    · intro w hSw; (try dsimp only at hSw); go_simp; try with_reducible rfl
    try simp only [Act.put, List.setIfInBounds_toArray, List.set_cons_zero, List.set_cons_succ]
    refine wpAnyH_take (i := 7) (oi := { dst := some 10, op := Op.pick (Operand.tmp 6) (Operand.const (Value.bool true)) (Operand.tmp 9), type := 4, pos := "ref.go:78", after := #[{ on := 3, ground := Ground.data }, { on := 6, ground := Ground.data }], guard := none }) (v := ?_) rfl (by kernel_rfl) (by kernel_rfl) (by kernel_rfl) (fun _ _ _ h => h) (Or.inl ⟨by rfl, ?_⟩) hHeld ?_
    rotate_left
    · intro w hSw; (try dsimp only at hSw); go_simp; try with_reducible rfl
    try simp only [Act.put, List.setIfInBounds_toArray, List.set_cons_zero, List.set_cons_succ]
    refine wpAnyH_take (i := 8) (oi := { dst := some 11, op := Op.move (Operand.tmp 10), type := 4, pos := "ref.go:78", after := #[{ on := 7, ground := Ground.data }, { on := 3, ground := Ground.chain }], guard := none }) (v := ?_) rfl (by kernel_rfl) (by kernel_rfl) (by kernel_rfl) (fun _ _ _ h => h) (Or.inl ⟨by rfl, ?_⟩) hHeld ?_
    rotate_left
    · intro w hSw; (try dsimp only at hSw); go_simp; try with_reducible rfl
    try simp only [Act.put, List.setIfInBounds_toArray, List.set_cons_zero, List.set_cons_succ]
    refine wpAnyH_take (i := 9) (oi := { dst := some 12, op := Op.load 23 (Operand.tmp 1), type := 23, pos := "ref.go:78", after := #[{ on := 8, ground := Ground.guard }], guard := some (8, false) }) (v := ?_) rfl (by kernel_rfl) (by kernel_rfl) (by kernel_rfl) (fun _ _ _ h => h) (Or.inl ⟨by rfl, ?_⟩) hHeld ?_
    rotate_left
    · intro w hSw; (try dsimp only at hSw); go_simp; try with_reducible rfl
    try simp only [Act.put, List.setIfInBounds_toArray, List.set_cons_zero, List.set_cons_succ]
    refine wpAnyH_take (i := 11) (oi := { dst := some 14, op := Op.load 23 (Operand.tmp 1), type := 23, pos := "ref.go:78", after := #[{ on := 8, ground := Ground.guard }], guard := some (8, false) }) (v := ?_) rfl (by kernel_rfl) (by kernel_rfl) (by kernel_rfl) (fun _ _ _ h => h) (Or.inl ⟨by rfl, ?_⟩) hHeld ?_
    rotate_left
    · intro w hSw; (try dsimp only at hSw); go_simp; try with_reducible rfl
    try simp only [Act.put, List.setIfInBounds_toArray, List.set_cons_zero, List.set_cons_succ]
    refine wpAnyH_ready (rs := [10]) (by kernel_rfl) (by simp) ?_
    refine AllReadyH.cons rfl (fun K hK => ?_) (AllReadyH.nil)
    go_simp
    go_wp2_with (go_at_call 57; refine (HT.out _).mono ?_; rintro r W2 ⟨rfl, hb2⟩; have HB2 := hid ((Below.refl _ W1).drew.trans hb2); clear hb2)
    refine hK.out _ _ (HS.out _ HB2.out) (fun hHeld => ?_)
    clear hK K
    refine wpAnyH_take (i := 12) (oi := { dst := some 15, op := Op.binOp BinOp.neq 23 (Operand.tmp 13) (Operand.tmp 14) 23, type := 4, pos := "ref.go:78", after := #[{ on := 10, ground := Ground.data }, { on := 11, ground := Ground.data }, { on := 8, ground := Ground.guard }], guard := some (8, false) }) (v := .bool false) rfl (by kernel_rfl) (by kernel_rfl) (by kernel_rfl) (fun _ _ _ h => h) (Or.inl ⟨by rfl, ?_⟩) hHeld ?_
    · intro w hSw; rw [← hcmp]; exact exec_rneq (Ev.taken ⟨k, s, a, b, c, d, e, f, q⟩) ⟨k, s, a, b, c, d, e, f, q⟩ (.tmp 13) (.tmp 14) (by rfl) (by rw [hTV]; rfl) (by subst ht; rfl)
    refine wpAnyH_take (i := 13) (oi := { dst := some 16, op := Op.pick (Operand.tmp 11) (Operand.const (Value.bool true)) (Operand.tmp 15), type := 4, pos := "ref.go:78", after := #[{ on := 8, ground := Ground.data }, { on := 12, ground := Ground.data }], guard := none }) (v := ?_) rfl (by kernel_rfl) (by kernel_rfl) (by kernel_rfl) (fun _ _ _ h => h) (Or.inl ⟨by rfl, ?_⟩) hHeld ?_
    rotate_left
    · intro w hSw; (try dsimp only at hSw); go_simp; try with_reducible rfl
    try simp only [Act.put, List.setIfInBounds_toArray, List.set_cons_zero, List.set_cons_succ]
    refine wpAnyH_done (by kernel_rfl) ?_ _
    clear hHeld
    clear c0 c1 c2 c3 c4 c5 c6 c7 c8
    obtain ⟨c0, c1, c2, c3, c4, c5, c6, c7, c8⟩ := HS.out W2 HB2.out
    go_wp2_with fail
    go_ret
    exact ⟨rfl, HB1.out.trans (HB2.out.mono HB1.out.size)⟩
  have e2 : decide ((64 : Int) < (s.length : Int)) = false := decide_eq_false (by omega)
  have hq : my = (inb a 281474976710656 && (inb b 32 && (inb c 281474976710656 && (inb d 281474976710656 && (inb e 2147483648 && inb f 281474976710656))))) := by rw [← hmy]; exact may_inb a1 a2 a3 (fun _ _ => ⟨n1, n2⟩)
  clear n1 n2
  have HQ := hid hq
  clear hq
  go_enter Tryz.func29, Tryz.ntmps29
  go_wp2_with fail
  refine wp_region_held_drew (S := fun W => (W.cell? ⟨w.heap.size, 0, none⟩ = some (.int .i64 k)) ∧ (W.cell? ⟨w.heap.size, 1, none⟩ = some (.string t)) ∧ (W.cell? ⟨w.heap.size, 2, none⟩ = some (.int .i64 a)) ∧ (W.cell? ⟨w.heap.size, 3, none⟩ = some (.int .i64 b)) ∧ (W.cell? ⟨w.heap.size, 4, none⟩ = some (.int .i64 c)) ∧ (W.cell? ⟨w.heap.size, 5, none⟩ = some (.int .i64 d)) ∧ (W.cell? ⟨w.heap.size, 6, none⟩ = some (.int .i64 e)) ∧ (W.cell? ⟨w.heap.size, 7, none⟩ = some (.int .i64 f)) ∧ (W.cell? ⟨w.heap.size, 8, none⟩ = some (.bool q))) (by kernel_rfl) (HS.out _ (Below.refl _ W1).drew) (fun hHeld => ?_)
  refine wpAnyH_take (i := 0) (oi := { dst := some 3, op := Op.fieldAddr 23 (Operand.tmp 1) 0, type := 0, pos := "ref.go:78", after := #[], guard := none }) (v := ?_) rfl (by kernel_rfl) (by kernel_rfl) (by kernel_rfl) (fun _ _ _ h => h) (Or.inl ⟨by rfl, ?_⟩) hHeld ?_
  rotate_left
  · intro w hSw; (try dsimp only at hSw); go_simp; try with_reducible rfl
  try simp only [Act.put, List.setIfInBounds_toArray, List.set_cons_zero, List.set_cons_succ]
  refine wpAnyH_take (i := 1) (oi := { dst := some 4, op := Op.load 3 (Operand.tmp 3), type := 3, pos := "ref.go:78", after := #[{ on := 0, ground := Ground.data }], guard := none }) (v := ?_) rfl (by kernel_rfl) (by kernel_rfl) (by kernel_rfl) (fun _ _ _ h => h) (Or.inl ⟨by rfl, ?_⟩) hHeld ?_
  rotate_left
  · intro w hSw; (try dsimp only at hSw); go_simp; try with_reducible rfl
  try simp only [Act.put, List.setIfInBounds_toArray, List.set_cons_zero, List.set_cons_succ]
  refine wpAnyH_take (i := 2) (oi := { dst := some 5, op := Op.binOp BinOp.lss 3 (Operand.tmp 4) (Operand.const (Value.int IntKind.i64 1)) 3, type := 4, pos := "ref.go:78", after := #[{ on := 1, ground := Ground.data }], guard := none }) (v := ?_) rfl (by kernel_rfl) (by kernel_rfl) (by kernel_rfl) (fun _ _ _ h => h) (Or.inl ⟨by rfl, ?_⟩) hHeld ?_
  rotate_left
  · intro w hSw; (try dsimp only at hSw); go_simp; try with_reducible rfl
  try simp only [Act.put, List.setIfInBounds_toArray, List.set_cons_zero, List.set_cons_succ]
  refine wpAnyH_take (i := 3) (oi := { dst := some 6, op := Op.move (Operand.tmp 5), type := 4, pos := "ref.go:78", after := #[{ on := 2, ground := Ground.data }], guard := none }) (v := ?_) rfl (by kernel_rfl) (by kernel_rfl) (by kernel_rfl) (fun _ _ _ h => h) (Or.inl ⟨by rfl, ?_⟩) hHeld ?_
  rotate_left
  · intro w hSw; (try dsimp only at hSw); go_simp; try with_reducible rfl
  try simp only [Act.put, List.setIfInBounds_toArray, List.set_cons_zero, List.set_cons_succ]
  refine wpAnyH_take (i := 4) (oi := { dst := some 7, op := Op.fieldAddr 23 (Operand.tmp 1) 0, type := 0, pos := "ref.go:78", after := #[{ on := 3, ground := Ground.guard }], guard := some (3, false) }) (v := ?_) rfl (by kernel_rfl) (by kernel_rfl) (by kernel_rfl) (fun _ _ _ h => h) (Or.inl ⟨by rfl, ?_⟩) hHeld ?_
  rotate_left
  · intro w hSw; (try dsimp only at hSw); go_simp; try with_reducible rfl
  try simp only [Act.put, List.setIfInBounds_toArray, List.set_cons_zero, List.set_cons_succ]
  refine wpAnyH_take (i := 5) (oi := { dst := some 8, op := Op.load 3 (Operand.tmp 7), type := 3, pos := "ref.go:78", after := #[{ on := 4, ground := Ground.data }, { on := 3, ground := Ground.guard }], guard := some (3, false) }) (v := ?_) rfl (by kernel_rfl) (by kernel_rfl) (by kernel_rfl) (fun _ _ _ h => h) (Or.inl ⟨by rfl, ?_⟩) hHeld ?_
  rotate_left
  · intro w hSw; (try dsimp only at hSw); go_simp; try with_reducible rfl
  try simp only [Act.put, List.setIfInBounds_toArray, List.set_cons_zero, List.set_cons_succ]
  refine wpAnyH_take (i := 6) (oi := { dst := some 9, op := Op.binOp BinOp.gtr 3 (Operand.tmp 8) (Operand.const (Value.int IntKind.i64 7)) 3, type := 4, pos := "ref.go:78", after := #[{ on := 5, ground := Ground.data }, { on := 3, ground := Ground.guard }], guard := some (3, false) }) (v := ?_) rfl (by kernel_rfl) (by kernel_rfl) (by kernel_rfl) (fun _ _ _ h => h) (Or.inl ⟨by rfl, ?_⟩) hHeld ?_
  rotate_left
  · intro w hSw; (try dsimp only at hSw); go_simp; try with_reducible rfl
  try simp only [Act.put, List.setIfInBounds_toArray, List.set_cons_zero, List.set_cons_succ]
  refine wpAnyH_take (i := 7) (oi := { dst := some 10, op := Op.pick (Operand.tmp 6) (Operand.const (Value.bool true)) (Operand.tmp 9), type := 4, pos := "ref.go:78", after := #[{ on := 3, ground := Ground.data }, { on := 6, ground := Ground.data }], guard := none }) (v := ?_) rfl (by kernel_rfl) (by kernel_rfl) (by kernel_rfl) (fun _ _ _ h => h) (Or.inl ⟨by rfl, ?_⟩) hHeld ?_
  rotate_left
  · intro w hSw; (try dsimp only at hSw); go_simp; try with_reducible rfl
  try simp only [Act.put, List.setIfInBounds_toArray, List.set_cons_zero, List.set_cons_succ]
  refine wpAnyH_take (i := 8) (oi := { dst := some 11, op := Op.move (Operand.tmp 10), type := 4, pos := "ref.go:78", after := #[{ on := 7, ground := Ground.data }, { on := 3, ground := Ground.chain }], guard := none }) (v := ?_) rfl (by kernel_rfl) (by kernel_rfl) (by kernel_rfl) (fun _ _ _ h => h) (Or.inl ⟨by rfl, ?_⟩) hHeld ?_
  rotate_left
  · intro w hSw; (try dsimp only at hSw); go_simp; try with_reducible rfl
  try simp only [Act.put, List.setIfInBounds_toArray, List.set_cons_zero, List.set_cons_succ]
  refine wpAnyH_take (i := 9) (oi := { dst := some 12, op := Op.load 23 (Operand.tmp 1), type := 23, pos := "ref.go:78", after := #[{ on := 8, ground := Ground.guard }], guard := some (8, false) }) (v := ?_) rfl (by kernel_rfl) (by kernel_rfl) (by kernel_rfl) (fun _ _ _ h => h) (Or.inl ⟨by rfl, ?_⟩) hHeld ?_
  rotate_left
  · intro w hSw; (try dsimp only at hSw); go_simp; try with_reducible rfl
  try simp only [Act.put, List.setIfInBounds_toArray, List.set_cons_zero, List.set_cons_succ]
  refine wpAnyH_take (i := 11) (oi := { dst := some 14, op := Op.load 23 (Operand.tmp 1), type := 23, pos := "ref.go:78", after := #[{ on := 8, ground := Ground.guard }], guard := some (8, false) }) (v := ?_) rfl (by kernel_rfl) (by kernel_rfl) (by kernel_rfl) (fun _ _ _ h => h) (Or.inl ⟨by rfl, ?_⟩) hHeld ?_
  rotate_left
  · intro w hSw; (try dsimp only at hSw); go_simp; try with_reducible rfl
  try simp only [Act.put, List.setIfInBounds_toArray, List.set_cons_zero, List.set_cons_succ]
  refine wpAnyH_ready (rs := [10]) (by kernel_rfl) (by simp) ?_
  refine AllReadyH.cons rfl (fun K hK => ?_) (AllReadyH.nil)
  go_simp
  go_wp2_with (go_at_call 57; refine (HT.out _).mono ?_; rintro r W2 ⟨rfl, hb2⟩; have HB2 := hid ((Below.refl _ W1).drew.trans hb2); clear hb2)
  refine hK.out _ _ (HS.out _ HB2.out) (fun hHeld => ?_)
  clear hK K
  refine wpAnyH_take (i := 12) (oi := { dst := some 15, op := Op.binOp BinOp.neq 23 (Operand.tmp 13) (Operand.tmp 14) 23, type := 4, pos := "ref.go:78", after := #[{ on := 10, ground := Ground.data }, { on := 11, ground := Ground.data }, { on := 8, ground := Ground.guard }], guard := some (8, false) }) (v := .bool false) rfl (by kernel_rfl) (by kernel_rfl) (by kernel_rfl) (fun _ _ _ h => h) (Or.inl ⟨by rfl, ?_⟩) hHeld ?_
  · intro w hSw; rw [← hcmp]; exact exec_rneq (Ev.taken ⟨k, s, a, b, c, d, e, f, q⟩) ⟨k, s, a, b, c, d, e, f, q⟩ (.tmp 13) (.tmp 14) (by rfl) (by rw [hTV]; rfl) (by subst ht; rfl)
  refine wpAnyH_take (i := 13) (oi := { dst := some 16, op := Op.pick (Operand.tmp 11) (Operand.const (Value.bool true)) (Operand.tmp 15), type := 4, pos := "ref.go:78", after := #[{ on := 8, ground := Ground.data }, { on := 12, ground := Ground.data }], guard := none }) (v := ?_) rfl (by kernel_rfl) (by kernel_rfl) (by kernel_rfl) (fun _ _ _ h => h) (Or.inl ⟨by rfl, ?_⟩) hHeld ?_
  rotate_left
  · intro w hSw; (try dsimp only at hSw); go_simp; try with_reducible rfl
  try simp only [Act.put, List.setIfInBounds_toArray, List.set_cons_zero, List.set_cons_succ]
  refine wpAnyH_done (by kernel_rfl) ?_ _
  clear hHeld
  clear c0 c1 c2 c3 c4 c5 c6 c7 c8
  obtain ⟨c0, c1, c2, c3, c4, c5, c6, c7, c8⟩ := HS.out W2 HB2.out
  clear a1 a2 a3 hmy
  have Ha := hid (HIn.out a 281474976710656 W2)
  have Hb := hid (HIn.out b 32 W2)
  have Hc := hid (HIn.out c 281474976710656 W2)
  have Hd := hid (HIn.out d 281474976710656 W2)
  have He := hid (HIn.out e 2147483648 W2)
  have Hf := hid (HIn.out f 281474976710656 W2)
  generalize inb a 281474976710656 = pa at *
  generalize inb b 32 = pb at *
  generalize inb c 281474976710656 = pc at *
  generalize inb d 281474976710656 = pd at *
  generalize inb e 2147483648 = pe at *
  generalize inb f 281474976710656 = pf at *
  cases pa with
  | false =>
    obtain rfl : my = false := by rw [HQ.out]; cases pb <;> cases pc <;> cases pd <;> cases pe <;> cases pf <;> rfl
    go_wp2_with (first | (go_at_call 58; (with_reducible_and_instances (refine Ha.out.mono ?_)); rintro r w9 ⟨rfl, hw9⟩; obtain rfl := hw9.symm) | (go_at_call 58; (with_reducible_and_instances (refine Hb.out.mono ?_)); rintro r w9 ⟨rfl, hw9⟩; obtain rfl := hw9.symm) | (go_at_call 58; (with_reducible_and_instances (refine Hc.out.mono ?_)); rintro r w9 ⟨rfl, hw9⟩; obtain rfl := hw9.symm) | (go_at_call 58; (with_reducible_and_instances (refine Hd.out.mono ?_)); rintro r w9 ⟨rfl, hw9⟩; obtain rfl := hw9.symm) | (go_at_call 58; (with_reducible_and_instances (refine He.out.mono ?_)); rintro r w9 ⟨rfl, hw9⟩; obtain rfl := hw9.symm) | (go_at_call 58; (with_reducible_and_instances (refine Hf.out.mono ?_)); rintro r w9 ⟨rfl, hw9⟩; obtain rfl := hw9.symm))
    go_ret
    exact ⟨rfl, HB1.out.trans (HB2.out.mono HB1.out.size)⟩
  | true =>
    cases pb with
    | false =>
      obtain rfl : my = false := by rw [HQ.out]; cases pc <;> cases pd <;> cases pe <;> cases pf <;> rfl
      go_wp2_with (first | (go_at_call 58; (with_reducible_and_instances (refine Ha.out.mono ?_)); rintro r w9 ⟨rfl, hw9⟩; obtain rfl := hw9.symm) | (go_at_call 58; (with_reducible_and_instances (refine Hb.out.mono ?_)); rintro r w9 ⟨rfl, hw9⟩; obtain rfl := hw9.symm) | (go_at_call 58; (with_reducible_and_instances (refine Hc.out.mono ?_)); rintro r w9 ⟨rfl, hw9⟩; obtain rfl := hw9.symm) | (go_at_call 58; (with_reducible_and_instances (refine Hd.out.mono ?_)); rintro r w9 ⟨rfl, hw9⟩; obtain rfl := hw9.symm) | (go_at_call 58; (with_reducible_and_instances (refine He.out.mono ?_)); rintro r w9 ⟨rfl, hw9⟩; obtain rfl := hw9.symm) | (go_at_call 58; (with_reducible_and_instances (refine Hf.out.mono ?_)); rintro r w9 ⟨rfl, hw9⟩; obtain rfl := hw9.symm))
      go_ret
      exact ⟨rfl, HB1.out.trans (HB2.out.mono HB1.out.size)⟩
    | true =>
      cases pc with
      | false =>
        obtain rfl : my = false := by rw [HQ.out]; cases pd <;> cases pe <;> cases pf <;> rfl
        go_wp2_with (first | (go_at_call 58; (with_reducible_and_instances (refine Ha.out.mono ?_)); rintro r w9 ⟨rfl, hw9⟩; obtain rfl := hw9.symm) | (go_at_call 58; (with_reducible_and_instances (refine Hb.out.mono ?_)); rintro r w9 ⟨rfl, hw9⟩; obtain rfl := hw9.symm) | (go_at_call 58; (with_reducible_and_instances (refine Hc.out.mono ?_)); rintro r w9 ⟨rfl, hw9⟩; obtain rfl := hw9.symm) | (go_at_call 58; (with_reducible_and_instances (refine Hd.out.mono ?_)); rintro r w9 ⟨rfl, hw9⟩; obtain rfl := hw9.symm) | (go_at_call 58; (with_reducible_and_instances (refine He.out.mono ?_)); rintro r w9 ⟨rfl, hw9⟩; obtain rfl := hw9.symm) | (go_at_call 58; (with_reducible_and_instances (refine Hf.out.mono ?_)); rintro r w9 ⟨rfl, hw9⟩; obtain rfl := hw9.symm))
        go_ret
        exact ⟨rfl, HB1.out.trans (HB2.out.mono HB1.out.size)⟩
      | true =>
        cases pd with
        | false =>
          obtain rfl : my = false := by rw [HQ.out]; cases pe <;> cases pf <;> rfl
          go_wp2_with (first | (go_at_call 58; (with_reducible_and_instances (refine Ha.out.mono ?_)); rintro r w9 ⟨rfl, hw9⟩; obtain rfl := hw9.symm) | (go_at_call 58; (with_reducible_and_instances (refine Hb.out.mono ?_)); rintro r w9 ⟨rfl, hw9⟩; obtain rfl := hw9.symm) | (go_at_call 58; (with_reducible_and_instances (refine Hc.out.mono ?_)); rintro r w9 ⟨rfl, hw9⟩; obtain rfl := hw9.symm) | (go_at_call 58; (with_reducible_and_instances (refine Hd.out.mono ?_)); rintro r w9 ⟨rfl, hw9⟩; obtain rfl := hw9.symm) | (go_at_call 58; (with_reducible_and_instances (refine He.out.mono ?_)); rintro r w9 ⟨rfl, hw9⟩; obtain rfl := hw9.symm) | (go_at_call 58; (with_reducible_and_instances (refine Hf.out.mono ?_)); rintro r w9 ⟨rfl, hw9⟩; obtain rfl := hw9.symm))
          go_ret
          exact ⟨rfl, HB1.out.trans (HB2.out.mono HB1.out.size)⟩
        | true =>
          cases pe with
          | false =>
            obtain rfl : my = false := by rw [HQ.out]; cases pf <;> rfl
            go_wp2_with (first | (go_at_call 58; (with_reducible_and_instances (refine Ha.out.mono ?_)); rintro r w9 ⟨rfl, hw9⟩; obtain rfl := hw9.symm) | (go_at_call 58; (with_reducible_and_instances (refine Hb.out.mono ?_)); rintro r w9 ⟨rfl, hw9⟩; obtain rfl := hw9.symm) | (go_at_call 58; (with_reducible_and_instances (refine Hc.out.mono ?_)); rintro r w9 ⟨rfl, hw9⟩; obtain rfl := hw9.symm) | (go_at_call 58; (with_reducible_and_instances (refine Hd.out.mono ?_)); rintro r w9 ⟨rfl, hw9⟩; obtain rfl := hw9.symm) | (go_at_call 58; (with_reducible_and_instances (refine He.out.mono ?_)); rintro r w9 ⟨rfl, hw9⟩; obtain rfl := hw9.symm) | (go_at_call 58; (with_reducible_and_instances (refine Hf.out.mono ?_)); rintro r w9 ⟨rfl, hw9⟩; obtain rfl := hw9.symm))
            go_ret
            exact ⟨rfl, HB1.out.trans (HB2.out.mono HB1.out.size)⟩
          | true =>
            obtain rfl : my = pf := by rw [HQ.out]; cases pf <;> rfl
            go_wp2_with (first | (go_at_call 58; (with_reducible_and_instances (refine Ha.out.mono ?_)); rintro r w9 ⟨rfl, hw9⟩; obtain rfl := hw9.symm) | (go_at_call 58; (with_reducible_and_instances (refine Hb.out.mono ?_)); rintro r w9 ⟨rfl, hw9⟩; obtain rfl := hw9.symm) | (go_at_call 58; (with_reducible_and_instances (refine Hc.out.mono ?_)); rintro r w9 ⟨rfl, hw9⟩; obtain rfl := hw9.symm) | (go_at_call 58; (with_reducible_and_instances (refine Hd.out.mono ?_)); rintro r w9 ⟨rfl, hw9⟩; obtain rfl := hw9.symm) | (go_at_call 58; (with_reducible_and_instances (refine He.out.mono ?_)); rintro r w9 ⟨rfl, hw9⟩; obtain rfl := hw9.symm) | (go_at_call 58; (with_reducible_and_instances (refine Hf.out.mono ?_)); rintro r w9 ⟨rfl, hw9⟩; obtain rfl := hw9.symm))
            go_ret
            exact ⟨rfl, HB1.out.trans (HB2.out.mono HB1.out.size)⟩
end Go.Proofs.YtiiepmljcjbflaaGreat
