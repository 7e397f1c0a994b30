/- What a book asks ahead of an event (by gentask16.py, regs.py). -/
import Derived.Test.YteogogmmnijagaaTAddMk
import Derived.Test.YteogogmmnijagaaTMay
namespace Go.Proofs.Yteogogmmnijagaa
open Go.RowKit
variable {w w' : World} {F : List Nat} {g M pb m c i : Nat} {v : Value} {Z : List (Pr × Sl)} {B : Bk}

def ask2 (p : Pr) (x : Ev) : Bool × Int := if p.dec then (false, 54) else if p.pl.contains x.place then (true, 0) else if p.pl.length = 100 then (false, 7) else (false, 0)
def ask3 (p : Pr) (x : Ev) : Bool × Int := if p.st = 1 then (false, 0) else if p.st = 0 ∨ p.st = outc x.yes then (true, 0) else (false, 54)
def ask4 (p : Pr) (x : Ev) : Bool × Int := (!p.dec || !p.pl.contains x.place, 0)
/-- Of which producer an event is, or why it is refused. -/
def Bk.wr (B : Bk) (x : Ev) : Int := if 0 ≤ x.prod ∧ x.prod < B.ps.length then (if (B.at x.prod.toNat).ep = x.ep then 0 else 50) else 3
def Bk.askW (B : Bk) (x : Ev) (f : Pr → Ev → Bool × Int) : Bool × Int := if B.wr x = 0 then f (B.at x.prod.toNat) x else (false, B.wr x)
def Bk.ask1 (B : Bk) (x : Ev) : Bool × Int :=
  match B.num x.name with
  | none => if B.ps.length = 1000 then (false, 7) else (false, 0)
  | some i => if (B.at i).dec then (false, 54) else if (B.at i).ep = 2147483647 then (false, 53) else (false, 0)
theorem BP.vform (h : BP w F g M v Z B) : ∃ ad cap, v = .slice ad B.ps.length cap := by
  obtain ⟨ad, cap, e, -⟩ := h.row.form kPr_ok.tofit
  exact ⟨ad, cap, by rw [e, h.len]⟩
theorem BP.vlen (h : BP w F g M (.slice (some ⟨pb, 0, none⟩) m c) Z B) : m = B.ps.length := by
  obtain ⟨ad, cap, e⟩ := h.vform
  injection e
theorem made_any (h : BP w F g M v Z B) : Calls Try.prog 15 #[.pointer (some ⟨g, 0, none⟩)] w fun e w' => e = .returned (.bool true) ∧ w' = w := by
  have c1 : w.cell? ⟨g, 1, none⟩ = some (.map (some M)) := h.box.cell 1
  have hq := run_neq_map_nil (P := Try.prog) w TNi 9 3 (some M) Try.underlying49
  clear h
  go_enter Try.func15, Try.ntmps15
  go_wp2_with fail
  go_ret
  exact ⟨rfl, rfl⟩
theorem made_nil (w : World) : Calls Try.prog 15 #[.pointer none] w fun e w' => e = .returned (.bool false) ∧ w' = w := by
  go_enter Try.func15, Try.ntmps15
  go_wp2_with fail
  go_ret
  exact ⟨rfl, rfl⟩
theorem made_not (hc : w.cell? ⟨g, 1, none⟩ = some (.map none)) : Calls Try.prog 15 #[.pointer (some ⟨g, 0, none⟩)] w fun e w' => e = .returned (.bool false) ∧ w' = w := by
  have hq := run_neq_map_nil (P := Try.prog) w TNi 9 3 none Try.underlying49
  go_enter Try.func15, Try.ntmps15
  go_wp2_with fail
  go_ret
  exact ⟨rfl, rfl⟩
theorem at_out (h : BP w F g M v Z B) (n : Int) (hn : ¬ (0 ≤ n ∧ n < B.ps.length)) : Calls Try.prog 23 #[.pointer (some ⟨g, 0, none⟩), .int .i64 n] w fun e w' => e = .returned (.pointer none) ∧ w' = w := by
  have HM := hid (made_any h)
  obtain ⟨ad, cap, rfl⟩ := h.vform
  have c0 : w.cell? ⟨g, 0, none⟩ = some (.slice ad B.ps.length cap) := h.box.cell 0
  generalize B.ps.length = len at *
  by_cases h0 : 0 ≤ n
  · have d0 : decide (n < 0) = false := by simp; omega
    have d1 : decide ((len : Int) ≤ n) = true := by simp; omega
    clear hn
    go_enter Try.func23, Try.ntmps23
    go_wp2_with (go_at_call 15; refine HM.out.mono ?_; rintro e w1 ⟨rfl, hw1⟩; obtain rfl := hw1.symm)
    go_ret
    exact ⟨rfl, rfl⟩
  · have d0 : decide (n < 0) = true := by simp; omega
    clear hn
    go_enter Try.func23, Try.ntmps23
    go_wp2_with (go_at_call 15; refine HM.out.mono ?_; rintro e w1 ⟨rfl, hw1⟩; obtain rfl := hw1.symm)
    go_ret
    exact ⟨rfl, rfl⟩
theorem at_in (h : BP w F g M (.slice (some ⟨pb, 0, none⟩) m c) Z B) (hi : i < B.ps.length) : Calls Try.prog 23 #[.pointer (some ⟨g, 0, none⟩), .int .i64 (i : Int)] w fun e w' => e = .returned (Ptr pb i) ∧ w' = w := by
  have HM := hid (made_any h)
  have hm := h.vlen
  have c0 : w.cell? ⟨g, 0, none⟩ = some (.slice (some ⟨pb, 0, none⟩) m c) := h.box.cell 0
  have hi2 : i < m := by omega
  have d0 : decide ((i : Int) < 0) = false := by simp
  have d1 : decide ((m : Int) ≤ (i : Int)) = false := by simp; omega
  have d2 : decide (m ≤ i) = false := by simp; omega
  clear hm
  go_enter Try.func23, Try.ntmps23
  go_wp2_with (go_at_call 15; refine HM.out.mono ?_; rintro e w1 ⟨rfl, hw1⟩; obtain rfl := hw1.symm)
  go_ret
  exact ⟨rfl, rfl⟩
theorem writer_fence (h : BP w F g M (.slice (some ⟨pb, 0, none⟩) m c) Z B) (x : Ev) (hi : i < B.ps.length) (hx : x.prod = (i : Int)) (he : (B.at i).ep ≠ x.ep) : Calls Try.prog 46 #[.pointer (some ⟨g, 0, none⟩), .agg (evA x)] w fun e w' => e = .returned (.tuple #[.pointer none, .int .i64 50]) ∧ Below w.heap.size w w' := by
  obtain ⟨k, nm, a, b, cc, d, e, q⟩ := x
  dsimp only [Ev.kind, Ev.name, Ev.prod, Ev.ep, Ev.place, Ev.tmo, Ev.now, Ev.yes] at *
  show Calls Try.prog 46 #[.pointer (some ⟨g, 0, none⟩), .agg #[.int .i64 k, .string (nmS nm), .int .i64 a, .int .i64 b, .int .i64 cc, .int .i64 d, .int .i64 e, .bool q]] w fun r w' => r = .returned (.tuple #[.pointer none, .int .i64 50]) ∧ Below w.heap.size w w'
  obtain ⟨t, ht⟩ : ∃ t, nmS nm = t := ⟨_, rfl⟩
  rw [ht]
  obtain ⟨W1, hW1⟩ : ∃ W1, w.alloc (.cells #[.int .i64 k, .string t, .int .i64 a, .int .i64 b, .int .i64 cc, .int .i64 d, .int .i64 e, .bool q] TEv) = W1 := ⟨_, rfl⟩
  have b1 : Below w.heap.size w W1 := by rw [← hW1]; exact (Below.refl _ _).alloc (Nat.le_refl _) _
  have x1 : Blk W1 w.heap.size #[.int .i64 k, .string t, .int .i64 a, .int .i64 b, .int .i64 cc, .int .i64 d, .int .i64 e, .bool q] TEv := by rw [← hW1]; exact heap_alloc_new w _
  have HB1 := hid b1
  have y0 : W1.cell? ⟨w.heap.size, 0, none⟩ = some (.int .i64 k) := x1.cell 0
  have y1 : W1.cell? ⟨w.heap.size, 1, none⟩ = some (.string t) := x1.cell 1
  have y2 : W1.cell? ⟨w.heap.size, 2, none⟩ = some (.int .i64 a) := x1.cell 2
  have y3 : W1.cell? ⟨w.heap.size, 3, none⟩ = some (.int .i64 b) := x1.cell 3
  have y4 : W1.cell? ⟨w.heap.size, 4, none⟩ = some (.int .i64 cc) := x1.cell 4
  have y5 : W1.cell? ⟨w.heap.size, 5, none⟩ = some (.int .i64 d) := x1.cell 5
  have y6 : W1.cell? ⟨w.heap.size, 6, none⟩ = some (.int .i64 e) := x1.cell 6
  have y7 : W1.cell? ⟨w.heap.size, 7, none⟩ = some (.bool q) := x1.cell 7
  subst hx
  have h1 := h.later b1
  have HA := hid (at_in h1 hi)
  obtain ⟨s, hs, -, -⟩ := h1.get hi
  obtain ⟨-, c1, -⟩ := h1.cells hi hs
  have k3 := y3
  obtain ⟨pe, hpe⟩ : ∃ pe, (B.at i).ep = pe := ⟨_, rfl⟩
  rw [hpe] at he c1
  have d1 : (pe == b) = false := by simpa using he
  clear x1 hpe b1
  go_enter Try.func46, Try.ntmps46
  go_wp2_with (go_at_call 23; refine HA.out.mono ?_; rintro e w1 ⟨rfl, hw1⟩; obtain rfl := hw1.symm)
  refine wp_region_held_drew (S := fun W => W.cell? ⟨pb, i * 5 + 1, none⟩ = some (.int .i64 pe) ∧ W.cell? ⟨w.heap.size, 3, none⟩ = some (.int .i64 b)) (by kernel_rfl) (⟨c1, k3⟩) (fun hHeld => ?_)
  refine wpAnyH_take (i := 0) (oi := { dst := some 13, op := Op.move (Operand.tmp 6), type := 67, pos := "deeds.go:124", after := #[], guard := none }) (v := ?_) rfl (by kernel_rfl) (by kernel_rfl) (by kernel_rfl) (fun _ _ _ h => h) (Or.inl ⟨by rfl, ?_⟩) hHeld ?_
  rotate_left
  · intro w hSw; (try dsimp only at hSw); go_simp; try with_reducible rfl
  try simp only [Act.put, List.setIfInBounds_toArray, List.set_cons_zero, List.set_cons_succ]
  refine wpAnyH_take (i := 1) (oi := { dst := some 14, op := Op.nilCheck (Operand.tmp 13), type := 0, pos := "deeds.go:124", after := #[{ on := 0, ground := Ground.data }], guard := none }) (v := ?_) rfl (by kernel_rfl) (by kernel_rfl) (by kernel_rfl) (fun _ _ _ h => h) (Or.inl ⟨by rfl, ?_⟩) hHeld ?_
  rotate_left
  · intro w hSw; (try dsimp only at hSw); go_simp; try with_reducible rfl
  try simp only [Act.put, List.setIfInBounds_toArray, List.set_cons_zero, List.set_cons_succ]
  refine wpAnyH_take (i := 2) (oi := { dst := some 15, op := Op.fieldAddr 71 (Operand.tmp 14) 1, type := 0, pos := "deeds.go:124", after := #[{ on := 1, ground := Ground.data }], guard := none }) (v := ?_) rfl (by kernel_rfl) (by kernel_rfl) (by kernel_rfl) (fun _ _ _ h => h) (Or.inl ⟨by rfl, ?_⟩) hHeld ?_
  rotate_left
  · intro w hSw; (try dsimp only at hSw); go_simp; try with_reducible rfl
  try simp only [Act.put, List.setIfInBounds_toArray, List.set_cons_zero, List.set_cons_succ]
  refine wpAnyH_take (i := 3) (oi := { dst := some 16, op := Op.load 3 (Operand.tmp 15), type := 3, pos := "deeds.go:124", after := #[{ on := 2, ground := Ground.data }], guard := none }) (v := ?_) rfl (by kernel_rfl) (by kernel_rfl) (by kernel_rfl) (fun _ _ _ h => h) (Or.inl ⟨by rfl, ?_⟩) hHeld ?_
  rotate_left
  · intro w hSw; (try dsimp only at hSw); go_simp; try with_reducible rfl
  try simp only [Act.put, List.setIfInBounds_toArray, List.set_cons_zero, List.set_cons_succ]
  refine wpAnyH_take (i := 4) (oi := { dst := some 17, op := Op.fieldAddr 30 (Operand.tmp 3) 3, type := 0, pos := "deeds.go:124", after := #[], guard := none }) (v := ?_) rfl (by kernel_rfl) (by kernel_rfl) (by kernel_rfl) (fun _ _ _ h => h) (Or.inl ⟨by rfl, ?_⟩) hHeld ?_
  rotate_left
  · intro w hSw; (try dsimp only at hSw); go_simp; try with_reducible rfl
  try simp only [Act.put, List.setIfInBounds_toArray, List.set_cons_zero, List.set_cons_succ]
  refine wpAnyH_take (i := 5) (oi := { dst := some 18, op := Op.load 3 (Operand.tmp 17), type := 3, pos := "deeds.go:124", after := #[{ on := 4, ground := Ground.data }], guard := none }) (v := ?_) rfl (by kernel_rfl) (by kernel_rfl) (by kernel_rfl) (fun _ _ _ h => h) (Or.inl ⟨by rfl, ?_⟩) hHeld ?_
  rotate_left
  · intro w hSw; (try dsimp only at hSw); go_simp; try with_reducible rfl
  try simp only [Act.put, List.setIfInBounds_toArray, List.set_cons_zero, List.set_cons_succ]
  refine wpAnyH_take (i := 6) (oi := { dst := some 19, op := Op.binOp BinOp.neq 3 (Operand.tmp 16) (Operand.tmp 18) 3, type := 4, pos := "deeds.go:124", after := #[{ on := 3, ground := Ground.data }, { on := 5, ground := Ground.data }], guard := none }) (v := ?_) rfl (by kernel_rfl) (by kernel_rfl) (by kernel_rfl) (fun _ _ _ h => h) (Or.inl ⟨by rfl, ?_⟩) hHeld ?_
  rotate_left
  · intro w hSw; (try dsimp only at hSw); go_simp; try with_reducible rfl
  try simp only [Act.put, List.setIfInBounds_toArray, List.set_cons_zero, List.set_cons_succ]
  refine wpAnyH_done (by kernel_rfl) ?_ _
  clear hHeld
  go_wp2_with fail
  refine bodyPost_ret (results_tmp2 Try.results46 _ _ _) rfl ⟨rfl, HB1.out.drew⟩
theorem writer_ok (h : BP w F g M (.slice (some ⟨pb, 0, none⟩) m c) Z B) (x : Ev) (hi : i < B.ps.length) (hx : x.prod = (i : Int)) (he : (B.at i).ep = x.ep) : Calls Try.prog 46 #[.pointer (some ⟨g, 0, none⟩), .agg (evA x)] w fun e w' => e = .returned (.tuple #[Ptr pb i, .int .i64 0]) ∧ Below w.heap.size w w' := by
  obtain ⟨k, nm, a, b, cc, d, e, q⟩ := x
  dsimp only [Ev.kind, Ev.name, Ev.prod, Ev.ep, Ev.place, Ev.tmo, Ev.now, Ev.yes] at *
  show Calls Try.prog 46 #[.pointer (some ⟨g, 0, none⟩), .agg #[.int .i64 k, .string (nmS nm), .int .i64 a, .int .i64 b, .int .i64 cc, .int .i64 d, .int .i64 e, .bool q]] w fun r w' => r = .returned (.tuple #[Ptr pb i, .int .i64 0]) ∧ Below w.heap.size w w'
  obtain ⟨t, ht⟩ : ∃ t, nmS nm = t := ⟨_, rfl⟩
  rw [ht]
  obtain ⟨W1, hW1⟩ : ∃ W1, w.alloc (.cells #[.int .i64 k, .string t, .int .i64 a, .int .i64 b, .int .i64 cc, .int .i64 d, .int .i64 e, .bool q] TEv) = W1 := ⟨_, rfl⟩
  have b1 : Below w.heap.size w W1 := by rw [← hW1]; exact (Below.refl _ _).alloc (Nat.le_refl _) _
  have x1 : Blk W1 w.heap.size #[.int .i64 k, .string t, .int .i64 a, .int .i64 b, .int .i64 cc, .int .i64 d, .int .i64 e, .bool q] TEv := by rw [← hW1]; exact heap_alloc_new w _
  have HB1 := hid b1
  have y0 : W1.cell? ⟨w.heap.size, 0, none⟩ = some (.int .i64 k) := x1.cell 0
  have y1 : W1.cell? ⟨w.heap.size, 1, none⟩ = some (.string t) := x1.cell 1
  have y2 : W1.cell? ⟨w.heap.size, 2, none⟩ = some (.int .i64 a) := x1.cell 2
  have y3 : W1.cell? ⟨w.heap.size, 3, none⟩ = some (.int .i64 b) := x1.cell 3
  have y4 : W1.cell? ⟨w.heap.size, 4, none⟩ = some (.int .i64 cc) := x1.cell 4
  have y5 : W1.cell? ⟨w.heap.size, 5, none⟩ = some (.int .i64 d) := x1.cell 5
  have y6 : W1.cell? ⟨w.heap.size, 6, none⟩ = some (.int .i64 e) := x1.cell 6
  have y7 : W1.cell? ⟨w.heap.size, 7, none⟩ = some (.bool q) := x1.cell 7
  subst hx
  have h1 := h.later b1
  have HA := hid (at_in h1 hi)
  obtain ⟨s, hs, -, -⟩ := h1.get hi
  obtain ⟨-, c1, -⟩ := h1.cells hi hs
  have k3 := y3
  obtain ⟨pe, hpe⟩ : ∃ pe, (B.at i).ep = pe := ⟨_, rfl⟩
  rw [hpe] at he c1
  have d1 : (pe == b) = true := by simpa using he
  clear x1 hpe b1
  go_enter Try.func46, Try.ntmps46
  go_wp2_with (go_at_call 23; refine HA.out.mono ?_; rintro e w1 ⟨rfl, hw1⟩; obtain rfl := hw1.symm)
  refine wp_region_held_drew (S := fun W => W.cell? ⟨pb, i * 5 + 1, none⟩ = some (.int .i64 pe) ∧ W.cell? ⟨w.heap.size, 3, none⟩ = some (.int .i64 b)) (by kernel_rfl) (⟨c1, k3⟩) (fun hHeld => ?_)
  refine wpAnyH_take (i := 0) (oi := { dst := some 13, op := Op.move (Operand.tmp 6), type := 67, pos := "deeds.go:124", after := #[], guard := none }) (v := ?_) rfl (by kernel_rfl) (by kernel_rfl) (by kernel_rfl) (fun _ _ _ h => h) (Or.inl ⟨by rfl, ?_⟩) hHeld ?_
  rotate_left
  · intro w hSw; (try dsimp only at hSw); go_simp; try with_reducible rfl
  try simp only [Act.put, List.setIfInBounds_toArray, List.set_cons_zero, List.set_cons_succ]
  refine wpAnyH_take (i := 1) (oi := { dst := some 14, op := Op.nilCheck (Operand.tmp 13), type := 0, pos := "deeds.go:124", after := #[{ on := 0, ground := Ground.data }], guard := none }) (v := ?_) rfl (by kernel_rfl) (by kernel_rfl) (by kernel_rfl) (fun _ _ _ h => h) (Or.inl ⟨by rfl, ?_⟩) hHeld ?_
  rotate_left
  · intro w hSw; (try dsimp only at hSw); go_simp; try with_reducible rfl
  try simp only [Act.put, List.setIfInBounds_toArray, List.set_cons_zero, List.set_cons_succ]
  refine wpAnyH_take (i := 2) (oi := { dst := some 15, op := Op.fieldAddr 71 (Operand.tmp 14) 1, type := 0, pos := "deeds.go:124", after := #[{ on := 1, ground := Ground.data }], guard := none }) (v := ?_) rfl (by kernel_rfl) (by kernel_rfl) (by kernel_rfl) (fun _ _ _ h => h) (Or.inl ⟨by rfl, ?_⟩) hHeld ?_
  rotate_left
  · intro w hSw; (try dsimp only at hSw); go_simp; try with_reducible rfl
  try simp only [Act.put, List.setIfInBounds_toArray, List.set_cons_zero, List.set_cons_succ]
  refine wpAnyH_take (i := 3) (oi := { dst := some 16, op := Op.load 3 (Operand.tmp 15), type := 3, pos := "deeds.go:124", after := #[{ on := 2, ground := Ground.data }], guard := none }) (v := ?_) rfl (by kernel_rfl) (by kernel_rfl) (by kernel_rfl) (fun _ _ _ h => h) (Or.inl ⟨by rfl, ?_⟩) hHeld ?_
  rotate_left
  · intro w hSw; (try dsimp only at hSw); go_simp; try with_reducible rfl
  try simp only [Act.put, List.setIfInBounds_toArray, List.set_cons_zero, List.set_cons_succ]
  refine wpAnyH_take (i := 4) (oi := { dst := some 17, op := Op.fieldAddr 30 (Operand.tmp 3) 3, type := 0, pos := "deeds.go:124", after := #[], guard := none }) (v := ?_) rfl (by kernel_rfl) (by kernel_rfl) (by kernel_rfl) (fun _ _ _ h => h) (Or.inl ⟨by rfl, ?_⟩) hHeld ?_
  rotate_left
  · intro w hSw; (try dsimp only at hSw); go_simp; try with_reducible rfl
  try simp only [Act.put, List.setIfInBounds_toArray, List.set_cons_zero, List.set_cons_succ]
  refine wpAnyH_take (i := 5) (oi := { dst := some 18, op := Op.load 3 (Operand.tmp 17), type := 3, pos := "deeds.go:124", after := #[{ on := 4, ground := Ground.data }], guard := none }) (v := ?_) rfl (by kernel_rfl) (by kernel_rfl) (by kernel_rfl) (fun _ _ _ h => h) (Or.inl ⟨by rfl, ?_⟩) hHeld ?_
  rotate_left
  · intro w hSw; (try dsimp only at hSw); go_simp; try with_reducible rfl
  try simp only [Act.put, List.setIfInBounds_toArray, List.set_cons_zero, List.set_cons_succ]
  refine wpAnyH_take (i := 6) (oi := { dst := some 19, op := Op.binOp BinOp.neq 3 (Operand.tmp 16) (Operand.tmp 18) 3, type := 4, pos := "deeds.go:124", after := #[{ on := 3, ground := Ground.data }, { on := 5, ground := Ground.data }], guard := none }) (v := ?_) rfl (by kernel_rfl) (by kernel_rfl) (by kernel_rfl) (fun _ _ _ h => h) (Or.inl ⟨by rfl, ?_⟩) hHeld ?_
  rotate_left
  · intro w hSw; (try dsimp only at hSw); go_simp; try with_reducible rfl
  try simp only [Act.put, List.setIfInBounds_toArray, List.set_cons_zero, List.set_cons_succ]
  refine wpAnyH_done (by kernel_rfl) ?_ _
  clear hHeld
  go_wp2_with fail
  refine bodyPost_ret (results_tmp2 Try.results46 _ _ _) rfl ⟨rfl, HB1.out.drew⟩
theorem writer_none (h : BP w F g M v Z B) (x : Ev) (hn : ¬ (0 ≤ x.prod ∧ x.prod < B.ps.length)) : Calls Try.prog 46 #[.pointer (some ⟨g, 0, none⟩), .agg (evA x)] w fun e w' => e = .returned (.tuple #[.pointer none, .int .i64 3]) ∧ Below w.heap.size w w' := by
  obtain ⟨k, nm, a, b, cc, d, e, q⟩ := x
  dsimp only [Ev.kind, Ev.name, Ev.prod, Ev.ep, Ev.place, Ev.tmo, Ev.now, Ev.yes] at *
  show Calls Try.prog 46 #[.pointer (some ⟨g, 0, none⟩), .agg #[.int .i64 k, .string (nmS nm), .int .i64 a, .int .i64 b, .int .i64 cc, .int .i64 d, .int .i64 e, .bool q]] w fun r w' => r = .returned (.tuple #[.pointer none, .int .i64 3]) ∧ Below w.heap.size w w'
  obtain ⟨t, ht⟩ : ∃ t, nmS nm = t := ⟨_, rfl⟩
  rw [ht]
  obtain ⟨W1, hW1⟩ : ∃ W1, w.alloc (.cells #[.int .i64 k, .string t, .int .i64 a, .int .i64 b, .int .i64 cc, .int .i64 d, .int .i64 e, .bool q] TEv) = W1 := ⟨_, rfl⟩
  have b1 : Below w.heap.size w W1 := by rw [← hW1]; exact (Below.refl _ _).alloc (Nat.le_refl _) _
  have x1 : Blk W1 w.heap.size #[.int .i64 k, .string t, .int .i64 a, .int .i64 b, .int .i64 cc, .int .i64 d, .int .i64 e, .bool q] TEv := by rw [← hW1]; exact heap_alloc_new w _
  have HB1 := hid b1
  have y0 : W1.cell? ⟨w.heap.size, 0, none⟩ = some (.int .i64 k) := x1.cell 0
  have y1 : W1.cell? ⟨w.heap.size, 1, none⟩ = some (.string t) := x1.cell 1
  have y2 : W1.cell? ⟨w.heap.size, 2, none⟩ = some (.int .i64 a) := x1.cell 2
  have y3 : W1.cell? ⟨w.heap.size, 3, none⟩ = some (.int .i64 b) := x1.cell 3
  have y4 : W1.cell? ⟨w.heap.size, 4, none⟩ = some (.int .i64 cc) := x1.cell 4
  have y5 : W1.cell? ⟨w.heap.size, 5, none⟩ = some (.int .i64 d) := x1.cell 5
  have y6 : W1.cell? ⟨w.heap.size, 6, none⟩ = some (.int .i64 e) := x1.cell 6
  have y7 : W1.cell? ⟨w.heap.size, 7, none⟩ = some (.bool q) := x1.cell 7
  have h1 := h.later b1
  have HA := hid (at_out h1 a hn)
  clear x1 b1
  go_enter Try.func46, Try.ntmps46
  go_wp2_with (go_at_call 23; refine HA.out.mono ?_; rintro e w1 ⟨rfl, hw1⟩; obtain rfl := hw1.symm)
  refine bodyPost_ret (results_tmp2 Try.results46 _ _ _) rfl ⟨rfl, HB1.out⟩
/-- How an ask is told. -/
abbrev AskP (w : World) (r : Bool × Int) (e : Ending) (w' : World) : Prop := e = .returned (.tuple #[.bool r.1, .int .i64 r.2]) ∧ Below w.heap.size w w'
theorem wr_cases (B : Bk) (x : Ev) : (¬ (0 ≤ x.prod ∧ x.prod < B.ps.length) ∧ B.wr x = 3) ∨ ∃ i : Nat, i < B.ps.length ∧ x.prod = i ∧ x.prod.toNat = i ∧ (((B.at i).ep ≠ x.ep ∧ B.wr x = 50) ∨ ((B.at i).ep = x.ep ∧ B.wr x = 0)) := by
  unfold Bk.wr
  by_cases h : 0 ≤ x.prod ∧ x.prod < B.ps.length
  · refine Or.inr ⟨x.prod.toNat, by omega, by omega, rfl, ?_⟩
    rw [if_pos h]
    by_cases h2 : (B.at x.prod.toNat).ep = x.ep
    · exact Or.inr ⟨h2, by rw [if_pos h2]⟩
    · exact Or.inl ⟨h2, by rw [if_neg h2]⟩
  · exact Or.inl ⟨h, by rw [if_neg h]⟩
set_option maxRecDepth 20000 in
set_option maxHeartbeats 1000000 in
theorem askAdd_any (h : BP w F g M v Z B) (hB : BkOk B) (x : Ev) : Calls Try.prog 29 #[.pointer (some ⟨g, 0, none⟩), .agg (evA x)] w (AskP w (B.askW x ask2)) := by
  rcases wr_cases B x with ⟨hn, hw⟩ | ⟨i, hi, hx, hxn, hw⟩
  · unfold Bk.askW
    rw [hw, if_neg (by decide)]
    have HW0 := fun (w1 : World) (hb : Below w.heap.size w w1) => writer_none (h.later hb) x hn
    obtain ⟨k, nm, a, b, cc, d, e, q⟩ := x
    show Calls Try.prog 29 #[.pointer (some ⟨g, 0, none⟩), .agg #[.int .i64 k, .string (nmS nm), .int .i64 a, .int .i64 b, .int .i64 cc, .int .i64 d, .int .i64 e, .bool q]] w (AskP w (false, 3))
    obtain ⟨t, ht⟩ : ∃ t, nmS nm = t := ⟨_, rfl⟩
    dsimp only [evA] at HW0
    rw [ht] at HW0 ⊢
    obtain ⟨W1, hW1⟩ : ∃ W1, w.alloc (.cells #[.int .i64 k, .string t, .int .i64 a, .int .i64 b, .int .i64 cc, .int .i64 d, .int .i64 e, .bool q] TEv) = W1 := ⟨_, rfl⟩
    have b1 : Below w.heap.size w W1 := by rw [← hW1]; exact (Below.refl _ _).alloc (Nat.le_refl _) _
    have x1 : Blk W1 w.heap.size #[.int .i64 k, .string t, .int .i64 a, .int .i64 b, .int .i64 cc, .int .i64 d, .int .i64 e, .bool q] TEv := by rw [← hW1]; exact heap_alloc_new w _
    have HB1 := hid b1
    have y0 : W1.cell? ⟨w.heap.size, 0, none⟩ = some (.int .i64 k) := x1.cell 0
    have y1 : W1.cell? ⟨w.heap.size, 1, none⟩ = some (.string t) := x1.cell 1
    have y2 : W1.cell? ⟨w.heap.size, 2, none⟩ = some (.int .i64 a) := x1.cell 2
    have y3 : W1.cell? ⟨w.heap.size, 3, none⟩ = some (.int .i64 b) := x1.cell 3
    have y4 : W1.cell? ⟨w.heap.size, 4, none⟩ = some (.int .i64 cc) := x1.cell 4
    have y5 : W1.cell? ⟨w.heap.size, 5, none⟩ = some (.int .i64 d) := x1.cell 5
    have y6 : W1.cell? ⟨w.heap.size, 6, none⟩ = some (.int .i64 e) := x1.cell 6
    have y7 : W1.cell? ⟨w.heap.size, 7, none⟩ = some (.bool q) := x1.cell 7
    have HW := hid (HW0 W1 b1)
    clear x1 b1 HW0
    go_enter Try.func29, Try.ntmps29
    go_wp2_with (go_at_call 46; refine HW.out.mono ?_; rintro e W2 ⟨rfl, hb2⟩; have HB2 := hid (HB1.out.trans (hb2.mono HB1.out.size)); have HB3 := hid hb2; clear hb2)
    refine bodyPost_ret (results_tmp2 Try.results29 _ _ _) rfl ⟨rfl, HB2.out⟩
  obtain ⟨pb, c, rfl, -⟩ := h.form (Nat.lt_of_le_of_lt (Nat.zero_le _) hi)
  rcases hw with ⟨hne, hw⟩ | ⟨heq, hw⟩
  · unfold Bk.askW
    rw [hw, if_neg (by decide)]
    have HW0 := fun (w1 : World) (hb : Below w.heap.size w w1) => writer_fence (h.later hb) x hi hx hne
    obtain ⟨k, nm, a, b, cc, d, e, q⟩ := x
    show Calls Try.prog 29 #[.pointer (some ⟨g, 0, none⟩), .agg #[.int .i64 k, .string (nmS nm), .int .i64 a, .int .i64 b, .int .i64 cc, .int .i64 d, .int .i64 e, .bool q]] w (AskP w (false, 50))
    obtain ⟨t, ht⟩ : ∃ t, nmS nm = t := ⟨_, rfl⟩
    dsimp only [evA] at HW0
    rw [ht] at HW0 ⊢
    obtain ⟨W1, hW1⟩ : ∃ W1, w.alloc (.cells #[.int .i64 k, .string t, .int .i64 a, .int .i64 b, .int .i64 cc, .int .i64 d, .int .i64 e, .bool q] TEv) = W1 := ⟨_, rfl⟩
    have b1 : Below w.heap.size w W1 := by rw [← hW1]; exact (Below.refl _ _).alloc (Nat.le_refl _) _
    have x1 : Blk W1 w.heap.size #[.int .i64 k, .string t, .int .i64 a, .int .i64 b, .int .i64 cc, .int .i64 d, .int .i64 e, .bool q] TEv := by rw [← hW1]; exact heap_alloc_new w _
    have HB1 := hid b1
    have y0 : W1.cell? ⟨w.heap.size, 0, none⟩ = some (.int .i64 k) := x1.cell 0
    have y1 : W1.cell? ⟨w.heap.size, 1, none⟩ = some (.string t) := x1.cell 1
    have y2 : W1.cell? ⟨w.heap.size, 2, none⟩ = some (.int .i64 a) := x1.cell 2
    have y3 : W1.cell? ⟨w.heap.size, 3, none⟩ = some (.int .i64 b) := x1.cell 3
    have y4 : W1.cell? ⟨w.heap.size, 4, none⟩ = some (.int .i64 cc) := x1.cell 4
    have y5 : W1.cell? ⟨w.heap.size, 5, none⟩ = some (.int .i64 d) := x1.cell 5
    have y6 : W1.cell? ⟨w.heap.size, 6, none⟩ = some (.int .i64 e) := x1.cell 6
    have y7 : W1.cell? ⟨w.heap.size, 7, none⟩ = some (.bool q) := x1.cell 7
    have HW := hid (HW0 W1 b1)
    clear x1 b1 HW0
    go_enter Try.func29, Try.ntmps29
    go_wp2_with (go_at_call 46; refine HW.out.mono ?_; rintro e W2 ⟨rfl, hb2⟩; have HB2 := hid (HB1.out.trans (hb2.mono HB1.out.size)); have HB3 := hid hb2; clear hb2)
    refine bodyPost_ret (results_tmp2 Try.results29 _ _ _) rfl ⟨rfl, HB2.out⟩
  have HW0 := fun (w1 : World) (hb : Below w.heap.size w w1) => writer_ok (h.later hb) x hi hx heq
  unfold Bk.askW
  rw [hw, if_pos rfl, hxn]
  unfold ask2
  by_cases h2 : (B.at i).dec = true
  · rw [if_pos h2]
    obtain ⟨k, nm, a, b, cc, d, e, q⟩ := x
    show Calls Try.prog 29 #[.pointer (some ⟨g, 0, none⟩), .agg #[.int .i64 k, .string (nmS nm), .int .i64 a, .int .i64 b, .int .i64 cc, .int .i64 d, .int .i64 e, .bool q]] w (AskP w (false, 54))
    obtain ⟨t, ht⟩ : ∃ t, nmS nm = t := ⟨_, rfl⟩
    dsimp only [evA] at HW0
    rw [ht] at HW0 ⊢
    obtain ⟨W1, hW1⟩ : ∃ W1, w.alloc (.cells #[.int .i64 k, .string t, .int .i64 a, .int .i64 b, .int .i64 cc, .int .i64 d, .int .i64 e, .bool q] TEv) = W1 := ⟨_, rfl⟩
    have b1 : Below w.heap.size w W1 := by rw [← hW1]; exact (Below.refl _ _).alloc (Nat.le_refl _) _
    have x1 : Blk W1 w.heap.size #[.int .i64 k, .string t, .int .i64 a, .int .i64 b, .int .i64 cc, .int .i64 d, .int .i64 e, .bool q] TEv := by rw [← hW1]; exact heap_alloc_new w _
    have HB1 := hid b1
    have y0 : W1.cell? ⟨w.heap.size, 0, none⟩ = some (.int .i64 k) := x1.cell 0
    have y1 : W1.cell? ⟨w.heap.size, 1, none⟩ = some (.string t) := x1.cell 1
    have y2 : W1.cell? ⟨w.heap.size, 2, none⟩ = some (.int .i64 a) := x1.cell 2
    have y3 : W1.cell? ⟨w.heap.size, 3, none⟩ = some (.int .i64 b) := x1.cell 3
    have y4 : W1.cell? ⟨w.heap.size, 4, none⟩ = some (.int .i64 cc) := x1.cell 4
    have y5 : W1.cell? ⟨w.heap.size, 5, none⟩ = some (.int .i64 d) := x1.cell 5
    have y6 : W1.cell? ⟨w.heap.size, 6, none⟩ = some (.int .i64 e) := x1.cell 6
    have y7 : W1.cell? ⟨w.heap.size, 7, none⟩ = some (.bool q) := x1.cell 7
    have HW := hid (HW0 W1 b1)
    have h1 := h.later b1
    have HD : Hid (∀ W2, Below W1.heap.size W1 W2 → _) := fun W2 hb => isDecided_any (h1.later hb) hi
    have HH : Hid (∀ W2, Below W1.heap.size W1 W2 → _) := fun W2 hb => has_any (h1.later hb) hB hi cc
    have HK : Hid (∀ W2, Below W1.heap.size W1 W2 → W2.cell? ⟨w.heap.size, 4, none⟩ = some (.int .i64 cc) ∧ W2.cell? ⟨w.heap.size, 7, none⟩ = some (.bool q)) := fun W2 hb => ⟨(x1.later hb).cell 4, (x1.later hb).cell 7⟩
    have HC : Hid (∀ W2, Below W1.heap.size W1 W2 → ∃ s : Sl, W2.cell? ⟨pb, i * 5 + 4, none⟩ = some (.slice s.ad s.m s.c) ∧ s.m = (B.at i).pl.length ∧ W2.cell? ⟨pb, i * 5 + 2, none⟩ = some (.int .i64 (B.at i).st)) := fun W2 hb => by
      have h2 := h1.later hb
      obtain ⟨s, hs, hpl, -⟩ := h2.get hi
      obtain ⟨-, -, c2, -, c4, -⟩ := h2.cells hi hs
      obtain ⟨ad, cap, hf, -⟩ := hpl.form kZ_ok.tofit
      have : (Value.slice s.ad s.m s.c) = .slice ad (B.at i).pl.length cap := hf
      exact ⟨s, c4, (by injection this), c2⟩
    clear x1 b1 HW0 h1
    rw [h2] at HD
    clear HC HK HH
    go_enter Try.func29, Try.ntmps29
    go_wp2_with (first | (go_at_call 46; refine HW.out.mono ?_; rintro e W2 ⟨rfl, hb2⟩; have HB2 := hid (HB1.out.trans (hb2.mono HB1.out.size)); have HB3 := hid hb2; clear hb2) | (go_at_call 45; refine (HD.out _ HB3.out).mono ?_; rintro e w3 ⟨rfl, hw3⟩; obtain rfl := hw3.symm))
    refine bodyPost_ret (results_tmp2 Try.results29 _ _ _) rfl ⟨rfl, HB2.out⟩
  have h2' : (B.at i).dec = false := by simpa using h2
  rw [if_neg h2]
  by_cases h3 : (B.at i).pl.contains x.place = true
  · rw [if_pos h3]
    obtain ⟨k, nm, a, b, cc, d, e, q⟩ := x
    show Calls Try.prog 29 #[.pointer (some ⟨g, 0, none⟩), .agg #[.int .i64 k, .string (nmS nm), .int .i64 a, .int .i64 b, .int .i64 cc, .int .i64 d, .int .i64 e, .bool q]] w (AskP w (true, 0))
    obtain ⟨t, ht⟩ : ∃ t, nmS nm = t := ⟨_, rfl⟩
    dsimp only [evA] at HW0
    rw [ht] at HW0 ⊢
    obtain ⟨W1, hW1⟩ : ∃ W1, w.alloc (.cells #[.int .i64 k, .string t, .int .i64 a, .int .i64 b, .int .i64 cc, .int .i64 d, .int .i64 e, .bool q] TEv) = W1 := ⟨_, rfl⟩
    have b1 : Below w.heap.size w W1 := by rw [← hW1]; exact (Below.refl _ _).alloc (Nat.le_refl _) _
    have x1 : Blk W1 w.heap.size #[.int .i64 k, .string t, .int .i64 a, .int .i64 b, .int .i64 cc, .int .i64 d, .int .i64 e, .bool q] TEv := by rw [← hW1]; exact heap_alloc_new w _
    have HB1 := hid b1
    have y0 : W1.cell? ⟨w.heap.size, 0, none⟩ = some (.int .i64 k) := x1.cell 0
    have y1 : W1.cell? ⟨w.heap.size, 1, none⟩ = some (.string t) := x1.cell 1
    have y2 : W1.cell? ⟨w.heap.size, 2, none⟩ = some (.int .i64 a) := x1.cell 2
    have y3 : W1.cell? ⟨w.heap.size, 3, none⟩ = some (.int .i64 b) := x1.cell 3
    have y4 : W1.cell? ⟨w.heap.size, 4, none⟩ = some (.int .i64 cc) := x1.cell 4
    have y5 : W1.cell? ⟨w.heap.size, 5, none⟩ = some (.int .i64 d) := x1.cell 5
    have y6 : W1.cell? ⟨w.heap.size, 6, none⟩ = some (.int .i64 e) := x1.cell 6
    have y7 : W1.cell? ⟨w.heap.size, 7, none⟩ = some (.bool q) := x1.cell 7
    have HW := hid (HW0 W1 b1)
    have h1 := h.later b1
    have HD : Hid (∀ W2, Below W1.heap.size W1 W2 → _) := fun W2 hb => isDecided_any (h1.later hb) hi
    have HH : Hid (∀ W2, Below W1.heap.size W1 W2 → _) := fun W2 hb => has_any (h1.later hb) hB hi cc
    have HK : Hid (∀ W2, Below W1.heap.size W1 W2 → W2.cell? ⟨w.heap.size, 4, none⟩ = some (.int .i64 cc) ∧ W2.cell? ⟨w.heap.size, 7, none⟩ = some (.bool q)) := fun W2 hb => ⟨(x1.later hb).cell 4, (x1.later hb).cell 7⟩
    have HC : Hid (∀ W2, Below W1.heap.size W1 W2 → ∃ s : Sl, W2.cell? ⟨pb, i * 5 + 4, none⟩ = some (.slice s.ad s.m s.c) ∧ s.m = (B.at i).pl.length ∧ W2.cell? ⟨pb, i * 5 + 2, none⟩ = some (.int .i64 (B.at i).st)) := fun W2 hb => by
      have h2 := h1.later hb
      obtain ⟨s, hs, hpl, -⟩ := h2.get hi
      obtain ⟨-, -, c2, -, c4, -⟩ := h2.cells hi hs
      obtain ⟨ad, cap, hf, -⟩ := hpl.form kZ_ok.tofit
      have : (Value.slice s.ad s.m s.c) = .slice ad (B.at i).pl.length cap := hf
      exact ⟨s, c4, (by injection this), c2⟩
    clear x1 b1 HW0 h1
    have h3' : (B.at i).pl.contains cc = true := h3
    rw [h2'] at HD
    rw [h3'] at HH
    clear h3 h3'
    go_enter Try.func29, Try.ntmps29
    go_wp2_with (first | (go_at_call 46; refine HW.out.mono ?_; rintro e W2 ⟨rfl, hb2⟩; have HB2 := hid (HB1.out.trans (hb2.mono HB1.out.size)); have HB3 := hid hb2; obtain ⟨K4, K7⟩ := HK.out W2 hb2; clear hb2) | (go_at_call 45; refine (HD.out _ HB3.out).mono ?_; rintro e w3 ⟨rfl, hw3⟩; obtain rfl := hw3.symm) | (go_at_call 47; refine (HH.out _ HB3.out).mono ?_; rintro e W4 ⟨rfl, hb4⟩; have HB4 := hid (HB2.out.trans (hb4.mono HB2.out.size)); have HB5 := hid (HB3.out.trans (hb4.mono HB3.out.size)); clear hb4))
    refine bodyPost_ret (results_tmp2 Try.results29 _ _ _) rfl ⟨rfl, HB4.out⟩
  rw [if_neg h3]
  have h3' : (B.at i).pl.contains x.place = false := by simpa using h3
  by_cases h4 : (B.at i).pl.length = 100
  · rw [if_pos h4]
    obtain ⟨k, nm, a, b, cc, d, e, q⟩ := x
    show Calls Try.prog 29 #[.pointer (some ⟨g, 0, none⟩), .agg #[.int .i64 k, .string (nmS nm), .int .i64 a, .int .i64 b, .int .i64 cc, .int .i64 d, .int .i64 e, .bool q]] w (AskP w (false, 7))
    obtain ⟨t, ht⟩ : ∃ t, nmS nm = t := ⟨_, rfl⟩
    dsimp only [evA] at HW0
    rw [ht] at HW0 ⊢
    obtain ⟨W1, hW1⟩ : ∃ W1, w.alloc (.cells #[.int .i64 k, .string t, .int .i64 a, .int .i64 b, .int .i64 cc, .int .i64 d, .int .i64 e, .bool q] TEv) = W1 := ⟨_, rfl⟩
    have b1 : Below w.heap.size w W1 := by rw [← hW1]; exact (Below.refl _ _).alloc (Nat.le_refl _) _
    have x1 : Blk W1 w.heap.size #[.int .i64 k, .string t, .int .i64 a, .int .i64 b, .int .i64 cc, .int .i64 d, .int .i64 e, .bool q] TEv := by rw [← hW1]; exact heap_alloc_new w _
    have HB1 := hid b1
    have y0 : W1.cell? ⟨w.heap.size, 0, none⟩ = some (.int .i64 k) := x1.cell 0
    have y1 : W1.cell? ⟨w.heap.size, 1, none⟩ = some (.string t) := x1.cell 1
    have y2 : W1.cell? ⟨w.heap.size, 2, none⟩ = some (.int .i64 a) := x1.cell 2
    have y3 : W1.cell? ⟨w.heap.size, 3, none⟩ = some (.int .i64 b) := x1.cell 3
    have y4 : W1.cell? ⟨w.heap.size, 4, none⟩ = some (.int .i64 cc) := x1.cell 4
    have y5 : W1.cell? ⟨w.heap.size, 5, none⟩ = some (.int .i64 d) := x1.cell 5
    have y6 : W1.cell? ⟨w.heap.size, 6, none⟩ = some (.int .i64 e) := x1.cell 6
    have y7 : W1.cell? ⟨w.heap.size, 7, none⟩ = some (.bool q) := x1.cell 7
    have HW := hid (HW0 W1 b1)
    have h1 := h.later b1
    have HD : Hid (∀ W2, Below W1.heap.size W1 W2 → _) := fun W2 hb => isDecided_any (h1.later hb) hi
    have HH : Hid (∀ W2, Below W1.heap.size W1 W2 → _) := fun W2 hb => has_any (h1.later hb) hB hi cc
    have HK : Hid (∀ W2, Below W1.heap.size W1 W2 → W2.cell? ⟨w.heap.size, 4, none⟩ = some (.int .i64 cc) ∧ W2.cell? ⟨w.heap.size, 7, none⟩ = some (.bool q)) := fun W2 hb => ⟨(x1.later hb).cell 4, (x1.later hb).cell 7⟩
    have HC : Hid (∀ W2, Below W1.heap.size W1 W2 → ∃ s : Sl, W2.cell? ⟨pb, i * 5 + 4, none⟩ = some (.slice s.ad s.m s.c) ∧ s.m = (B.at i).pl.length ∧ W2.cell? ⟨pb, i * 5 + 2, none⟩ = some (.int .i64 (B.at i).st)) := fun W2 hb => by
      have h2 := h1.later hb
      obtain ⟨s, hs, hpl, -⟩ := h2.get hi
      obtain ⟨-, -, c2, -, c4, -⟩ := h2.cells hi hs
      obtain ⟨ad, cap, hf, -⟩ := hpl.form kZ_ok.tofit
      have : (Value.slice s.ad s.m s.c) = .slice ad (B.at i).pl.length cap := hf
      exact ⟨s, c4, (by injection this), c2⟩
    clear x1 b1 HW0 h1
    have h3'' : (B.at i).pl.contains cc = false := h3'
    rw [h2'] at HD
    rw [h3''] at HH
    have d4 : decide ((B.at i).pl.length = 100) = true := decide_eq_true h4
    clear h3 h3' h3'' h4
    go_enter Try.func29, Try.ntmps29
    go_wp2_with (first | (go_at_call 46; refine HW.out.mono ?_; rintro e W2 ⟨rfl, hb2⟩; have HB2 := hid (HB1.out.trans (hb2.mono HB1.out.size)); have HB3 := hid hb2; obtain ⟨K4, K7⟩ := HK.out W2 hb2; clear hb2) | (go_at_call 45; refine (HD.out _ HB3.out).mono ?_; rintro e w3 ⟨rfl, hw3⟩; obtain rfl := hw3.symm) | (go_at_call 47; refine (HH.out _ HB3.out).mono ?_; rintro e W4 ⟨rfl, hb4⟩; have HB4 := hid (HB2.out.trans (hb4.mono HB2.out.size)); have HB5 := hid (HB3.out.trans (hb4.mono HB3.out.size)); obtain ⟨sl, c4, e4, -⟩ := HC.out W4 HB5.out; have e5 : ((sl.m : Int) == 100) = (decide ((B.at i).pl.length = 100)) := (by rw [e4]; by_cases hq : (B.at i).pl.length = 100 <;> simp [hq] <;> omega); clear hb4 e4; rw [d4] at e5))
    refine bodyPost_ret (results_tmp2 Try.results29 _ _ _) rfl ⟨rfl, HB4.out⟩
  rw [if_neg h4]
  obtain ⟨k, nm, a, b, cc, d, e, q⟩ := x
  show Calls Try.prog 29 #[.pointer (some ⟨g, 0, none⟩), .agg #[.int .i64 k, .string (nmS nm), .int .i64 a, .int .i64 b, .int .i64 cc, .int .i64 d, .int .i64 e, .bool q]] w (AskP w (false, 0))
  obtain ⟨t, ht⟩ : ∃ t, nmS nm = t := ⟨_, rfl⟩
  dsimp only [evA] at HW0
  rw [ht] at HW0 ⊢
  obtain ⟨W1, hW1⟩ : ∃ W1, w.alloc (.cells #[.int .i64 k, .string t, .int .i64 a, .int .i64 b, .int .i64 cc, .int .i64 d, .int .i64 e, .bool q] TEv) = W1 := ⟨_, rfl⟩
  have b1 : Below w.heap.size w W1 := by rw [← hW1]; exact (Below.refl _ _).alloc (Nat.le_refl _) _
  have x1 : Blk W1 w.heap.size #[.int .i64 k, .string t, .int .i64 a, .int .i64 b, .int .i64 cc, .int .i64 d, .int .i64 e, .bool q] TEv := by rw [← hW1]; exact heap_alloc_new w _
  have HB1 := hid b1
  have y0 : W1.cell? ⟨w.heap.size, 0, none⟩ = some (.int .i64 k) := x1.cell 0
  have y1 : W1.cell? ⟨w.heap.size, 1, none⟩ = some (.string t) := x1.cell 1
  have y2 : W1.cell? ⟨w.heap.size, 2, none⟩ = some (.int .i64 a) := x1.cell 2
  have y3 : W1.cell? ⟨w.heap.size, 3, none⟩ = some (.int .i64 b) := x1.cell 3
  have y4 : W1.cell? ⟨w.heap.size, 4, none⟩ = some (.int .i64 cc) := x1.cell 4
  have y5 : W1.cell? ⟨w.heap.size, 5, none⟩ = some (.int .i64 d) := x1.cell 5
  have y6 : W1.cell? ⟨w.heap.size, 6, none⟩ = some (.int .i64 e) := x1.cell 6
  have y7 : W1.cell? ⟨w.heap.size, 7, none⟩ = some (.bool q) := x1.cell 7
  have HW := hid (HW0 W1 b1)
  have h1 := h.later b1
  have HD : Hid (∀ W2, Below W1.heap.size W1 W2 → _) := fun W2 hb => isDecided_any (h1.later hb) hi
  have HH : Hid (∀ W2, Below W1.heap.size W1 W2 → _) := fun W2 hb => has_any (h1.later hb) hB hi cc
  have HK : Hid (∀ W2, Below W1.heap.size W1 W2 → W2.cell? ⟨w.heap.size, 4, none⟩ = some (.int .i64 cc) ∧ W2.cell? ⟨w.heap.size, 7, none⟩ = some (.bool q)) := fun W2 hb => ⟨(x1.later hb).cell 4, (x1.later hb).cell 7⟩
  have HC : Hid (∀ W2, Below W1.heap.size W1 W2 → ∃ s : Sl, W2.cell? ⟨pb, i * 5 + 4, none⟩ = some (.slice s.ad s.m s.c) ∧ s.m = (B.at i).pl.length ∧ W2.cell? ⟨pb, i * 5 + 2, none⟩ = some (.int .i64 (B.at i).st)) := fun W2 hb => by
    have h2 := h1.later hb
    obtain ⟨s, hs, hpl, -⟩ := h2.get hi
    obtain ⟨-, -, c2, -, c4, -⟩ := h2.cells hi hs
    obtain ⟨ad, cap, hf, -⟩ := hpl.form kZ_ok.tofit
    have : (Value.slice s.ad s.m s.c) = .slice ad (B.at i).pl.length cap := hf
    exact ⟨s, c4, (by injection this), c2⟩
  clear x1 b1 HW0 h1
  have h3'' : (B.at i).pl.contains cc = false := h3'
  rw [h2'] at HD
  rw [h3''] at HH
  have d4 : decide ((B.at i).pl.length = 100) = false := decide_eq_false h4
  clear h3 h3' h3'' h4
  go_enter Try.func29, Try.ntmps29
  go_wp2_with (first | (go_at_call 46; refine HW.out.mono ?_; rintro e W2 ⟨rfl, hb2⟩; have HB2 := hid (HB1.out.trans (hb2.mono HB1.out.size)); have HB3 := hid hb2; obtain ⟨K4, K7⟩ := HK.out W2 hb2; clear hb2) | (go_at_call 45; refine (HD.out _ HB3.out).mono ?_; rintro e w3 ⟨rfl, hw3⟩; obtain rfl := hw3.symm) | (go_at_call 47; refine (HH.out _ HB3.out).mono ?_; rintro e W4 ⟨rfl, hb4⟩; have HB4 := hid (HB2.out.trans (hb4.mono HB2.out.size)); have HB5 := hid (HB3.out.trans (hb4.mono HB3.out.size)); obtain ⟨sl, c4, e4, -⟩ := HC.out W4 HB5.out; have e5 : ((sl.m : Int) == 100) = (decide ((B.at i).pl.length = 100)) := (by rw [e4]; by_cases hq : (B.at i).pl.length = 100 <;> simp [hq] <;> omega); clear hb4 e4; rw [d4] at e5))
  refine bodyPost_ret (results_tmp2 Try.results29 _ _ _) rfl ⟨rfl, HB4.out⟩
set_option maxRecDepth 20000 in
set_option maxHeartbeats 1000000 in
theorem askMarked_any (h : BP w F g M v Z B) (hB : BkOk B) (x : Ev) : Calls Try.prog 31 #[.pointer (some ⟨g, 0, none⟩), .agg (evA x)] w (AskP w (B.askW x ask4)) := by
  rcases wr_cases B x with ⟨hn, hw⟩ | ⟨i, hi, hx, hxn, hw⟩
  · unfold Bk.askW
    rw [hw, if_neg (by decide)]
    have HW0 := fun (w1 : World) (hb : Below w.heap.size w w1) => writer_none (h.later hb) x hn
    obtain ⟨k, nm, a, b, cc, d, e, q⟩ := x
    show Calls Try.prog 31 #[.pointer (some ⟨g, 0, none⟩), .agg #[.int .i64 k, .string (nmS nm), .int .i64 a, .int .i64 b, .int .i64 cc, .int .i64 d, .int .i64 e, .bool q]] w (AskP w (false, 3))
    obtain ⟨t, ht⟩ : ∃ t, nmS nm = t := ⟨_, rfl⟩
    dsimp only [evA] at HW0
    rw [ht] at HW0 ⊢
    obtain ⟨W1, hW1⟩ : ∃ W1, w.alloc (.cells #[.int .i64 k, .string t, .int .i64 a, .int .i64 b, .int .i64 cc, .int .i64 d, .int .i64 e, .bool q] TEv) = W1 := ⟨_, rfl⟩
    have b1 : Below w.heap.size w W1 := by rw [← hW1]; exact (Below.refl _ _).alloc (Nat.le_refl _) _
    have x1 : Blk W1 w.heap.size #[.int .i64 k, .string t, .int .i64 a, .int .i64 b, .int .i64 cc, .int .i64 d, .int .i64 e, .bool q] TEv := by rw [← hW1]; exact heap_alloc_new w _
    have HB1 := hid b1
    have y0 : W1.cell? ⟨w.heap.size, 0, none⟩ = some (.int .i64 k) := x1.cell 0
    have y1 : W1.cell? ⟨w.heap.size, 1, none⟩ = some (.string t) := x1.cell 1
    have y2 : W1.cell? ⟨w.heap.size, 2, none⟩ = some (.int .i64 a) := x1.cell 2
    have y3 : W1.cell? ⟨w.heap.size, 3, none⟩ = some (.int .i64 b) := x1.cell 3
    have y4 : W1.cell? ⟨w.heap.size, 4, none⟩ = some (.int .i64 cc) := x1.cell 4
    have y5 : W1.cell? ⟨w.heap.size, 5, none⟩ = some (.int .i64 d) := x1.cell 5
    have y6 : W1.cell? ⟨w.heap.size, 6, none⟩ = some (.int .i64 e) := x1.cell 6
    have y7 : W1.cell? ⟨w.heap.size, 7, none⟩ = some (.bool q) := x1.cell 7
    have HW := hid (HW0 W1 b1)
    clear x1 b1 HW0
    go_enter Try.func31, Try.ntmps31
    go_wp2_with (go_at_call 46; refine HW.out.mono ?_; rintro e W2 ⟨rfl, hb2⟩; have HB2 := hid (HB1.out.trans (hb2.mono HB1.out.size)); have HB3 := hid hb2; clear hb2)
    refine bodyPost_ret (results_tmp2 Try.results31 _ _ _) rfl ⟨rfl, HB2.out⟩
  obtain ⟨pb, c, rfl, -⟩ := h.form (Nat.lt_of_le_of_lt (Nat.zero_le _) hi)
  rcases hw with ⟨hne, hw⟩ | ⟨heq, hw⟩
  · unfold Bk.askW
    rw [hw, if_neg (by decide)]
    have HW0 := fun (w1 : World) (hb : Below w.heap.size w w1) => writer_fence (h.later hb) x hi hx hne
    obtain ⟨k, nm, a, b, cc, d, e, q⟩ := x
    show Calls Try.prog 31 #[.pointer (some ⟨g, 0, none⟩), .agg #[.int .i64 k, .string (nmS nm), .int .i64 a, .int .i64 b, .int .i64 cc, .int .i64 d, .int .i64 e, .bool q]] w (AskP w (false, 50))
    obtain ⟨t, ht⟩ : ∃ t, nmS nm = t := ⟨_, rfl⟩
    dsimp only [evA] at HW0
    rw [ht] at HW0 ⊢
    obtain ⟨W1, hW1⟩ : ∃ W1, w.alloc (.cells #[.int .i64 k, .string t, .int .i64 a, .int .i64 b, .int .i64 cc, .int .i64 d, .int .i64 e, .bool q] TEv) = W1 := ⟨_, rfl⟩
    have b1 : Below w.heap.size w W1 := by rw [← hW1]; exact (Below.refl _ _).alloc (Nat.le_refl _) _
    have x1 : Blk W1 w.heap.size #[.int .i64 k, .string t, .int .i64 a, .int .i64 b, .int .i64 cc, .int .i64 d, .int .i64 e, .bool q] TEv := by rw [← hW1]; exact heap_alloc_new w _
    have HB1 := hid b1
    have y0 : W1.cell? ⟨w.heap.size, 0, none⟩ = some (.int .i64 k) := x1.cell 0
    have y1 : W1.cell? ⟨w.heap.size, 1, none⟩ = some (.string t) := x1.cell 1
    have y2 : W1.cell? ⟨w.heap.size, 2, none⟩ = some (.int .i64 a) := x1.cell 2
    have y3 : W1.cell? ⟨w.heap.size, 3, none⟩ = some (.int .i64 b) := x1.cell 3
    have y4 : W1.cell? ⟨w.heap.size, 4, none⟩ = some (.int .i64 cc) := x1.cell 4
    have y5 : W1.cell? ⟨w.heap.size, 5, none⟩ = some (.int .i64 d) := x1.cell 5
    have y6 : W1.cell? ⟨w.heap.size, 6, none⟩ = some (.int .i64 e) := x1.cell 6
    have y7 : W1.cell? ⟨w.heap.size, 7, none⟩ = some (.bool q) := x1.cell 7
    have HW := hid (HW0 W1 b1)
    clear x1 b1 HW0
    go_enter Try.func31, Try.ntmps31
    go_wp2_with (go_at_call 46; refine HW.out.mono ?_; rintro e W2 ⟨rfl, hb2⟩; have HB2 := hid (HB1.out.trans (hb2.mono HB1.out.size)); have HB3 := hid hb2; clear hb2)
    refine bodyPost_ret (results_tmp2 Try.results31 _ _ _) rfl ⟨rfl, HB2.out⟩
  have HW0 := fun (w1 : World) (hb : Below w.heap.size w w1) => writer_ok (h.later hb) x hi hx heq
  unfold Bk.askW
  rw [hw, if_pos rfl, hxn]
  unfold ask4
  by_cases h2 : (B.at i).dec = true
  · rw [h2]
    obtain ⟨k, nm, a, b, cc, d, e, q⟩ := x
    show Calls Try.prog 31 #[.pointer (some ⟨g, 0, none⟩), .agg #[.int .i64 k, .string (nmS nm), .int .i64 a, .int .i64 b, .int .i64 cc, .int .i64 d, .int .i64 e, .bool q]] w (AskP w (!true || !(B.at i).pl.contains cc, 0))
    obtain ⟨t, ht⟩ : ∃ t, nmS nm = t := ⟨_, rfl⟩
    dsimp only [evA] at HW0
    rw [ht] at HW0 ⊢
    obtain ⟨W1, hW1⟩ : ∃ W1, w.alloc (.cells #[.int .i64 k, .string t, .int .i64 a, .int .i64 b, .int .i64 cc, .int .i64 d, .int .i64 e, .bool q] TEv) = W1 := ⟨_, rfl⟩
    have b1 : Below w.heap.size w W1 := by rw [← hW1]; exact (Below.refl _ _).alloc (Nat.le_refl _) _
    have x1 : Blk W1 w.heap.size #[.int .i64 k, .string t, .int .i64 a, .int .i64 b, .int .i64 cc, .int .i64 d, .int .i64 e, .bool q] TEv := by rw [← hW1]; exact heap_alloc_new w _
    have HB1 := hid b1
    have y0 : W1.cell? ⟨w.heap.size, 0, none⟩ = some (.int .i64 k) := x1.cell 0
    have y1 : W1.cell? ⟨w.heap.size, 1, none⟩ = some (.string t) := x1.cell 1
    have y2 : W1.cell? ⟨w.heap.size, 2, none⟩ = some (.int .i64 a) := x1.cell 2
    have y3 : W1.cell? ⟨w.heap.size, 3, none⟩ = some (.int .i64 b) := x1.cell 3
    have y4 : W1.cell? ⟨w.heap.size, 4, none⟩ = some (.int .i64 cc) := x1.cell 4
    have y5 : W1.cell? ⟨w.heap.size, 5, none⟩ = some (.int .i64 d) := x1.cell 5
    have y6 : W1.cell? ⟨w.heap.size, 6, none⟩ = some (.int .i64 e) := x1.cell 6
    have y7 : W1.cell? ⟨w.heap.size, 7, none⟩ = some (.bool q) := x1.cell 7
    have HW := hid (HW0 W1 b1)
    have h1 := h.later b1
    have HD : Hid (∀ W2, Below W1.heap.size W1 W2 → _) := fun W2 hb => isDecided_any (h1.later hb) hi
    have HH : Hid (∀ W2, Below W1.heap.size W1 W2 → _) := fun W2 hb => has_any (h1.later hb) hB hi cc
    have HK : Hid (∀ W2, Below W1.heap.size W1 W2 → W2.cell? ⟨w.heap.size, 4, none⟩ = some (.int .i64 cc) ∧ W2.cell? ⟨w.heap.size, 7, none⟩ = some (.bool q)) := fun W2 hb => ⟨(x1.later hb).cell 4, (x1.later hb).cell 7⟩
    have HC : Hid (∀ W2, Below W1.heap.size W1 W2 → ∃ s : Sl, W2.cell? ⟨pb, i * 5 + 4, none⟩ = some (.slice s.ad s.m s.c) ∧ s.m = (B.at i).pl.length ∧ W2.cell? ⟨pb, i * 5 + 2, none⟩ = some (.int .i64 (B.at i).st)) := fun W2 hb => by
      have h2 := h1.later hb
      obtain ⟨s, hs, hpl, -⟩ := h2.get hi
      obtain ⟨-, -, c2, -, c4, -⟩ := h2.cells hi hs
      obtain ⟨ad, cap, hf, -⟩ := hpl.form kZ_ok.tofit
      have : (Value.slice s.ad s.m s.c) = .slice ad (B.at i).pl.length cap := hf
      exact ⟨s, c4, (by injection this), c2⟩
    clear x1 b1 HW0 h1
    rw [h2] at HD
    generalize (B.at i).pl.contains cc = ct at *
    clear HC
    go_enter Try.func31, Try.ntmps31
    go_wp2_with (first | (go_at_call 46; refine HW.out.mono ?_; rintro e W2 ⟨rfl, hb2⟩; have HB2 := hid (HB1.out.trans (hb2.mono HB1.out.size)); have HB3 := hid hb2; obtain ⟨K4, K7⟩ := HK.out W2 hb2; clear hb2) | (go_at_call 45; refine (HD.out _ HB3.out).mono ?_; rintro e w3 ⟨rfl, hw3⟩; obtain rfl := hw3.symm) | (go_at_call 47; refine (HH.out _ HB3.out).mono ?_; rintro e W4 ⟨rfl, hb4⟩; have HB4 := hid (HB2.out.trans (hb4.mono HB2.out.size)); have HB5 := hid (HB3.out.trans (hb4.mono HB3.out.size)); clear hb4))
    refine bodyPost_ret (results_tmp2 Try.results31 _ _ _) rfl ⟨by simp, HB4.out⟩
  have h2' : (B.at i).dec = false := by simpa using h2
  rw [h2']
  obtain ⟨k, nm, a, b, cc, d, e, q⟩ := x
  show Calls Try.prog 31 #[.pointer (some ⟨g, 0, none⟩), .agg #[.int .i64 k, .string (nmS nm), .int .i64 a, .int .i64 b, .int .i64 cc, .int .i64 d, .int .i64 e, .bool q]] w (AskP w (!false || !(B.at i).pl.contains cc, 0))
  obtain ⟨t, ht⟩ : ∃ t, nmS nm = t := ⟨_, rfl⟩
  dsimp only [evA] at HW0
  rw [ht] at HW0 ⊢
  obtain ⟨W1, hW1⟩ : ∃ W1, w.alloc (.cells #[.int .i64 k, .string t, .int .i64 a, .int .i64 b, .int .i64 cc, .int .i64 d, .int .i64 e, .bool q] TEv) = W1 := ⟨_, rfl⟩
  have b1 : Below w.heap.size w W1 := by rw [← hW1]; exact (Below.refl _ _).alloc (Nat.le_refl _) _
  have x1 : Blk W1 w.heap.size #[.int .i64 k, .string t, .int .i64 a, .int .i64 b, .int .i64 cc, .int .i64 d, .int .i64 e, .bool q] TEv := by rw [← hW1]; exact heap_alloc_new w _
  have HB1 := hid b1
  have y0 : W1.cell? ⟨w.heap.size, 0, none⟩ = some (.int .i64 k) := x1.cell 0
  have y1 : W1.cell? ⟨w.heap.size, 1, none⟩ = some (.string t) := x1.cell 1
  have y2 : W1.cell? ⟨w.heap.size, 2, none⟩ = some (.int .i64 a) := x1.cell 2
  have y3 : W1.cell? ⟨w.heap.size, 3, none⟩ = some (.int .i64 b) := x1.cell 3
  have y4 : W1.cell? ⟨w.heap.size, 4, none⟩ = some (.int .i64 cc) := x1.cell 4
  have y5 : W1.cell? ⟨w.heap.size, 5, none⟩ = some (.int .i64 d) := x1.cell 5
  have y6 : W1.cell? ⟨w.heap.size, 6, none⟩ = some (.int .i64 e) := x1.cell 6
  have y7 : W1.cell? ⟨w.heap.size, 7, none⟩ = some (.bool q) := x1.cell 7
  have HW := hid (HW0 W1 b1)
  have h1 := h.later b1
  have HD : Hid (∀ W2, Below W1.heap.size W1 W2 → _) := fun W2 hb => isDecided_any (h1.later hb) hi
  have HH : Hid (∀ W2, Below W1.heap.size W1 W2 → _) := fun W2 hb => has_any (h1.later hb) hB hi cc
  have HK : Hid (∀ W2, Below W1.heap.size W1 W2 → W2.cell? ⟨w.heap.size, 4, none⟩ = some (.int .i64 cc) ∧ W2.cell? ⟨w.heap.size, 7, none⟩ = some (.bool q)) := fun W2 hb => ⟨(x1.later hb).cell 4, (x1.later hb).cell 7⟩
  have HC : Hid (∀ W2, Below W1.heap.size W1 W2 → ∃ s : Sl, W2.cell? ⟨pb, i * 5 + 4, none⟩ = some (.slice s.ad s.m s.c) ∧ s.m = (B.at i).pl.length ∧ W2.cell? ⟨pb, i * 5 + 2, none⟩ = some (.int .i64 (B.at i).st)) := fun W2 hb => by
    have h2 := h1.later hb
    obtain ⟨s, hs, hpl, -⟩ := h2.get hi
    obtain ⟨-, -, c2, -, c4, -⟩ := h2.cells hi hs
    obtain ⟨ad, cap, hf, -⟩ := hpl.form kZ_ok.tofit
    have : (Value.slice s.ad s.m s.c) = .slice ad (B.at i).pl.length cap := hf
    exact ⟨s, c4, (by injection this), c2⟩
  clear x1 b1 HW0 h1
  rw [h2'] at HD
  generalize (B.at i).pl.contains cc = ct at *
  clear HC
  go_enter Try.func31, Try.ntmps31
  go_wp2_with (first | (go_at_call 46; refine HW.out.mono ?_; rintro e W2 ⟨rfl, hb2⟩; have HB2 := hid (HB1.out.trans (hb2.mono HB1.out.size)); have HB3 := hid hb2; obtain ⟨K4, K7⟩ := HK.out W2 hb2; clear hb2) | (go_at_call 45; refine (HD.out _ HB3.out).mono ?_; rintro e w3 ⟨rfl, hw3⟩; obtain rfl := hw3.symm))
  refine bodyPost_ret (results_tmp2 Try.results31 _ _ _) rfl ⟨by simp, HB2.out⟩
set_option maxRecDepth 20000 in
set_option maxHeartbeats 1000000 in
theorem askEnd_any (h : BP w F g M v Z B) (hB : BkOk B) (x : Ev) : Calls Try.prog 30 #[.pointer (some ⟨g, 0, none⟩), .agg (evA x)] w (AskP w (B.askW x ask3)) := by
  rcases wr_cases B x with ⟨hn, hw⟩ | ⟨i, hi, hx, hxn, hw⟩
  · unfold Bk.askW
    rw [hw, if_neg (by decide)]
    have HW0 := fun (w1 : World) (hb : Below w.heap.size w w1) => writer_none (h.later hb) x hn
    obtain ⟨k, nm, a, b, cc, d, e, q⟩ := x
    show Calls Try.prog 30 #[.pointer (some ⟨g, 0, none⟩), .agg #[.int .i64 k, .string (nmS nm), .int .i64 a, .int .i64 b, .int .i64 cc, .int .i64 d, .int .i64 e, .bool q]] w (AskP w (false, 3))
    obtain ⟨t, ht⟩ : ∃ t, nmS nm = t := ⟨_, rfl⟩
    dsimp only [evA] at HW0
    rw [ht] at HW0 ⊢
    obtain ⟨W1, hW1⟩ : ∃ W1, w.alloc (.cells #[.int .i64 k, .string t, .int .i64 a, .int .i64 b, .int .i64 cc, .int .i64 d, .int .i64 e, .bool q] TEv) = W1 := ⟨_, rfl⟩
    have b1 : Below w.heap.size w W1 := by rw [← hW1]; exact (Below.refl _ _).alloc (Nat.le_refl _) _
    have x1 : Blk W1 w.heap.size #[.int .i64 k, .string t, .int .i64 a, .int .i64 b, .int .i64 cc, .int .i64 d, .int .i64 e, .bool q] TEv := by rw [← hW1]; exact heap_alloc_new w _
    have HB1 := hid b1
    have y0 : W1.cell? ⟨w.heap.size, 0, none⟩ = some (.int .i64 k) := x1.cell 0
    have y1 : W1.cell? ⟨w.heap.size, 1, none⟩ = some (.string t) := x1.cell 1
    have y2 : W1.cell? ⟨w.heap.size, 2, none⟩ = some (.int .i64 a) := x1.cell 2
    have y3 : W1.cell? ⟨w.heap.size, 3, none⟩ = some (.int .i64 b) := x1.cell 3
    have y4 : W1.cell? ⟨w.heap.size, 4, none⟩ = some (.int .i64 cc) := x1.cell 4
    have y5 : W1.cell? ⟨w.heap.size, 5, none⟩ = some (.int .i64 d) := x1.cell 5
    have y6 : W1.cell? ⟨w.heap.size, 6, none⟩ = some (.int .i64 e) := x1.cell 6
    have y7 : W1.cell? ⟨w.heap.size, 7, none⟩ = some (.bool q) := x1.cell 7
    have HW := hid (HW0 W1 b1)
    clear x1 b1 HW0
    go_enter Try.func30, Try.ntmps30
    go_wp2_with (go_at_call 46; refine HW.out.mono ?_; rintro e W2 ⟨rfl, hb2⟩; have HB2 := hid (HB1.out.trans (hb2.mono HB1.out.size)); have HB3 := hid hb2; clear hb2)
    refine bodyPost_ret (results_tmp2 Try.results30 _ _ _) rfl ⟨rfl, HB2.out⟩
  obtain ⟨pb, c, rfl, -⟩ := h.form (Nat.lt_of_le_of_lt (Nat.zero_le _) hi)
  rcases hw with ⟨hne, hw⟩ | ⟨heq, hw⟩
  · unfold Bk.askW
    rw [hw, if_neg (by decide)]
    have HW0 := fun (w1 : World) (hb : Below w.heap.size w w1) => writer_fence (h.later hb) x hi hx hne
    obtain ⟨k, nm, a, b, cc, d, e, q⟩ := x
    show Calls Try.prog 30 #[.pointer (some ⟨g, 0, none⟩), .agg #[.int .i64 k, .string (nmS nm), .int .i64 a, .int .i64 b, .int .i64 cc, .int .i64 d, .int .i64 e, .bool q]] w (AskP w (false, 50))
    obtain ⟨t, ht⟩ : ∃ t, nmS nm = t := ⟨_, rfl⟩
    dsimp only [evA] at HW0
    rw [ht] at HW0 ⊢
    obtain ⟨W1, hW1⟩ : ∃ W1, w.alloc (.cells #[.int .i64 k, .string t, .int .i64 a, .int .i64 b, .int .i64 cc, .int .i64 d, .int .i64 e, .bool q] TEv) = W1 := ⟨_, rfl⟩
    have b1 : Below w.heap.size w W1 := by rw [← hW1]; exact (Below.refl _ _).alloc (Nat.le_refl _) _
    have x1 : Blk W1 w.heap.size #[.int .i64 k, .string t, .int .i64 a, .int .i64 b, .int .i64 cc, .int .i64 d, .int .i64 e, .bool q] TEv := by rw [← hW1]; exact heap_alloc_new w _
    have HB1 := hid b1
    have y0 : W1.cell? ⟨w.heap.size, 0, none⟩ = some (.int .i64 k) := x1.cell 0
    have y1 : W1.cell? ⟨w.heap.size, 1, none⟩ = some (.string t) := x1.cell 1
    have y2 : W1.cell? ⟨w.heap.size, 2, none⟩ = some (.int .i64 a) := x1.cell 2
    have y3 : W1.cell? ⟨w.heap.size, 3, none⟩ = some (.int .i64 b) := x1.cell 3
    have y4 : W1.cell? ⟨w.heap.size, 4, none⟩ = some (.int .i64 cc) := x1.cell 4
    have y5 : W1.cell? ⟨w.heap.size, 5, none⟩ = some (.int .i64 d) := x1.cell 5
    have y6 : W1.cell? ⟨w.heap.size, 6, none⟩ = some (.int .i64 e) := x1.cell 6
    have y7 : W1.cell? ⟨w.heap.size, 7, none⟩ = some (.bool q) := x1.cell 7
    have HW := hid (HW0 W1 b1)
    clear x1 b1 HW0
    go_enter Try.func30, Try.ntmps30
    go_wp2_with (go_at_call 46; refine HW.out.mono ?_; rintro e W2 ⟨rfl, hb2⟩; have HB2 := hid (HB1.out.trans (hb2.mono HB1.out.size)); have HB3 := hid hb2; clear hb2)
    refine bodyPost_ret (results_tmp2 Try.results30 _ _ _) rfl ⟨rfl, HB2.out⟩
  have HW0 := fun (w1 : World) (hb : Below w.heap.size w w1) => writer_ok (h.later hb) x hi hx heq
  unfold Bk.askW
  rw [hw, if_pos rfl, hxn]
  have HO := hid (outcome_any x.yes)
  unfold ask3
  obtain ⟨st, hst⟩ : ∃ st, (B.at i).st = st := ⟨_, rfl⟩
  rw [hst]
  by_cases h2 : st = 1
  · rw [if_pos h2]
    subst h2
    obtain ⟨k, nm, a, b, cc, d, e, q⟩ := x
    show Calls Try.prog 30 #[.pointer (some ⟨g, 0, none⟩), .agg #[.int .i64 k, .string (nmS nm), .int .i64 a, .int .i64 b, .int .i64 cc, .int .i64 d, .int .i64 e, .bool q]] w (AskP w (false, 0))
    obtain ⟨t, ht⟩ : ∃ t, nmS nm = t := ⟨_, rfl⟩
    dsimp only [evA] at HW0
    rw [ht] at HW0 ⊢
    obtain ⟨W1, hW1⟩ : ∃ W1, w.alloc (.cells #[.int .i64 k, .string t, .int .i64 a, .int .i64 b, .int .i64 cc, .int .i64 d, .int .i64 e, .bool q] TEv) = W1 := ⟨_, rfl⟩
    have b1 : Below w.heap.size w W1 := by rw [← hW1]; exact (Below.refl _ _).alloc (Nat.le_refl _) _
    have x1 : Blk W1 w.heap.size #[.int .i64 k, .string t, .int .i64 a, .int .i64 b, .int .i64 cc, .int .i64 d, .int .i64 e, .bool q] TEv := by rw [← hW1]; exact heap_alloc_new w _
    have HB1 := hid b1
    have y0 : W1.cell? ⟨w.heap.size, 0, none⟩ = some (.int .i64 k) := x1.cell 0
    have y1 : W1.cell? ⟨w.heap.size, 1, none⟩ = some (.string t) := x1.cell 1
    have y2 : W1.cell? ⟨w.heap.size, 2, none⟩ = some (.int .i64 a) := x1.cell 2
    have y3 : W1.cell? ⟨w.heap.size, 3, none⟩ = some (.int .i64 b) := x1.cell 3
    have y4 : W1.cell? ⟨w.heap.size, 4, none⟩ = some (.int .i64 cc) := x1.cell 4
    have y5 : W1.cell? ⟨w.heap.size, 5, none⟩ = some (.int .i64 d) := x1.cell 5
    have y6 : W1.cell? ⟨w.heap.size, 6, none⟩ = some (.int .i64 e) := x1.cell 6
    have y7 : W1.cell? ⟨w.heap.size, 7, none⟩ = some (.bool q) := x1.cell 7
    have HW := hid (HW0 W1 b1)
    have h1 := h.later b1
    have HD : Hid (∀ W2, Below W1.heap.size W1 W2 → _) := fun W2 hb => isDecided_any (h1.later hb) hi
    have HH : Hid (∀ W2, Below W1.heap.size W1 W2 → _) := fun W2 hb => has_any (h1.later hb) hB hi cc
    have HK : Hid (∀ W2, Below W1.heap.size W1 W2 → W2.cell? ⟨w.heap.size, 4, none⟩ = some (.int .i64 cc) ∧ W2.cell? ⟨w.heap.size, 7, none⟩ = some (.bool q)) := fun W2 hb => ⟨(x1.later hb).cell 4, (x1.later hb).cell 7⟩
    have HC : Hid (∀ W2, Below W1.heap.size W1 W2 → ∃ s : Sl, W2.cell? ⟨pb, i * 5 + 4, none⟩ = some (.slice s.ad s.m s.c) ∧ s.m = (B.at i).pl.length ∧ W2.cell? ⟨pb, i * 5 + 2, none⟩ = some (.int .i64 (B.at i).st)) := fun W2 hb => by
      have h2 := h1.later hb
      obtain ⟨s, hs, hpl, -⟩ := h2.get hi
      obtain ⟨-, -, c2, -, c4, -⟩ := h2.cells hi hs
      obtain ⟨ad, cap, hf, -⟩ := hpl.form kZ_ok.tofit
      have : (Value.slice s.ad s.m s.c) = .slice ad (B.at i).pl.length cap := hf
      exact ⟨s, c4, (by injection this), c2⟩
    clear x1 b1 HW0 h1
    clear HD HH
    go_enter Try.func30, Try.ntmps30
    go_wp2_with (first | (go_at_call 46; refine HW.out.mono ?_; rintro e W2 ⟨rfl, hb2⟩; have HB2 := hid (HB1.out.trans (hb2.mono HB1.out.size)); have HB3 := hid hb2; obtain ⟨K4, K7⟩ := HK.out W2 hb2; obtain ⟨sl, c4, -, c2⟩ := HC.out W2 hb2; rw [hst] at c2; clear hb2 c4))
    refine bodyPost_ret (results_tmp2 Try.results30 _ _ _) rfl ⟨rfl, HB2.out⟩
  rw [if_neg h2]
  have d1 : (st == 1) = false := by simpa using h2
  by_cases h0 : st = 0
  · rw [if_pos (Or.inl h0)]
    subst h0
    clear d1 h2
    obtain ⟨k, nm, a, b, cc, d, e, q⟩ := x
    show Calls Try.prog 30 #[.pointer (some ⟨g, 0, none⟩), .agg #[.int .i64 k, .string (nmS nm), .int .i64 a, .int .i64 b, .int .i64 cc, .int .i64 d, .int .i64 e, .bool q]] w (AskP w (true, 0))
    obtain ⟨t, ht⟩ : ∃ t, nmS nm = t := ⟨_, rfl⟩
    dsimp only [evA] at HW0
    rw [ht] at HW0 ⊢
    obtain ⟨W1, hW1⟩ : ∃ W1, w.alloc (.cells #[.int .i64 k, .string t, .int .i64 a, .int .i64 b, .int .i64 cc, .int .i64 d, .int .i64 e, .bool q] TEv) = W1 := ⟨_, rfl⟩
    have b1 : Below w.heap.size w W1 := by rw [← hW1]; exact (Below.refl _ _).alloc (Nat.le_refl _) _
    have x1 : Blk W1 w.heap.size #[.int .i64 k, .string t, .int .i64 a, .int .i64 b, .int .i64 cc, .int .i64 d, .int .i64 e, .bool q] TEv := by rw [← hW1]; exact heap_alloc_new w _
    have HB1 := hid b1
    have y0 : W1.cell? ⟨w.heap.size, 0, none⟩ = some (.int .i64 k) := x1.cell 0
    have y1 : W1.cell? ⟨w.heap.size, 1, none⟩ = some (.string t) := x1.cell 1
    have y2 : W1.cell? ⟨w.heap.size, 2, none⟩ = some (.int .i64 a) := x1.cell 2
    have y3 : W1.cell? ⟨w.heap.size, 3, none⟩ = some (.int .i64 b) := x1.cell 3
    have y4 : W1.cell? ⟨w.heap.size, 4, none⟩ = some (.int .i64 cc) := x1.cell 4
    have y5 : W1.cell? ⟨w.heap.size, 5, none⟩ = some (.int .i64 d) := x1.cell 5
    have y6 : W1.cell? ⟨w.heap.size, 6, none⟩ = some (.int .i64 e) := x1.cell 6
    have y7 : W1.cell? ⟨w.heap.size, 7, none⟩ = some (.bool q) := x1.cell 7
    have HW := hid (HW0 W1 b1)
    have h1 := h.later b1
    have HD : Hid (∀ W2, Below W1.heap.size W1 W2 → _) := fun W2 hb => isDecided_any (h1.later hb) hi
    have HH : Hid (∀ W2, Below W1.heap.size W1 W2 → _) := fun W2 hb => has_any (h1.later hb) hB hi cc
    have HK : Hid (∀ W2, Below W1.heap.size W1 W2 → W2.cell? ⟨w.heap.size, 4, none⟩ = some (.int .i64 cc) ∧ W2.cell? ⟨w.heap.size, 7, none⟩ = some (.bool q)) := fun W2 hb => ⟨(x1.later hb).cell 4, (x1.later hb).cell 7⟩
    have HC : Hid (∀ W2, Below W1.heap.size W1 W2 → ∃ s : Sl, W2.cell? ⟨pb, i * 5 + 4, none⟩ = some (.slice s.ad s.m s.c) ∧ s.m = (B.at i).pl.length ∧ W2.cell? ⟨pb, i * 5 + 2, none⟩ = some (.int .i64 (B.at i).st)) := fun W2 hb => by
      have h2 := h1.later hb
      obtain ⟨s, hs, hpl, -⟩ := h2.get hi
      obtain ⟨-, -, c2, -, c4, -⟩ := h2.cells hi hs
      obtain ⟨ad, cap, hf, -⟩ := hpl.form kZ_ok.tofit
      have : (Value.slice s.ad s.m s.c) = .slice ad (B.at i).pl.length cap := hf
      exact ⟨s, c4, (by injection this), c2⟩
    clear x1 b1 HW0 h1
    clear HD HH
    go_enter Try.func30, Try.ntmps30
    go_wp2_with (first | (go_at_call 46; refine HW.out.mono ?_; rintro e W2 ⟨rfl, hb2⟩; have HB2 := hid (HB1.out.trans (hb2.mono HB1.out.size)); have HB3 := hid hb2; obtain ⟨K4, K7⟩ := HK.out W2 hb2; obtain ⟨sl, c4, -, c2⟩ := HC.out W2 hb2; rw [hst] at c2; clear hb2 c4))
    refine wp_region_held_drew (S := fun W => W.cell? ⟨pb, i * 5 + 2, none⟩ = some (.int .i64 0) ∧ W.cell? ⟨w.heap.size, 7, none⟩ = some (.bool q)) (by kernel_rfl) (⟨c2, K7⟩) (fun hHeld => ?_)
    refine wpAnyH_take (i := 0) (oi := { dst := some 24, op := Op.move (Operand.tmp 6), type := 67, pos := "deeds.go:68", after := #[], guard := none }) (v := ?_) rfl (by kernel_rfl) (by kernel_rfl) (by kernel_rfl) (fun _ _ _ h => h) (Or.inl ⟨by rfl, ?_⟩) hHeld ?_
    rotate_left
    · intro w hSw; (try dsimp only at hSw); go_simp; try with_reducible rfl
    try simp only [Act.put, List.setIfInBounds_toArray, List.set_cons_zero, List.set_cons_succ]
    refine wpAnyH_take (i := 1) (oi := { dst := some 25, op := Op.nilCheck (Operand.tmp 24), type := 0, pos := "deeds.go:68", after := #[{ on := 0, ground := Ground.data }], guard := none }) (v := ?_) rfl (by kernel_rfl) (by kernel_rfl) (by kernel_rfl) (fun _ _ _ h => h) (Or.inl ⟨by rfl, ?_⟩) hHeld ?_
    rotate_left
    · intro w hSw; (try dsimp only at hSw); go_simp; try with_reducible rfl
    try simp only [Act.put, List.setIfInBounds_toArray, List.set_cons_zero, List.set_cons_succ]
    refine wpAnyH_take (i := 2) (oi := { dst := some 26, op := Op.fieldAddr 71 (Operand.tmp 25) 2, type := 0, pos := "deeds.go:68", after := #[{ on := 1, ground := Ground.data }], guard := none }) (v := ?_) rfl (by kernel_rfl) (by kernel_rfl) (by kernel_rfl) (fun _ _ _ h => h) (Or.inl ⟨by rfl, ?_⟩) hHeld ?_
    rotate_left
    · intro w hSw; (try dsimp only at hSw); go_simp; try with_reducible rfl
    try simp only [Act.put, List.setIfInBounds_toArray, List.set_cons_zero, List.set_cons_succ]
    refine wpAnyH_take (i := 3) (oi := { dst := some 27, op := Op.load 3 (Operand.tmp 26), type := 3, pos := "deeds.go:68", after := #[{ on := 2, ground := Ground.data }], guard := none }) (v := ?_) rfl (by kernel_rfl) (by kernel_rfl) (by kernel_rfl) (fun _ _ _ h => h) (Or.inl ⟨by rfl, ?_⟩) hHeld ?_
    rotate_left
    · intro w hSw; (try dsimp only at hSw); go_simp; try with_reducible rfl
    try simp only [Act.put, List.setIfInBounds_toArray, List.set_cons_zero, List.set_cons_succ]
    refine wpAnyH_take (i := 4) (oi := { dst := some 28, op := Op.binOp BinOp.eql 3 (Operand.tmp 27) (Operand.const (Value.int IntKind.i64 0)) 3, type := 4, pos := "deeds.go:68", after := #[{ on := 3, ground := Ground.data }], guard := none }) (v := ?_) rfl (by kernel_rfl) (by kernel_rfl) (by kernel_rfl) (fun _ _ _ h => h) (Or.inl ⟨by rfl, ?_⟩) hHeld ?_
    rotate_left
    · intro w hSw; (try dsimp only at hSw); go_simp; try with_reducible rfl
    try simp only [Act.put, List.setIfInBounds_toArray, List.set_cons_zero, List.set_cons_succ]
    refine wpAnyH_take (i := 5) (oi := { dst := some 29, op := Op.move (Operand.tmp 28), type := 4, pos := "deeds.go:68", after := #[{ on := 4, ground := Ground.data }], guard := none }) (v := ?_) rfl (by kernel_rfl) (by kernel_rfl) (by kernel_rfl) (fun _ _ _ h => h) (Or.inl ⟨by rfl, ?_⟩) hHeld ?_
    rotate_left
    · intro w hSw; (try dsimp only at hSw); go_simp; try with_reducible rfl
    try simp only [Act.put, List.setIfInBounds_toArray, List.set_cons_zero, List.set_cons_succ]
    refine wpAnyH_take (i := 6) (oi := { dst := some 30, op := Op.move (Operand.tmp 6), type := 67, pos := "deeds.go:68", after := #[{ on := 5, ground := Ground.guard }], guard := some (5, false) }) (v := undef) rfl (by kernel_rfl) (by kernel_rfl) (by kernel_rfl) (fun _ _ _ h => h) (Or.inr ⟨by kernel_rfl, rfl⟩) hHeld ?_
    try simp only [Act.put, List.setIfInBounds_toArray, List.set_cons_zero, List.set_cons_succ]
    refine wpAnyH_take (i := 7) (oi := { dst := some 31, op := Op.nilCheck (Operand.tmp 30), type := 0, pos := "deeds.go:68", after := #[{ on := 6, ground := Ground.data }, { on := 5, ground := Ground.guard }], guard := some (5, false) }) (v := undef) rfl (by kernel_rfl) (by kernel_rfl) (by kernel_rfl) (fun _ _ _ h => h) (Or.inr ⟨by kernel_rfl, rfl⟩) hHeld ?_
    try simp only [Act.put, List.setIfInBounds_toArray, List.set_cons_zero, List.set_cons_succ]
    refine wpAnyH_take (i := 8) (oi := { dst := some 32, op := Op.fieldAddr 71 (Operand.tmp 31) 2, type := 0, pos := "deeds.go:68", after := #[{ on := 7, ground := Ground.data }, { on := 5, ground := Ground.guard }], guard := some (5, false) }) (v := undef) rfl (by kernel_rfl) (by kernel_rfl) (by kernel_rfl) (fun _ _ _ h => h) (Or.inr ⟨by kernel_rfl, rfl⟩) hHeld ?_
    try simp only [Act.put, List.setIfInBounds_toArray, List.set_cons_zero, List.set_cons_succ]
    refine wpAnyH_take (i := 9) (oi := { dst := some 33, op := Op.load 3 (Operand.tmp 32), type := 3, pos := "deeds.go:68", after := #[{ on := 8, ground := Ground.data }, { on := 5, ground := Ground.guard }], guard := some (5, false) }) (v := undef) rfl (by kernel_rfl) (by kernel_rfl) (by kernel_rfl) (fun _ _ _ h => h) (Or.inr ⟨by kernel_rfl, rfl⟩) hHeld ?_
    try simp only [Act.put, List.setIfInBounds_toArray, List.set_cons_zero, List.set_cons_succ]
    refine wpAnyH_take (i := 10) (oi := { dst := some 34, op := Op.fieldAddr 30 (Operand.tmp 3) 7, type := 0, pos := "deeds.go:68", after := #[{ on := 5, ground := Ground.guard }], guard := some (5, false) }) (v := undef) rfl (by kernel_rfl) (by kernel_rfl) (by kernel_rfl) (fun _ _ _ h => h) (Or.inr ⟨by kernel_rfl, rfl⟩) hHeld ?_
    try simp only [Act.put, List.setIfInBounds_toArray, List.set_cons_zero, List.set_cons_succ]
    refine wpAnyH_take (i := 11) (oi := { dst := some 35, op := Op.load 4 (Operand.tmp 34), type := 4, pos := "deeds.go:68", after := #[{ on := 10, ground := Ground.data }, { on := 5, ground := Ground.guard }], guard := some (5, false) }) (v := undef) rfl (by kernel_rfl) (by kernel_rfl) (by kernel_rfl) (fun _ _ _ h => h) (Or.inr ⟨by kernel_rfl, rfl⟩) hHeld ?_
    try simp only [Act.put, List.setIfInBounds_toArray, List.set_cons_zero, List.set_cons_succ]
    refine wpAnyH_take (i := 12) (oi := { dst := some 36, op := Op.call { callee := Callee.value (Operand.func 48), args := #[Operand.tmp 35], argTypes := #[4] }, type := 3, pos := "deeds.go:68", after := #[{ on := 11, ground := Ground.data }, { on := 5, ground := Ground.chain }, { on := 5, ground := Ground.guard }], guard := some (5, false) }) (v := undef) rfl (by kernel_rfl) (by kernel_rfl) (by kernel_rfl) (fun _ _ _ h => h) (Or.inr ⟨by kernel_rfl, rfl⟩) hHeld ?_
    try simp only [Act.put, List.setIfInBounds_toArray, List.set_cons_zero, List.set_cons_succ]
    refine wpAnyH_take (i := 13) (oi := { dst := some 37, op := Op.binOp BinOp.eql 3 (Operand.tmp 33) (Operand.tmp 36) 3, type := 4, pos := "deeds.go:68", after := #[{ on := 9, ground := Ground.data }, { on := 12, ground := Ground.data }, { on := 5, ground := Ground.guard }], guard := some (5, false) }) (v := undef) rfl (by kernel_rfl) (by kernel_rfl) (by kernel_rfl) (fun _ _ _ h => h) (Or.inr ⟨by kernel_rfl, rfl⟩) hHeld ?_
    try simp only [Act.put, List.setIfInBounds_toArray, List.set_cons_zero, List.set_cons_succ]
    refine wpAnyH_take (i := 14) (oi := { dst := some 38, op := Op.pick (Operand.tmp 29) (Operand.const (Value.bool true)) (Operand.tmp 37), type := 4, pos := "deeds.go:68", after := #[{ on := 5, ground := Ground.data }, { on := 13, ground := Ground.data }], guard := none }) (v := ?_) rfl (by kernel_rfl) (by kernel_rfl) (by kernel_rfl) (fun _ _ _ h => h) (Or.inl ⟨by rfl, ?_⟩) hHeld ?_
    rotate_left
    · intro w hSw; (try dsimp only at hSw); go_simp; try with_reducible rfl
    try simp only [Act.put, List.setIfInBounds_toArray, List.set_cons_zero, List.set_cons_succ]
    refine wpAnyH_take (i := 15) (oi := { dst := some 23, op := Op.assign (Operand.tmp 38), type := 4, pos := "deeds.go:68", after := #[{ on := 14, ground := Ground.data }, { on := 12, ground := Ground.chain }], guard := none }) (v := ?_) rfl (by kernel_rfl) (by kernel_rfl) (by kernel_rfl) (fun _ _ _ h => h) (Or.inl ⟨by rfl, ?_⟩) hHeld ?_
    rotate_left
    · intro w hSw; (try dsimp only at hSw); go_simp; try with_reducible rfl
    try simp only [Act.put, List.setIfInBounds_toArray, List.set_cons_zero, List.set_cons_succ]
    refine wpAnyH_done (by kernel_rfl) ?_ _
    clear hHeld
    go_wp2_with fail
    refine bodyPost_ret (results_tmp2 Try.results30 _ _ _) rfl ⟨rfl, HB2.out.drew⟩
  have d0 : (st == 0) = false := by simpa using h0
  by_cases h3 : st = outc x.yes
  · rw [if_pos (Or.inr h3)]
    have d3 : (st == outc x.yes) = true := by simpa using h3
    obtain ⟨k, nm, a, b, cc, d, e, q⟩ := x
    show Calls Try.prog 30 #[.pointer (some ⟨g, 0, none⟩), .agg #[.int .i64 k, .string (nmS nm), .int .i64 a, .int .i64 b, .int .i64 cc, .int .i64 d, .int .i64 e, .bool q]] w (AskP w (true, 0))
    obtain ⟨t, ht⟩ : ∃ t, nmS nm = t := ⟨_, rfl⟩
    dsimp only [evA] at HW0
    rw [ht] at HW0 ⊢
    obtain ⟨W1, hW1⟩ : ∃ W1, w.alloc (.cells #[.int .i64 k, .string t, .int .i64 a, .int .i64 b, .int .i64 cc, .int .i64 d, .int .i64 e, .bool q] TEv) = W1 := ⟨_, rfl⟩
    have b1 : Below w.heap.size w W1 := by rw [← hW1]; exact (Below.refl _ _).alloc (Nat.le_refl _) _
    have x1 : Blk W1 w.heap.size #[.int .i64 k, .string t, .int .i64 a, .int .i64 b, .int .i64 cc, .int .i64 d, .int .i64 e, .bool q] TEv := by rw [← hW1]; exact heap_alloc_new w _
    have HB1 := hid b1
    have y0 : W1.cell? ⟨w.heap.size, 0, none⟩ = some (.int .i64 k) := x1.cell 0
    have y1 : W1.cell? ⟨w.heap.size, 1, none⟩ = some (.string t) := x1.cell 1
    have y2 : W1.cell? ⟨w.heap.size, 2, none⟩ = some (.int .i64 a) := x1.cell 2
    have y3 : W1.cell? ⟨w.heap.size, 3, none⟩ = some (.int .i64 b) := x1.cell 3
    have y4 : W1.cell? ⟨w.heap.size, 4, none⟩ = some (.int .i64 cc) := x1.cell 4
    have y5 : W1.cell? ⟨w.heap.size, 5, none⟩ = some (.int .i64 d) := x1.cell 5
    have y6 : W1.cell? ⟨w.heap.size, 6, none⟩ = some (.int .i64 e) := x1.cell 6
    have y7 : W1.cell? ⟨w.heap.size, 7, none⟩ = some (.bool q) := x1.cell 7
    have HW := hid (HW0 W1 b1)
    have h1 := h.later b1
    have HD : Hid (∀ W2, Below W1.heap.size W1 W2 → _) := fun W2 hb => isDecided_any (h1.later hb) hi
    have HH : Hid (∀ W2, Below W1.heap.size W1 W2 → _) := fun W2 hb => has_any (h1.later hb) hB hi cc
    have HK : Hid (∀ W2, Below W1.heap.size W1 W2 → W2.cell? ⟨w.heap.size, 4, none⟩ = some (.int .i64 cc) ∧ W2.cell? ⟨w.heap.size, 7, none⟩ = some (.bool q)) := fun W2 hb => ⟨(x1.later hb).cell 4, (x1.later hb).cell 7⟩
    have HC : Hid (∀ W2, Below W1.heap.size W1 W2 → ∃ s : Sl, W2.cell? ⟨pb, i * 5 + 4, none⟩ = some (.slice s.ad s.m s.c) ∧ s.m = (B.at i).pl.length ∧ W2.cell? ⟨pb, i * 5 + 2, none⟩ = some (.int .i64 (B.at i).st)) := fun W2 hb => by
      have h2 := h1.later hb
      obtain ⟨s, hs, hpl, -⟩ := h2.get hi
      obtain ⟨-, -, c2, -, c4, -⟩ := h2.cells hi hs
      obtain ⟨ad, cap, hf, -⟩ := hpl.form kZ_ok.tofit
      have : (Value.slice s.ad s.m s.c) = .slice ad (B.at i).pl.length cap := hf
      exact ⟨s, c4, (by injection this), c2⟩
    clear x1 b1 HW0 h1
    have d3' : (st == outc q) = true := d3
    have HO2 : Hid (∀ w, _) := fun w => HO.out w
    dsimp only at HO
    obtain ⟨oq, hoq⟩ : ∃ oq, outc q = oq := ⟨_, rfl⟩
    rw [hoq] at d3' HO
    clear HD HH d3 h3 h2 h0 HO2
    go_enter Try.func30, Try.ntmps30
    go_wp2_with (first | (go_at_call 46; refine HW.out.mono ?_; rintro e W2 ⟨rfl, hb2⟩; have HB2 := hid (HB1.out.trans (hb2.mono HB1.out.size)); have HB3 := hid hb2; obtain ⟨K4, K7⟩ := HK.out W2 hb2; obtain ⟨sl, c4, -, c2⟩ := HC.out W2 hb2; rw [hst] at c2; clear hb2 c4))
    refine wp_region_held_drew (S := fun W => W.cell? ⟨pb, i * 5 + 2, none⟩ = some (.int .i64 st) ∧ W.cell? ⟨w.heap.size, 7, none⟩ = some (.bool q)) (by kernel_rfl) (⟨c2, K7⟩) (fun hHeld => ?_)
    refine wpAnyH_take (i := 0) (oi := { dst := some 24, op := Op.move (Operand.tmp 6), type := 67, pos := "deeds.go:68", after := #[], guard := none }) (v := ?_) rfl (by kernel_rfl) (by kernel_rfl) (by kernel_rfl) (fun _ _ _ h => h) (Or.inl ⟨by rfl, ?_⟩) hHeld ?_
    rotate_left
    · intro w hSw; (try dsimp only at hSw); go_simp; try with_reducible rfl
    try simp only [Act.put, List.setIfInBounds_toArray, List.set_cons_zero, List.set_cons_succ]
    refine wpAnyH_take (i := 1) (oi := { dst := some 25, op := Op.nilCheck (Operand.tmp 24), type := 0, pos := "deeds.go:68", after := #[{ on := 0, ground := Ground.data }], guard := none }) (v := ?_) rfl (by kernel_rfl) (by kernel_rfl) (by kernel_rfl) (fun _ _ _ h => h) (Or.inl ⟨by rfl, ?_⟩) hHeld ?_
    rotate_left
    · intro w hSw; (try dsimp only at hSw); go_simp; try with_reducible rfl
    try simp only [Act.put, List.setIfInBounds_toArray, List.set_cons_zero, List.set_cons_succ]
    refine wpAnyH_take (i := 2) (oi := { dst := some 26, op := Op.fieldAddr 71 (Operand.tmp 25) 2, type := 0, pos := "deeds.go:68", after := #[{ on := 1, ground := Ground.data }], guard := none }) (v := ?_) rfl (by kernel_rfl) (by kernel_rfl) (by kernel_rfl) (fun _ _ _ h => h) (Or.inl ⟨by rfl, ?_⟩) hHeld ?_
    rotate_left
    · intro w hSw; (try dsimp only at hSw); go_simp; try with_reducible rfl
    try simp only [Act.put, List.setIfInBounds_toArray, List.set_cons_zero, List.set_cons_succ]
    refine wpAnyH_take (i := 3) (oi := { dst := some 27, op := Op.load 3 (Operand.tmp 26), type := 3, pos := "deeds.go:68", after := #[{ on := 2, ground := Ground.data }], guard := none }) (v := ?_) rfl (by kernel_rfl) (by kernel_rfl) (by kernel_rfl) (fun _ _ _ h => h) (Or.inl ⟨by rfl, ?_⟩) hHeld ?_
    rotate_left
    · intro w hSw; (try dsimp only at hSw); go_simp; try with_reducible rfl
    try simp only [Act.put, List.setIfInBounds_toArray, List.set_cons_zero, List.set_cons_succ]
    refine wpAnyH_take (i := 4) (oi := { dst := some 28, op := Op.binOp BinOp.eql 3 (Operand.tmp 27) (Operand.const (Value.int IntKind.i64 0)) 3, type := 4, pos := "deeds.go:68", after := #[{ on := 3, ground := Ground.data }], guard := none }) (v := ?_) rfl (by kernel_rfl) (by kernel_rfl) (by kernel_rfl) (fun _ _ _ h => h) (Or.inl ⟨by rfl, ?_⟩) hHeld ?_
    rotate_left
    · intro w hSw; (try dsimp only at hSw); go_simp; try with_reducible rfl
    try simp only [Act.put, List.setIfInBounds_toArray, List.set_cons_zero, List.set_cons_succ]
    refine wpAnyH_take (i := 5) (oi := { dst := some 29, op := Op.move (Operand.tmp 28), type := 4, pos := "deeds.go:68", after := #[{ on := 4, ground := Ground.data }], guard := none }) (v := ?_) rfl (by kernel_rfl) (by kernel_rfl) (by kernel_rfl) (fun _ _ _ h => h) (Or.inl ⟨by rfl, ?_⟩) hHeld ?_
    rotate_left
    · intro w hSw; (try dsimp only at hSw); go_simp; try with_reducible rfl
    try simp only [Act.put, List.setIfInBounds_toArray, List.set_cons_zero, List.set_cons_succ]
    refine wpAnyH_take (i := 6) (oi := { dst := some 30, op := Op.move (Operand.tmp 6), type := 67, pos := "deeds.go:68", after := #[{ on := 5, ground := Ground.guard }], guard := some (5, false) }) (v := ?_) rfl (by kernel_rfl) (by kernel_rfl) (by kernel_rfl) (fun _ _ _ h => h) (Or.inl ⟨by rfl, ?_⟩) hHeld ?_
    rotate_left
    · intro w hSw; (try dsimp only at hSw); go_simp; try with_reducible rfl
    try simp only [Act.put, List.setIfInBounds_toArray, List.set_cons_zero, List.set_cons_succ]
    refine wpAnyH_take (i := 7) (oi := { dst := some 31, op := Op.nilCheck (Operand.tmp 30), type := 0, pos := "deeds.go:68", after := #[{ on := 6, ground := Ground.data }, { on := 5, ground := Ground.guard }], guard := some (5, false) }) (v := ?_) rfl (by kernel_rfl) (by kernel_rfl) (by kernel_rfl) (fun _ _ _ h => h) (Or.inl ⟨by rfl, ?_⟩) hHeld ?_
    rotate_left
    · intro w hSw; (try dsimp only at hSw); go_simp; try with_reducible rfl
    try simp only [Act.put, List.setIfInBounds_toArray, List.set_cons_zero, List.set_cons_succ]
    refine wpAnyH_take (i := 8) (oi := { dst := some 32, op := Op.fieldAddr 71 (Operand.tmp 31) 2, type := 0, pos := "deeds.go:68", after := #[{ on := 7, ground := Ground.data }, { on := 5, ground := Ground.guard }], guard := some (5, false) }) (v := ?_) rfl (by kernel_rfl) (by kernel_rfl) (by kernel_rfl) (fun _ _ _ h => h) (Or.inl ⟨by rfl, ?_⟩) hHeld ?_
    rotate_left
    · intro w hSw; (try dsimp only at hSw); go_simp; try with_reducible rfl
    try simp only [Act.put, List.setIfInBounds_toArray, List.set_cons_zero, List.set_cons_succ]
    refine wpAnyH_take (i := 9) (oi := { dst := some 33, op := Op.load 3 (Operand.tmp 32), type := 3, pos := "deeds.go:68", after := #[{ on := 8, ground := Ground.data }, { on := 5, ground := Ground.guard }], guard := some (5, false) }) (v := ?_) rfl (by kernel_rfl) (by kernel_rfl) (by kernel_rfl) (fun _ _ _ h => h) (Or.inl ⟨by rfl, ?_⟩) hHeld ?_
    rotate_left
    · intro w hSw; (try dsimp only at hSw); go_simp; try with_reducible rfl
    try simp only [Act.put, List.setIfInBounds_toArray, List.set_cons_zero, List.set_cons_succ]
    refine wpAnyH_take (i := 10) (oi := { dst := some 34, op := Op.fieldAddr 30 (Operand.tmp 3) 7, type := 0, pos := "deeds.go:68", after := #[{ on := 5, ground := Ground.guard }], guard := some (5, false) }) (v := ?_) rfl (by kernel_rfl) (by kernel_rfl) (by kernel_rfl) (fun _ _ _ h => h) (Or.inl ⟨by rfl, ?_⟩) hHeld ?_
    rotate_left
    · intro w hSw; (try dsimp only at hSw); go_simp; try with_reducible rfl
    try simp only [Act.put, List.setIfInBounds_toArray, List.set_cons_zero, List.set_cons_succ]
    refine wpAnyH_take (i := 11) (oi := { dst := some 35, op := Op.load 4 (Operand.tmp 34), type := 4, pos := "deeds.go:68", after := #[{ on := 10, ground := Ground.data }, { on := 5, ground := Ground.guard }], guard := some (5, false) }) (v := ?_) rfl (by kernel_rfl) (by kernel_rfl) (by kernel_rfl) (fun _ _ _ h => h) (Or.inl ⟨by rfl, ?_⟩) hHeld ?_
    rotate_left
    · intro w hSw; (try dsimp only at hSw); go_simp; try with_reducible rfl
    try simp only [Act.put, List.setIfInBounds_toArray, List.set_cons_zero, List.set_cons_succ]
    refine wpAnyH_ready (rs := [12]) (by kernel_rfl) (by simp) ?_
    refine AllReadyH.cons rfl (fun K hK => ?_) (AllReadyH.nil)
    go_simp
    go_wp2_with (go_at_call 48; refine (HO.out _).mono ?_; rintro e w5 ⟨rfl, hw5⟩; obtain rfl := hw5.symm)
    refine hK.out _ _ (⟨c2, K7⟩) (fun hHeld => ?_)
    clear hK K
    try simp only [Act.put, List.setIfInBounds_toArray, List.set_cons_zero, List.set_cons_succ]
    refine wpAnyH_take (i := 13) (oi := { dst := some 37, op := Op.binOp BinOp.eql 3 (Operand.tmp 33) (Operand.tmp 36) 3, type := 4, pos := "deeds.go:68", after := #[{ on := 9, ground := Ground.data }, { on := 12, ground := Ground.data }, { on := 5, ground := Ground.guard }], guard := some (5, false) }) (v := ?_) rfl (by kernel_rfl) (by kernel_rfl) (by kernel_rfl) (fun _ _ _ h => h) (Or.inl ⟨by rfl, ?_⟩) hHeld ?_
    rotate_left
    · intro w hSw; (try dsimp only at hSw); go_simp; try with_reducible rfl
    try simp only [Act.put, List.setIfInBounds_toArray, List.set_cons_zero, List.set_cons_succ]
    refine wpAnyH_take (i := 14) (oi := { dst := some 38, op := Op.pick (Operand.tmp 29) (Operand.const (Value.bool true)) (Operand.tmp 37), type := 4, pos := "deeds.go:68", after := #[{ on := 5, ground := Ground.data }, { on := 13, ground := Ground.data }], guard := none }) (v := ?_) rfl (by kernel_rfl) (by kernel_rfl) (by kernel_rfl) (fun _ _ _ h => h) (Or.inl ⟨by rfl, ?_⟩) hHeld ?_
    rotate_left
    · intro w hSw; (try dsimp only at hSw); go_simp; try with_reducible rfl
    try simp only [Act.put, List.setIfInBounds_toArray, List.set_cons_zero, List.set_cons_succ]
    refine wpAnyH_take (i := 15) (oi := { dst := some 23, op := Op.assign (Operand.tmp 38), type := 4, pos := "deeds.go:68", after := #[{ on := 14, ground := Ground.data }, { on := 12, ground := Ground.chain }], guard := none }) (v := ?_) rfl (by kernel_rfl) (by kernel_rfl) (by kernel_rfl) (fun _ _ _ h => h) (Or.inl ⟨by rfl, ?_⟩) hHeld ?_
    rotate_left
    · intro w hSw; (try dsimp only at hSw); go_simp; try with_reducible rfl
    try simp only [Act.put, List.setIfInBounds_toArray, List.set_cons_zero, List.set_cons_succ]
    refine wpAnyH_done (by kernel_rfl) ?_ _
    clear hHeld
    go_wp2_with fail
    refine bodyPost_ret (results_tmp2 Try.results30 _ _ _) rfl ⟨rfl, HB2.out.drew⟩
  rw [if_neg (fun hh => hh.elim h0 h3)]
  have d3 : (st == outc x.yes) = false := by simpa using h3
  obtain ⟨k, nm, a, b, cc, d, e, q⟩ := x
  show Calls Try.prog 30 #[.pointer (some ⟨g, 0, none⟩), .agg #[.int .i64 k, .string (nmS nm), .int .i64 a, .int .i64 b, .int .i64 cc, .int .i64 d, .int .i64 e, .bool q]] w (AskP w (false, 54))
  obtain ⟨t, ht⟩ : ∃ t, nmS nm = t := ⟨_, rfl⟩
  dsimp only [evA] at HW0
  rw [ht] at HW0 ⊢
  obtain ⟨W1, hW1⟩ : ∃ W1, w.alloc (.cells #[.int .i64 k, .string t, .int .i64 a, .int .i64 b, .int .i64 cc, .int .i64 d, .int .i64 e, .bool q] TEv) = W1 := ⟨_, rfl⟩
  have b1 : Below w.heap.size w W1 := by rw [← hW1]; exact (Below.refl _ _).alloc (Nat.le_refl _) _
  have x1 : Blk W1 w.heap.size #[.int .i64 k, .string t, .int .i64 a, .int .i64 b, .int .i64 cc, .int .i64 d, .int .i64 e, .bool q] TEv := by rw [← hW1]; exact heap_alloc_new w _
  have HB1 := hid b1
  have y0 : W1.cell? ⟨w.heap.size, 0, none⟩ = some (.int .i64 k) := x1.cell 0
  have y1 : W1.cell? ⟨w.heap.size, 1, none⟩ = some (.string t) := x1.cell 1
  have y2 : W1.cell? ⟨w.heap.size, 2, none⟩ = some (.int .i64 a) := x1.cell 2
  have y3 : W1.cell? ⟨w.heap.size, 3, none⟩ = some (.int .i64 b) := x1.cell 3
  have y4 : W1.cell? ⟨w.heap.size, 4, none⟩ = some (.int .i64 cc) := x1.cell 4
  have y5 : W1.cell? ⟨w.heap.size, 5, none⟩ = some (.int .i64 d) := x1.cell 5
  have y6 : W1.cell? ⟨w.heap.size, 6, none⟩ = some (.int .i64 e) := x1.cell 6
  have y7 : W1.cell? ⟨w.heap.size, 7, none⟩ = some (.bool q) := x1.cell 7
  have HW := hid (HW0 W1 b1)
  have h1 := h.later b1
  have HD : Hid (∀ W2, Below W1.heap.size W1 W2 → _) := fun W2 hb => isDecided_any (h1.later hb) hi
  have HH : Hid (∀ W2, Below W1.heap.size W1 W2 → _) := fun W2 hb => has_any (h1.later hb) hB hi cc
  have HK : Hid (∀ W2, Below W1.heap.size W1 W2 → W2.cell? ⟨w.heap.size, 4, none⟩ = some (.int .i64 cc) ∧ W2.cell? ⟨w.heap.size, 7, none⟩ = some (.bool q)) := fun W2 hb => ⟨(x1.later hb).cell 4, (x1.later hb).cell 7⟩
  have HC : Hid (∀ W2, Below W1.heap.size W1 W2 → ∃ s : Sl, W2.cell? ⟨pb, i * 5 + 4, none⟩ = some (.slice s.ad s.m s.c) ∧ s.m = (B.at i).pl.length ∧ W2.cell? ⟨pb, i * 5 + 2, none⟩ = some (.int .i64 (B.at i).st)) := fun W2 hb => by
    have h2 := h1.later hb
    obtain ⟨s, hs, hpl, -⟩ := h2.get hi
    obtain ⟨-, -, c2, -, c4, -⟩ := h2.cells hi hs
    obtain ⟨ad, cap, hf, -⟩ := hpl.form kZ_ok.tofit
    have : (Value.slice s.ad s.m s.c) = .slice ad (B.at i).pl.length cap := hf
    exact ⟨s, c4, (by injection this), c2⟩
  clear x1 b1 HW0 h1
  have d3' : (st == outc q) = false := d3
  dsimp only at HO
  obtain ⟨oq, hoq⟩ : ∃ oq, outc q = oq := ⟨_, rfl⟩
  rw [hoq] at d3' HO
  clear HD HH d3 h3 h2 h0
  go_enter Try.func30, Try.ntmps30
  go_wp2_with (first | (go_at_call 46; refine HW.out.mono ?_; rintro e W2 ⟨rfl, hb2⟩; have HB2 := hid (HB1.out.trans (hb2.mono HB1.out.size)); have HB3 := hid hb2; obtain ⟨K4, K7⟩ := HK.out W2 hb2; obtain ⟨sl, c4, -, c2⟩ := HC.out W2 hb2; rw [hst] at c2; clear hb2 c4))
  refine wp_region_held_drew (S := fun W => W.cell? ⟨pb, i * 5 + 2, none⟩ = some (.int .i64 st) ∧ W.cell? ⟨w.heap.size, 7, none⟩ = some (.bool q)) (by kernel_rfl) (⟨c2, K7⟩) (fun hHeld => ?_)
  refine wpAnyH_take (i := 0) (oi := { dst := some 24, op := Op.move (Operand.tmp 6), type := 67, pos := "deeds.go:68", after := #[], guard := none }) (v := ?_) rfl (by kernel_rfl) (by kernel_rfl) (by kernel_rfl) (fun _ _ _ h => h) (Or.inl ⟨by rfl, ?_⟩) hHeld ?_
  rotate_left
  · intro w hSw; (try dsimp only at hSw); go_simp; try with_reducible rfl
  try simp only [Act.put, List.setIfInBounds_toArray, List.set_cons_zero, List.set_cons_succ]
  refine wpAnyH_take (i := 1) (oi := { dst := some 25, op := Op.nilCheck (Operand.tmp 24), type := 0, pos := "deeds.go:68", after := #[{ on := 0, ground := Ground.data }], guard := none }) (v := ?_) rfl (by kernel_rfl) (by kernel_rfl) (by kernel_rfl) (fun _ _ _ h => h) (Or.inl ⟨by rfl, ?_⟩) hHeld ?_
  rotate_left
  · intro w hSw; (try dsimp only at hSw); go_simp; try with_reducible rfl
  try simp only [Act.put, List.setIfInBounds_toArray, List.set_cons_zero, List.set_cons_succ]
  refine wpAnyH_take (i := 2) (oi := { dst := some 26, op := Op.fieldAddr 71 (Operand.tmp 25) 2, type := 0, pos := "deeds.go:68", after := #[{ on := 1, ground := Ground.data }], guard := none }) (v := ?_) rfl (by kernel_rfl) (by kernel_rfl) (by kernel_rfl) (fun _ _ _ h => h) (Or.inl ⟨by rfl, ?_⟩) hHeld ?_
  rotate_left
  · intro w hSw; (try dsimp only at hSw); go_simp; try with_reducible rfl
  try simp only [Act.put, List.setIfInBounds_toArray, List.set_cons_zero, List.set_cons_succ]
  refine wpAnyH_take (i := 3) (oi := { dst := some 27, op := Op.load 3 (Operand.tmp 26), type := 3, pos := "deeds.go:68", after := #[{ on := 2, ground := Ground.data }], guard := none }) (v := ?_) rfl (by kernel_rfl) (by kernel_rfl) (by kernel_rfl) (fun _ _ _ h => h) (Or.inl ⟨by rfl, ?_⟩) hHeld ?_
  rotate_left
  · intro w hSw; (try dsimp only at hSw); go_simp; try with_reducible rfl
  try simp only [Act.put, List.setIfInBounds_toArray, List.set_cons_zero, List.set_cons_succ]
  refine wpAnyH_take (i := 4) (oi := { dst := some 28, op := Op.binOp BinOp.eql 3 (Operand.tmp 27) (Operand.const (Value.int IntKind.i64 0)) 3, type := 4, pos := "deeds.go:68", after := #[{ on := 3, ground := Ground.data }], guard := none }) (v := ?_) rfl (by kernel_rfl) (by kernel_rfl) (by kernel_rfl) (fun _ _ _ h => h) (Or.inl ⟨by rfl, ?_⟩) hHeld ?_
  rotate_left
  · intro w hSw; (try dsimp only at hSw); go_simp; try with_reducible rfl
  try simp only [Act.put, List.setIfInBounds_toArray, List.set_cons_zero, List.set_cons_succ]
  refine wpAnyH_take (i := 5) (oi := { dst := some 29, op := Op.move (Operand.tmp 28), type := 4, pos := "deeds.go:68", after := #[{ on := 4, ground := Ground.data }], guard := none }) (v := ?_) rfl (by kernel_rfl) (by kernel_rfl) (by kernel_rfl) (fun _ _ _ h => h) (Or.inl ⟨by rfl, ?_⟩) hHeld ?_
  rotate_left
  · intro w hSw; (try dsimp only at hSw); go_simp; try with_reducible rfl
  try simp only [Act.put, List.setIfInBounds_toArray, List.set_cons_zero, List.set_cons_succ]
  refine wpAnyH_take (i := 6) (oi := { dst := some 30, op := Op.move (Operand.tmp 6), type := 67, pos := "deeds.go:68", after := #[{ on := 5, ground := Ground.guard }], guard := some (5, false) }) (v := ?_) rfl (by kernel_rfl) (by kernel_rfl) (by kernel_rfl) (fun _ _ _ h => h) (Or.inl ⟨by rfl, ?_⟩) hHeld ?_
  rotate_left
  · intro w hSw; (try dsimp only at hSw); go_simp; try with_reducible rfl
  try simp only [Act.put, List.setIfInBounds_toArray, List.set_cons_zero, List.set_cons_succ]
  refine wpAnyH_take (i := 7) (oi := { dst := some 31, op := Op.nilCheck (Operand.tmp 30), type := 0, pos := "deeds.go:68", after := #[{ on := 6, ground := Ground.data }, { on := 5, ground := Ground.guard }], guard := some (5, false) }) (v := ?_) rfl (by kernel_rfl) (by kernel_rfl) (by kernel_rfl) (fun _ _ _ h => h) (Or.inl ⟨by rfl, ?_⟩) hHeld ?_
  rotate_left
  · intro w hSw; (try dsimp only at hSw); go_simp; try with_reducible rfl
  try simp only [Act.put, List.setIfInBounds_toArray, List.set_cons_zero, List.set_cons_succ]
  refine wpAnyH_take (i := 8) (oi := { dst := some 32, op := Op.fieldAddr 71 (Operand.tmp 31) 2, type := 0, pos := "deeds.go:68", after := #[{ on := 7, ground := Ground.data }, { on := 5, ground := Ground.guard }], guard := some (5, false) }) (v := ?_) rfl (by kernel_rfl) (by kernel_rfl) (by kernel_rfl) (fun _ _ _ h => h) (Or.inl ⟨by rfl, ?_⟩) hHeld ?_
  rotate_left
  · intro w hSw; (try dsimp only at hSw); go_simp; try with_reducible rfl
  try simp only [Act.put, List.setIfInBounds_toArray, List.set_cons_zero, List.set_cons_succ]
  refine wpAnyH_take (i := 9) (oi := { dst := some 33, op := Op.load 3 (Operand.tmp 32), type := 3, pos := "deeds.go:68", after := #[{ on := 8, ground := Ground.data }, { on := 5, ground := Ground.guard }], guard := some (5, false) }) (v := ?_) rfl (by kernel_rfl) (by kernel_rfl) (by kernel_rfl) (fun _ _ _ h => h) (Or.inl ⟨by rfl, ?_⟩) hHeld ?_
  rotate_left
  · intro w hSw; (try dsimp only at hSw); go_simp; try with_reducible rfl
  try simp only [Act.put, List.setIfInBounds_toArray, List.set_cons_zero, List.set_cons_succ]
  refine wpAnyH_take (i := 10) (oi := { dst := some 34, op := Op.fieldAddr 30 (Operand.tmp 3) 7, type := 0, pos := "deeds.go:68", after := #[{ on := 5, ground := Ground.guard }], guard := some (5, false) }) (v := ?_) rfl (by kernel_rfl) (by kernel_rfl) (by kernel_rfl) (fun _ _ _ h => h) (Or.inl ⟨by rfl, ?_⟩) hHeld ?_
  rotate_left
  · intro w hSw; (try dsimp only at hSw); go_simp; try with_reducible rfl
  try simp only [Act.put, List.setIfInBounds_toArray, List.set_cons_zero, List.set_cons_succ]
  refine wpAnyH_take (i := 11) (oi := { dst := some 35, op := Op.load 4 (Operand.tmp 34), type := 4, pos := "deeds.go:68", after := #[{ on := 10, ground := Ground.data }, { on := 5, ground := Ground.guard }], guard := some (5, false) }) (v := ?_) rfl (by kernel_rfl) (by kernel_rfl) (by kernel_rfl) (fun _ _ _ h => h) (Or.inl ⟨by rfl, ?_⟩) hHeld ?_
  rotate_left
  · intro w hSw; (try dsimp only at hSw); go_simp; try with_reducible rfl
  try simp only [Act.put, List.setIfInBounds_toArray, List.set_cons_zero, List.set_cons_succ]
  refine wpAnyH_ready (rs := [12]) (by kernel_rfl) (by simp) ?_
  refine AllReadyH.cons rfl (fun K hK => ?_) (AllReadyH.nil)
  go_simp
  go_wp2_with (go_at_call 48; refine (HO.out _).mono ?_; rintro e w5 ⟨rfl, hw5⟩; obtain rfl := hw5.symm)
  refine hK.out _ _ (⟨c2, K7⟩) (fun hHeld => ?_)
  clear hK K
  try simp only [Act.put, List.setIfInBounds_toArray, List.set_cons_zero, List.set_cons_succ]
  refine wpAnyH_take (i := 13) (oi := { dst := some 37, op := Op.binOp BinOp.eql 3 (Operand.tmp 33) (Operand.tmp 36) 3, type := 4, pos := "deeds.go:68", after := #[{ on := 9, ground := Ground.data }, { on := 12, ground := Ground.data }, { on := 5, ground := Ground.guard }], guard := some (5, false) }) (v := ?_) rfl (by kernel_rfl) (by kernel_rfl) (by kernel_rfl) (fun _ _ _ h => h) (Or.inl ⟨by rfl, ?_⟩) hHeld ?_
  rotate_left
  · intro w hSw; (try dsimp only at hSw); go_simp; try with_reducible rfl
  try simp only [Act.put, List.setIfInBounds_toArray, List.set_cons_zero, List.set_cons_succ]
  refine wpAnyH_take (i := 14) (oi := { dst := some 38, op := Op.pick (Operand.tmp 29) (Operand.const (Value.bool true)) (Operand.tmp 37), type := 4, pos := "deeds.go:68", after := #[{ on := 5, ground := Ground.data }, { on := 13, ground := Ground.data }], guard := none }) (v := ?_) rfl (by kernel_rfl) (by kernel_rfl) (by kernel_rfl) (fun _ _ _ h => h) (Or.inl ⟨by rfl, ?_⟩) hHeld ?_
  rotate_left
  · intro w hSw; (try dsimp only at hSw); go_simp; try with_reducible rfl
  try simp only [Act.put, List.setIfInBounds_toArray, List.set_cons_zero, List.set_cons_succ]
  refine wpAnyH_take (i := 15) (oi := { dst := some 23, op := Op.assign (Operand.tmp 38), type := 4, pos := "deeds.go:68", after := #[{ on := 14, ground := Ground.data }, { on := 12, ground := Ground.chain }], guard := none }) (v := ?_) rfl (by kernel_rfl) (by kernel_rfl) (by kernel_rfl) (fun _ _ _ h => h) (Or.inl ⟨by rfl, ?_⟩) hHeld ?_
  rotate_left
  · intro w hSw; (try dsimp only at hSw); go_simp; try with_reducible rfl
  try simp only [Act.put, List.setIfInBounds_toArray, List.set_cons_zero, List.set_cons_succ]
  refine wpAnyH_done (by kernel_rfl) ?_ _
  clear hHeld
  go_wp2_with fail
  refine bodyPost_ret (results_tmp2 Try.results30 _ _ _) rfl ⟨rfl, HB2.out.drew⟩
end Go.Proofs.Yteogogmmnijagaa
