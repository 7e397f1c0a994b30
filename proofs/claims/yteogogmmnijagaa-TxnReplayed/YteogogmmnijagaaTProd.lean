/- The methods of a producer of package txn, as plain data and as contracts at a book's producer. -/
import Derived.Test.YteogogmmnijagaaTPlace
import Derived.Deep.RegionHeld3
namespace Go.Proofs.Yteogogmmnijagaa
open Go.RowKit
variable {w w' : World} {F : List Nat} {g M pb m c i : Nat} {v : Value} {Z : List (Pr × Sl)} {B : Bk}

def Pr.dec (p : Pr) : Bool := p.st == 2 || p.st == 3
def Pr.over (p : Pr) (now : Int) : Bool := p.st == 1 && decide (p.since + p.tmo ≤ now)
def Pr.settle (p : Pr) : Pr := if p.pl.length = 0 then { p with st := 0 } else p
def outc (yes : Bool) : Int := if yes then 2 else 3
def Pr.decide (p : Pr) (yes : Bool) : Pr := Pr.settle { p with st := outc yes }
def Pr.open (p : Pr) (now : Int) : Pr := if p.st = 0 then { p with st := 1, since := now } else p
def Pr.add (p : Pr) (x now : Int) : Pr := { p.open now with pl := insZ p.pl (cntP x p.pl) x }
def Pr.mark (p : Pr) (x : Int) : Pr := Pr.settle { p with pl := p.pl.eraseIdx (cntP x p.pl) }
def Bk.upd (B : Bk) (i : Nat) (p : Pr) : Bk := { B with ps := B.ps.set i p }
theorem Bk.upd_at {i : Nat} (hi : i < B.ps.length) (p : Pr) : (B.upd i p).at i = p := by
  unfold Bk.at Bk.upd
  rw [List.getD_eq_getElem?_getD, List.getElem?_set_self hi]; rfl
theorem Bk.upd_other {i j : Nat} (h : j ≠ i) (p : Pr) : (B.upd i p).at j = B.at j := by
  unfold Bk.at Bk.upd
  rw [List.getD_eq_getElem?_getD, List.getElem?_set_ne (fun e => h e.symm), List.getD_eq_getElem?_getD]
theorem Bk.upd_len (i : Nat) (p : Pr) : (B.upd i p).ps.length = B.ps.length := by unfold Bk.upd; simp
theorem Bk.upd_upd (i : Nat) (p q : Pr) : (B.upd i p).upd i q = B.upd i q := by unfold Bk.upd; simp
theorem Bk.upd_self {i : Nat} (hi : i < B.ps.length) : B.upd i (B.at i) = B := by
  unfold Bk.at Bk.upd
  rw [List.getD_eq_getElem?_getD, List.getElem?_eq_getElem hi]
  simp
/-- What a method of a producer leaves of the book: its map and the producers' slice lie where they did. -/
def PMv (w w' : World) (F : List Nat) (g M : Nat) (v : Value) (B : Bk) : Prop := ∃ F' Z', BP w' F' g M v Z' B ∧ Chg F w w' ∧ ∀ b ∈ F', b ∈ F ∨ (w.heap.size ≤ b ∧ b < w'.heap.size)
abbrev Ptr (pb i : Nat) : Value := .pointer (some ⟨pb, i * 5, none⟩)
/-- The stored numbers of a producer, one cell anew. -/
theorem BP.num (h : BP w F g M (.slice (some ⟨pb, 0, none⟩) m c) Z B) (hi : i < B.ps.length) {s : Sl} (hs : Z[i]? = some (B.at i, s)) (cc : Nat) (hcc : cc < 5) (p : Pr) (u : Value) (hp : p.pl = (B.at i).pl) (hv : kPr.V (p, s) = (kPr.V (B.at i, s)).set cc u) :
    BP (w.setCell ⟨pb, i * 5 + cc, none⟩ u) F g M (.slice (some ⟨pb, 0, none⟩) m c) (Z.set i (p, s)) (B.upd i p) :=
  h.setC hi hs cc hcc p s u hv (by rw [hp]; exact h.pl i _ hs) (fun b hb => ⟨h.inP i _ b hs hb, fun j y hj hy hb' => hj (h.apart j i y _ b hy hs hb' hb)⟩)
theorem set_get (hi : i < Z.length) (z : Pr × Sl) : (Z.set i z)[i]? = some z := List.getElem?_set_self hi
theorem isDecided_any (h : BP w F g M (.slice (some ⟨pb, 0, none⟩) m c) Z B) (hi : i < B.ps.length) : Calls Try.prog 45 #[Ptr pb i] w fun e w' => e = .returned (.bool (B.at i).dec) ∧ w' = w := by
  obtain ⟨s, hs, -, -⟩ := h.get hi
  obtain ⟨-, -, c2, -, -, -⟩ := h.cells hi hs
  unfold Pr.dec
  generalize (B.at i).st = st at *
  unfold Ptr
  generalize i * 5 = o at *
  by_cases h2 : st = 2
  · subst h2
    go_enter Try.func45, Try.ntmps45
    go_wp2_with fail
    go_ret
    exact ⟨rfl, rfl⟩
  · have d2 : (st == 2) = false := by simpa using h2
    go_enter Try.func45, Try.ntmps45
    go_wp2_with fail
    go_ret
    exact ⟨by simp [h2], rfl⟩
theorem outcome_any (yes : Bool) (w : World) : Calls Try.prog 48 #[.bool yes] w fun e w' => e = .returned (.int .i64 (outc yes)) ∧ w' = w := by
  cases yes
  all_goals
    go_enter Try.func48, Try.ntmps48
    go_wp2_with fail
    go_ret
    exact ⟨rfl, rfl⟩
theorem isOver_any (h : BP w F g M (.slice (some ⟨pb, 0, none⟩) m c) Z B) (hB : BkOk B) (hi : i < B.ps.length) (now : Int) : Calls Try.prog 65 #[Ptr pb i, .int .i64 now] w fun e w' => e = .returned (.bool ((B.at i).over now)) ∧ w' = w.drew := by
  obtain ⟨s, hs, -, -⟩ := h.get hi
  obtain ⟨c0, -, c2, c3, -, -⟩ := h.cells hi hs
  obtain ⟨t1, t2⟩ := (hB.at i).tmo
  obtain ⟨s1, s2⟩ := (hB.at i).since
  unfold Pr.over
  generalize (B.at i).st = st at *
  generalize (B.at i).tmo = tm at *
  generalize (B.at i).since = si at *
  unfold Ptr
  generalize i * 5 = o at *
  have hw : IntKind.i64.wrap (si + tm) = si + tm := by rw [IntKind.wrap_i64]; omega
  by_cases h2 : st = 1
  · subst h2
    go_enter Try.func65, Try.ntmps65
    go_wp2_with fail
    refine wp_region_held_drew (S := fun W => W.cell? ⟨pb, o, none⟩ = some (.int .i64 tm) ∧ W.cell? ⟨pb, o + 2, none⟩ = some (.int .i64 1) ∧ W.cell? ⟨pb, o + 3, none⟩ = some (.int .i64 si)) (by kernel_rfl) (⟨c0, c2, c3⟩) (fun hHeld => ?_)
    refine wpAnyH_take (i := 0) (oi := { dst := some 5, op := Op.move (Operand.tmp 0), type := 67, pos := "producer.go:32", after := #[], guard := none }) (v := ?_) rfl (by kernel_rfl) (by kernel_rfl) (by kernel_rfl) (fun _ _ _ h => h) (Or.inl ⟨by rfl, ?_⟩) hHeld ?_
    rotate_left
    · intro w hSw; (try dsimp only at hSw); go_simp; try with_reducible rfl
    try simp only [Act.put, List.setIfInBounds_toArray, List.set_cons_zero, List.set_cons_succ]
    refine wpAnyH_take (i := 1) (oi := { dst := some 6, op := Op.nilCheck (Operand.tmp 5), type := 0, pos := "producer.go:32", after := #[{ on := 0, ground := Ground.data }], guard := none }) (v := ?_) rfl (by kernel_rfl) (by kernel_rfl) (by kernel_rfl) (fun _ _ _ h => h) (Or.inl ⟨by rfl, ?_⟩) hHeld ?_
    rotate_left
    · intro w hSw; (try dsimp only at hSw); go_simp; try with_reducible rfl
    try simp only [Act.put, List.setIfInBounds_toArray, List.set_cons_zero, List.set_cons_succ]
    refine wpAnyH_take (i := 2) (oi := { dst := some 7, op := Op.fieldAddr 71 (Operand.tmp 6) 2, type := 0, pos := "producer.go:32", after := #[{ on := 1, ground := Ground.data }], guard := none }) (v := ?_) rfl (by kernel_rfl) (by kernel_rfl) (by kernel_rfl) (fun _ _ _ h => h) (Or.inl ⟨by rfl, ?_⟩) hHeld ?_
    rotate_left
    · intro w hSw; (try dsimp only at hSw); go_simp; try with_reducible rfl
    try simp only [Act.put, List.setIfInBounds_toArray, List.set_cons_zero, List.set_cons_succ]
    refine wpAnyH_take (i := 3) (oi := { dst := some 8, op := Op.load 3 (Operand.tmp 7), type := 3, pos := "producer.go:32", after := #[{ on := 2, ground := Ground.data }], guard := none }) (v := ?_) rfl (by kernel_rfl) (by kernel_rfl) (by kernel_rfl) (fun _ _ _ h => h) (Or.inl ⟨by rfl, ?_⟩) hHeld ?_
    rotate_left
    · intro w hSw; (try dsimp only at hSw); go_simp; try with_reducible rfl
    try simp only [Act.put, List.setIfInBounds_toArray, List.set_cons_zero, List.set_cons_succ]
    refine wpAnyH_take (i := 4) (oi := { dst := some 9, op := Op.binOp BinOp.eql 3 (Operand.tmp 8) (Operand.const (Value.int IntKind.i64 1)) 3, type := 4, pos := "producer.go:32", after := #[{ on := 3, ground := Ground.data }], guard := none }) (v := ?_) rfl (by kernel_rfl) (by kernel_rfl) (by kernel_rfl) (fun _ _ _ h => h) (Or.inl ⟨by rfl, ?_⟩) hHeld ?_
    rotate_left
    · intro w hSw; (try dsimp only at hSw); go_simp; try with_reducible rfl
    try simp only [Act.put, List.setIfInBounds_toArray, List.set_cons_zero, List.set_cons_succ]
    refine wpAnyH_take (i := 5) (oi := { dst := some 10, op := Op.move (Operand.tmp 9), type := 4, pos := "producer.go:32", after := #[{ on := 4, ground := Ground.data }], guard := none }) (v := ?_) rfl (by kernel_rfl) (by kernel_rfl) (by kernel_rfl) (fun _ _ _ h => h) (Or.inl ⟨by rfl, ?_⟩) hHeld ?_
    rotate_left
    · intro w hSw; (try dsimp only at hSw); go_simp; try with_reducible rfl
    try simp only [Act.put, List.setIfInBounds_toArray, List.set_cons_zero, List.set_cons_succ]
    refine wpAnyH_take (i := 6) (oi := { dst := some 11, op := Op.move (Operand.tmp 0), type := 67, pos := "producer.go:32", after := #[{ on := 5, ground := Ground.guard }], guard := some (5, true) }) (v := ?_) rfl (by kernel_rfl) (by kernel_rfl) (by kernel_rfl) (fun _ _ _ h => h) (Or.inl ⟨by rfl, ?_⟩) hHeld ?_
    rotate_left
    · intro w hSw; (try dsimp only at hSw); go_simp; try with_reducible rfl
    try simp only [Act.put, List.setIfInBounds_toArray, List.set_cons_zero, List.set_cons_succ]
    refine wpAnyH_take (i := 7) (oi := { dst := some 12, op := Op.nilCheck (Operand.tmp 11), type := 0, pos := "producer.go:32", after := #[{ on := 6, ground := Ground.data }, { on := 5, ground := Ground.guard }], guard := some (5, true) }) (v := ?_) rfl (by kernel_rfl) (by kernel_rfl) (by kernel_rfl) (fun _ _ _ h => h) (Or.inl ⟨by rfl, ?_⟩) hHeld ?_
    rotate_left
    · intro w hSw; (try dsimp only at hSw); go_simp; try with_reducible rfl
    try simp only [Act.put, List.setIfInBounds_toArray, List.set_cons_zero, List.set_cons_succ]
    refine wpAnyH_take (i := 8) (oi := { dst := some 13, op := Op.fieldAddr 71 (Operand.tmp 12) 3, type := 0, pos := "producer.go:32", after := #[{ on := 7, ground := Ground.data }, { on := 5, ground := Ground.guard }], guard := some (5, true) }) (v := ?_) rfl (by kernel_rfl) (by kernel_rfl) (by kernel_rfl) (fun _ _ _ h => h) (Or.inl ⟨by rfl, ?_⟩) hHeld ?_
    rotate_left
    · intro w hSw; (try dsimp only at hSw); go_simp; try with_reducible rfl
    try simp only [Act.put, List.setIfInBounds_toArray, List.set_cons_zero, List.set_cons_succ]
    refine wpAnyH_take (i := 9) (oi := { dst := some 14, op := Op.load 3 (Operand.tmp 13), type := 3, pos := "producer.go:32", after := #[{ on := 8, ground := Ground.data }, { on := 5, ground := Ground.guard }], guard := some (5, true) }) (v := ?_) rfl (by kernel_rfl) (by kernel_rfl) (by kernel_rfl) (fun _ _ _ h => h) (Or.inl ⟨by rfl, ?_⟩) hHeld ?_
    rotate_left
    · intro w hSw; (try dsimp only at hSw); go_simp; try with_reducible rfl
    try simp only [Act.put, List.setIfInBounds_toArray, List.set_cons_zero, List.set_cons_succ]
    refine wpAnyH_take (i := 10) (oi := { dst := some 15, op := Op.move (Operand.tmp 0), type := 67, pos := "producer.go:32", after := #[{ on := 5, ground := Ground.guard }], guard := some (5, true) }) (v := ?_) rfl (by kernel_rfl) (by kernel_rfl) (by kernel_rfl) (fun _ _ _ h => h) (Or.inl ⟨by rfl, ?_⟩) hHeld ?_
    rotate_left
    · intro w hSw; (try dsimp only at hSw); go_simp; try with_reducible rfl
    try simp only [Act.put, List.setIfInBounds_toArray, List.set_cons_zero, List.set_cons_succ]
    refine wpAnyH_take (i := 11) (oi := { dst := some 16, op := Op.nilCheck (Operand.tmp 15), type := 0, pos := "producer.go:32", after := #[{ on := 10, ground := Ground.data }, { on := 5, ground := Ground.guard }], guard := some (5, true) }) (v := ?_) rfl (by kernel_rfl) (by kernel_rfl) (by kernel_rfl) (fun _ _ _ h => h) (Or.inl ⟨by rfl, ?_⟩) hHeld ?_
    rotate_left
    · intro w hSw; (try dsimp only at hSw); go_simp; try with_reducible rfl
    try simp only [Act.put, List.setIfInBounds_toArray, List.set_cons_zero, List.set_cons_succ]
    refine wpAnyH_take (i := 12) (oi := { dst := some 17, op := Op.fieldAddr 71 (Operand.tmp 16) 0, type := 0, pos := "producer.go:32", after := #[{ on := 11, ground := Ground.data }, { on := 5, ground := Ground.guard }], guard := some (5, true) }) (v := ?_) rfl (by kernel_rfl) (by kernel_rfl) (by kernel_rfl) (fun _ _ _ h => h) (Or.inl ⟨by rfl, ?_⟩) hHeld ?_
    rotate_left
    · intro w hSw; (try dsimp only at hSw); go_simp; try with_reducible rfl
    try simp only [Act.put, List.setIfInBounds_toArray, List.set_cons_zero, List.set_cons_succ]
    refine wpAnyH_take (i := 13) (oi := { dst := some 18, op := Op.load 3 (Operand.tmp 17), type := 3, pos := "producer.go:32", after := #[{ on := 12, ground := Ground.data }, { on := 5, ground := Ground.guard }], guard := some (5, true) }) (v := ?_) rfl (by kernel_rfl) (by kernel_rfl) (by kernel_rfl) (fun _ _ _ h => h) (Or.inl ⟨by rfl, ?_⟩) hHeld ?_
    rotate_left
    · intro w hSw; (try dsimp only at hSw); go_simp; try with_reducible rfl
    try simp only [Act.put, List.setIfInBounds_toArray, List.set_cons_zero, List.set_cons_succ]
    refine wpAnyH_take (i := 14) (oi := { dst := some 19, op := Op.binOp BinOp.add 3 (Operand.tmp 14) (Operand.tmp 18) 3, type := 3, pos := "producer.go:32", after := #[{ on := 9, ground := Ground.data }, { on := 13, ground := Ground.data }, { on := 5, ground := Ground.guard }], guard := some (5, true) }) (v := ?_) rfl (by kernel_rfl) (by kernel_rfl) (by kernel_rfl) (fun _ _ _ h => h) (Or.inl ⟨by rfl, ?_⟩) hHeld ?_
    rotate_left
    · intro w hSw; (try dsimp only at hSw); go_simp; try with_reducible rfl
    try simp only [Act.put, List.setIfInBounds_toArray, List.set_cons_zero, List.set_cons_succ]
    refine wpAnyH_take (i := 15) (oi := { dst := some 20, op := Op.move (Operand.tmp 1), type := 3, pos := "producer.go:32", after := #[{ on := 5, ground := Ground.guard }], guard := some (5, true) }) (v := ?_) rfl (by kernel_rfl) (by kernel_rfl) (by kernel_rfl) (fun _ _ _ h => h) (Or.inl ⟨by rfl, ?_⟩) hHeld ?_
    rotate_left
    · intro w hSw; (try dsimp only at hSw); go_simp; try with_reducible rfl
    try simp only [Act.put, List.setIfInBounds_toArray, List.set_cons_zero, List.set_cons_succ]
    refine wpAnyH_take (i := 16) (oi := { dst := some 21, op := Op.binOp BinOp.leq 3 (Operand.tmp 19) (Operand.tmp 20) 3, type := 4, pos := "producer.go:32", after := #[{ on := 14, ground := Ground.data }, { on := 15, ground := Ground.data }, { on := 5, ground := Ground.guard }], guard := some (5, true) }) (v := ?_) rfl (by kernel_rfl) (by kernel_rfl) (by kernel_rfl) (fun _ _ _ h => h) (Or.inl ⟨by rfl, ?_⟩) hHeld ?_
    rotate_left
    · intro w hSw; (try dsimp only at hSw); go_simp; try with_reducible rfl
    try simp only [Act.put, List.setIfInBounds_toArray, List.set_cons_zero, List.set_cons_succ]
    refine wpAnyH_take (i := 17) (oi := { dst := some 22, op := Op.pick (Operand.tmp 10) (Operand.tmp 21) (Operand.const (Value.bool false)), type := 4, pos := "producer.go:32", after := #[{ on := 5, ground := Ground.data }, { on := 16, ground := Ground.data }], guard := none }) (v := ?_) rfl (by kernel_rfl) (by kernel_rfl) (by kernel_rfl) (fun _ _ _ h => h) (Or.inl ⟨by rfl, ?_⟩) hHeld ?_
    rotate_left
    · intro w hSw; (try dsimp only at hSw); go_simp; try with_reducible rfl
    try simp only [Act.put, List.setIfInBounds_toArray, List.set_cons_zero, List.set_cons_succ]
    refine wpAnyH_take (i := 18) (oi := { dst := some 4, op := Op.assign (Operand.tmp 22), type := 4, pos := "producer.go:32", after := #[{ on := 17, ground := Ground.data }, { on := 5, ground := Ground.chain }, { on := 0, ground := Ground.phase }, { on := 1, ground := Ground.phase }, { on := 2, ground := Ground.phase }, { on := 3, ground := Ground.phase }, { on := 4, ground := Ground.phase }, { on := 5, ground := Ground.phase }, { on := 6, ground := Ground.phase }, { on := 7, ground := Ground.phase }, { on := 8, ground := Ground.phase }, { on := 9, ground := Ground.phase }, { on := 10, ground := Ground.phase }, { on := 11, ground := Ground.phase }, { on := 12, ground := Ground.phase }, { on := 13, ground := Ground.phase }, { on := 14, ground := Ground.phase }, { on := 15, ground := Ground.phase }, { on := 16, ground := Ground.phase }, { on := 17, ground := Ground.phase }], guard := none }) (v := ?_) rfl (by kernel_rfl) (by kernel_rfl) (by kernel_rfl) (fun _ _ _ h => h) (Or.inl ⟨by rfl, ?_⟩) hHeld ?_
    rotate_left
    · intro w hSw; (try dsimp only at hSw); go_simp; try with_reducible rfl
    try simp only [Act.put, List.setIfInBounds_toArray, List.set_cons_zero, List.set_cons_succ]
    refine wpAnyH_done (by kernel_rfl) ?_ _
    clear hHeld
    go_wp2_with fail
    go_ret
    exact ⟨by simp, rfl⟩
  · have d2 : (st == 1) = false := by simpa using h2
    go_enter Try.func65, Try.ntmps65
    go_wp2_with fail
    refine wp_region_held_drew (S := fun W => W.cell? ⟨pb, o, none⟩ = some (.int .i64 tm) ∧ W.cell? ⟨pb, o + 2, none⟩ = some (.int .i64 st) ∧ W.cell? ⟨pb, o + 3, none⟩ = some (.int .i64 si)) (by kernel_rfl) (⟨c0, c2, c3⟩) (fun hHeld => ?_)
    refine wpAnyH_take (i := 0) (oi := { dst := some 5, op := Op.move (Operand.tmp 0), type := 67, pos := "producer.go:32", after := #[], guard := none }) (v := ?_) rfl (by kernel_rfl) (by kernel_rfl) (by kernel_rfl) (fun _ _ _ h => h) (Or.inl ⟨by rfl, ?_⟩) hHeld ?_
    rotate_left
    · intro w hSw; (try dsimp only at hSw); go_simp; try with_reducible rfl
    try simp only [Act.put, List.setIfInBounds_toArray, List.set_cons_zero, List.set_cons_succ]
    refine wpAnyH_take (i := 1) (oi := { dst := some 6, op := Op.nilCheck (Operand.tmp 5), type := 0, pos := "producer.go:32", after := #[{ on := 0, ground := Ground.data }], guard := none }) (v := ?_) rfl (by kernel_rfl) (by kernel_rfl) (by kernel_rfl) (fun _ _ _ h => h) (Or.inl ⟨by rfl, ?_⟩) hHeld ?_
    rotate_left
    · intro w hSw; (try dsimp only at hSw); go_simp; try with_reducible rfl
    try simp only [Act.put, List.setIfInBounds_toArray, List.set_cons_zero, List.set_cons_succ]
    refine wpAnyH_take (i := 2) (oi := { dst := some 7, op := Op.fieldAddr 71 (Operand.tmp 6) 2, type := 0, pos := "producer.go:32", after := #[{ on := 1, ground := Ground.data }], guard := none }) (v := ?_) rfl (by kernel_rfl) (by kernel_rfl) (by kernel_rfl) (fun _ _ _ h => h) (Or.inl ⟨by rfl, ?_⟩) hHeld ?_
    rotate_left
    · intro w hSw; (try dsimp only at hSw); go_simp; try with_reducible rfl
    try simp only [Act.put, List.setIfInBounds_toArray, List.set_cons_zero, List.set_cons_succ]
    refine wpAnyH_take (i := 3) (oi := { dst := some 8, op := Op.load 3 (Operand.tmp 7), type := 3, pos := "producer.go:32", after := #[{ on := 2, ground := Ground.data }], guard := none }) (v := ?_) rfl (by kernel_rfl) (by kernel_rfl) (by kernel_rfl) (fun _ _ _ h => h) (Or.inl ⟨by rfl, ?_⟩) hHeld ?_
    rotate_left
    · intro w hSw; (try dsimp only at hSw); go_simp; try with_reducible rfl
    try simp only [Act.put, List.setIfInBounds_toArray, List.set_cons_zero, List.set_cons_succ]
    refine wpAnyH_take (i := 4) (oi := { dst := some 9, op := Op.binOp BinOp.eql 3 (Operand.tmp 8) (Operand.const (Value.int IntKind.i64 1)) 3, type := 4, pos := "producer.go:32", after := #[{ on := 3, ground := Ground.data }], guard := none }) (v := ?_) rfl (by kernel_rfl) (by kernel_rfl) (by kernel_rfl) (fun _ _ _ h => h) (Or.inl ⟨by rfl, ?_⟩) hHeld ?_
    rotate_left
    · intro w hSw; (try dsimp only at hSw); go_simp; try with_reducible rfl
    try simp only [Act.put, List.setIfInBounds_toArray, List.set_cons_zero, List.set_cons_succ]
    refine wpAnyH_take (i := 5) (oi := { dst := some 10, op := Op.move (Operand.tmp 9), type := 4, pos := "producer.go:32", after := #[{ on := 4, ground := Ground.data }], guard := none }) (v := ?_) rfl (by kernel_rfl) (by kernel_rfl) (by kernel_rfl) (fun _ _ _ h => h) (Or.inl ⟨by rfl, ?_⟩) hHeld ?_
    rotate_left
    · intro w hSw; (try dsimp only at hSw); go_simp; try with_reducible rfl
    try simp only [Act.put, List.setIfInBounds_toArray, List.set_cons_zero, List.set_cons_succ]
    refine wpAnyH_take (i := 6) (oi := { dst := some 11, op := Op.move (Operand.tmp 0), type := 67, pos := "producer.go:32", after := #[{ on := 5, ground := Ground.guard }], guard := some (5, true) }) (v := undef) rfl (by kernel_rfl) (by kernel_rfl) (by kernel_rfl) (fun _ _ _ h => h) (Or.inr ⟨by kernel_rfl, rfl⟩) hHeld ?_
    try simp only [Act.put, List.setIfInBounds_toArray, List.set_cons_zero, List.set_cons_succ]
    refine wpAnyH_take (i := 7) (oi := { dst := some 12, op := Op.nilCheck (Operand.tmp 11), type := 0, pos := "producer.go:32", after := #[{ on := 6, ground := Ground.data }, { on := 5, ground := Ground.guard }], guard := some (5, true) }) (v := undef) rfl (by kernel_rfl) (by kernel_rfl) (by kernel_rfl) (fun _ _ _ h => h) (Or.inr ⟨by kernel_rfl, rfl⟩) hHeld ?_
    try simp only [Act.put, List.setIfInBounds_toArray, List.set_cons_zero, List.set_cons_succ]
    refine wpAnyH_take (i := 8) (oi := { dst := some 13, op := Op.fieldAddr 71 (Operand.tmp 12) 3, type := 0, pos := "producer.go:32", after := #[{ on := 7, ground := Ground.data }, { on := 5, ground := Ground.guard }], guard := some (5, true) }) (v := undef) rfl (by kernel_rfl) (by kernel_rfl) (by kernel_rfl) (fun _ _ _ h => h) (Or.inr ⟨by kernel_rfl, rfl⟩) hHeld ?_
    try simp only [Act.put, List.setIfInBounds_toArray, List.set_cons_zero, List.set_cons_succ]
    refine wpAnyH_take (i := 9) (oi := { dst := some 14, op := Op.load 3 (Operand.tmp 13), type := 3, pos := "producer.go:32", after := #[{ on := 8, ground := Ground.data }, { on := 5, ground := Ground.guard }], guard := some (5, true) }) (v := undef) rfl (by kernel_rfl) (by kernel_rfl) (by kernel_rfl) (fun _ _ _ h => h) (Or.inr ⟨by kernel_rfl, rfl⟩) hHeld ?_
    try simp only [Act.put, List.setIfInBounds_toArray, List.set_cons_zero, List.set_cons_succ]
    refine wpAnyH_take (i := 10) (oi := { dst := some 15, op := Op.move (Operand.tmp 0), type := 67, pos := "producer.go:32", after := #[{ on := 5, ground := Ground.guard }], guard := some (5, true) }) (v := undef) rfl (by kernel_rfl) (by kernel_rfl) (by kernel_rfl) (fun _ _ _ h => h) (Or.inr ⟨by kernel_rfl, rfl⟩) hHeld ?_
    try simp only [Act.put, List.setIfInBounds_toArray, List.set_cons_zero, List.set_cons_succ]
    refine wpAnyH_take (i := 11) (oi := { dst := some 16, op := Op.nilCheck (Operand.tmp 15), type := 0, pos := "producer.go:32", after := #[{ on := 10, ground := Ground.data }, { on := 5, ground := Ground.guard }], guard := some (5, true) }) (v := undef) rfl (by kernel_rfl) (by kernel_rfl) (by kernel_rfl) (fun _ _ _ h => h) (Or.inr ⟨by kernel_rfl, rfl⟩) hHeld ?_
    try simp only [Act.put, List.setIfInBounds_toArray, List.set_cons_zero, List.set_cons_succ]
    refine wpAnyH_take (i := 12) (oi := { dst := some 17, op := Op.fieldAddr 71 (Operand.tmp 16) 0, type := 0, pos := "producer.go:32", after := #[{ on := 11, ground := Ground.data }, { on := 5, ground := Ground.guard }], guard := some (5, true) }) (v := undef) rfl (by kernel_rfl) (by kernel_rfl) (by kernel_rfl) (fun _ _ _ h => h) (Or.inr ⟨by kernel_rfl, rfl⟩) hHeld ?_
    try simp only [Act.put, List.setIfInBounds_toArray, List.set_cons_zero, List.set_cons_succ]
    refine wpAnyH_take (i := 13) (oi := { dst := some 18, op := Op.load 3 (Operand.tmp 17), type := 3, pos := "producer.go:32", after := #[{ on := 12, ground := Ground.data }, { on := 5, ground := Ground.guard }], guard := some (5, true) }) (v := undef) rfl (by kernel_rfl) (by kernel_rfl) (by kernel_rfl) (fun _ _ _ h => h) (Or.inr ⟨by kernel_rfl, rfl⟩) hHeld ?_
    try simp only [Act.put, List.setIfInBounds_toArray, List.set_cons_zero, List.set_cons_succ]
    refine wpAnyH_take (i := 14) (oi := { dst := some 19, op := Op.binOp BinOp.add 3 (Operand.tmp 14) (Operand.tmp 18) 3, type := 3, pos := "producer.go:32", after := #[{ on := 9, ground := Ground.data }, { on := 13, ground := Ground.data }, { on := 5, ground := Ground.guard }], guard := some (5, true) }) (v := undef) rfl (by kernel_rfl) (by kernel_rfl) (by kernel_rfl) (fun _ _ _ h => h) (Or.inr ⟨by kernel_rfl, rfl⟩) hHeld ?_
    try simp only [Act.put, List.setIfInBounds_toArray, List.set_cons_zero, List.set_cons_succ]
    refine wpAnyH_take (i := 15) (oi := { dst := some 20, op := Op.move (Operand.tmp 1), type := 3, pos := "producer.go:32", after := #[{ on := 5, ground := Ground.guard }], guard := some (5, true) }) (v := undef) rfl (by kernel_rfl) (by kernel_rfl) (by kernel_rfl) (fun _ _ _ h => h) (Or.inr ⟨by kernel_rfl, rfl⟩) hHeld ?_
    try simp only [Act.put, List.setIfInBounds_toArray, List.set_cons_zero, List.set_cons_succ]
    refine wpAnyH_take (i := 16) (oi := { dst := some 21, op := Op.binOp BinOp.leq 3 (Operand.tmp 19) (Operand.tmp 20) 3, type := 4, pos := "producer.go:32", after := #[{ on := 14, ground := Ground.data }, { on := 15, ground := Ground.data }, { on := 5, ground := Ground.guard }], guard := some (5, true) }) (v := undef) rfl (by kernel_rfl) (by kernel_rfl) (by kernel_rfl) (fun _ _ _ h => h) (Or.inr ⟨by kernel_rfl, rfl⟩) hHeld ?_
    try simp only [Act.put, List.setIfInBounds_toArray, List.set_cons_zero, List.set_cons_succ]
    refine wpAnyH_take (i := 17) (oi := { dst := some 22, op := Op.pick (Operand.tmp 10) (Operand.tmp 21) (Operand.const (Value.bool false)), type := 4, pos := "producer.go:32", after := #[{ on := 5, ground := Ground.data }, { on := 16, ground := Ground.data }], guard := none }) (v := ?_) rfl (by kernel_rfl) (by kernel_rfl) (by kernel_rfl) (fun _ _ _ h => h) (Or.inl ⟨by rfl, ?_⟩) hHeld ?_
    rotate_left
    · intro w hSw; (try dsimp only at hSw); go_simp; try with_reducible rfl
    try simp only [Act.put, List.setIfInBounds_toArray, List.set_cons_zero, List.set_cons_succ]
    refine wpAnyH_take (i := 18) (oi := { dst := some 4, op := Op.assign (Operand.tmp 22), type := 4, pos := "producer.go:32", after := #[{ on := 17, ground := Ground.data }, { on := 5, ground := Ground.chain }, { on := 0, ground := Ground.phase }, { on := 1, ground := Ground.phase }, { on := 2, ground := Ground.phase }, { on := 3, ground := Ground.phase }, { on := 4, ground := Ground.phase }, { on := 5, ground := Ground.phase }, { on := 6, ground := Ground.phase }, { on := 7, ground := Ground.phase }, { on := 8, ground := Ground.phase }, { on := 9, ground := Ground.phase }, { on := 10, ground := Ground.phase }, { on := 11, ground := Ground.phase }, { on := 12, ground := Ground.phase }, { on := 13, ground := Ground.phase }, { on := 14, ground := Ground.phase }, { on := 15, ground := Ground.phase }, { on := 16, ground := Ground.phase }, { on := 17, ground := Ground.phase }], guard := none }) (v := ?_) rfl (by kernel_rfl) (by kernel_rfl) (by kernel_rfl) (fun _ _ _ h => h) (Or.inl ⟨by rfl, ?_⟩) hHeld ?_
    rotate_left
    · intro w hSw; (try dsimp only at hSw); go_simp; try with_reducible rfl
    try simp only [Act.put, List.setIfInBounds_toArray, List.set_cons_zero, List.set_cons_succ]
    refine wpAnyH_done (by kernel_rfl) ?_ _
    clear hHeld
    go_wp2_with fail
    go_ret
    exact ⟨by simp [h2], rfl⟩
theorem has_any (h : BP w F g M (.slice (some ⟨pb, 0, none⟩) m c) Z B) (hB : BkOk B) (hi : i < B.ps.length) (x : Int) : Calls Try.prog 47 #[Ptr pb i, .int .i64 x] w fun e w' => e = .returned (.bool ((B.at i).pl.contains x)) ∧ Below w.heap.size w w' := by
  obtain ⟨s, hs, hpl, -⟩ := h.get hi
  obtain ⟨-, -, -, -, c4, -⟩ := h.cells hi hs
  have HS := hid (search_own hpl (hB.at i).rise (hB.at i).cnt x)
  generalize (B.at i).pl.contains x = r at *
  have e1 : s.v = .slice s.ad s.m s.c := rfl
  rw [e1] at HS
  unfold Ptr
  generalize i * 5 = o at *
  go_enter Try.func47, Try.ntmps47
  go_wp2_with (go_at_call 63; refine HS.out.mono ?_; rintro e w1 ⟨rfl, hb1⟩; have HB1 := hid hb1; clear hb1)
  go_ret
  exact ⟨rfl, HB1.out⟩
theorem settle_any (h : BP w F g M (.slice (some ⟨pb, 0, none⟩) m c) Z B) (hi : i < B.ps.length) : Calls Try.prog 66 #[Ptr pb i] w fun e w' => e = .returned (.tuple #[]) ∧ PMv w w' F g M (.slice (some ⟨pb, 0, none⟩) m c) (B.upd i (B.at i).settle) ∧ w'.heap.size = w.heap.size := by
  obtain ⟨s, hs, hpl, -⟩ := h.get hi
  obtain ⟨-, -, c2, -, c4, fz⟩ := h.cells hi hs
  have f2 := fz (i * 5 + 2)
  obtain ⟨ad, cap, hf, -⟩ := hpl.form kZ_ok.tofit
  have e1 : s.m = (B.at i).pl.length := by
    have : (Value.slice s.ad s.m s.c) = .slice ad (B.at i).pl.length cap := hf
    injection this
  by_cases h0 : (B.at i).pl.length = 0
  · have HP : Hid (PMv w (w.setCell ⟨pb, i * 5 + 2, none⟩ (.int .i64 0)) F g M (.slice (some ⟨pb, 0, none⟩) m c) (B.upd i (B.at i).settle)) := by
      refine ⟨F, _, h.num hi hs 2 (by decide) (B.at i).settle (.int .i64 0) (by simp [Pr.settle, h0]) (by simp [Pr.settle, h0]), (Chg.refl _ _).set (Or.inl (h.inV pb rfl)) _ _, fun b hb => Or.inl hb⟩
    rw [e1, h0] at c4
    clear e1 hf
    unfold Ptr
    generalize i * 5 = o at *
    go_enter Try.func66, Try.ntmps66
    go_wp2_with fail
    go_end0
    exact ⟨rfl, HP.out, by simp⟩
  · have HP : Hid (PMv w w F g M (.slice (some ⟨pb, 0, none⟩) m c) (B.upd i (B.at i).settle)) := by
      have : (B.at i).settle = B.at i := by simp [Pr.settle, h0]
      rw [this, Bk.upd_self hi]
      exact ⟨F, Z, h, Chg.refl _ _, fun b hb => Or.inl hb⟩
    have d0 : ((s.m : Int) == 0) = false := by simp; omega
    clear e1 hf
    unfold Ptr
    generalize i * 5 = o at *
    go_enter Try.func66, Try.ntmps66
    go_wp2_with fail
    go_end0
    exact ⟨rfl, HP.out, rfl⟩
theorem PMv.trans {w'' : World} {B' : Bk} (h1 : Chg F w w') (h2 : PMv w' w'' F g M v B') : PMv w w'' F g M v B' := by
  obtain ⟨F', Z', a, b, d⟩ := h2
  refine ⟨F', Z', a, h1.trans b (fun k hk => Or.inl hk), fun x hx => ?_⟩
  rcases d x hx with h | ⟨h, h'⟩
  · exact Or.inl h
  · exact Or.inr ⟨Nat.le_trans h1.size h, h'⟩
theorem decide_any (h : BP w F g M (.slice (some ⟨pb, 0, none⟩) m c) Z B) (hi : i < B.ps.length) (yes : Bool) : Calls Try.prog 50 #[Ptr pb i, .bool yes] w fun e w' => e = .returned (.tuple #[]) ∧ PMv w w' F g M (.slice (some ⟨pb, 0, none⟩) m c) (B.upd i ((B.at i).decide yes)) ∧ w'.heap.size = w.heap.size := by
  obtain ⟨s, hs, hpl, -⟩ := h.get hi
  obtain ⟨-, -, c2, -, -, fz⟩ := h.cells hi hs
  have f2 := fz (i * 5 + 2)
  have HO := hid (outcome_any yes)
  have h2 := h.num hi hs 2 (by decide) { B.at i with st := outc yes } (.int .i64 (outc yes)) rfl (by simp)
  have hc2 : Chg F w (w.setCell ⟨pb, i * 5 + 2, none⟩ (.int .i64 (outc yes))) := (Chg.refl _ _).set (Or.inl (h.inV pb rfl)) _ _
  have HS := hid (settle_any h2 (i := i) (by rw [Bk.upd_len]; exact hi))
  rw [Bk.upd_at hi, Bk.upd_upd] at HS
  have HT : Hid (∀ w'', PMv (w.setCell ⟨pb, i * 5 + 2, none⟩ (.int .i64 (outc yes))) w'' F g M (.slice (some ⟨pb, 0, none⟩) m c) (B.upd i (Pr.settle { B.at i with st := outc yes })) → PMv w w'' F g M (.slice (some ⟨pb, 0, none⟩) m c) (B.upd i (Pr.settle { B.at i with st := outc yes }))) := fun w'' hh => PMv.trans hc2 hh
  have HZ : Hid ((w.setCell ⟨pb, i * 5 + 2, none⟩ (.int .i64 (outc yes))).heap.size = w.heap.size) := hid (by simp)
  show Calls _ _ _ _ fun e w' => e = _ ∧ PMv w w' F g M _ (B.upd i (Pr.settle { B.at i with st := outc yes })) ∧ _
  generalize B.upd i (Pr.settle { B.at i with st := outc yes }) = B2 at *
  generalize outc yes = oy at *
  unfold Ptr at *
  generalize i * 5 = o at *
  clear h2 hc2
  go_enter Try.func50, Try.ntmps50
  go_wp2_with (first | (go_at_call 48; refine (HO.out _).mono ?_; rintro e w1 ⟨rfl, hw1⟩; obtain rfl := hw1.symm) | (go_at_call 66; refine HS.out.mono ?_; rintro e w1 ⟨rfl, hb1, hz1⟩; have HB1 := hid hb1; have HZ1 := hid hz1; clear hb1 hz1))
  go_end0
  exact ⟨rfl, HT.out _ HB1.out, HZ1.out.trans HZ.out⟩
end Go.Proofs.Yteogogmmnijagaa
