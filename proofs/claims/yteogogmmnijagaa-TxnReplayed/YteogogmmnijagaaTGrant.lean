/- grant of package txn: a name that is known, and a new one (by gengrantb16.py, regs.py). -/
import Derived.Test.YteogogmmnijagaaTDeed
namespace Go.Proofs.Yteogogmmnijagaa
open Go.RowKit
variable {w w' : World} {F : List Nat} {g M pb m c i : Nat} {v : Value} {Z : List (Pr × Sl)} {B : Bk}

/-- A producer that was granted anew. -/
def Pr.grant (p : Pr) (t : Int) : Pr := if p.st = 1 then Pr.decide { p with ep := p.ep + 1, tmo := t } false else { p with ep := p.ep + 1, tmo := t }
/-- A book with one more. -/
noncomputable def Bk.more (B : Bk) (nm : Nm) (t : Int) : Bk := ⟨B.ps ++ [⟨t, 0, 0, 0, []⟩], setN B.num nm (some B.ps.length)⟩
set_option maxRecDepth 20000 in
set_option maxHeartbeats 1000000 in
theorem grant_known (h : BP w F g M v Z B) (hF : ∀ b ∈ F, b < w.heap.size) (hB : BkOk B) (x : Ev) (hnm : x.name.length ≤ maxLen) (hq : B.num x.name = some i) : Calls Try.prog 33 #[.pointer (some ⟨g, 0, none⟩), .agg (evA x)] w fun e w' => e = .returned (.tuple #[]) ∧ DMv w w' F g (B.upd i ((B.at i).grant x.tmo)) := by
  have hi := hB.num _ _ hq
  obtain ⟨pb, c, rfl, -⟩ := h.form (Nat.lt_of_le_of_lt (Nat.zero_le _) hi)
  obtain ⟨k, nm, a, b, cc, d, e, q⟩ := x
  dsimp only [Ev.kind, Ev.name, Ev.prod, Ev.ep, Ev.place, Ev.tmo, Ev.now, Ev.yes] at *
  show Calls Try.prog 33 #[.pointer (some ⟨g, 0, none⟩), .agg #[.int .i64 k, .string (nmS nm), .int .i64 a, .int .i64 b, .int .i64 cc, .int .i64 d, .int .i64 e, .bool q]] w fun r w' => r = .returned (.tuple #[]) ∧ DMv w w' F g (B.upd i ((B.at i).grant d))
  obtain ⟨t, ht⟩ : ∃ t, nmS nm = t := ⟨_, rfl⟩
  rw [ht]
  obtain ⟨W1, hW1⟩ : ∃ W1, w.alloc (.cells #[.int .i64 k, .string t, .int .i64 a, .int .i64 b, .int .i64 cc, .int .i64 d, .int .i64 e, .bool q] TEv) = W1 := ⟨_, rfl⟩
  have b1 : Below w.heap.size w W1 := by rw [← hW1]; exact (Below.refl _ _).alloc (Nat.le_refl _) _
  have x1 : Blk W1 w.heap.size #[.int .i64 k, .string t, .int .i64 a, .int .i64 b, .int .i64 cc, .int .i64 d, .int .i64 e, .bool q] TEv := by rw [← hW1]; exact heap_alloc_new w _
  have HB1 := hid b1
  have y0 : W1.cell? ⟨w.heap.size, 0, none⟩ = some (.int .i64 k) := x1.cell 0
  have y1 : W1.cell? ⟨w.heap.size, 1, none⟩ = some (.string t) := x1.cell 1
  have y2 : W1.cell? ⟨w.heap.size, 2, none⟩ = some (.int .i64 a) := x1.cell 2
  have y3 : W1.cell? ⟨w.heap.size, 3, none⟩ = some (.int .i64 b) := x1.cell 3
  have y4 : W1.cell? ⟨w.heap.size, 4, none⟩ = some (.int .i64 cc) := x1.cell 4
  have y5 : W1.cell? ⟨w.heap.size, 5, none⟩ = some (.int .i64 d) := x1.cell 5
  have y6 : W1.cell? ⟨w.heap.size, 6, none⟩ = some (.int .i64 e) := x1.cell 6
  have y7 : W1.cell? ⟨w.heap.size, 7, none⟩ = some (.bool q) := x1.cell 7
  have h1 := h.later b1
  have c1 : W1.cell? ⟨g, 1, none⟩ = some (.map (some M)) := h1.box.cell 1
  have HL : Hid (∀ W, Below W1.heap.size W1 W → (Instr.lookup TNi (.map (some M)) (.string t) true).run Try.prog W = .ok (.tuple #[.int .i64 (i : Int), .bool true]) W) := fun W hW => by
    have hl := (h1.later hW).look_ok nm hnm
    rw [hq, ht] at hl
    exact hl
  have h2 := h1.later (Below.refl _ W1).drew
  obtain ⟨s, hs, -, -⟩ := h2.get hi
  obtain ⟨ct, ce, cst, -, -, fz⟩ := h1.cells hi hs
  have f0 := fz (i * 5)
  have f1 := fz (i * 5 + 1)
  have hz : i < Z.length := by rw [h.len]; exact hi
  have c0 : W1.cell? ⟨g, 0, none⟩ = some (.slice (some ⟨pb, 0, none⟩) B.ps.length c) := h1.box.cell 0
  have hpw : pb < w.heap.size := hF _ (h.inV pb rfl)
  have hpn : pb ≠ w.heap.size := by omega
  obtain ⟨e1, e2⟩ := (hB.at i).ep
  have n1 := h2.num hi hs 1 (by decide) { B.at i with ep := (B.at i).ep + 1 } (.int .i64 ((B.at i).ep + 1)) rfl rfl
  have n2 := n1.num (i := i) (by rw [Bk.upd_len]; exact hi) (s := s) (by rw [Bk.upd_at hi]; exact set_get hz _) 0 (by decide) { B.at i with ep := (B.at i).ep + 1, tmo := d } (.int .i64 d) (by rw [Bk.upd_at hi]) (by rw [Bk.upd_at hi]; rfl)
  rw [Bk.upd_upd] at n2
  have hch : Chg F w ((W1.drew.setCell ⟨pb, i * 5 + 1, none⟩ (.int .i64 ((B.at i).ep + 1))).setCell ⟨pb, i * 5, none⟩ (.int .i64 d)) := ((Chg.of b1.drew).set (Or.inl (h.inV pb rfl)) _ _).set (Or.inl (h.inV pb rfl)) _ _
  by_cases hst : (B.at i).st = 1
  · have hD := decide_any n2 (i := i) (by rw [Bk.upd_len]; exact hi) false
    rw [Bk.upd_at hi, Bk.upd_upd] at hD
    have ea : (B.at i).grant d = Pr.decide { B.at i with ep := (B.at i).ep + 1, tmo := d } false := by unfold Pr.grant; rw [if_pos hst]
    have HD : Hid (Calls Try.prog 50 #[Ptr pb i, .bool false] ((W1.drew.setCell ⟨pb, i * 5 + 1, none⟩ (.int .i64 ((B.at i).ep + 1))).setCell ⟨pb, i * 5, none⟩ (.int .i64 d)) fun e w' => e = .returned (.tuple #[]) ∧ DMv w w' F g (B.upd i ((B.at i).grant d))) := by
      rw [ea]
      exact hD.mono (fun r w2 hh => ⟨hh.1, (PMv.trans hch hh.2.1).deed⟩)
    rw [hst] at cst
    clear hD n1 n2 hch ea x1 b1 h1 h2 hst h
    generalize B.upd i ((B.at i).grant d) = B2 at *
    generalize (B.at i).ep = pe at *
    generalize (B.at i).tmo = pt at *
    unfold Ptr at *
    generalize hio : i * 5 = o at *
    generalize B.ps.length = len at *
    go_enter Try.func33, Try.ntmps33
    go_wp2_with fail
    refine wp_region_held_drew (S := fun W => W.cell? ⟨g, 1, none⟩ = some (.map (some M)) ∧ W.cell? ⟨w.heap.size, 1, none⟩ = some (.string t) ∧ (Instr.lookup TNi (.map (some M)) (.string t) true).run Try.prog W = .ok (.tuple #[.int .i64 (i : Int), .bool true]) W) (by kernel_rfl) (⟨c1, y1, HL.out _ (Below.refl _ W1).drew⟩) (fun hHeld => ?_)
    refine wpAnyH_take (i := 0) (oi := { dst := some 8, op := Op.move (Operand.tmp 0), type := 23, pos := "deeds.go:91", after := #[], guard := none }) (v := ?_) rfl (by kernel_rfl) (by kernel_rfl) (by kernel_rfl) (fun _ _ _ h => h) (Or.inl ⟨by rfl, ?_⟩) hHeld ?_
    rotate_left
    · intro w hSw; (try dsimp only at hSw); go_simp; try with_reducible rfl
    try simp only [Act.put, List.setIfInBounds_toArray, List.set_cons_zero, List.set_cons_succ]
    refine wpAnyH_take (i := 1) (oi := { dst := some 9, op := Op.nilCheck (Operand.tmp 8), type := 0, pos := "deeds.go:91", after := #[{ on := 0, ground := Ground.data }], guard := none }) (v := ?_) rfl (by kernel_rfl) (by kernel_rfl) (by kernel_rfl) (fun _ _ _ h => h) (Or.inl ⟨by rfl, ?_⟩) hHeld ?_
    rotate_left
    · intro w hSw; (try dsimp only at hSw); go_simp; try with_reducible rfl
    try simp only [Act.put, List.setIfInBounds_toArray, List.set_cons_zero, List.set_cons_succ]
    refine wpAnyH_take (i := 2) (oi := { dst := some 10, op := Op.fieldAddr 52 (Operand.tmp 9) 1, type := 0, pos := "deeds.go:91", after := #[{ on := 1, ground := Ground.data }], guard := none }) (v := ?_) rfl (by kernel_rfl) (by kernel_rfl) (by kernel_rfl) (fun _ _ _ h => h) (Or.inl ⟨by rfl, ?_⟩) hHeld ?_
    rotate_left
    · intro w hSw; (try dsimp only at hSw); go_simp; try with_reducible rfl
    try simp only [Act.put, List.setIfInBounds_toArray, List.set_cons_zero, List.set_cons_succ]
    refine wpAnyH_take (i := 3) (oi := { dst := some 11, op := Op.load 49 (Operand.tmp 10), type := 49, pos := "deeds.go:91", after := #[{ on := 2, ground := Ground.data }], guard := none }) (v := ?_) rfl (by kernel_rfl) (by kernel_rfl) (by kernel_rfl) (fun _ _ _ h => h) (Or.inl ⟨by rfl, ?_⟩) hHeld ?_
    rotate_left
    · intro w hSw; (try dsimp only at hSw); go_simp; try with_reducible rfl
    try simp only [Act.put, List.setIfInBounds_toArray, List.set_cons_zero, List.set_cons_succ]
    refine wpAnyH_take (i := 4) (oi := { dst := some 12, op := Op.fieldAddr 30 (Operand.tmp 3) 1, type := 0, pos := "deeds.go:91", after := #[], guard := none }) (v := ?_) rfl (by kernel_rfl) (by kernel_rfl) (by kernel_rfl) (fun _ _ _ h => h) (Or.inl ⟨by rfl, ?_⟩) hHeld ?_
    rotate_left
    · intro w hSw; (try dsimp only at hSw); go_simp; try with_reducible rfl
    try simp only [Act.put, List.setIfInBounds_toArray, List.set_cons_zero, List.set_cons_succ]
    refine wpAnyH_take (i := 5) (oi := { dst := some 13, op := Op.load 9 (Operand.tmp 12), type := 9, pos := "deeds.go:91", after := #[{ on := 4, ground := Ground.data }], guard := none }) (v := ?_) rfl (by kernel_rfl) (by kernel_rfl) (by kernel_rfl) (fun _ _ _ h => h) (Or.inl ⟨by rfl, ?_⟩) hHeld ?_
    rotate_left
    · intro w hSw; (try dsimp only at hSw); go_simp; try with_reducible rfl
    try simp only [Act.put, List.setIfInBounds_toArray, List.set_cons_zero, List.set_cons_succ]
    refine wpAnyH_take (i := 6) (oi := { dst := some 14, op := Op.lookup 49 (Operand.tmp 11) (Operand.tmp 13) true, type := 89, pos := "deeds.go:91", after := #[{ on := 3, ground := Ground.data }, { on := 5, ground := Ground.data }], guard := none }) (v := ?_) rfl (by kernel_rfl) (by kernel_rfl) (by kernel_rfl) (fun _ _ _ h => h) (Or.inl ⟨by rfl, ?_⟩) hHeld ?_
    rotate_left
    · intro w hSw; (try dsimp only at hSw); go_simp; try with_reducible rfl
    try simp only [Act.put, List.setIfInBounds_toArray, List.set_cons_zero, List.set_cons_succ]
    refine wpAnyH_take (i := 7) (oi := { dst := some 7, op := Op.move (Operand.tmp 14), type := 89, pos := "deeds.go:91", after := #[{ on := 6, ground := Ground.data }], guard := none }) (v := ?_) rfl (by kernel_rfl) (by kernel_rfl) (by kernel_rfl) (fun _ _ _ h => h) (Or.inl ⟨by rfl, ?_⟩) hHeld ?_
    rotate_left
    · intro w hSw; (try dsimp only at hSw); go_simp; try with_reducible rfl
    try simp only [Act.put, List.setIfInBounds_toArray, List.set_cons_zero, List.set_cons_succ]
    refine wpAnyH_take (i := 8) (oi := { dst := some 15, op := Op.extract (Operand.tmp 7) 0, type := 3, pos := "deeds.go:91", after := #[{ on := 7, ground := Ground.data }], guard := none }) (v := ?_) rfl (by kernel_rfl) (by kernel_rfl) (by kernel_rfl) (fun _ _ _ h => h) (Or.inl ⟨by rfl, ?_⟩) hHeld ?_
    rotate_left
    · intro w hSw; (try dsimp only at hSw); go_simp; try with_reducible rfl
    try simp only [Act.put, List.setIfInBounds_toArray, List.set_cons_zero, List.set_cons_succ]
    refine wpAnyH_take (i := 9) (oi := { dst := some 16, op := Op.extract (Operand.tmp 7) 1, type := 4, pos := "deeds.go:91", after := #[{ on := 7, ground := Ground.data }, { on := 10, ground := Ground.gcOnly Departure.lateStores }], guard := none }) (v := ?_) rfl (by kernel_rfl) (by kernel_rfl) (by kernel_rfl) (fun _ _ _ h => h) (Or.inl ⟨by rfl, ?_⟩) hHeld ?_
    rotate_left
    · intro w hSw; (try dsimp only at hSw); go_simp; try with_reducible rfl
    try simp only [Act.put, List.setIfInBounds_toArray, List.set_cons_zero, List.set_cons_succ]
    refine wpAnyH_take (i := 10) (oi := { dst := some 4, op := Op.assign (Operand.tmp 15), type := 3, pos := "deeds.go:91", after := #[{ on := 8, ground := Ground.data }, { on := 0, ground := Ground.phase }, { on := 1, ground := Ground.phase }, { on := 2, ground := Ground.phase }, { on := 3, ground := Ground.phase }, { on := 4, ground := Ground.phase }, { on := 5, ground := Ground.phase }, { on := 6, ground := Ground.phase }, { on := 7, ground := Ground.phase }, { on := 8, ground := Ground.phase }, { on := 9, ground := Ground.textOnly Departure.lateStores }], guard := none }) (v := ?_) rfl (by kernel_rfl) (by kernel_rfl) (by kernel_rfl) (fun _ _ _ h => h) (Or.inl ⟨by rfl, ?_⟩) hHeld ?_
    rotate_left
    · intro w hSw; (try dsimp only at hSw); go_simp; try with_reducible rfl
    try simp only [Act.put, List.setIfInBounds_toArray, List.set_cons_zero, List.set_cons_succ]
    refine wpAnyH_take (i := 11) (oi := { dst := some 5, op := Op.assign (Operand.tmp 16), type := 4, pos := "deeds.go:91", after := #[{ on := 9, ground := Ground.data }, { on := 10, ground := Ground.chain }, { on := 0, ground := Ground.phase }, { on := 1, ground := Ground.phase }, { on := 2, ground := Ground.phase }, { on := 3, ground := Ground.phase }, { on := 4, ground := Ground.phase }, { on := 5, ground := Ground.phase }, { on := 6, ground := Ground.phase }, { on := 7, ground := Ground.phase }, { on := 8, ground := Ground.phase }, { on := 9, ground := Ground.phase }, { on := 10, ground := Ground.phase }], guard := none }) (v := ?_) rfl (by kernel_rfl) (by kernel_rfl) (by kernel_rfl) (fun _ _ _ h => h) (Or.inl ⟨by rfl, ?_⟩) hHeld ?_
    rotate_left
    · intro w hSw; (try dsimp only at hSw); go_simp; try with_reducible rfl
    try simp only [Act.put, List.setIfInBounds_toArray, List.set_cons_zero, List.set_cons_succ]
    refine wpAnyH_done (by kernel_rfl) ?_ _
    clear hHeld
    go_wp2_with (go_at_call 50; refine HD.out.mono ?_; rintro e w3 ⟨rfl, hp⟩; have HE := hid hp; clear hp)
    go_end0
    exact ⟨rfl, HE.out⟩
  · have ea : (B.at i).grant d = { B.at i with ep := (B.at i).ep + 1, tmo := d } := by unfold Pr.grant; rw [if_neg hst]
    have HD : Hid (DMv w ((W1.drew.setCell ⟨pb, i * 5 + 1, none⟩ (.int .i64 ((B.at i).ep + 1))).setCell ⟨pb, i * 5, none⟩ (.int .i64 d)) F g (B.upd i ((B.at i).grant d))) := by
      rw [ea]
      exact ⟨F, ⟨M, _, _, n2⟩, hch, fun b hb => Or.inl hb⟩
    have dst : ((B.at i).st == 1) = false := by simpa using hst
    clear n1 n2 hch ea x1 b1 h1 h2 hst h
    generalize B.upd i ((B.at i).grant d) = B2 at *
    generalize (B.at i).ep = pe at *
    generalize (B.at i).tmo = pt at *
    generalize (B.at i).st = st at *
    generalize hio : i * 5 = o at *
    generalize B.ps.length = len at *
    go_enter Try.func33, Try.ntmps33
    go_wp2_with fail
    refine wp_region_held_drew (S := fun W => W.cell? ⟨g, 1, none⟩ = some (.map (some M)) ∧ W.cell? ⟨w.heap.size, 1, none⟩ = some (.string t) ∧ (Instr.lookup TNi (.map (some M)) (.string t) true).run Try.prog W = .ok (.tuple #[.int .i64 (i : Int), .bool true]) W) (by kernel_rfl) (⟨c1, y1, HL.out _ (Below.refl _ W1).drew⟩) (fun hHeld => ?_)
    refine wpAnyH_take (i := 0) (oi := { dst := some 8, op := Op.move (Operand.tmp 0), type := 23, pos := "deeds.go:91", after := #[], guard := none }) (v := ?_) rfl (by kernel_rfl) (by kernel_rfl) (by kernel_rfl) (fun _ _ _ h => h) (Or.inl ⟨by rfl, ?_⟩) hHeld ?_
    rotate_left
    · intro w hSw; (try dsimp only at hSw); go_simp; try with_reducible rfl
    try simp only [Act.put, List.setIfInBounds_toArray, List.set_cons_zero, List.set_cons_succ]
    refine wpAnyH_take (i := 1) (oi := { dst := some 9, op := Op.nilCheck (Operand.tmp 8), type := 0, pos := "deeds.go:91", after := #[{ on := 0, ground := Ground.data }], guard := none }) (v := ?_) rfl (by kernel_rfl) (by kernel_rfl) (by kernel_rfl) (fun _ _ _ h => h) (Or.inl ⟨by rfl, ?_⟩) hHeld ?_
    rotate_left
    · intro w hSw; (try dsimp only at hSw); go_simp; try with_reducible rfl
    try simp only [Act.put, List.setIfInBounds_toArray, List.set_cons_zero, List.set_cons_succ]
    refine wpAnyH_take (i := 2) (oi := { dst := some 10, op := Op.fieldAddr 52 (Operand.tmp 9) 1, type := 0, pos := "deeds.go:91", after := #[{ on := 1, ground := Ground.data }], guard := none }) (v := ?_) rfl (by kernel_rfl) (by kernel_rfl) (by kernel_rfl) (fun _ _ _ h => h) (Or.inl ⟨by rfl, ?_⟩) hHeld ?_
    rotate_left
    · intro w hSw; (try dsimp only at hSw); go_simp; try with_reducible rfl
    try simp only [Act.put, List.setIfInBounds_toArray, List.set_cons_zero, List.set_cons_succ]
    refine wpAnyH_take (i := 3) (oi := { dst := some 11, op := Op.load 49 (Operand.tmp 10), type := 49, pos := "deeds.go:91", after := #[{ on := 2, ground := Ground.data }], guard := none }) (v := ?_) rfl (by kernel_rfl) (by kernel_rfl) (by kernel_rfl) (fun _ _ _ h => h) (Or.inl ⟨by rfl, ?_⟩) hHeld ?_
    rotate_left
    · intro w hSw; (try dsimp only at hSw); go_simp; try with_reducible rfl
    try simp only [Act.put, List.setIfInBounds_toArray, List.set_cons_zero, List.set_cons_succ]
    refine wpAnyH_take (i := 4) (oi := { dst := some 12, op := Op.fieldAddr 30 (Operand.tmp 3) 1, type := 0, pos := "deeds.go:91", after := #[], guard := none }) (v := ?_) rfl (by kernel_rfl) (by kernel_rfl) (by kernel_rfl) (fun _ _ _ h => h) (Or.inl ⟨by rfl, ?_⟩) hHeld ?_
    rotate_left
    · intro w hSw; (try dsimp only at hSw); go_simp; try with_reducible rfl
    try simp only [Act.put, List.setIfInBounds_toArray, List.set_cons_zero, List.set_cons_succ]
    refine wpAnyH_take (i := 5) (oi := { dst := some 13, op := Op.load 9 (Operand.tmp 12), type := 9, pos := "deeds.go:91", after := #[{ on := 4, ground := Ground.data }], guard := none }) (v := ?_) rfl (by kernel_rfl) (by kernel_rfl) (by kernel_rfl) (fun _ _ _ h => h) (Or.inl ⟨by rfl, ?_⟩) hHeld ?_
    rotate_left
    · intro w hSw; (try dsimp only at hSw); go_simp; try with_reducible rfl
    try simp only [Act.put, List.setIfInBounds_toArray, List.set_cons_zero, List.set_cons_succ]
    refine wpAnyH_take (i := 6) (oi := { dst := some 14, op := Op.lookup 49 (Operand.tmp 11) (Operand.tmp 13) true, type := 89, pos := "deeds.go:91", after := #[{ on := 3, ground := Ground.data }, { on := 5, ground := Ground.data }], guard := none }) (v := ?_) rfl (by kernel_rfl) (by kernel_rfl) (by kernel_rfl) (fun _ _ _ h => h) (Or.inl ⟨by rfl, ?_⟩) hHeld ?_
    rotate_left
    · intro w hSw; (try dsimp only at hSw); go_simp; try with_reducible rfl
    try simp only [Act.put, List.setIfInBounds_toArray, List.set_cons_zero, List.set_cons_succ]
    refine wpAnyH_take (i := 7) (oi := { dst := some 7, op := Op.move (Operand.tmp 14), type := 89, pos := "deeds.go:91", after := #[{ on := 6, ground := Ground.data }], guard := none }) (v := ?_) rfl (by kernel_rfl) (by kernel_rfl) (by kernel_rfl) (fun _ _ _ h => h) (Or.inl ⟨by rfl, ?_⟩) hHeld ?_
    rotate_left
    · intro w hSw; (try dsimp only at hSw); go_simp; try with_reducible rfl
    try simp only [Act.put, List.setIfInBounds_toArray, List.set_cons_zero, List.set_cons_succ]
    refine wpAnyH_take (i := 8) (oi := { dst := some 15, op := Op.extract (Operand.tmp 7) 0, type := 3, pos := "deeds.go:91", after := #[{ on := 7, ground := Ground.data }], guard := none }) (v := ?_) rfl (by kernel_rfl) (by kernel_rfl) (by kernel_rfl) (fun _ _ _ h => h) (Or.inl ⟨by rfl, ?_⟩) hHeld ?_
    rotate_left
    · intro w hSw; (try dsimp only at hSw); go_simp; try with_reducible rfl
    try simp only [Act.put, List.setIfInBounds_toArray, List.set_cons_zero, List.set_cons_succ]
    refine wpAnyH_take (i := 9) (oi := { dst := some 16, op := Op.extract (Operand.tmp 7) 1, type := 4, pos := "deeds.go:91", after := #[{ on := 7, ground := Ground.data }, { on := 10, ground := Ground.gcOnly Departure.lateStores }], guard := none }) (v := ?_) rfl (by kernel_rfl) (by kernel_rfl) (by kernel_rfl) (fun _ _ _ h => h) (Or.inl ⟨by rfl, ?_⟩) hHeld ?_
    rotate_left
    · intro w hSw; (try dsimp only at hSw); go_simp; try with_reducible rfl
    try simp only [Act.put, List.setIfInBounds_toArray, List.set_cons_zero, List.set_cons_succ]
    refine wpAnyH_take (i := 10) (oi := { dst := some 4, op := Op.assign (Operand.tmp 15), type := 3, pos := "deeds.go:91", after := #[{ on := 8, ground := Ground.data }, { on := 0, ground := Ground.phase }, { on := 1, ground := Ground.phase }, { on := 2, ground := Ground.phase }, { on := 3, ground := Ground.phase }, { on := 4, ground := Ground.phase }, { on := 5, ground := Ground.phase }, { on := 6, ground := Ground.phase }, { on := 7, ground := Ground.phase }, { on := 8, ground := Ground.phase }, { on := 9, ground := Ground.textOnly Departure.lateStores }], guard := none }) (v := ?_) rfl (by kernel_rfl) (by kernel_rfl) (by kernel_rfl) (fun _ _ _ h => h) (Or.inl ⟨by rfl, ?_⟩) hHeld ?_
    rotate_left
    · intro w hSw; (try dsimp only at hSw); go_simp; try with_reducible rfl
    try simp only [Act.put, List.setIfInBounds_toArray, List.set_cons_zero, List.set_cons_succ]
    refine wpAnyH_take (i := 11) (oi := { dst := some 5, op := Op.assign (Operand.tmp 16), type := 4, pos := "deeds.go:91", after := #[{ on := 9, ground := Ground.data }, { on := 10, ground := Ground.chain }, { on := 0, ground := Ground.phase }, { on := 1, ground := Ground.phase }, { on := 2, ground := Ground.phase }, { on := 3, ground := Ground.phase }, { on := 4, ground := Ground.phase }, { on := 5, ground := Ground.phase }, { on := 6, ground := Ground.phase }, { on := 7, ground := Ground.phase }, { on := 8, ground := Ground.phase }, { on := 9, ground := Ground.phase }, { on := 10, ground := Ground.phase }], guard := none }) (v := ?_) rfl (by kernel_rfl) (by kernel_rfl) (by kernel_rfl) (fun _ _ _ h => h) (Or.inl ⟨by rfl, ?_⟩) hHeld ?_
    rotate_left
    · intro w hSw; (try dsimp only at hSw); go_simp; try with_reducible rfl
    try simp only [Act.put, List.setIfInBounds_toArray, List.set_cons_zero, List.set_cons_succ]
    refine wpAnyH_done (by kernel_rfl) ?_ _
    clear hHeld
    go_wp2_with fail
    go_end0
    exact ⟨rfl, HD.out⟩
theorem pr_row (W : World) (d : Int) : RowK kPr (W.alloc (.cells #[.int .i64 d, .int .i64 0, .int .i64 0, .int .i64 0, .slice none 0 0] TPr)).drew (some ⟨W.heap.size, 0, none⟩) [((⟨d, 0, 0, 0, []⟩ : Pr), sl0)] := by
  refine Or.inr ⟨W.heap.size, 0, rfl, by simp [World.drew], fun i hi c hc => ?_⟩
  obtain rfl : i = 0 := by simpa using hi
  have hb : Blk (W.alloc (.cells #[.int .i64 d, .int .i64 0, .int .i64 0, .int .i64 0, .slice none 0 0] TPr)).drew W.heap.size #[.int .i64 d, .int .i64 0, .int .i64 0, .int .i64 0, .slice none 0 0] TPr := heap_alloc_new W _
  rw [show 0 + 0 * kPr.sz + c = c by simp]
  exact (hb.cell c).trans (by rw [List.getElem?_toArray]; rfl)
theorem getD_snoc {α : Type} (L : List α) (x : α) (j : Nat) (y : α) (h : (L ++ [x])[j]? = some y) : (j < L.length ∧ L[j]? = some y) ∨ (j = L.length ∧ y = x) := by
  by_cases hj : j < L.length
  · rw [List.getElem?_append_left hj] at h; exact Or.inl ⟨hj, h⟩
  · rw [List.getElem?_append_right (by omega)] at h
    have := (List.getElem?_eq_some_iff.1 h).1
    simp at this
    obtain rfl : j = L.length := by omega
    simp at h
    exact Or.inr ⟨rfl, h.symm⟩
/-- One more: what the map's store, the append and the store of the slice leave. -/
theorem BP.moreAt {W2 V W3 : World} {ad : Option Addr} {cap b3 c3 : Nat} {nm : Nm} {d : Int} (h : BP w F g M (.slice ad B.ps.length cap) Z B) (hM : MapF W2 9 M (B.ps.length + 1) (updF (numF B.num) (.string nm) (some (.int .i64 (B.ps.length : Int))))) (hc : Chg [M] w W2) (hV : Below W2.heap.size W2 V)
    (hO : OwnK kPr W3 0 (.slice (some ⟨b3, 0, none⟩) (B.ps.length + 1) c3) (Z ++ [((⟨d, 0, 0, 0, []⟩ : Pr), sl0)])) (hG : V.grownBy W3 (Value.slice ad B.ps.length cap).ownBlock) :
    BP (W3.setCell ⟨g, 0, none⟩ (.slice (some ⟨b3, 0, none⟩) (B.ps.length + 1) c3)) (b3 :: F) g M (.slice (some ⟨b3, 0, none⟩) (B.ps.length + 1) c3) (Z ++ [((⟨d, 0, 0, 0, []⟩ : Pr), sl0)]) (B.more nm d) := by
  have nv : ∀ q, (Value.slice ad B.ps.length cap).ownBlock = some q → q ≠ g := fun q hq => own_blk_ne h.row hq h.box (by decide)
  have nm2 : ∀ q, (Value.slice ad B.ps.length cap).ownBlock = some q → q ≠ M := fun q hq => own_map_ne h.row hq h.map
  have hgM := blk_map_ne h.box h.map
  have kk : ∀ q, q < w.heap.size → q ≠ M → (Value.slice ad B.ps.length cap).ownBlock ≠ some q → W3.heap[q]? = w.heap[q]? := fun q hq h1 h2 => by
    have z2 : q < W2.heap.size := Nat.lt_of_lt_of_le hq hc.size
    have z3 : q < V.heap.size := Nat.lt_of_lt_of_le z2 hV.size
    rw [hG.block q z3 (fun e => h2 e.symm), hV.block q z2, hc.block q hq (by simpa using h1)]
  have kM : W3.heap[M]? = W2.heap[M]? := by
    have z2 := hM.lt
    have z3 : M < V.heap.size := Nat.lt_of_lt_of_le z2 hV.size
    rw [hG.block M z3 (fun e => nm2 M e.symm rfl), hV.block M z2]
  have hbox3 : Blk W3 g #[.slice ad B.ps.length cap, .map (some M)] TBk := (kk g h.box.lt hgM (fun e => nv g e rfl)).trans h.box
  have hs : Chg [g] W3 (W3.setCell ⟨g, 0, none⟩ (.slice (some ⟨b3, 0, none⟩) (B.ps.length + 1) c3)) := (Chg.refl _ _).set (Or.inl (by simp)) _ _
  have hb3g : b3 ≠ g := own_blk_ne hO rfl hbox3 (by decide)
  have opl : ∀ (i : Nat) (z : Pr × Sl), Z[i]? = some z → OwnK kZ W3 0 z.2.v z.1.pl := fun i z hz => (h.pl i z hz).keep (fun q hq => kk q ((h.pl i z hz).block q hq).2.1 (own_map_ne (h.pl i z hz) hq h.map) (fun e => own_own_ne (h.pl i z hz) hq h.row (by decide) e))
  refine ⟨hbox3.set 0 _, ?_, hO.chg hs (fun q hq => by cases hq; simpa using hb3g), ?_, fun i z hz => ?_, fun i j z y q hz hy hzq hyq => ?_, List.mem_cons_of_mem _ h.inG, List.mem_cons_of_mem _ h.inM, fun q hq => by cases hq; simp, fun i z q hz hq => ?_⟩
  · have hM3 : MapF W3 9 M (B.ps.length + 1) (numF (setN B.num nm (some B.ps.length))) := (hM.keep kM).congr (numF_set B.num nm B.ps.length)
    show MapF _ _ _ (B.ps ++ [_]).length _
    rw [List.length_append]
    exact hM3.keep (hs.block M hM3.lt (by simp; omega))
  · rw [List.map_append, h.ps]; rfl
  · rcases getD_snoc Z _ i z hz with ⟨-, hz⟩ | ⟨-, rfl⟩
    · exact (opl i z hz).chg hs (fun q hq => by have := own_blk_ne (opl i z hz) hq hbox3 (by decide); simpa using this)
    · exact OwnK.nil _ _
  · rcases getD_snoc Z _ i z hz with ⟨-, hz⟩ | ⟨-, rfl⟩
    · rcases getD_snoc Z _ j y hy with ⟨-, hy⟩ | ⟨-, rfl⟩
      · exact h.apart i j z y q hz hy hzq hyq
      · cases hyq
    · cases hzq
  · rcases getD_snoc Z _ i z hz with ⟨-, hz⟩ | ⟨-, rfl⟩
    · exact List.mem_cons_of_mem _ (h.inP i z q hz hq)
    · cases hq
set_option maxRecDepth 20000 in
set_option maxHeartbeats 1000000 in
theorem grant_new (h : BP w F g M v Z B) (x : Ev) (hnm : x.name.length ≤ maxLen) (hq : B.num x.name = none) (hlen : B.ps.length < 1000) : Calls Try.prog 33 #[.pointer (some ⟨g, 0, none⟩), .agg (evA x)] w fun e w' => e = .returned (.tuple #[]) ∧ DMv w w' F g (B.more x.name x.tmo) := by
  obtain ⟨ad, cap, rfl⟩ := h.vform
  obtain ⟨k, nm, a, b, cc, d, e, q⟩ := x
  dsimp only [Ev.kind, Ev.name, Ev.prod, Ev.ep, Ev.place, Ev.tmo, Ev.now, Ev.yes] at *
  show Calls Try.prog 33 #[.pointer (some ⟨g, 0, none⟩), .agg #[.int .i64 k, .string (nmS nm), .int .i64 a, .int .i64 b, .int .i64 cc, .int .i64 d, .int .i64 e, .bool q]] w fun r w' => r = .returned (.tuple #[]) ∧ DMv w w' F g (B.more nm d)
  obtain ⟨t, ht⟩ : ∃ t, nmS nm = t := ⟨_, rfl⟩
  rw [ht]
  obtain ⟨W1, hW1⟩ : ∃ W1, w.alloc (.cells #[.int .i64 k, .string t, .int .i64 a, .int .i64 b, .int .i64 cc, .int .i64 d, .int .i64 e, .bool q] TEv) = W1 := ⟨_, rfl⟩
  have b1 : Below w.heap.size w W1 := by rw [← hW1]; exact (Below.refl _ _).alloc (Nat.le_refl _) _
  have x1 : Blk W1 w.heap.size #[.int .i64 k, .string t, .int .i64 a, .int .i64 b, .int .i64 cc, .int .i64 d, .int .i64 e, .bool q] TEv := by rw [← hW1]; exact heap_alloc_new w _
  have HB1 := hid b1
  have y0 : W1.cell? ⟨w.heap.size, 0, none⟩ = some (.int .i64 k) := x1.cell 0
  have y1 : W1.cell? ⟨w.heap.size, 1, none⟩ = some (.string t) := x1.cell 1
  have y2 : W1.cell? ⟨w.heap.size, 2, none⟩ = some (.int .i64 a) := x1.cell 2
  have y3 : W1.cell? ⟨w.heap.size, 3, none⟩ = some (.int .i64 b) := x1.cell 3
  have y4 : W1.cell? ⟨w.heap.size, 4, none⟩ = some (.int .i64 cc) := x1.cell 4
  have y5 : W1.cell? ⟨w.heap.size, 5, none⟩ = some (.int .i64 d) := x1.cell 5
  have y6 : W1.cell? ⟨w.heap.size, 6, none⟩ = some (.int .i64 e) := x1.cell 6
  have y7 : W1.cell? ⟨w.heap.size, 7, none⟩ = some (.bool q) := x1.cell 7
  have h1 := h.later b1
  have c1 : W1.cell? ⟨g, 1, none⟩ = some (.map (some M)) := h1.box.cell 1
  have HL : Hid (∀ W, Below W1.heap.size W1 W → (Instr.lookup TNi (.map (some M)) (.string t) true).run Try.prog W = .ok (.tuple #[.int .i64 0, .bool false]) W) := fun W hW => by
    have hl := (h1.later hW).look_ok nm hnm
    rw [hq, ht] at hl
    exact hl
  have h2 := h1.later (Below.refl _ W1).drew
  have c0 : W1.cell? ⟨g, 0, none⟩ = some (.slice ad B.ps.length cap) := h1.box.cell 0
  obtain ⟨W2, hr2, hM2, hc2⟩ := MapF.store (w := W1.drew.drew) (t := TNi) (e := 3) (h2.map.keep rfl) keyN Try.underlying49 (by unfold maxLen; omega) (val := .int .i64 (B.ps.length : Int)) (keyOf_n nm hnm)
  rw [ht] at hr2
  have hgM := blk_map_ne h.box h.map
  have hgl := h.box.lt
  have hMl := h.map.lt
  have hx2 : Blk W2 w.heap.size #[.int .i64 k, .string t, .int .i64 a, .int .i64 b, .int .i64 cc, .int .i64 d, .int .i64 e, .bool q] TEv := Blk.chg (w := W1.drew.drew) x1 hc2 (by simp; omega)
  have hb2 : Blk W2 g #[.slice ad B.ps.length cap, .map (some M)] TBk := Blk.chg (w := W1.drew.drew) h1.box hc2 (by simpa using hgM)
  have HS2 : Hid (W2.cell? ⟨g, 0, none⟩ = some (.slice ad B.ps.length cap) ∧ W2.cell? ⟨g, 1, none⟩ = some (.map (some M)) ∧ W2.cell? ⟨w.heap.size, 1, none⟩ = some (.string t)) := ⟨hb2.cell 0, hb2.cell 1, hx2.cell 1⟩
  have hbx : ∀ W, Below W2.heap.size W2 W → W.cell? ⟨w.heap.size, 5, none⟩ = some (.int .i64 d) := fun W hW => (hx2.later hW).cell 5
  have HX := hid hbx
  have HL5 : Hid (∀ W, Below W2.heap.size W2 W → W.cell? ⟨g, 0, none⟩ = some (.slice ad B.ps.length cap)) := fun W hW => (hb2.later hW).cell 0
  have hrow2 : OwnK kPr W2 0 (.slice ad B.ps.length cap) Z := OwnK.chg (w := W1.drew.drew) h1.row hc2 (fun q hq => by have := own_map_ne h1.row hq h1.map; simpa using this)
  have HOp : Hid (∀ W, Below W2.heap.size W2 W → OwnK kPr W 0 (.slice ad B.ps.length cap) Z) := fun W hW => hrow2.later hW
  have hzl := h.len
  have hga : Z.length + 1 ≤ maxLen ∧ (Z.length + 1) * kPr.bytes ≤ 140737488355328 := by
    rw [hzl]
    refine ⟨by unfold maxLen; omega, ?_⟩
    show (B.ps.length + 1) * 56 ≤ _
    omega
  have HFn : Hid (∀ b3 c3 W3, OwnK kPr W3 0 (.slice (some ⟨b3, 0, none⟩) (B.ps.length + 1) c3) (Z ++ [((⟨d, 0, 0, 0, []⟩ : Pr), sl0)]) → (W2.alloc (.cells #[.int .i64 d, .int .i64 0, .int .i64 0, .int .i64 0, .slice none 0 0] TPr)).drew.grownBy W3 (Value.slice ad B.ps.length cap).ownBlock → ((Value.slice ad B.ps.length cap).ownBlock = some b3 ∨ b3 = (W2.alloc (.cells #[.int .i64 d, .int .i64 0, .int .i64 0, .int .i64 0, .slice none 0 0] TPr)).drew.heap.size) →
      W3.cell? ⟨w.heap.size, 5, none⟩ = some (.int .i64 d) ∧ (W3.cell? ⟨g, 0, none⟩ = some (.slice ad B.ps.length cap) ∧ W3.frozen? ⟨g, 0, none⟩ = false) ∧ (W3.setCell ⟨g, 0, none⟩ (.slice (some ⟨b3, 0, none⟩) (B.ps.length + 1) c3)).cell? ⟨w.heap.size, 5, none⟩ = some (.int .i64 d) ∧ DMv w (W3.setCell ⟨g, 0, none⟩ (.slice (some ⟨b3, 0, none⟩) (B.ps.length + 1) c3)) F g (B.more nm d)) := fun b3 c3 W3 hO hG hN => by
    obtain ⟨V, hV⟩ : ∃ V, (W2.alloc (.cells #[.int .i64 d, .int .i64 0, .int .i64 0, .int .i64 0, .slice none 0 0] TPr)).drew = V := ⟨_, rfl⟩
    rw [hV] at hG hN
    have bV : Below W2.heap.size W2 V := by rw [← hV]; exact ((Below.refl _ W2).alloc (Nat.le_refl _) (.cells #[.int .i64 d, .int .i64 0, .int .i64 0, .int .i64 0, .slice none 0 0] TPr)).drew
    have hc2' : Chg [M] W1.drew W2 := ⟨hc2.os, hc2.tape, hc2.output, hc2.size, hc2.block⟩
    have hbp := BP.moreAt (W2 := W2) (V := V) (W3 := W3) h2 hM2 hc2' bV hO hG
    have hcX : Chg (Value.slice ad B.ps.length cap).ownBlock.toList V W3 := grown_chg hG _ (fun q hq => by simp [hq])
    have hXp : ∀ q ∈ (Value.slice ad B.ps.length cap).ownBlock.toList, (Value.slice ad B.ps.length cap).ownBlock = some q := fun q hq => by simpa using hq
    have hXw : ∀ q ∈ (Value.slice ad B.ps.length cap).ownBlock.toList, q < w.heap.size := fun q hq => (h.row.block q (hXp q hq)).2.1
    have hx3 := (hx2.later bV).chg hcX (fun hm => by have := hXw _ hm; omega)
    have hb3 := (hb2.later bV).chg hcX (fun hm => own_blk_ne h.row (hXp _ hm) h.box (by decide) rfl)
    have hs4 : Chg [g] W3 (W3.setCell ⟨g, 0, none⟩ (.slice (some ⟨b3, 0, none⟩) (B.ps.length + 1) c3)) := (Chg.refl _ _).set (Or.inl (by simp)) 0 _
    have hx4 := hx3.chg hs4 (by simp; omega)
    refine ⟨hx3.cell 5, ⟨hb3.cell 0, hb3.free 0⟩, hx4.cell 5, b3 :: F, ⟨M, _, _, hbp⟩, ?_, fun q hq => ?_⟩
    · have k1 : Chg F w W2 := (Chg.of b1.drew).trans (hc2'.mono (fun q hq => by simp at hq; subst hq; exact h.inM)) (fun q hq => Or.inl hq)
      have k2 : Chg F w V := k1.trans (Chg.of bV) (fun q hq => Or.inl hq)
      have k3 : Chg F w W3 := k2.trans (hcX.mono (fun q hq => h.inV q (hXp q hq))) (fun q hq => Or.inl hq)
      exact k3.trans (hs4.mono (fun q hq => by simp at hq; subst hq; exact h.inG)) (fun q hq => Or.inl hq)
    · rcases List.mem_cons.1 hq with rfl | hq
      · have hl : q < (W3.setCell ⟨g, 0, none⟩ (.slice (some ⟨q, 0, none⟩) (B.ps.length + 1) c3)).heap.size := Nat.lt_of_lt_of_le (hO.block q rfl).2.1 hs4.size
        rcases hN with e | e
        · exact Or.inl (h.inV q e)
        · right; refine ⟨?_, hl⟩; rw [e]; exact Nat.le_trans b1.size (Nat.le_trans hc2'.size bV.size)
      · exact Or.inl hq
  have hR2 : (Instr.mapUpdate TNi (.map (some M)) (.string t) (.int .i64 (B.ps.length : Int))).run Try.prog W1.drew.drew = .ok () W2 := hr2
  have hll : B.ps.length < 1000 := hlen
  clear h b1 x1 h1 h2 hM2 hc2 hx2 hb2 hbx hrow2 hr2 hlen
  have HZ := hid hzl
  clear hzl
  generalize B.ps.length = len at *
  go_enter Try.func33, Try.ntmps33
  go_wp2_with fail
  refine wp_region_held_drew (S := fun W => W.cell? ⟨g, 1, none⟩ = some (.map (some M)) ∧ W.cell? ⟨w.heap.size, 1, none⟩ = some (.string t) ∧ (Instr.lookup TNi (.map (some M)) (.string t) true).run Try.prog W = .ok (.tuple #[.int .i64 0, .bool false]) W) (by kernel_rfl) (⟨c1, y1, HL.out _ (Below.refl _ W1).drew⟩) (fun hHeld => ?_)
  refine wpAnyH_take (i := 0) (oi := { dst := some 8, op := Op.move (Operand.tmp 0), type := 23, pos := "deeds.go:91", after := #[], guard := none }) (v := ?_) rfl (by kernel_rfl) (by kernel_rfl) (by kernel_rfl) (fun _ _ _ h => h) (Or.inl ⟨by rfl, ?_⟩) hHeld ?_
  rotate_left
  · intro w hSw; (try dsimp only at hSw); go_simp; try with_reducible rfl
  try simp only [Act.put, List.setIfInBounds_toArray, List.set_cons_zero, List.set_cons_succ]
  refine wpAnyH_take (i := 1) (oi := { dst := some 9, op := Op.nilCheck (Operand.tmp 8), type := 0, pos := "deeds.go:91", after := #[{ on := 0, ground := Ground.data }], guard := none }) (v := ?_) rfl (by kernel_rfl) (by kernel_rfl) (by kernel_rfl) (fun _ _ _ h => h) (Or.inl ⟨by rfl, ?_⟩) hHeld ?_
  rotate_left
  · intro w hSw; (try dsimp only at hSw); go_simp; try with_reducible rfl
  try simp only [Act.put, List.setIfInBounds_toArray, List.set_cons_zero, List.set_cons_succ]
  refine wpAnyH_take (i := 2) (oi := { dst := some 10, op := Op.fieldAddr 52 (Operand.tmp 9) 1, type := 0, pos := "deeds.go:91", after := #[{ on := 1, ground := Ground.data }], guard := none }) (v := ?_) rfl (by kernel_rfl) (by kernel_rfl) (by kernel_rfl) (fun _ _ _ h => h) (Or.inl ⟨by rfl, ?_⟩) hHeld ?_
  rotate_left
  · intro w hSw; (try dsimp only at hSw); go_simp; try with_reducible rfl
  try simp only [Act.put, List.setIfInBounds_toArray, List.set_cons_zero, List.set_cons_succ]
  refine wpAnyH_take (i := 3) (oi := { dst := some 11, op := Op.load 49 (Operand.tmp 10), type := 49, pos := "deeds.go:91", after := #[{ on := 2, ground := Ground.data }], guard := none }) (v := ?_) rfl (by kernel_rfl) (by kernel_rfl) (by kernel_rfl) (fun _ _ _ h => h) (Or.inl ⟨by rfl, ?_⟩) hHeld ?_
  rotate_left
  · intro w hSw; (try dsimp only at hSw); go_simp; try with_reducible rfl
  try simp only [Act.put, List.setIfInBounds_toArray, List.set_cons_zero, List.set_cons_succ]
  refine wpAnyH_take (i := 4) (oi := { dst := some 12, op := Op.fieldAddr 30 (Operand.tmp 3) 1, type := 0, pos := "deeds.go:91", after := #[], guard := none }) (v := ?_) rfl (by kernel_rfl) (by kernel_rfl) (by kernel_rfl) (fun _ _ _ h => h) (Or.inl ⟨by rfl, ?_⟩) hHeld ?_
  rotate_left
  · intro w hSw; (try dsimp only at hSw); go_simp; try with_reducible rfl
  try simp only [Act.put, List.setIfInBounds_toArray, List.set_cons_zero, List.set_cons_succ]
  refine wpAnyH_take (i := 5) (oi := { dst := some 13, op := Op.load 9 (Operand.tmp 12), type := 9, pos := "deeds.go:91", after := #[{ on := 4, ground := Ground.data }], guard := none }) (v := ?_) rfl (by kernel_rfl) (by kernel_rfl) (by kernel_rfl) (fun _ _ _ h => h) (Or.inl ⟨by rfl, ?_⟩) hHeld ?_
  rotate_left
  · intro w hSw; (try dsimp only at hSw); go_simp; try with_reducible rfl
  try simp only [Act.put, List.setIfInBounds_toArray, List.set_cons_zero, List.set_cons_succ]
  refine wpAnyH_take (i := 6) (oi := { dst := some 14, op := Op.lookup 49 (Operand.tmp 11) (Operand.tmp 13) true, type := 89, pos := "deeds.go:91", after := #[{ on := 3, ground := Ground.data }, { on := 5, ground := Ground.data }], guard := none }) (v := ?_) rfl (by kernel_rfl) (by kernel_rfl) (by kernel_rfl) (fun _ _ _ h => h) (Or.inl ⟨by rfl, ?_⟩) hHeld ?_
  rotate_left
  · intro w hSw; (try dsimp only at hSw); go_simp; try with_reducible rfl
  try simp only [Act.put, List.setIfInBounds_toArray, List.set_cons_zero, List.set_cons_succ]
  refine wpAnyH_take (i := 7) (oi := { dst := some 7, op := Op.move (Operand.tmp 14), type := 89, pos := "deeds.go:91", after := #[{ on := 6, ground := Ground.data }], guard := none }) (v := ?_) rfl (by kernel_rfl) (by kernel_rfl) (by kernel_rfl) (fun _ _ _ h => h) (Or.inl ⟨by rfl, ?_⟩) hHeld ?_
  rotate_left
  · intro w hSw; (try dsimp only at hSw); go_simp; try with_reducible rfl
  try simp only [Act.put, List.setIfInBounds_toArray, List.set_cons_zero, List.set_cons_succ]
  refine wpAnyH_take (i := 8) (oi := { dst := some 15, op := Op.extract (Operand.tmp 7) 0, type := 3, pos := "deeds.go:91", after := #[{ on := 7, ground := Ground.data }], guard := none }) (v := ?_) rfl (by kernel_rfl) (by kernel_rfl) (by kernel_rfl) (fun _ _ _ h => h) (Or.inl ⟨by rfl, ?_⟩) hHeld ?_
  rotate_left
  · intro w hSw; (try dsimp only at hSw); go_simp; try with_reducible rfl
  try simp only [Act.put, List.setIfInBounds_toArray, List.set_cons_zero, List.set_cons_succ]
  refine wpAnyH_take (i := 9) (oi := { dst := some 16, op := Op.extract (Operand.tmp 7) 1, type := 4, pos := "deeds.go:91", after := #[{ on := 7, ground := Ground.data }, { on := 10, ground := Ground.gcOnly Departure.lateStores }], guard := none }) (v := ?_) rfl (by kernel_rfl) (by kernel_rfl) (by kernel_rfl) (fun _ _ _ h => h) (Or.inl ⟨by rfl, ?_⟩) hHeld ?_
  rotate_left
  · intro w hSw; (try dsimp only at hSw); go_simp; try with_reducible rfl
  try simp only [Act.put, List.setIfInBounds_toArray, List.set_cons_zero, List.set_cons_succ]
  refine wpAnyH_take (i := 10) (oi := { dst := some 4, op := Op.assign (Operand.tmp 15), type := 3, pos := "deeds.go:91", after := #[{ on := 8, ground := Ground.data }, { on := 0, ground := Ground.phase }, { on := 1, ground := Ground.phase }, { on := 2, ground := Ground.phase }, { on := 3, ground := Ground.phase }, { on := 4, ground := Ground.phase }, { on := 5, ground := Ground.phase }, { on := 6, ground := Ground.phase }, { on := 7, ground := Ground.phase }, { on := 8, ground := Ground.phase }, { on := 9, ground := Ground.textOnly Departure.lateStores }], guard := none }) (v := ?_) rfl (by kernel_rfl) (by kernel_rfl) (by kernel_rfl) (fun _ _ _ h => h) (Or.inl ⟨by rfl, ?_⟩) hHeld ?_
  rotate_left
  · intro w hSw; (try dsimp only at hSw); go_simp; try with_reducible rfl
  try simp only [Act.put, List.setIfInBounds_toArray, List.set_cons_zero, List.set_cons_succ]
  refine wpAnyH_take (i := 11) (oi := { dst := some 5, op := Op.assign (Operand.tmp 16), type := 4, pos := "deeds.go:91", after := #[{ on := 9, ground := Ground.data }, { on := 10, ground := Ground.chain }, { on := 0, ground := Ground.phase }, { on := 1, ground := Ground.phase }, { on := 2, ground := Ground.phase }, { on := 3, ground := Ground.phase }, { on := 4, ground := Ground.phase }, { on := 5, ground := Ground.phase }, { on := 6, ground := Ground.phase }, { on := 7, ground := Ground.phase }, { on := 8, ground := Ground.phase }, { on := 9, ground := Ground.phase }, { on := 10, ground := Ground.phase }], guard := none }) (v := ?_) rfl (by kernel_rfl) (by kernel_rfl) (by kernel_rfl) (fun _ _ _ h => h) (Or.inl ⟨by rfl, ?_⟩) hHeld ?_
  rotate_left
  · intro w hSw; (try dsimp only at hSw); go_simp; try with_reducible rfl
  try simp only [Act.put, List.setIfInBounds_toArray, List.set_cons_zero, List.set_cons_succ]
  refine wpAnyH_done (by kernel_rfl) ?_ _
  clear hHeld
  go_wp2_with fail
  refine wp_region_held_drew (S := fun W => W.cell? ⟨g, 0, none⟩ = some (.slice ad len cap) ∧ W.cell? ⟨g, 1, none⟩ = some (.map (some M)) ∧ W.cell? ⟨w.heap.size, 1, none⟩ = some (.string t)) (by kernel_rfl) (⟨c0, c1, y1⟩) (fun hHeld => ?_)
  refine wpAnyH_take (i := 0) (oi := { dst := some 19, op := Op.move (Operand.tmp 0), type := 23, pos := "deeds.go:93", after := #[], guard := none }) (v := ?_) rfl (by kernel_rfl) (by kernel_rfl) (by kernel_rfl) (fun _ _ _ h => h) (Or.inl ⟨by rfl, ?_⟩) hHeld ?_
  rotate_left
  · intro w hSw; (try dsimp only at hSw); go_simp; try with_reducible rfl
  try simp only [Act.put, List.setIfInBounds_toArray, List.set_cons_zero, List.set_cons_succ]
  refine wpAnyH_take (i := 1) (oi := { dst := some 20, op := Op.nilCheck (Operand.tmp 19), type := 0, pos := "deeds.go:93", after := #[{ on := 0, ground := Ground.data }], guard := none }) (v := ?_) rfl (by kernel_rfl) (by kernel_rfl) (by kernel_rfl) (fun _ _ _ h => h) (Or.inl ⟨by rfl, ?_⟩) hHeld ?_
  rotate_left
  · intro w hSw; (try dsimp only at hSw); go_simp; try with_reducible rfl
  try simp only [Act.put, List.setIfInBounds_toArray, List.set_cons_zero, List.set_cons_succ]
  refine wpAnyH_take (i := 2) (oi := { dst := some 21, op := Op.fieldAddr 52 (Operand.tmp 20) 1, type := 0, pos := "deeds.go:93", after := #[{ on := 1, ground := Ground.data }], guard := none }) (v := ?_) rfl (by kernel_rfl) (by kernel_rfl) (by kernel_rfl) (fun _ _ _ h => h) (Or.inl ⟨by rfl, ?_⟩) hHeld ?_
  rotate_left
  · intro w hSw; (try dsimp only at hSw); go_simp; try with_reducible rfl
  try simp only [Act.put, List.setIfInBounds_toArray, List.set_cons_zero, List.set_cons_succ]
  refine wpAnyH_take (i := 3) (oi := { dst := some 22, op := Op.load 49 (Operand.tmp 21), type := 49, pos := "deeds.go:93", after := #[{ on := 2, ground := Ground.data }], guard := none }) (v := ?_) rfl (by kernel_rfl) (by kernel_rfl) (by kernel_rfl) (fun _ _ _ h => h) (Or.inl ⟨by rfl, ?_⟩) hHeld ?_
  rotate_left
  · intro w hSw; (try dsimp only at hSw); go_simp; try with_reducible rfl
  try simp only [Act.put, List.setIfInBounds_toArray, List.set_cons_zero, List.set_cons_succ]
  refine wpAnyH_take (i := 4) (oi := { dst := some 23, op := Op.fieldAddr 30 (Operand.tmp 3) 1, type := 0, pos := "deeds.go:93", after := #[], guard := none }) (v := ?_) rfl (by kernel_rfl) (by kernel_rfl) (by kernel_rfl) (fun _ _ _ h => h) (Or.inl ⟨by rfl, ?_⟩) hHeld ?_
  rotate_left
  · intro w hSw; (try dsimp only at hSw); go_simp; try with_reducible rfl
  try simp only [Act.put, List.setIfInBounds_toArray, List.set_cons_zero, List.set_cons_succ]
  refine wpAnyH_take (i := 5) (oi := { dst := some 24, op := Op.load 9 (Operand.tmp 23), type := 9, pos := "deeds.go:93", after := #[{ on := 4, ground := Ground.data }], guard := none }) (v := ?_) rfl (by kernel_rfl) (by kernel_rfl) (by kernel_rfl) (fun _ _ _ h => h) (Or.inl ⟨by rfl, ?_⟩) hHeld ?_
  rotate_left
  · intro w hSw; (try dsimp only at hSw); go_simp; try with_reducible rfl
  try simp only [Act.put, List.setIfInBounds_toArray, List.set_cons_zero, List.set_cons_succ]
  refine wpAnyH_take (i := 6) (oi := { dst := some 25, op := Op.move (Operand.tmp 0), type := 23, pos := "deeds.go:93", after := #[], guard := none }) (v := ?_) rfl (by kernel_rfl) (by kernel_rfl) (by kernel_rfl) (fun _ _ _ h => h) (Or.inl ⟨by rfl, ?_⟩) hHeld ?_
  rotate_left
  · intro w hSw; (try dsimp only at hSw); go_simp; try with_reducible rfl
  try simp only [Act.put, List.setIfInBounds_toArray, List.set_cons_zero, List.set_cons_succ]
  refine wpAnyH_take (i := 7) (oi := { dst := some 26, op := Op.nilCheck (Operand.tmp 25), type := 0, pos := "deeds.go:93", after := #[{ on := 6, ground := Ground.data }], guard := none }) (v := ?_) rfl (by kernel_rfl) (by kernel_rfl) (by kernel_rfl) (fun _ _ _ h => h) (Or.inl ⟨by rfl, ?_⟩) hHeld ?_
  rotate_left
  · intro w hSw; (try dsimp only at hSw); go_simp; try with_reducible rfl
  try simp only [Act.put, List.setIfInBounds_toArray, List.set_cons_zero, List.set_cons_succ]
  refine wpAnyH_take (i := 8) (oi := { dst := some 27, op := Op.fieldAddr 52 (Operand.tmp 26) 0, type := 0, pos := "deeds.go:93", after := #[{ on := 7, ground := Ground.data }], guard := none }) (v := ?_) rfl (by kernel_rfl) (by kernel_rfl) (by kernel_rfl) (fun _ _ _ h => h) (Or.inl ⟨by rfl, ?_⟩) hHeld ?_
  rotate_left
  · intro w hSw; (try dsimp only at hSw); go_simp; try with_reducible rfl
  try simp only [Act.put, List.setIfInBounds_toArray, List.set_cons_zero, List.set_cons_succ]
  refine wpAnyH_take (i := 9) (oi := { dst := some 28, op := Op.load 50 (Operand.tmp 27), type := 50, pos := "deeds.go:93", after := #[{ on := 8, ground := Ground.data }], guard := none }) (v := ?_) rfl (by kernel_rfl) (by kernel_rfl) (by kernel_rfl) (fun _ _ _ h => h) (Or.inl ⟨by rfl, ?_⟩) hHeld ?_
  rotate_left
  · intro w hSw; (try dsimp only at hSw); go_simp; try with_reducible rfl
  try simp only [Act.put, List.setIfInBounds_toArray, List.set_cons_zero, List.set_cons_succ]
  refine wpAnyH_take (i := 10) (oi := { dst := some 29, op := Op.call { callee := Callee.builtin Builtin.len, args := #[Operand.tmp 28], argTypes := #[50] }, type := 3, pos := "deeds.go:93", after := #[{ on := 9, ground := Ground.data }], guard := none }) (v := ?_) rfl (by kernel_rfl) (by kernel_rfl) (by kernel_rfl) (fun _ _ _ h => h) (Or.inl ⟨by rfl, ?_⟩) hHeld ?_
  rotate_left
  · intro w hSw; (try dsimp only at hSw); go_simp; try with_reducible rfl
  try simp only [Act.put, List.setIfInBounds_toArray, List.set_cons_zero, List.set_cons_succ]
  refine wpAnyH_ready (rs := [11]) (by kernel_rfl) (by simp) ?_
  refine AllReadyH.cons rfl (fun K hK => ?_) (AllReadyH.nil)
  go_simp
  refine hK.out _ _ (HS2.out) (fun hHeld => ?_)
  clear hK K
  try simp only [Act.put, List.setIfInBounds_toArray, List.set_cons_zero, List.set_cons_succ]
  refine wpAnyH_done (by kernel_rfl) ?_ _
  clear hHeld
  go_wp2_with fail
  refine wp_region_held_drew (S := fun W => W.cell? ⟨w.heap.size, 5, none⟩ = some (.int .i64 d)) (by kernel_rfl) (HX.out _ (Below.refl _ W2).drew) (fun hHeld => ?_)
  refine wpAnyH_take (i := 0) (oi := { dst := some 30, op := Op.move (Operand.tmp 0), type := 23, pos := "deeds.go:94", after := #[], guard := none }) (v := ?_) rfl (by kernel_rfl) (by kernel_rfl) (by kernel_rfl) (fun _ _ _ h => h) (Or.inl ⟨by rfl, ?_⟩) hHeld ?_
  rotate_left
  · intro w hSw; (try dsimp only at hSw); go_simp; try with_reducible rfl
  try simp only [Act.put, List.setIfInBounds_toArray, List.set_cons_zero, List.set_cons_succ]
  refine wpAnyH_take (i := 1) (oi := { dst := some 31, op := Op.move (Operand.tmp 0), type := 23, pos := "deeds.go:94", after := #[], guard := none }) (v := ?_) rfl (by kernel_rfl) (by kernel_rfl) (by kernel_rfl) (fun _ _ _ h => h) (Or.inl ⟨by rfl, ?_⟩) hHeld ?_
  rotate_left
  · intro w hSw; (try dsimp only at hSw); go_simp; try with_reducible rfl
  try simp only [Act.put, List.setIfInBounds_toArray, List.set_cons_zero, List.set_cons_succ]
  refine wpAnyH_take (i := 2) (oi := { dst := some 32, op := Op.nilCheck (Operand.tmp 31), type := 0, pos := "deeds.go:94", after := #[{ on := 1, ground := Ground.data }], guard := none }) (v := ?_) rfl (by kernel_rfl) (by kernel_rfl) (by kernel_rfl) (fun _ _ _ h => h) (Or.inl ⟨by rfl, ?_⟩) hHeld ?_
  rotate_left
  · intro w hSw; (try dsimp only at hSw); go_simp; try with_reducible rfl
  try simp only [Act.put, List.setIfInBounds_toArray, List.set_cons_zero, List.set_cons_succ]
  refine wpAnyH_take (i := 3) (oi := { dst := some 33, op := Op.fieldAddr 52 (Operand.tmp 32) 0, type := 0, pos := "deeds.go:94", after := #[{ on := 2, ground := Ground.data }], guard := none }) (v := ?_) rfl (by kernel_rfl) (by kernel_rfl) (by kernel_rfl) (fun _ _ _ h => h) (Or.inl ⟨by rfl, ?_⟩) hHeld ?_
  rotate_left
  · intro w hSw; (try dsimp only at hSw); go_simp; try with_reducible rfl
  try simp only [Act.put, List.setIfInBounds_toArray, List.set_cons_zero, List.set_cons_succ]
  refine wpAnyH_take (i := 5) (oi := { dst := some 35, op := Op.fieldAddr 30 (Operand.tmp 3) 5, type := 0, pos := "deeds.go:94", after := #[], guard := none }) (v := ?_) rfl (by kernel_rfl) (by kernel_rfl) (by kernel_rfl) (fun _ _ _ h => h) (Or.inl ⟨by rfl, ?_⟩) hHeld ?_
  rotate_left
  · intro w hSw; (try dsimp only at hSw); go_simp; try with_reducible rfl
  try simp only [Act.put, List.setIfInBounds_toArray, List.set_cons_zero, List.set_cons_succ]
  refine wpAnyH_take (i := 6) (oi := { dst := some 36, op := Op.load 3 (Operand.tmp 35), type := 3, pos := "deeds.go:94", after := #[{ on := 5, ground := Ground.data }], guard := none }) (v := ?_) rfl (by kernel_rfl) (by kernel_rfl) (by kernel_rfl) (fun _ _ _ h => h) (Or.inl ⟨by rfl, ?_⟩) hHeld ?_
  rotate_left
  · intro w hSw; (try dsimp only at hSw); go_simp; try with_reducible rfl
  try simp only [Act.put, List.setIfInBounds_toArray, List.set_cons_zero, List.set_cons_succ]
  refine wpAnyH_take (i := 7) (oi := { dst := some 37, op := Op.build 71 #[(0, Operand.tmp 36)], type := 71, pos := "deeds.go:94", after := #[{ on := 6, ground := Ground.data }], guard := none }) (v := .agg #[.int .i64 d, .int .i64 0, .int .i64 0, .int .i64 0, .slice none 0 0]) rfl (by kernel_rfl) (by kernel_rfl) (by kernel_rfl) (fun _ _ _ h => h) (Or.inl ⟨by rfl, ?_⟩) hHeld ?_
  · intro w hSw; go_simp; try with_reducible rfl
  try simp only [Act.put, List.setIfInBounds_toArray, List.set_cons_zero, List.set_cons_succ]
  refine wpAnyH_ready (rs := [4, 8]) (by kernel_rfl) (by simp) ?_
  refine AllReadyH.cons rfl (fun K hK => ?_) (AllReadyH.cons rfl (fun K hK => ?_) (AllReadyH.nil))
  · skip
    have q0 := HL5.out W2.drew (Below.refl _ W2).drew
    go_simp
    clear q0
    refine hK.out _ _ (HX.out _ (Below.refl _ W2).drew) (fun hHeld => ?_)
    clear hK K
    try simp only [Act.put, List.setIfInBounds_toArray, List.set_cons_zero, List.set_cons_succ]
    refine wpAnyH_ready (rs := [8]) (by kernel_rfl) (by simp) ?_
    refine AllReadyH.cons rfl (fun K hK => ?_) (AllReadyH.nil)
    go_simp
    refine hK.out _ _ (HX.out _ ((Below.refl _ W2).alloc (Nat.le_refl _) (.cells #[.int .i64 d, .int .i64 0, .int .i64 0, .int .i64 0, .slice none 0 0] TPr)).drew) (fun hHeld => ?_)
    clear hK K
    try simp only [Act.put, List.setIfInBounds_toArray, List.set_cons_zero, List.set_cons_succ]
    refine wpAnyH_ready (rs := [9]) (by kernel_rfl) (by simp) ?_
    refine AllReadyH.cons rfl (fun K hK => ?_) (AllReadyH.nil)
    refine step_app_kd kPr_ok (by rfl) (.tmp 34) (.tmp 38) (by rfl) 0 (.slice ad len cap) Z (by rfl) (HOp.out _ ((Below.refl _ W2).alloc (Nat.le_refl _) (.cells #[.int .i64 d, .int .i64 0, .int .i64 0, .int .i64 0, .slice none 0 0] TPr)).drew) W2.heap.size ((⟨d, 0, 0, 0, []⟩ : Pr), sl0) (by rfl) (pr_row W2 d) hga.1 hga.2 (Nat.zero_le _) ?_
    intro b3 c3 W3 hO3 hG3 hN3
    obtain ⟨s1, ⟨q5, f5⟩, s4, hf5⟩ := HFn.out b3 c3 W3 (by rw [HZ.out] at hO3; exact hO3) hG3 hN3
    have HF5 := hid hf5
    have HS4 := hid s4
    clear hf5 s4 hO3 hG3 hN3
    rw [HZ.out]
    refine hK.out _ _ (s1) (fun hHeld => ?_)
    clear hK K
    refine wpAnyH_take (i := 10) (oi := { dst := some 40, op := Op.nilCheck (Operand.tmp 30), type := 0, pos := "deeds.go:94", after := #[{ on := 0, ground := Ground.data }, { on := 0, ground := Ground.phase }, { on := 1, ground := Ground.phase }, { on := 2, ground := Ground.phase }, { on := 3, ground := Ground.phase }, { on := 4, ground := Ground.phase }, { on := 5, ground := Ground.phase }, { on := 6, ground := Ground.phase }, { on := 7, ground := Ground.phase }, { on := 8, ground := Ground.phase }, { on := 9, ground := Ground.phase }], guard := none }) (v := ?_) rfl (by kernel_rfl) (by kernel_rfl) (by kernel_rfl) (fun _ _ _ h => h) (Or.inl ⟨by rfl, ?_⟩) hHeld ?_
    rotate_left
    · intro w hSw; (try dsimp only at hSw); go_simp; try with_reducible rfl
    refine wpAnyH_take (i := 11) (oi := { dst := some 41, op := Op.fieldAddr 52 (Operand.tmp 40) 0, type := 0, pos := "deeds.go:94", after := #[{ on := 10, ground := Ground.data }, { on := 0, ground := Ground.phase }, { on := 1, ground := Ground.phase }, { on := 2, ground := Ground.phase }, { on := 3, ground := Ground.phase }, { on := 4, ground := Ground.phase }, { on := 5, ground := Ground.phase }, { on := 6, ground := Ground.phase }, { on := 7, ground := Ground.phase }, { on := 8, ground := Ground.phase }, { on := 9, ground := Ground.phase }], guard := none }) (v := ?_) rfl (by kernel_rfl) (by kernel_rfl) (by kernel_rfl) (fun _ _ _ h => h) (Or.inl ⟨by rfl, ?_⟩) hHeld ?_
    rotate_left
    · intro w hSw; (try dsimp only at hSw); go_simp; try with_reducible rfl
    refine wpAnyH_ready (rs := [12]) (by kernel_rfl) (by simp) ?_
    refine AllReadyH.cons rfl (fun K hK => ?_) (AllReadyH.nil)
    go_simp
    refine hK.out _ _ (HS4.out) (fun hHeld => ?_)
    clear hK K
    refine wpAnyH_done (by kernel_rfl) ?_ _
    clear hHeld q5 f5
    go_wp2_with fail
    refine bodyPost_ret (results_none rfl _ _ _) rfl ?_
    exact ⟨rfl, HF5.out⟩
  · skip
    go_simp
    refine hK.out _ _ (HX.out _ ((Below.refl _ W2).alloc (Nat.le_refl _) (.cells #[.int .i64 d, .int .i64 0, .int .i64 0, .int .i64 0, .slice none 0 0] TPr)).drew) (fun hHeld => ?_)
    clear hK K
    try simp only [Act.put, List.setIfInBounds_toArray, List.set_cons_zero, List.set_cons_succ]
    refine wpAnyH_ready (rs := [4]) (by kernel_rfl) (by simp) ?_
    refine AllReadyH.cons rfl (fun K hK => ?_) (AllReadyH.nil)
    have q0 := HL5.out (W2.alloc (.cells #[.int .i64 d, .int .i64 0, .int .i64 0, .int .i64 0, .slice none 0 0] TPr)).drew ((Below.refl _ W2).alloc (Nat.le_refl _) (.cells #[.int .i64 d, .int .i64 0, .int .i64 0, .int .i64 0, .slice none 0 0] TPr)).drew
    go_simp
    clear q0
    refine hK.out _ _ (HX.out _ ((Below.refl _ W2).alloc (Nat.le_refl _) (.cells #[.int .i64 d, .int .i64 0, .int .i64 0, .int .i64 0, .slice none 0 0] TPr)).drew) (fun hHeld => ?_)
    clear hK K
    try simp only [Act.put, List.setIfInBounds_toArray, List.set_cons_zero, List.set_cons_succ]
    refine wpAnyH_ready (rs := [9]) (by kernel_rfl) (by simp) ?_
    refine AllReadyH.cons rfl (fun K hK => ?_) (AllReadyH.nil)
    refine step_app_kd kPr_ok (by rfl) (.tmp 34) (.tmp 38) (by rfl) 0 (.slice ad len cap) Z (by rfl) (HOp.out _ ((Below.refl _ W2).alloc (Nat.le_refl _) (.cells #[.int .i64 d, .int .i64 0, .int .i64 0, .int .i64 0, .slice none 0 0] TPr)).drew) W2.heap.size ((⟨d, 0, 0, 0, []⟩ : Pr), sl0) (by rfl) (pr_row W2 d) hga.1 hga.2 (Nat.zero_le _) ?_
    intro b3 c3 W3 hO3 hG3 hN3
    obtain ⟨s1, ⟨q5, f5⟩, s4, hf5⟩ := HFn.out b3 c3 W3 (by rw [HZ.out] at hO3; exact hO3) hG3 hN3
    have HF5 := hid hf5
    have HS4 := hid s4
    clear hf5 s4 hO3 hG3 hN3
    rw [HZ.out]
    refine hK.out _ _ (s1) (fun hHeld => ?_)
    clear hK K
    refine wpAnyH_take (i := 10) (oi := { dst := some 40, op := Op.nilCheck (Operand.tmp 30), type := 0, pos := "deeds.go:94", after := #[{ on := 0, ground := Ground.data }, { on := 0, ground := Ground.phase }, { on := 1, ground := Ground.phase }, { on := 2, ground := Ground.phase }, { on := 3, ground := Ground.phase }, { on := 4, ground := Ground.phase }, { on := 5, ground := Ground.phase }, { on := 6, ground := Ground.phase }, { on := 7, ground := Ground.phase }, { on := 8, ground := Ground.phase }, { on := 9, ground := Ground.phase }], guard := none }) (v := ?_) rfl (by kernel_rfl) (by kernel_rfl) (by kernel_rfl) (fun _ _ _ h => h) (Or.inl ⟨by rfl, ?_⟩) hHeld ?_
    rotate_left
    · intro w hSw; (try dsimp only at hSw); go_simp; try with_reducible rfl
    refine wpAnyH_take (i := 11) (oi := { dst := some 41, op := Op.fieldAddr 52 (Operand.tmp 40) 0, type := 0, pos := "deeds.go:94", after := #[{ on := 10, ground := Ground.data }, { on := 0, ground := Ground.phase }, { on := 1, ground := Ground.phase }, { on := 2, ground := Ground.phase }, { on := 3, ground := Ground.phase }, { on := 4, ground := Ground.phase }, { on := 5, ground := Ground.phase }, { on := 6, ground := Ground.phase }, { on := 7, ground := Ground.phase }, { on := 8, ground := Ground.phase }, { on := 9, ground := Ground.phase }], guard := none }) (v := ?_) rfl (by kernel_rfl) (by kernel_rfl) (by kernel_rfl) (fun _ _ _ h => h) (Or.inl ⟨by rfl, ?_⟩) hHeld ?_
    rotate_left
    · intro w hSw; (try dsimp only at hSw); go_simp; try with_reducible rfl
    refine wpAnyH_ready (rs := [12]) (by kernel_rfl) (by simp) ?_
    refine AllReadyH.cons rfl (fun K hK => ?_) (AllReadyH.nil)
    go_simp
    refine hK.out _ _ (HS4.out) (fun hHeld => ?_)
    clear hK K
    refine wpAnyH_done (by kernel_rfl) ?_ _
    clear hHeld q5 f5
    go_wp2_with fail
    refine bodyPost_ret (results_none rfl _ _ _) rfl ?_
    exact ⟨rfl, HF5.out⟩
end Go.Proofs.Yteogogmmnijagaa
