/- What events do to a book: grant of a known name, add, end, marked (by gengrant16.py, regs.py). -/
import Derived.Test.YteogogmmnijagaaTAsk
namespace Go.Proofs.Yteogogmmnijagaa
open Go.RowKit
variable {w w' : World} {F : List Nat} {g M pb m c i : Nat} {v : Value} {Z : List (Pr × Sl)} {B : Bk}

/-- What a deed leaves. -/
def DMv (w w' : World) (F : List Nat) (g : Nat) (B : Bk) : Prop := ∃ F', (∃ M v Z, BP w' F' g M v Z B) ∧ Chg F w w' ∧ ∀ b ∈ F', b ∈ F ∨ (w.heap.size ≤ b ∧ b < w'.heap.size)
theorem PMv.deed (h : PMv w w' F g M v B) : DMv w w' F g B := by
  obtain ⟨F', Z', a, b, d⟩ := h
  exact ⟨F', ⟨M, v, Z', a⟩, b, d⟩
theorem PMv.after {w0 : World} (hb : Below w0.heap.size w0 w) (h : PMv w w' F g M v B) : PMv w0 w' F g M v B := PMv.trans (Chg.of hb) h
set_option maxRecDepth 20000 in
set_option maxHeartbeats 1000000 in
theorem add_deed (h : BP w F g M v Z B) (hF : ∀ b ∈ F, b < w.heap.size) (hB : BkOk B) (x : Ev) (hi : i < B.ps.length) (hx : x.prod = (i : Int)) : Calls Try.prog 34 #[.pointer (some ⟨g, 0, none⟩), .agg (evA x)] w fun e w' => e = .returned (.tuple #[]) ∧ DMv w w' F g (B.upd i ((B.at i).add x.place x.now)) := by
  obtain ⟨pb, c, rfl, -⟩ := h.form (Nat.lt_of_le_of_lt (Nat.zero_le _) hi)
  obtain ⟨k, nm, a, b, cc, d, e, q⟩ := x
  dsimp only [Ev.kind, Ev.name, Ev.prod, Ev.ep, Ev.place, Ev.tmo, Ev.now, Ev.yes] at *
  show Calls Try.prog 34 #[.pointer (some ⟨g, 0, none⟩), .agg #[.int .i64 k, .string (nmS nm), .int .i64 a, .int .i64 b, .int .i64 cc, .int .i64 d, .int .i64 e, .bool q]] w fun r w' => r = .returned (.tuple #[]) ∧ DMv w w' F g (B.upd i ((B.at i).add cc e))
  obtain ⟨t, ht⟩ : ∃ t, nmS nm = t := ⟨_, rfl⟩
  rw [ht]
  obtain ⟨W1, hW1⟩ : ∃ W1, w.alloc (.cells #[.int .i64 k, .string t, .int .i64 a, .int .i64 b, .int .i64 cc, .int .i64 d, .int .i64 e, .bool q] TEv) = W1 := ⟨_, rfl⟩
  have b1 : Below w.heap.size w W1 := by rw [← hW1]; exact (Below.refl _ _).alloc (Nat.le_refl _) _
  have x1 : Blk W1 w.heap.size #[.int .i64 k, .string t, .int .i64 a, .int .i64 b, .int .i64 cc, .int .i64 d, .int .i64 e, .bool q] TEv := by rw [← hW1]; exact heap_alloc_new w _
  have HB1 := hid b1
  have y0 : W1.cell? ⟨w.heap.size, 0, none⟩ = some (.int .i64 k) := x1.cell 0
  have y1 : W1.cell? ⟨w.heap.size, 1, none⟩ = some (.string t) := x1.cell 1
  have y2 : W1.cell? ⟨w.heap.size, 2, none⟩ = some (.int .i64 a) := x1.cell 2
  have y3 : W1.cell? ⟨w.heap.size, 3, none⟩ = some (.int .i64 b) := x1.cell 3
  have y4 : W1.cell? ⟨w.heap.size, 4, none⟩ = some (.int .i64 cc) := x1.cell 4
  have y5 : W1.cell? ⟨w.heap.size, 5, none⟩ = some (.int .i64 d) := x1.cell 5
  have y6 : W1.cell? ⟨w.heap.size, 6, none⟩ = some (.int .i64 e) := x1.cell 6
  have y7 : W1.cell? ⟨w.heap.size, 7, none⟩ = some (.bool q) := x1.cell 7
  subst hx
  have h1 := h.later b1
  have c0 : W1.cell? ⟨g, 0, none⟩ = some (.slice (some ⟨pb, 0, none⟩) B.ps.length c) := h1.box.cell 0
  have hF1 : ∀ b ∈ F, b < W1.heap.size := fun b hb => Nat.lt_of_lt_of_le (hF b hb) b1.size
  have HC : Hid (Calls Try.prog 51 #[Ptr pb i, .int .i64 cc, .int .i64 e] W1.drew fun r w' => r = .returned (.tuple #[]) ∧ PMv W1.drew w' F g M (.slice (some ⟨pb, 0, none⟩) B.ps.length c) (B.upd i ((B.at i).add cc e))) := by
    exact add_any (h1.later (Below.refl _ W1).drew) hF1 hB hi cc e
  have HS2 : Hid (∀ W, PMv W1.drew W F g M (.slice (some ⟨pb, 0, none⟩) B.ps.length c) (B.upd i ((B.at i).add cc e)) → W.cell? ⟨g, 0, none⟩ = some (.slice (some ⟨pb, 0, none⟩) B.ps.length c) ∧ W.cell? ⟨w.heap.size, 2, none⟩ = some (.int .i64 (i : Int)) ∧ W.cell? ⟨w.heap.size, 4, none⟩ = some (.int .i64 cc) ∧ W.cell? ⟨w.heap.size, 6, none⟩ = some (.int .i64 e)) := fun W hh => by
    obtain ⟨F', Z', hb, hc, -⟩ := hh
    have hx2 := Blk.chg (w := W1.drew) x1 hc (fun hm => by have := hF _ hm; omega)
    exact ⟨hb.box.cell 0, hx2.cell 2, hx2.cell 4, hx2.cell 6⟩
  have HP : Hid (∀ w', PMv W1.drew w' F g M (.slice (some ⟨pb, 0, none⟩) B.ps.length c) (B.upd i ((B.at i).add cc e)) → DMv w w' F g (B.upd i ((B.at i).add cc e))) := fun w' hh => (PMv.after b1.drew hh).deed
  generalize B.upd i ((B.at i).add cc e) = B2 at *
  generalize B.ps.length = len at *
  clear x1 b1 h1 hF1 h
  go_enter Try.func34, Try.ntmps34
  go_wp2_with fail
  refine wp_region_held_drew (S := fun W => W.cell? ⟨g, 0, none⟩ = some (.slice (some ⟨pb, 0, none⟩) len c) ∧ W.cell? ⟨w.heap.size, 2, none⟩ = some (.int .i64 (i : Int)) ∧ W.cell? ⟨w.heap.size, 4, none⟩ = some (.int .i64 cc) ∧ W.cell? ⟨w.heap.size, 6, none⟩ = some (.int .i64 e)) (by kernel_rfl) (⟨c0, y2, y4, y6⟩) (fun hHeld => ?_)
  refine wpAnyH_take (i := 0) (oi := { dst := some 4, op := Op.move (Operand.tmp 0), type := 23, pos := "deeds.go:105", after := #[], guard := none }) (v := ?_) rfl (by kernel_rfl) (by kernel_rfl) (by kernel_rfl) (fun _ _ _ h => h) (Or.inl ⟨by rfl, ?_⟩) hHeld ?_
  rotate_left
  · intro w hSw; (try dsimp only at hSw); go_simp; try with_reducible rfl
  try simp only [Act.put, List.setIfInBounds_toArray, List.set_cons_zero, List.set_cons_succ]
  refine wpAnyH_take (i := 1) (oi := { dst := some 5, op := Op.nilCheck (Operand.tmp 4), type := 0, pos := "deeds.go:105", after := #[{ on := 0, ground := Ground.data }], guard := none }) (v := ?_) rfl (by kernel_rfl) (by kernel_rfl) (by kernel_rfl) (fun _ _ _ h => h) (Or.inl ⟨by rfl, ?_⟩) hHeld ?_
  rotate_left
  · intro w hSw; (try dsimp only at hSw); go_simp; try with_reducible rfl
  try simp only [Act.put, List.setIfInBounds_toArray, List.set_cons_zero, List.set_cons_succ]
  refine wpAnyH_take (i := 2) (oi := { dst := some 6, op := Op.fieldAddr 52 (Operand.tmp 5) 0, type := 0, pos := "deeds.go:105", after := #[{ on := 1, ground := Ground.data }], guard := none }) (v := ?_) rfl (by kernel_rfl) (by kernel_rfl) (by kernel_rfl) (fun _ _ _ h => h) (Or.inl ⟨by rfl, ?_⟩) hHeld ?_
  rotate_left
  · intro w hSw; (try dsimp only at hSw); go_simp; try with_reducible rfl
  try simp only [Act.put, List.setIfInBounds_toArray, List.set_cons_zero, List.set_cons_succ]
  refine wpAnyH_take (i := 3) (oi := { dst := some 7, op := Op.load 50 (Operand.tmp 6), type := 50, pos := "deeds.go:105", after := #[{ on := 2, ground := Ground.data }], guard := none }) (v := ?_) rfl (by kernel_rfl) (by kernel_rfl) (by kernel_rfl) (fun _ _ _ h => h) (Or.inl ⟨by rfl, ?_⟩) hHeld ?_
  rotate_left
  · intro w hSw; (try dsimp only at hSw); go_simp; try with_reducible rfl
  try simp only [Act.put, List.setIfInBounds_toArray, List.set_cons_zero, List.set_cons_succ]
  refine wpAnyH_take (i := 4) (oi := { dst := some 8, op := Op.fieldAddr 30 (Operand.tmp 3) 2, type := 0, pos := "deeds.go:105", after := #[], guard := none }) (v := ?_) rfl (by kernel_rfl) (by kernel_rfl) (by kernel_rfl) (fun _ _ _ h => h) (Or.inl ⟨by rfl, ?_⟩) hHeld ?_
  rotate_left
  · intro w hSw; (try dsimp only at hSw); go_simp; try with_reducible rfl
  try simp only [Act.put, List.setIfInBounds_toArray, List.set_cons_zero, List.set_cons_succ]
  refine wpAnyH_take (i := 5) (oi := { dst := some 9, op := Op.load 3 (Operand.tmp 8), type := 3, pos := "deeds.go:105", after := #[{ on := 4, ground := Ground.data }], guard := none }) (v := ?_) rfl (by kernel_rfl) (by kernel_rfl) (by kernel_rfl) (fun _ _ _ h => h) (Or.inl ⟨by rfl, ?_⟩) hHeld ?_
  rotate_left
  · intro w hSw; (try dsimp only at hSw); go_simp; try with_reducible rfl
  try simp only [Act.put, List.setIfInBounds_toArray, List.set_cons_zero, List.set_cons_succ]
  refine wpAnyH_take (i := 6) (oi := { dst := some 10, op := Op.indexAddr 50 (Operand.tmp 7) (Operand.tmp 9), type := 0, pos := "deeds.go:105", after := #[{ on := 3, ground := Ground.data }, { on := 5, ground := Ground.data }], guard := none }) (v := ?_) rfl (by kernel_rfl) (by kernel_rfl) (by kernel_rfl) (fun _ _ _ h => h) (Or.inl ⟨by rfl, ?_⟩) hHeld ?_
  rotate_left
  · intro w hSw; (try dsimp only at hSw); go_simp; try with_reducible rfl
  try simp only [Act.put, List.setIfInBounds_toArray, List.set_cons_zero, List.set_cons_succ]
  refine wpAnyH_take (i := 7) (oi := { dst := some 11, op := Op.fieldAddr 30 (Operand.tmp 3) 4, type := 0, pos := "deeds.go:105", after := #[], guard := none }) (v := ?_) rfl (by kernel_rfl) (by kernel_rfl) (by kernel_rfl) (fun _ _ _ h => h) (Or.inl ⟨by rfl, ?_⟩) hHeld ?_
  rotate_left
  · intro w hSw; (try dsimp only at hSw); go_simp; try with_reducible rfl
  try simp only [Act.put, List.setIfInBounds_toArray, List.set_cons_zero, List.set_cons_succ]
  refine wpAnyH_take (i := 8) (oi := { dst := some 12, op := Op.load 3 (Operand.tmp 11), type := 3, pos := "deeds.go:105", after := #[{ on := 7, ground := Ground.data }], guard := none }) (v := ?_) rfl (by kernel_rfl) (by kernel_rfl) (by kernel_rfl) (fun _ _ _ h => h) (Or.inl ⟨by rfl, ?_⟩) hHeld ?_
  rotate_left
  · intro w hSw; (try dsimp only at hSw); go_simp; try with_reducible rfl
  try simp only [Act.put, List.setIfInBounds_toArray, List.set_cons_zero, List.set_cons_succ]
  refine wpAnyH_take (i := 9) (oi := { dst := some 13, op := Op.fieldAddr 30 (Operand.tmp 3) 6, type := 0, pos := "deeds.go:105", after := #[], guard := none }) (v := ?_) rfl (by kernel_rfl) (by kernel_rfl) (by kernel_rfl) (fun _ _ _ h => h) (Or.inl ⟨by rfl, ?_⟩) hHeld ?_
  rotate_left
  · intro w hSw; (try dsimp only at hSw); go_simp; try with_reducible rfl
  try simp only [Act.put, List.setIfInBounds_toArray, List.set_cons_zero, List.set_cons_succ]
  refine wpAnyH_take (i := 10) (oi := { dst := some 14, op := Op.load 3 (Operand.tmp 13), type := 3, pos := "deeds.go:105", after := #[{ on := 9, ground := Ground.data }], guard := none }) (v := ?_) rfl (by kernel_rfl) (by kernel_rfl) (by kernel_rfl) (fun _ _ _ h => h) (Or.inl ⟨by rfl, ?_⟩) hHeld ?_
  rotate_left
  · intro w hSw; (try dsimp only at hSw); go_simp; try with_reducible rfl
  try simp only [Act.put, List.setIfInBounds_toArray, List.set_cons_zero, List.set_cons_succ]
  refine wpAnyH_ready (rs := [11]) (by kernel_rfl) (by simp) ?_
  refine AllReadyH.cons rfl (fun K hK => ?_) (AllReadyH.nil)
  go_simp
  go_wp2_with (go_at_call 51; refine HC.out.mono ?_; rintro e w3 ⟨rfl, hp⟩; have HE := hid hp; clear hp)
  refine hK.out _ _ (HS2.out _ HE.out) (fun hHeld => ?_)
  clear hK K
  try simp only [Act.put, List.setIfInBounds_toArray, List.set_cons_zero, List.set_cons_succ]
  refine wpAnyH_done (by kernel_rfl) ?_ _
  clear hHeld
  go_wp2_with fail
  go_end0
  exact ⟨rfl, HP.out _ HE.out⟩
set_option maxRecDepth 20000 in
set_option maxHeartbeats 1000000 in
theorem end_deed (h : BP w F g M v Z B) (hF : ∀ b ∈ F, b < w.heap.size) (x : Ev) (hi : i < B.ps.length) (hx : x.prod = (i : Int)) : Calls Try.prog 35 #[.pointer (some ⟨g, 0, none⟩), .agg (evA x)] w fun e w' => e = .returned (.tuple #[]) ∧ DMv w w' F g (B.upd i ((B.at i).decide x.yes)) := by
  obtain ⟨pb, c, rfl, -⟩ := h.form (Nat.lt_of_le_of_lt (Nat.zero_le _) hi)
  obtain ⟨k, nm, a, b, cc, d, e, q⟩ := x
  dsimp only [Ev.kind, Ev.name, Ev.prod, Ev.ep, Ev.place, Ev.tmo, Ev.now, Ev.yes] at *
  show Calls Try.prog 35 #[.pointer (some ⟨g, 0, none⟩), .agg #[.int .i64 k, .string (nmS nm), .int .i64 a, .int .i64 b, .int .i64 cc, .int .i64 d, .int .i64 e, .bool q]] w fun r w' => r = .returned (.tuple #[]) ∧ DMv w w' F g (B.upd i ((B.at i).decide q))
  obtain ⟨t, ht⟩ : ∃ t, nmS nm = t := ⟨_, rfl⟩
  rw [ht]
  obtain ⟨W1, hW1⟩ : ∃ W1, w.alloc (.cells #[.int .i64 k, .string t, .int .i64 a, .int .i64 b, .int .i64 cc, .int .i64 d, .int .i64 e, .bool q] TEv) = W1 := ⟨_, rfl⟩
  have b1 : Below w.heap.size w W1 := by rw [← hW1]; exact (Below.refl _ _).alloc (Nat.le_refl _) _
  have x1 : Blk W1 w.heap.size #[.int .i64 k, .string t, .int .i64 a, .int .i64 b, .int .i64 cc, .int .i64 d, .int .i64 e, .bool q] TEv := by rw [← hW1]; exact heap_alloc_new w _
  have HB1 := hid b1
  have y0 : W1.cell? ⟨w.heap.size, 0, none⟩ = some (.int .i64 k) := x1.cell 0
  have y1 : W1.cell? ⟨w.heap.size, 1, none⟩ = some (.string t) := x1.cell 1
  have y2 : W1.cell? ⟨w.heap.size, 2, none⟩ = some (.int .i64 a) := x1.cell 2
  have y3 : W1.cell? ⟨w.heap.size, 3, none⟩ = some (.int .i64 b) := x1.cell 3
  have y4 : W1.cell? ⟨w.heap.size, 4, none⟩ = some (.int .i64 cc) := x1.cell 4
  have y5 : W1.cell? ⟨w.heap.size, 5, none⟩ = some (.int .i64 d) := x1.cell 5
  have y6 : W1.cell? ⟨w.heap.size, 6, none⟩ = some (.int .i64 e) := x1.cell 6
  have y7 : W1.cell? ⟨w.heap.size, 7, none⟩ = some (.bool q) := x1.cell 7
  subst hx
  have h1 := h.later b1
  have c0 : W1.cell? ⟨g, 0, none⟩ = some (.slice (some ⟨pb, 0, none⟩) B.ps.length c) := h1.box.cell 0
  have hF1 : ∀ b ∈ F, b < W1.heap.size := fun b hb => Nat.lt_of_lt_of_le (hF b hb) b1.size
  have HC : Hid (Calls Try.prog 50 #[Ptr pb i, .bool q] W1.drew fun r w' => r = .returned (.tuple #[]) ∧ PMv W1.drew w' F g M (.slice (some ⟨pb, 0, none⟩) B.ps.length c) (B.upd i ((B.at i).decide q))) := by
    exact (decide_any (h1.later (Below.refl _ W1).drew) hi q).mono (fun e w2 hh => ⟨hh.1, hh.2.1⟩)
  have HS2 : Hid (∀ W, PMv W1.drew W F g M (.slice (some ⟨pb, 0, none⟩) B.ps.length c) (B.upd i ((B.at i).decide q)) → W.cell? ⟨g, 0, none⟩ = some (.slice (some ⟨pb, 0, none⟩) B.ps.length c) ∧ W.cell? ⟨w.heap.size, 2, none⟩ = some (.int .i64 (i : Int)) ∧ W.cell? ⟨w.heap.size, 7, none⟩ = some (.bool q)) := fun W hh => by
    obtain ⟨F', Z', hb, hc, -⟩ := hh
    have hx2 := Blk.chg (w := W1.drew) x1 hc (fun hm => by have := hF _ hm; omega)
    exact ⟨hb.box.cell 0, hx2.cell 2, hx2.cell 7⟩
  have HP : Hid (∀ w', PMv W1.drew w' F g M (.slice (some ⟨pb, 0, none⟩) B.ps.length c) (B.upd i ((B.at i).decide q)) → DMv w w' F g (B.upd i ((B.at i).decide q))) := fun w' hh => (PMv.after b1.drew hh).deed
  generalize B.upd i ((B.at i).decide q) = B2 at *
  generalize B.ps.length = len at *
  clear x1 b1 h1 hF1 h
  go_enter Try.func35, Try.ntmps35
  go_wp2_with fail
  refine wp_region_held_drew (S := fun W => W.cell? ⟨g, 0, none⟩ = some (.slice (some ⟨pb, 0, none⟩) len c) ∧ W.cell? ⟨w.heap.size, 2, none⟩ = some (.int .i64 (i : Int)) ∧ W.cell? ⟨w.heap.size, 7, none⟩ = some (.bool q)) (by kernel_rfl) (⟨c0, y2, y7⟩) (fun hHeld => ?_)
  refine wpAnyH_take (i := 0) (oi := { dst := some 4, op := Op.move (Operand.tmp 0), type := 23, pos := "deeds.go:107", after := #[], guard := none }) (v := ?_) rfl (by kernel_rfl) (by kernel_rfl) (by kernel_rfl) (fun _ _ _ h => h) (Or.inl ⟨by rfl, ?_⟩) hHeld ?_
  rotate_left
  · intro w hSw; (try dsimp only at hSw); go_simp; try with_reducible rfl
  try simp only [Act.put, List.setIfInBounds_toArray, List.set_cons_zero, List.set_cons_succ]
  refine wpAnyH_take (i := 1) (oi := { dst := some 5, op := Op.nilCheck (Operand.tmp 4), type := 0, pos := "deeds.go:107", after := #[{ on := 0, ground := Ground.data }], guard := none }) (v := ?_) rfl (by kernel_rfl) (by kernel_rfl) (by kernel_rfl) (fun _ _ _ h => h) (Or.inl ⟨by rfl, ?_⟩) hHeld ?_
  rotate_left
  · intro w hSw; (try dsimp only at hSw); go_simp; try with_reducible rfl
  try simp only [Act.put, List.setIfInBounds_toArray, List.set_cons_zero, List.set_cons_succ]
  refine wpAnyH_take (i := 2) (oi := { dst := some 6, op := Op.fieldAddr 52 (Operand.tmp 5) 0, type := 0, pos := "deeds.go:107", after := #[{ on := 1, ground := Ground.data }], guard := none }) (v := ?_) rfl (by kernel_rfl) (by kernel_rfl) (by kernel_rfl) (fun _ _ _ h => h) (Or.inl ⟨by rfl, ?_⟩) hHeld ?_
  rotate_left
  · intro w hSw; (try dsimp only at hSw); go_simp; try with_reducible rfl
  try simp only [Act.put, List.setIfInBounds_toArray, List.set_cons_zero, List.set_cons_succ]
  refine wpAnyH_take (i := 3) (oi := { dst := some 7, op := Op.load 50 (Operand.tmp 6), type := 50, pos := "deeds.go:107", after := #[{ on := 2, ground := Ground.data }], guard := none }) (v := ?_) rfl (by kernel_rfl) (by kernel_rfl) (by kernel_rfl) (fun _ _ _ h => h) (Or.inl ⟨by rfl, ?_⟩) hHeld ?_
  rotate_left
  · intro w hSw; (try dsimp only at hSw); go_simp; try with_reducible rfl
  try simp only [Act.put, List.setIfInBounds_toArray, List.set_cons_zero, List.set_cons_succ]
  refine wpAnyH_take (i := 4) (oi := { dst := some 8, op := Op.fieldAddr 30 (Operand.tmp 3) 2, type := 0, pos := "deeds.go:107", after := #[], guard := none }) (v := ?_) rfl (by kernel_rfl) (by kernel_rfl) (by kernel_rfl) (fun _ _ _ h => h) (Or.inl ⟨by rfl, ?_⟩) hHeld ?_
  rotate_left
  · intro w hSw; (try dsimp only at hSw); go_simp; try with_reducible rfl
  try simp only [Act.put, List.setIfInBounds_toArray, List.set_cons_zero, List.set_cons_succ]
  refine wpAnyH_take (i := 5) (oi := { dst := some 9, op := Op.load 3 (Operand.tmp 8), type := 3, pos := "deeds.go:107", after := #[{ on := 4, ground := Ground.data }], guard := none }) (v := ?_) rfl (by kernel_rfl) (by kernel_rfl) (by kernel_rfl) (fun _ _ _ h => h) (Or.inl ⟨by rfl, ?_⟩) hHeld ?_
  rotate_left
  · intro w hSw; (try dsimp only at hSw); go_simp; try with_reducible rfl
  try simp only [Act.put, List.setIfInBounds_toArray, List.set_cons_zero, List.set_cons_succ]
  refine wpAnyH_take (i := 6) (oi := { dst := some 10, op := Op.indexAddr 50 (Operand.tmp 7) (Operand.tmp 9), type := 0, pos := "deeds.go:107", after := #[{ on := 3, ground := Ground.data }, { on := 5, ground := Ground.data }], guard := none }) (v := ?_) rfl (by kernel_rfl) (by kernel_rfl) (by kernel_rfl) (fun _ _ _ h => h) (Or.inl ⟨by rfl, ?_⟩) hHeld ?_
  rotate_left
  · intro w hSw; (try dsimp only at hSw); go_simp; try with_reducible rfl
  try simp only [Act.put, List.setIfInBounds_toArray, List.set_cons_zero, List.set_cons_succ]
  refine wpAnyH_take (i := 7) (oi := { dst := some 11, op := Op.fieldAddr 30 (Operand.tmp 3) 7, type := 0, pos := "deeds.go:107", after := #[], guard := none }) (v := ?_) rfl (by kernel_rfl) (by kernel_rfl) (by kernel_rfl) (fun _ _ _ h => h) (Or.inl ⟨by rfl, ?_⟩) hHeld ?_
  rotate_left
  · intro w hSw; (try dsimp only at hSw); go_simp; try with_reducible rfl
  try simp only [Act.put, List.setIfInBounds_toArray, List.set_cons_zero, List.set_cons_succ]
  refine wpAnyH_take (i := 8) (oi := { dst := some 12, op := Op.load 4 (Operand.tmp 11), type := 4, pos := "deeds.go:107", after := #[{ on := 7, ground := Ground.data }], guard := none }) (v := ?_) rfl (by kernel_rfl) (by kernel_rfl) (by kernel_rfl) (fun _ _ _ h => h) (Or.inl ⟨by rfl, ?_⟩) hHeld ?_
  rotate_left
  · intro w hSw; (try dsimp only at hSw); go_simp; try with_reducible rfl
  try simp only [Act.put, List.setIfInBounds_toArray, List.set_cons_zero, List.set_cons_succ]
  refine wpAnyH_ready (rs := [9]) (by kernel_rfl) (by simp) ?_
  refine AllReadyH.cons rfl (fun K hK => ?_) (AllReadyH.nil)
  go_simp
  go_wp2_with (go_at_call 50; refine HC.out.mono ?_; rintro e w3 ⟨rfl, hp⟩; have HE := hid hp; clear hp)
  refine hK.out _ _ (HS2.out _ HE.out) (fun hHeld => ?_)
  clear hK K
  try simp only [Act.put, List.setIfInBounds_toArray, List.set_cons_zero, List.set_cons_succ]
  refine wpAnyH_done (by kernel_rfl) ?_ _
  clear hHeld
  go_wp2_with fail
  go_end0
  exact ⟨rfl, HP.out _ HE.out⟩
set_option maxRecDepth 20000 in
set_option maxHeartbeats 1000000 in
theorem marked_deed (h : BP w F g M v Z B) (hF : ∀ b ∈ F, b < w.heap.size) (hB : BkOk B) (x : Ev) (hi : i < B.ps.length) (hx : x.prod = (i : Int)) (hpl : x.place ∈ (B.at i).pl) : Calls Try.prog 36 #[.pointer (some ⟨g, 0, none⟩), .agg (evA x)] w fun e w' => e = .returned (.tuple #[]) ∧ DMv w w' F g (B.upd i ((B.at i).mark x.place)) := by
  obtain ⟨pb, c, rfl, -⟩ := h.form (Nat.lt_of_le_of_lt (Nat.zero_le _) hi)
  obtain ⟨k, nm, a, b, cc, d, e, q⟩ := x
  dsimp only [Ev.kind, Ev.name, Ev.prod, Ev.ep, Ev.place, Ev.tmo, Ev.now, Ev.yes] at *
  show Calls Try.prog 36 #[.pointer (some ⟨g, 0, none⟩), .agg #[.int .i64 k, .string (nmS nm), .int .i64 a, .int .i64 b, .int .i64 cc, .int .i64 d, .int .i64 e, .bool q]] w fun r w' => r = .returned (.tuple #[]) ∧ DMv w w' F g (B.upd i ((B.at i).mark cc))
  obtain ⟨t, ht⟩ : ∃ t, nmS nm = t := ⟨_, rfl⟩
  rw [ht]
  obtain ⟨W1, hW1⟩ : ∃ W1, w.alloc (.cells #[.int .i64 k, .string t, .int .i64 a, .int .i64 b, .int .i64 cc, .int .i64 d, .int .i64 e, .bool q] TEv) = W1 := ⟨_, rfl⟩
  have b1 : Below w.heap.size w W1 := by rw [← hW1]; exact (Below.refl _ _).alloc (Nat.le_refl _) _
  have x1 : Blk W1 w.heap.size #[.int .i64 k, .string t, .int .i64 a, .int .i64 b, .int .i64 cc, .int .i64 d, .int .i64 e, .bool q] TEv := by rw [← hW1]; exact heap_alloc_new w _
  have HB1 := hid b1
  have y0 : W1.cell? ⟨w.heap.size, 0, none⟩ = some (.int .i64 k) := x1.cell 0
  have y1 : W1.cell? ⟨w.heap.size, 1, none⟩ = some (.string t) := x1.cell 1
  have y2 : W1.cell? ⟨w.heap.size, 2, none⟩ = some (.int .i64 a) := x1.cell 2
  have y3 : W1.cell? ⟨w.heap.size, 3, none⟩ = some (.int .i64 b) := x1.cell 3
  have y4 : W1.cell? ⟨w.heap.size, 4, none⟩ = some (.int .i64 cc) := x1.cell 4
  have y5 : W1.cell? ⟨w.heap.size, 5, none⟩ = some (.int .i64 d) := x1.cell 5
  have y6 : W1.cell? ⟨w.heap.size, 6, none⟩ = some (.int .i64 e) := x1.cell 6
  have y7 : W1.cell? ⟨w.heap.size, 7, none⟩ = some (.bool q) := x1.cell 7
  subst hx
  have h1 := h.later b1
  have c0 : W1.cell? ⟨g, 0, none⟩ = some (.slice (some ⟨pb, 0, none⟩) B.ps.length c) := h1.box.cell 0
  have hF1 : ∀ b ∈ F, b < W1.heap.size := fun b hb => Nat.lt_of_lt_of_le (hF b hb) b1.size
  have HC : Hid (Calls Try.prog 52 #[Ptr pb i, .int .i64 cc] W1.drew fun r w' => r = .returned (.tuple #[]) ∧ PMv W1.drew w' F g M (.slice (some ⟨pb, 0, none⟩) B.ps.length c) (B.upd i ((B.at i).mark cc))) := by
    exact mark_any (h1.later (Below.refl _ W1).drew) hF1 hB hi cc hpl
  have HS2 : Hid (∀ W, PMv W1.drew W F g M (.slice (some ⟨pb, 0, none⟩) B.ps.length c) (B.upd i ((B.at i).mark cc)) → W.cell? ⟨g, 0, none⟩ = some (.slice (some ⟨pb, 0, none⟩) B.ps.length c) ∧ W.cell? ⟨w.heap.size, 2, none⟩ = some (.int .i64 (i : Int)) ∧ W.cell? ⟨w.heap.size, 4, none⟩ = some (.int .i64 cc)) := fun W hh => by
    obtain ⟨F', Z', hb, hc, -⟩ := hh
    have hx2 := Blk.chg (w := W1.drew) x1 hc (fun hm => by have := hF _ hm; omega)
    exact ⟨hb.box.cell 0, hx2.cell 2, hx2.cell 4⟩
  have HP : Hid (∀ w', PMv W1.drew w' F g M (.slice (some ⟨pb, 0, none⟩) B.ps.length c) (B.upd i ((B.at i).mark cc)) → DMv w w' F g (B.upd i ((B.at i).mark cc))) := fun w' hh => (PMv.after b1.drew hh).deed
  generalize B.upd i ((B.at i).mark cc) = B2 at *
  generalize B.ps.length = len at *
  clear x1 b1 h1 hF1 h
  go_enter Try.func36, Try.ntmps36
  go_wp2_with fail
  refine wp_region_held_drew (S := fun W => W.cell? ⟨g, 0, none⟩ = some (.slice (some ⟨pb, 0, none⟩) len c) ∧ W.cell? ⟨w.heap.size, 2, none⟩ = some (.int .i64 (i : Int)) ∧ W.cell? ⟨w.heap.size, 4, none⟩ = some (.int .i64 cc)) (by kernel_rfl) (⟨c0, y2, y4⟩) (fun hHeld => ?_)
  refine wpAnyH_take (i := 0) (oi := { dst := some 4, op := Op.move (Operand.tmp 0), type := 23, pos := "deeds.go:109", after := #[], guard := none }) (v := ?_) rfl (by kernel_rfl) (by kernel_rfl) (by kernel_rfl) (fun _ _ _ h => h) (Or.inl ⟨by rfl, ?_⟩) hHeld ?_
  rotate_left
  · intro w hSw; (try dsimp only at hSw); go_simp; try with_reducible rfl
  try simp only [Act.put, List.setIfInBounds_toArray, List.set_cons_zero, List.set_cons_succ]
  refine wpAnyH_take (i := 1) (oi := { dst := some 5, op := Op.nilCheck (Operand.tmp 4), type := 0, pos := "deeds.go:109", after := #[{ on := 0, ground := Ground.data }], guard := none }) (v := ?_) rfl (by kernel_rfl) (by kernel_rfl) (by kernel_rfl) (fun _ _ _ h => h) (Or.inl ⟨by rfl, ?_⟩) hHeld ?_
  rotate_left
  · intro w hSw; (try dsimp only at hSw); go_simp; try with_reducible rfl
  try simp only [Act.put, List.setIfInBounds_toArray, List.set_cons_zero, List.set_cons_succ]
  refine wpAnyH_take (i := 2) (oi := { dst := some 6, op := Op.fieldAddr 52 (Operand.tmp 5) 0, type := 0, pos := "deeds.go:109", after := #[{ on := 1, ground := Ground.data }], guard := none }) (v := ?_) rfl (by kernel_rfl) (by kernel_rfl) (by kernel_rfl) (fun _ _ _ h => h) (Or.inl ⟨by rfl, ?_⟩) hHeld ?_
  rotate_left
  · intro w hSw; (try dsimp only at hSw); go_simp; try with_reducible rfl
  try simp only [Act.put, List.setIfInBounds_toArray, List.set_cons_zero, List.set_cons_succ]
  refine wpAnyH_take (i := 3) (oi := { dst := some 7, op := Op.load 50 (Operand.tmp 6), type := 50, pos := "deeds.go:109", after := #[{ on := 2, ground := Ground.data }], guard := none }) (v := ?_) rfl (by kernel_rfl) (by kernel_rfl) (by kernel_rfl) (fun _ _ _ h => h) (Or.inl ⟨by rfl, ?_⟩) hHeld ?_
  rotate_left
  · intro w hSw; (try dsimp only at hSw); go_simp; try with_reducible rfl
  try simp only [Act.put, List.setIfInBounds_toArray, List.set_cons_zero, List.set_cons_succ]
  refine wpAnyH_take (i := 4) (oi := { dst := some 8, op := Op.fieldAddr 30 (Operand.tmp 3) 2, type := 0, pos := "deeds.go:109", after := #[], guard := none }) (v := ?_) rfl (by kernel_rfl) (by kernel_rfl) (by kernel_rfl) (fun _ _ _ h => h) (Or.inl ⟨by rfl, ?_⟩) hHeld ?_
  rotate_left
  · intro w hSw; (try dsimp only at hSw); go_simp; try with_reducible rfl
  try simp only [Act.put, List.setIfInBounds_toArray, List.set_cons_zero, List.set_cons_succ]
  refine wpAnyH_take (i := 5) (oi := { dst := some 9, op := Op.load 3 (Operand.tmp 8), type := 3, pos := "deeds.go:109", after := #[{ on := 4, ground := Ground.data }], guard := none }) (v := ?_) rfl (by kernel_rfl) (by kernel_rfl) (by kernel_rfl) (fun _ _ _ h => h) (Or.inl ⟨by rfl, ?_⟩) hHeld ?_
  rotate_left
  · intro w hSw; (try dsimp only at hSw); go_simp; try with_reducible rfl
  try simp only [Act.put, List.setIfInBounds_toArray, List.set_cons_zero, List.set_cons_succ]
  refine wpAnyH_take (i := 6) (oi := { dst := some 10, op := Op.indexAddr 50 (Operand.tmp 7) (Operand.tmp 9), type := 0, pos := "deeds.go:109", after := #[{ on := 3, ground := Ground.data }, { on := 5, ground := Ground.data }], guard := none }) (v := ?_) rfl (by kernel_rfl) (by kernel_rfl) (by kernel_rfl) (fun _ _ _ h => h) (Or.inl ⟨by rfl, ?_⟩) hHeld ?_
  rotate_left
  · intro w hSw; (try dsimp only at hSw); go_simp; try with_reducible rfl
  try simp only [Act.put, List.setIfInBounds_toArray, List.set_cons_zero, List.set_cons_succ]
  refine wpAnyH_take (i := 7) (oi := { dst := some 11, op := Op.fieldAddr 30 (Operand.tmp 3) 4, type := 0, pos := "deeds.go:109", after := #[], guard := none }) (v := ?_) rfl (by kernel_rfl) (by kernel_rfl) (by kernel_rfl) (fun _ _ _ h => h) (Or.inl ⟨by rfl, ?_⟩) hHeld ?_
  rotate_left
  · intro w hSw; (try dsimp only at hSw); go_simp; try with_reducible rfl
  try simp only [Act.put, List.setIfInBounds_toArray, List.set_cons_zero, List.set_cons_succ]
  refine wpAnyH_take (i := 8) (oi := { dst := some 12, op := Op.load 3 (Operand.tmp 11), type := 3, pos := "deeds.go:109", after := #[{ on := 7, ground := Ground.data }], guard := none }) (v := ?_) rfl (by kernel_rfl) (by kernel_rfl) (by kernel_rfl) (fun _ _ _ h => h) (Or.inl ⟨by rfl, ?_⟩) hHeld ?_
  rotate_left
  · intro w hSw; (try dsimp only at hSw); go_simp; try with_reducible rfl
  try simp only [Act.put, List.setIfInBounds_toArray, List.set_cons_zero, List.set_cons_succ]
  refine wpAnyH_ready (rs := [9]) (by kernel_rfl) (by simp) ?_
  refine AllReadyH.cons rfl (fun K hK => ?_) (AllReadyH.nil)
  go_simp
  go_wp2_with (go_at_call 52; refine HC.out.mono ?_; rintro e w3 ⟨rfl, hp⟩; have HE := hid hp; clear hp)
  refine hK.out _ _ (HS2.out _ HE.out) (fun hHeld => ?_)
  clear hK K
  try simp only [Act.put, List.setIfInBounds_toArray, List.set_cons_zero, List.set_cons_succ]
  refine wpAnyH_done (by kernel_rfl) ?_ _
  clear hHeld
  go_wp2_with fail
  go_end0
  exact ⟨rfl, HP.out _ HE.out⟩
end Go.Proofs.Yteogogmmnijagaa
