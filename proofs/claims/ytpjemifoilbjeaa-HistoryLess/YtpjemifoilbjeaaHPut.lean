/- put: where an append stands. -/
import Derived.Test.YtpjemifoilbjeaaHEntry
namespace Go.Proofs.Ytpjemifoilbjeaa
open Go.RowKit Hy
variable {w w' : World} {g M1 M2 n : Nat} {s : Sd}

abbrev TSt : TypeId := 53
/-- In w the block g says where appends stand: its maps lie at M1, M2. -/
structure SP (w : World) (g M1 M2 n : Nat) (s : Sd) : Prop where
  box : Blk w g #[.map (some M1), .map (some M2)] TSt
  by1 : MapF w 3 M1 n (intF s.1)
  by2 : MapF w 3 M2 n (intF s.2)
  ne : M1 ≠ M2
theorem SP.later (h : SP w g M1 M2 n s) (hb : Below w.heap.size w w') : SP w' g M1 M2 n s := ⟨h.box.later hb, h.by1.keep (hb.block _ h.by1.lt), h.by2.keep (hb.block _ h.by2.lt), h.ne⟩
theorem SP.mono (h : SP w g M1 M2 n s) {m : Nat} (hm : n ≤ m) : SP w g M1 M2 m s := ⟨h.box, h.by1.mono hm, h.by2.mono hm, h.ne⟩
theorem SP.ne1 (h : SP w g M1 M2 n s) : g ≠ M1 := fun e => by
  obtain ⟨es, c, hm⟩ := h.by1.isMap
  have hb : w.heap[g]? = some (.cells #[.map (some M1), .map (some M2)] TSt (0, 0)) := h.box
  rw [e, hm] at hb; cases hb
theorem SP.ne2 (h : SP w g M1 M2 n s) : g ≠ M2 := fun e => by
  obtain ⟨es, c, hm⟩ := h.by2.isMap
  have hb : w.heap[g]? = some (.cells #[.map (some M1), .map (some M2)] TSt (0, 0)) := h.box
  rw [e, hm] at hb; cases hb
/-- Numbers that a map of this package bears. -/
def inK (x : Int) : Prop := -4611686018427387904 ≤ x ∧ x ≤ 4611686018427387904
set_option maxRecDepth 20000 in
set_option maxHeartbeats 4000000 in
theorem put_any (h : SP w g M1 M2 n s) (hn : n < maxLen) (c p : Int) (hc : inK c) (hp : inK p) : Calls Try.prog 33 #[.pointer (some ⟨g, 0, none⟩), .int .i64 c, .int .i64 p] w fun e w' => e = .returned (.bool (put s c p).1) ∧ SP w' g M1 M2 (n + 1) (put s c p).2 ∧ Chg [M1, M2] w w' := by
  have c0 := h.box.cell 0
  have c1 := h.box.cell 1
  have hkp := keyOf_z (p := p) (by have := hp.1; omega) (by have := hp.2; omega)
  have hkc := keyOf_z (p := c) (by have := hc.1; omega) (by have := hc.2; omega)
  have hr1 := MapF.look_ok h.by1 keyI Try.underlying51 (zeroI w) (key := .int .i64 p) hkp
  have hr2 := MapF.look_ok h.by2 keyI Try.underlying51 (zeroI w) (key := .int .i64 c) hkc
  rw [intF_z] at hr1 hr2
  have hh : Hid (SP w g M1 M2 n s) := h
  cases h1 : s.1 p with
  | some t =>
    rw [h1] at hr1
    simp only [Option.map_some, Option.getD_some, Option.isSome_some] at hr1
    have HP : Hid ((put s c p).1 = (t == c) ∧ (put s c p).2 = s) := by show _ ∧ _; unfold put; rw [h1]; exact ⟨by simp [Bool.beq_eq_decide_eq], rfl⟩
    clear h h1 hr2
    go_enter Try.func33, Try.ntmps33
    go_wp2_with fail
    go_ret
    exact ⟨by rw [HP.out.1]; rfl, by rw [HP.out.2]; exact hh.out.mono (Nat.le_succ _), Chg.refl _ _⟩
  | none =>
    rw [h1] at hr1
    simp only [Option.map_none, Option.getD_none, Option.isSome_none] at hr1
    cases h2 : s.2 c with
    | some q =>
      rw [h2] at hr2
      simp only [Option.map_some, Option.getD_some, Option.isSome_some] at hr2
      have HP : Hid ((put s c p).1 = false ∧ (put s c p).2 = s) := by show _ ∧ _; unfold put; rw [h1, h2]; exact ⟨rfl, rfl⟩
      clear h h1 h2
      go_enter Try.func33, Try.ntmps33
      go_wp2_with fail
      go_ret
      exact ⟨by rw [HP.out.1]; rfl, by rw [HP.out.2]; exact hh.out.mono (Nat.le_succ _), Chg.refl _ _⟩
    | none =>
      rw [h2] at hr2
      simp only [Option.map_none, Option.getD_none, Option.isSome_none] at hr2
      have HP : Hid (put s c p = (true, (setN s.1 p (some c), setN s.2 c (some p)))) := put_new h1 h2
      obtain ⟨st1, W1, W2, e1, e2, hM1, hc1, hc2, -⟩ := MapF.entry_new (w := w.drew) (t := 51) (h.by1.keep rfl) keyI Try.underlying51 hn zeroI (key := .int .i64 p) hkp (by rw [intF_z, h1]; rfl) (.int .i64 c)
      have hd : Chg [M1] w.drew W2 := hc1.trans hc2 (fun k hk => Or.inl hk)
      have h2b : MapF W2 3 M2 n (intF s.2) := (h.by2.keep (w' := w.drew) rfl).keep (hd.block _ h.by2.lt (by simpa using h.ne.symm))
      obtain ⟨st2, W3, W4, e3, e4, hM2, hc3, hc4, -⟩ := MapF.entry_new (w := W2) (t := 51) h2b keyI Try.underlying51 hn zeroI (key := .int .i64 c) hkc (by rw [intF_z, h2]; rfl) (.int .i64 p)
      have hd2 : Chg [M2] W2 W4 := hc3.trans hc4 (fun k hk => Or.inl hk)
      have hx0 : Blk w.drew g #[.map (some M1), .map (some M2)] TSt := h.box
      have hx1 := hx0.chg hc1 (by simpa using h.ne1)
      have hx2 := hx1.chg hc2 (by simpa using h.ne1)
      have hx3 := hx2.chg hc3 (by simpa using h.ne2)
      have hx4 := hx3.chg hc4 (by simpa using h.ne2)
      have HS : Hid (SP W4 g M1 M2 (n + 1) (setN s.1 p (some c), setN s.2 c (some p))) := ⟨hx4, (hM1.congr (fun kl => intF_set s.1 p c kl)).keep (hd2.block _ hM1.lt (by simpa using h.ne)), hM2.congr (fun kl => intF_set s.2 c p kl), h.ne⟩
      have HC : Hid (Chg [M1, M2] w W4) := ((Chg.refl [M1, M2] w).drew).trans ((hd.mono (by simp)).trans (hd2.mono (by simp)) (fun k hk => Or.inl hk)) (fun k hk => Or.inl hk)
      have x10 := hx1.cell 0
      have x11 := hx1.cell 1
      have x20 := hx2.cell 0
      have x21 := hx2.cell 1
      have x30 := hx3.cell 0
      have x31 := hx3.cell 1
      have x40 := hx4.cell 0
      have x41 := hx4.cell 1
      clear h h1 h2 hM1 hM2 hc1 hc2 hc3 hc4 hd hd2 h2b hx0 hx1 hx2 hx3 hx4
      go_enter Try.func33, Try.ntmps33
      go_wp2_with fail
      refine wp_region_held_drew (S := fun W => W.cell? ⟨g, 0, none⟩ = some (.map (some M1)) ∧ W.cell? ⟨g, 1, none⟩ = some (.map (some M2))) (by kernel_rfl) (⟨c0, c1⟩) (fun hHeld => ?_)
      refine wpAnyH_take (i := 0) (oi := { dst := some 34, op := Op.move (Operand.tmp 0), type := 70, pos := "standing.go:22", after := #[], guard := none }) (v := ?_) rfl (by kernel_rfl) (by kernel_rfl) (by kernel_rfl) (fun _ _ _ h => h) (Or.inl ⟨by rfl, ?_⟩) hHeld ?_
      rotate_left
      · intro w hSw; (try dsimp only at hSw); go_simp; try with_reducible rfl
      try simp only [Act.put, List.setIfInBounds_toArray, List.set_cons_zero, List.set_cons_succ]
      refine wpAnyH_take (i := 1) (oi := { dst := some 35, op := Op.nilCheck (Operand.tmp 34), type := 0, pos := "standing.go:22", after := #[{ on := 0, ground := Ground.data }], guard := none }) (v := ?_) rfl (by kernel_rfl) (by kernel_rfl) (by kernel_rfl) (fun _ _ _ h => h) (Or.inl ⟨by rfl, ?_⟩) hHeld ?_
      rotate_left
      · intro w hSw; (try dsimp only at hSw); go_simp; try with_reducible rfl
      try simp only [Act.put, List.setIfInBounds_toArray, List.set_cons_zero, List.set_cons_succ]
      refine wpAnyH_take (i := 2) (oi := { dst := some 36, op := Op.fieldAddr 53 (Operand.tmp 35) 0, type := 0, pos := "standing.go:22", after := #[{ on := 1, ground := Ground.data }], guard := none }) (v := ?_) rfl (by kernel_rfl) (by kernel_rfl) (by kernel_rfl) (fun _ _ _ h => h) (Or.inl ⟨by rfl, ?_⟩) hHeld ?_
      rotate_left
      · intro w hSw; (try dsimp only at hSw); go_simp; try with_reducible rfl
      try simp only [Act.put, List.setIfInBounds_toArray, List.set_cons_zero, List.set_cons_succ]
      refine wpAnyH_take (i := 3) (oi := { dst := some 37, op := Op.load 51 (Operand.tmp 36), type := 51, pos := "standing.go:22", after := #[{ on := 2, ground := Ground.data }], guard := none }) (v := ?_) rfl (by kernel_rfl) (by kernel_rfl) (by kernel_rfl) (fun _ _ _ h => h) (Or.inl ⟨by rfl, ?_⟩) hHeld ?_
      rotate_left
      · intro w hSw; (try dsimp only at hSw); go_simp; try with_reducible rfl
      try simp only [Act.put, List.setIfInBounds_toArray, List.set_cons_zero, List.set_cons_succ]
      refine wpAnyH_take (i := 4) (oi := { dst := some 38, op := Op.move (Operand.tmp 2), type := 3, pos := "standing.go:22", after := #[], guard := none }) (v := ?_) rfl (by kernel_rfl) (by kernel_rfl) (by kernel_rfl) (fun _ _ _ h => h) (Or.inl ⟨by rfl, ?_⟩) hHeld ?_
      rotate_left
      · intro w hSw; (try dsimp only at hSw); go_simp; try with_reducible rfl
      try simp only [Act.put, List.setIfInBounds_toArray, List.set_cons_zero, List.set_cons_succ]
      refine wpAnyH_take (i := 5) (oi := { dst := some 39, op := Op.move (Operand.tmp 0), type := 70, pos := "standing.go:22", after := #[], guard := none }) (v := ?_) rfl (by kernel_rfl) (by kernel_rfl) (by kernel_rfl) (fun _ _ _ h => h) (Or.inl ⟨by rfl, ?_⟩) hHeld ?_
      rotate_left
      · intro w hSw; (try dsimp only at hSw); go_simp; try with_reducible rfl
      try simp only [Act.put, List.setIfInBounds_toArray, List.set_cons_zero, List.set_cons_succ]
      refine wpAnyH_take (i := 6) (oi := { dst := some 40, op := Op.nilCheck (Operand.tmp 39), type := 0, pos := "standing.go:22", after := #[{ on := 5, ground := Ground.data }], guard := none }) (v := ?_) rfl (by kernel_rfl) (by kernel_rfl) (by kernel_rfl) (fun _ _ _ h => h) (Or.inl ⟨by rfl, ?_⟩) hHeld ?_
      rotate_left
      · intro w hSw; (try dsimp only at hSw); go_simp; try with_reducible rfl
      try simp only [Act.put, List.setIfInBounds_toArray, List.set_cons_zero, List.set_cons_succ]
      refine wpAnyH_take (i := 7) (oi := { dst := some 41, op := Op.fieldAddr 53 (Operand.tmp 40) 1, type := 0, pos := "standing.go:22", after := #[{ on := 6, ground := Ground.data }], guard := none }) (v := ?_) rfl (by kernel_rfl) (by kernel_rfl) (by kernel_rfl) (fun _ _ _ h => h) (Or.inl ⟨by rfl, ?_⟩) hHeld ?_
      rotate_left
      · intro w hSw; (try dsimp only at hSw); go_simp; try with_reducible rfl
      try simp only [Act.put, List.setIfInBounds_toArray, List.set_cons_zero, List.set_cons_succ]
      refine wpAnyH_take (i := 8) (oi := { dst := some 42, op := Op.load 51 (Operand.tmp 41), type := 51, pos := "standing.go:22", after := #[{ on := 7, ground := Ground.data }], guard := none }) (v := ?_) rfl (by kernel_rfl) (by kernel_rfl) (by kernel_rfl) (fun _ _ _ h => h) (Or.inl ⟨by rfl, ?_⟩) hHeld ?_
      rotate_left
      · intro w hSw; (try dsimp only at hSw); go_simp; try with_reducible rfl
      try simp only [Act.put, List.setIfInBounds_toArray, List.set_cons_zero, List.set_cons_succ]
      refine wpAnyH_take (i := 9) (oi := { dst := some 43, op := Op.move (Operand.tmp 1), type := 3, pos := "standing.go:22", after := #[{ on := 14, ground := Ground.gcOnly Departure.lateStores }], guard := none }) (v := ?_) rfl (by kernel_rfl) (by kernel_rfl) (by kernel_rfl) (fun _ _ _ h => h) (Or.inl ⟨by rfl, ?_⟩) hHeld ?_
      rotate_left
      · intro w hSw; (try dsimp only at hSw); go_simp; try with_reducible rfl
      try simp only [Act.put, List.setIfInBounds_toArray, List.set_cons_zero, List.set_cons_succ]
      refine wpAnyH_take (i := 10) (oi := { dst := some 44, op := Op.move (Operand.tmp 1), type := 3, pos := "standing.go:22", after := #[{ on := 12, ground := Ground.gcOnly Departure.tupleMapEntryFirst }], guard := none }) (v := ?_) rfl (by kernel_rfl) (by kernel_rfl) (by kernel_rfl) (fun _ _ _ h => h) (Or.inl ⟨by rfl, ?_⟩) hHeld ?_
      rotate_left
      · intro w hSw; (try dsimp only at hSw); go_simp; try with_reducible rfl
      try simp only [Act.put, List.setIfInBounds_toArray, List.set_cons_zero, List.set_cons_succ]
      refine wpAnyH_take (i := 11) (oi := { dst := some 45, op := Op.move (Operand.tmp 2), type := 3, pos := "standing.go:22", after := #[{ on := 14, ground := Ground.gcOnly Departure.lateStores }, { on := 15, ground := Ground.gcOnly Departure.tupleMapEntryFirst }], guard := none }) (v := ?_) rfl (by kernel_rfl) (by kernel_rfl) (by kernel_rfl) (fun _ _ _ h => h) (Or.inl ⟨by rfl, ?_⟩) hHeld ?_
      rotate_left
      · intro w hSw; (try dsimp only at hSw); go_simp; try with_reducible rfl
      try simp only [Act.put, List.setIfInBounds_toArray, List.set_cons_zero, List.set_cons_succ]
      refine wpAnyH_ready (rs := [12]) (by kernel_rfl) (by simp) ?_
      refine AllReadyH.cons rfl (fun K hK => ?_) (AllReadyH.nil)
      go_simp
      refine hK.out _ _ (⟨x10, x11⟩) (fun hHeld => ?_)
      clear hK K
      try simp only [Act.put, List.setIfInBounds_toArray, List.set_cons_zero, List.set_cons_succ]
      refine wpAnyH_take (i := 13) (oi := { dst := some 47, op := Op.extract (Operand.tmp 46) 1, type := 3, pos := "standing.go:22", after := #[{ on := 12, ground := Ground.data }], guard := none }) (v := ?_) rfl (by kernel_rfl) (by kernel_rfl) (by kernel_rfl) (fun _ _ _ h => h) (Or.inl ⟨by rfl, ?_⟩) hHeld ?_
      rotate_left
      · intro w hSw; (try dsimp only at hSw); go_simp; try with_reducible rfl
      try simp only [Act.put, List.setIfInBounds_toArray, List.set_cons_zero, List.set_cons_succ]
      refine wpAnyH_ready (rs := [14]) (by kernel_rfl) (by simp) ?_
      refine AllReadyH.cons rfl (fun K hK => ?_) (AllReadyH.nil)
      go_simp
      refine hK.out _ _ (⟨x20, x21⟩) (fun hHeld => ?_)
      clear hK K
      try simp only [Act.put, List.setIfInBounds_toArray, List.set_cons_zero, List.set_cons_succ]
      refine wpAnyH_ready (rs := [15]) (by kernel_rfl) (by simp) ?_
      refine AllReadyH.cons rfl (fun K hK => ?_) (AllReadyH.nil)
      go_simp
      refine hK.out _ _ (⟨x30, x31⟩) (fun hHeld => ?_)
      clear hK K
      try simp only [Act.put, List.setIfInBounds_toArray, List.set_cons_zero, List.set_cons_succ]
      refine wpAnyH_take (i := 16) (oi := { dst := some 49, op := Op.extract (Operand.tmp 48) 1, type := 3, pos := "standing.go:22", after := #[{ on := 15, ground := Ground.data }], guard := none }) (v := ?_) rfl (by kernel_rfl) (by kernel_rfl) (by kernel_rfl) (fun _ _ _ h => h) (Or.inl ⟨by rfl, ?_⟩) hHeld ?_
      rotate_left
      · intro w hSw; (try dsimp only at hSw); go_simp; try with_reducible rfl
      try simp only [Act.put, List.setIfInBounds_toArray, List.set_cons_zero, List.set_cons_succ]
      refine wpAnyH_ready (rs := [17]) (by kernel_rfl) (by simp) ?_
      refine AllReadyH.cons rfl (fun K hK => ?_) (AllReadyH.nil)
      go_simp
      refine hK.out _ _ (⟨x40, x41⟩) (fun hHeld => ?_)
      clear hK K
      try simp only [Act.put, List.setIfInBounds_toArray, List.set_cons_zero, List.set_cons_succ]
      refine wpAnyH_done (by kernel_rfl) ?_ _
      clear hHeld
      go_wp2_with fail
      go_ret
      exact ⟨by rw [HP.out]; rfl, by rw [HP.out]; exact HS.out, HC.out⟩
end Go.Proofs.Ytpjemifoilbjeaa
