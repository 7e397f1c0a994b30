/- decideJoin, decideLeave of package group (by gendec15.py). decideBeat of package group (by gendec15.py). decideCommit, insistEpoch, decidePromise of package group (by gendec15.py). -/
import Derived.Test.YtipgociofjokeaaGreatGRise
import Derived.Test.YtipgociofjokeaaGreatGSmall
import Derived.Deep.RegionHeld3
import Derived.OrdersHeld
namespace Go.Proofs.YtipgociofjokeaaGreat
open Go.RowKit Go.Shelf
variable {w w' : World} {g M1 M2 M3 n : Nat} {A : Nm → Sl} {pv : Value} {G : Gp} {F : List Nat}

set_option maxRecDepth 100000 in
set_option maxHeartbeats 1000000 in
theorem decJoin_any (h : GP w F g M1 M2 M3 n A pv G) {kk : Nat} (ho : GOk kk G) (x : Ev) (hs : x.mem.length ≤ maxLen) : Calls Tryz.prog 40 #[.pointer (some ⟨g, 0, none⟩), .agg (evA x)] w fun r w' => r = decC (if G.has x.mem || decide (G.ks.length < 100) then 0 else 7) false ∧ Below w.heap.size w w' := by
  obtain ⟨k, s, a, b, c, d, e, f, q⟩ := x
  dsimp only at *
  obtain ⟨t, ht⟩ : ∃ t, nmS s = t := ⟨_, rfl⟩
  obtain ⟨gp, hgp⟩ : ∃ z, G.parts = z := ⟨_, rfl⟩
  obtain ⟨gs, hgs⟩ : ∃ z, G.sess = z := ⟨_, rfl⟩
  obtain ⟨gg, hgg⟩ : ∃ z, G.gen = z := ⟨_, rfl⟩
  obtain ⟨W1, hW1⟩ : ∃ W1, w.alloc (.cells #[.int .i64 k, .string t, .int .i64 a, .int .i64 b, .int .i64 c, .int .i64 d, .int .i64 e, .int .i64 f, .bool q] TEv) = W1 := ⟨_, rfl⟩
  have b1 : Below w.heap.size w W1 := by rw [← hW1]; exact (Below.refl _ _).alloc (Nat.le_refl _) _
  have x1 : Blk W1 w.heap.size #[.int .i64 k, .string t, .int .i64 a, .int .i64 b, .int .i64 c, .int .i64 d, .int .i64 e, .int .i64 f, .bool q] TEv := by rw [← hW1]; exact heap_alloc_new w _
  have HB1 := hid b1
  have HG : Hid (∀ W, Below W1.heap.size W1 W → GP W F g M1 M2 M3 n A pv G) := fun W hW => (h.later b1).later hW
  have HS : Hid (∀ W, Below W1.heap.size W1 W → W.cell? ⟨w.heap.size, 1, none⟩ = some (.string t) ∧ W.cell? ⟨g, 3, none⟩ = some (.map (some M1))) := fun W hW => by
    have hx := x1.later hW
    have hg := (HG.out W hW).box
    rw [hgp, hgs, hgg] at hg
    exact ⟨hx.cell 1, hg.cell 3⟩
  have HH : Hid (∀ W, Below W1.heap.size W1 W → Calls Tryz.prog 54 #[.pointer (some ⟨g, 0, none⟩), .string t] W fun r w' => r = .returned (.bool (G.has s)) ∧ Below W.heap.size W w') := fun W hW => by
    rw [← ht]
    refine (has_any (HG.out W hW) s hs).mono ?_
    rintro r w' ⟨h1, o, rfl⟩
    exact ⟨h1, (Below.refl _ _).alloc (Nat.le_refl _) _⟩
  have HL : Hid (∀ W, Below W1.heap.size W1 W → ∀ ty, (Builtin.len_ #[TMb] ty #[.map (some M1)]).run Tryz.prog W = .ok (.int .i64 (G.ks.length : Int)) W) := fun W hW ty => (HG.out W hW).len ho ty
  have c1 := (HS.out W1 (Below.refl _ _)).1
  show Calls Tryz.prog _ #[_, .agg #[.int .i64 k, .string (nmS s), .int .i64 a, .int .i64 b, .int .i64 c, .int .i64 d, .int .i64 e, .int .i64 f, .bool q]] w _
  rw [show decC (if G.has s || decide (G.ks.length < 100) then 0 else 7) false = decC (if G.has s || decide (G.ks.length < 100) then 0 else 7) false from rfl]
  clear h ho b1 x1
  rw [ht]
  cases hh : G.has s with
  | true =>
    rw [hh] at HH
    go_enter Tryz.func40, Tryz.ntmps40
    go_wp2_with (first
      | (go_at_call 54; (with_reducible_and_instances (refine (HH.out _ (Below.refl _ _)).mono ?_)); rintro r W2 ⟨rfl, hb2⟩; have HB2 := hid (hb2); obtain ⟨-, c3⟩ := HS.out W2 hb2; have hln := HL.out W2 hb2; clear hb2)
      | (go_at_call 22; refine (insist_ok 7 _).mono ?_; rintro r w9 ⟨rfl, hw9⟩; obtain rfl := hw9.symm))
    go_ret
    exact ⟨rfl, HB1.out.trans (HB2.out.mono HB1.out.size)⟩
  | false =>
    rw [hh] at HH
    by_cases hl : G.ks.length < 100
    · have hd : decide (G.ks.length < 100) = true := by simpa using hl
      have hdi : decide ((G.ks.length : Int) < 100) = true := by simp; omega
      rw [hd]
      generalize G.ks.length = m at *
      go_enter Tryz.func40, Tryz.ntmps40
      go_wp2_with (first
        | (go_at_call 54; (with_reducible_and_instances (refine (HH.out _ (Below.refl _ _)).mono ?_)); rintro r W2 ⟨rfl, hb2⟩; have HB2 := hid (hb2); obtain ⟨-, c3⟩ := HS.out W2 hb2; have hln := HL.out W2 hb2; clear hb2)
        | (go_at_call 22; refine (insist_ok 7 _).mono ?_; rintro r w9 ⟨rfl, hw9⟩; obtain rfl := hw9.symm))
      go_ret
      exact ⟨rfl, HB1.out.trans (HB2.out.mono HB1.out.size)⟩
    · have hd : decide (G.ks.length < 100) = false := by simpa using hl
      have hdi : decide ((G.ks.length : Int) < 100) = false := by simp; omega
      rw [hd]
      generalize G.ks.length = m at *
      go_enter Tryz.func40, Tryz.ntmps40
      go_wp2_with (first
        | (go_at_call 54; (with_reducible_and_instances (refine (HH.out _ (Below.refl _ _)).mono ?_)); rintro r W2 ⟨rfl, hb2⟩; have HB2 := hid (hb2); obtain ⟨-, c3⟩ := HS.out W2 hb2; have hln := HL.out W2 hb2; clear hb2)
        | (go_at_call 22; refine (insist_no 7 _).mono ?_; rintro r w9 ⟨rfl, hw9⟩; obtain rfl := hw9.symm))
      exact ⟨rfl, rfl, HB1.out.trans (HB2.out.mono HB1.out.size)⟩
set_option maxRecDepth 100000 in
set_option maxHeartbeats 1000000 in
theorem decLeave_any (h : GP w F g M1 M2 M3 n A pv G) (x : Ev) (hs : x.mem.length ≤ maxLen) : Calls Tryz.prog 41 #[.pointer (some ⟨g, 0, none⟩), .agg (evA x)] w fun r w' => r = decC (if G.has x.mem then 0 else 60) false ∧ Below w.heap.size w w' := by
  obtain ⟨k, s, a, b, c, d, e, f, q⟩ := x
  dsimp only at *
  obtain ⟨t, ht⟩ : ∃ t, nmS s = t := ⟨_, rfl⟩
  obtain ⟨gp, hgp⟩ : ∃ z, G.parts = z := ⟨_, rfl⟩
  obtain ⟨gs, hgs⟩ : ∃ z, G.sess = z := ⟨_, rfl⟩
  obtain ⟨gg, hgg⟩ : ∃ z, G.gen = z := ⟨_, rfl⟩
  obtain ⟨W1, hW1⟩ : ∃ W1, w.alloc (.cells #[.int .i64 k, .string t, .int .i64 a, .int .i64 b, .int .i64 c, .int .i64 d, .int .i64 e, .int .i64 f, .bool q] TEv) = W1 := ⟨_, rfl⟩
  have b1 : Below w.heap.size w W1 := by rw [← hW1]; exact (Below.refl _ _).alloc (Nat.le_refl _) _
  have x1 : Blk W1 w.heap.size #[.int .i64 k, .string t, .int .i64 a, .int .i64 b, .int .i64 c, .int .i64 d, .int .i64 e, .int .i64 f, .bool q] TEv := by rw [← hW1]; exact heap_alloc_new w _
  have HB1 := hid b1
  have HG : Hid (∀ W, Below W1.heap.size W1 W → GP W F g M1 M2 M3 n A pv G) := fun W hW => (h.later b1).later hW
  have HS : Hid (∀ W, Below W1.heap.size W1 W → W.cell? ⟨w.heap.size, 1, none⟩ = some (.string t) ∧ W.cell? ⟨g, 3, none⟩ = some (.map (some M1))) := fun W hW => by
    have hx := x1.later hW
    have hg := (HG.out W hW).box
    rw [hgp, hgs, hgg] at hg
    exact ⟨hx.cell 1, hg.cell 3⟩
  have HH : Hid (∀ W, Below W1.heap.size W1 W → Calls Tryz.prog 54 #[.pointer (some ⟨g, 0, none⟩), .string t] W fun r w' => r = .returned (.bool (G.has s)) ∧ Below W.heap.size W w') := fun W hW => by
    rw [← ht]
    refine (has_any (HG.out W hW) s hs).mono ?_
    rintro r w' ⟨h1, o, rfl⟩
    exact ⟨h1, (Below.refl _ _).alloc (Nat.le_refl _) _⟩
  have c1 := (HS.out W1 (Below.refl _ _)).1
  show Calls Tryz.prog _ #[_, .agg #[.int .i64 k, .string (nmS s), .int .i64 a, .int .i64 b, .int .i64 c, .int .i64 d, .int .i64 e, .int .i64 f, .bool q]] w _
  clear h b1 x1
  rw [ht]
  cases hh : G.has s with
  | true =>
    rw [hh] at HH
    go_enter Tryz.func41, Tryz.ntmps41
    go_wp2_with (first
      | (go_at_call 54; (with_reducible_and_instances (refine (HH.out _ (Below.refl _ _)).mono ?_)); rintro r W2 ⟨rfl, hb2⟩; have HB2 := hid (hb2); clear hb2)
      | (go_at_call 22; refine (insist_ok 60 _).mono ?_; rintro r w9 ⟨rfl, hw9⟩; obtain rfl := hw9.symm))
    go_ret
    exact ⟨rfl, HB1.out.trans (HB2.out.mono HB1.out.size)⟩
  | false =>
    rw [hh] at HH
    go_enter Tryz.func41, Tryz.ntmps41
    go_wp2_with (first
      | (go_at_call 54; (with_reducible_and_instances (refine (HH.out _ (Below.refl _ _)).mono ?_)); rintro r W2 ⟨rfl, hb2⟩; have HB2 := hid (hb2); clear hb2)
      | (go_at_call 22; refine (insist_no 60 _).mono ?_; rintro r w9 ⟨rfl, hw9⟩; obtain rfl := hw9.symm))
    exact ⟨rfl, rfl, HB1.out.trans (HB2.out.mono HB1.out.size)⟩
end Go.Proofs.YtipgociofjokeaaGreat
namespace Go.Proofs.YtipgociofjokeaaGreat
open Go.RowKit Go.Shelf
variable {w w' : World} {g M1 M2 M3 n : Nat} {A : Nm → Sl} {pv : Value} {G : Gp} {F : List Nat}

set_option maxRecDepth 100000 in
set_option maxHeartbeats 1000000 in
theorem decBeat_any (h : GP w F g M1 M2 M3 n A pv G) (x : Ev) (hs : x.mem.length ≤ maxLen) : Calls Tryz.prog 42 #[.pointer (some ⟨g, 0, none⟩), .agg (evA x)] w fun r w' => r = decC (if G.has x.mem && x.gen == G.gen then 0 else 60) false ∧ Below w.heap.size w w' := by
  obtain ⟨k, s, a, b, c, d, e, f, q⟩ := x
  dsimp only at *
  obtain ⟨t, ht⟩ : ∃ t, nmS s = t := ⟨_, rfl⟩
  obtain ⟨gp, hgp⟩ : ∃ z, G.parts = z := ⟨_, rfl⟩
  obtain ⟨gs, hgs⟩ : ∃ z, G.sess = z := ⟨_, rfl⟩
  obtain ⟨gg, hgg⟩ : ∃ z, G.gen = z := ⟨_, rfl⟩
  obtain ⟨W1, hW1⟩ : ∃ W1, w.alloc (.cells #[.int .i64 k, .string t, .int .i64 a, .int .i64 b, .int .i64 c, .int .i64 d, .int .i64 e, .int .i64 f, .bool q] TEv) = W1 := ⟨_, rfl⟩
  have b1 : Below w.heap.size w W1 := by rw [← hW1]; exact (Below.refl _ _).alloc (Nat.le_refl _) _
  have x1 : Blk W1 w.heap.size #[.int .i64 k, .string t, .int .i64 a, .int .i64 b, .int .i64 c, .int .i64 d, .int .i64 e, .int .i64 f, .bool q] TEv := by rw [← hW1]; exact heap_alloc_new w _
  have HB1 := hid b1
  have HG : Hid (∀ W, Below W1.heap.size W1 W → GP W F g M1 M2 M3 n A pv G) := fun W hW => (h.later b1).later hW
  have HS : Hid (∀ W, Below W1.heap.size W1 W → W.cell? ⟨w.heap.size, 1, none⟩ = some (.string t) ∧ W.cell? ⟨w.heap.size, 2, none⟩ = some (.int .i64 a) ∧ W.cell? ⟨g, 2, none⟩ = some (.int .i64 gg)) := fun W hW => by
    have hx := x1.later hW
    have hg := (HG.out W hW).box
    rw [hgp, hgs, hgg] at hg
    exact ⟨hx.cell 1, hx.cell 2, hg.cell 2⟩
  have HH : Hid (∀ W, Below W1.heap.size W1 W → Calls Tryz.prog 54 #[.pointer (some ⟨g, 0, none⟩), .string t] W fun r w' => r = .returned (.bool (G.has s)) ∧ Below W.heap.size W w') := fun W hW => by
    rw [← ht]
    refine (has_any (HG.out W hW) s hs).mono ?_
    rintro r w' ⟨h1, o, rfl⟩
    exact ⟨h1, (Below.refl _ _).alloc (Nat.le_refl _) _⟩
  show Calls Tryz.prog _ #[_, .agg #[.int .i64 k, .string (nmS s), .int .i64 a, .int .i64 b, .int .i64 c, .int .i64 d, .int .i64 e, .int .i64 f, .bool q]] w _
  clear h b1 x1
  rw [ht, hgg]
  cases hh : G.has s with
  | true =>
    rw [hh] at HH
    by_cases hq : a = gg
    · have hqb : (a == gg) = true := by simpa using hq
      rw [hqb]
      subst hq
      have hqb : (a == a) = true := by simp
      go_enter Tryz.func42, Tryz.ntmps42
      go_wp2_with fail
      refine wp_region_held_drew (S := fun W => W.cell? ⟨w.heap.size, 1, none⟩ = some (.string t) ∧ W.cell? ⟨w.heap.size, 2, none⟩ = some (.int .i64 a) ∧ W.cell? ⟨g, 2, none⟩ = some (.int .i64 a)) (by kernel_rfl) (HS.out _ (Below.refl _ W1).drew) (fun hHeld => ?_)
      refine wpAnyH_take (i := 0) (oi := { dst := some 5, op := Op.move (Operand.tmp 0), type := 23, pos := "deeds.go:47", after := #[], guard := none }) (v := ?_) rfl (by kernel_rfl) (by kernel_rfl) (by kernel_rfl) (fun _ _ _ h => h) (Or.inl ⟨by rfl, ?_⟩) hHeld ?_
      rotate_left
      · intro w hSw; (try dsimp only at hSw); go_simp; try with_reducible rfl
      try simp only [Act.put, List.setIfInBounds_toArray, List.set_cons_zero, List.set_cons_succ]
      refine wpAnyH_take (i := 1) (oi := { dst := some 6, op := Op.fieldAddr 31 (Operand.tmp 3) 1, type := 0, pos := "deeds.go:47", after := #[], guard := none }) (v := ?_) rfl (by kernel_rfl) (by kernel_rfl) (by kernel_rfl) (fun _ _ _ h => h) (Or.inl ⟨by rfl, ?_⟩) hHeld ?_
      rotate_left
      · intro w hSw; (try dsimp only at hSw); go_simp; try with_reducible rfl
      try simp only [Act.put, List.setIfInBounds_toArray, List.set_cons_zero, List.set_cons_succ]
      refine wpAnyH_take (i := 2) (oi := { dst := some 7, op := Op.load 9 (Operand.tmp 6), type := 9, pos := "deeds.go:47", after := #[{ on := 1, ground := Ground.data }], guard := none }) (v := ?_) rfl (by kernel_rfl) (by kernel_rfl) (by kernel_rfl) (fun _ _ _ h => h) (Or.inl ⟨by rfl, ?_⟩) hHeld ?_
      rotate_left
      · intro w hSw; (try dsimp only at hSw); go_simp; try with_reducible rfl
      try simp only [Act.put, List.setIfInBounds_toArray, List.set_cons_zero, List.set_cons_succ]
      refine wpAnyH_ready (rs := [3]) (by kernel_rfl) (by simp) ?_
      refine AllReadyH.cons rfl (fun K hK => ?_) (AllReadyH.nil)
      go_simp
      go_wp2_with (go_at_call 54; (with_reducible_and_instances (refine (HH.out _ (Below.refl _ W1).drew).mono ?_)); rintro r W2 ⟨rfl, hb2⟩; have HB2 := hid ((Below.refl _ W1).drew.trans hb2); clear hb2)
      refine hK.out _ _ (HS.out _ HB2.out) (fun hHeld => ?_)
      clear hK K
      try simp only [Act.put, List.setIfInBounds_toArray, List.set_cons_zero, List.set_cons_succ]
      refine wpAnyH_take (i := 4) (oi := { dst := some 9, op := Op.move (Operand.tmp 8), type := 4, pos := "deeds.go:47", after := #[{ on := 3, ground := Ground.data }, { on := 3, ground := Ground.chain }], guard := none }) (v := ?_) rfl (by kernel_rfl) (by kernel_rfl) (by kernel_rfl) (fun _ _ _ h => h) (Or.inl ⟨by rfl, ?_⟩) hHeld ?_
      rotate_left
      · intro w hSw; (try dsimp only at hSw); go_simp; try with_reducible rfl
      try simp only [Act.put, List.setIfInBounds_toArray, List.set_cons_zero, List.set_cons_succ]
      refine wpAnyH_take (i := 5) (oi := { dst := some 10, op := Op.fieldAddr 31 (Operand.tmp 3) 2, type := 0, pos := "deeds.go:47", after := #[{ on := 4, ground := Ground.guard }], guard := some (4, true) }) (v := ?_) rfl (by kernel_rfl) (by kernel_rfl) (by kernel_rfl) (fun _ _ _ h => h) (Or.inl ⟨by rfl, ?_⟩) hHeld ?_
      rotate_left
      · intro w hSw; (try dsimp only at hSw); go_simp; try with_reducible rfl
      try simp only [Act.put, List.setIfInBounds_toArray, List.set_cons_zero, List.set_cons_succ]
      refine wpAnyH_take (i := 6) (oi := { dst := some 11, op := Op.load 3 (Operand.tmp 10), type := 3, pos := "deeds.go:47", after := #[{ on := 5, ground := Ground.data }, { on := 4, ground := Ground.guard }], guard := some (4, true) }) (v := ?_) rfl (by kernel_rfl) (by kernel_rfl) (by kernel_rfl) (fun _ _ _ h => h) (Or.inl ⟨by rfl, ?_⟩) hHeld ?_
      rotate_left
      · intro w hSw; (try dsimp only at hSw); go_simp; try with_reducible rfl
      try simp only [Act.put, List.setIfInBounds_toArray, List.set_cons_zero, List.set_cons_succ]
      refine wpAnyH_take (i := 7) (oi := { dst := some 12, op := Op.move (Operand.tmp 0), type := 23, pos := "deeds.go:47", after := #[{ on := 4, ground := Ground.guard }], guard := some (4, true) }) (v := ?_) rfl (by kernel_rfl) (by kernel_rfl) (by kernel_rfl) (fun _ _ _ h => h) (Or.inl ⟨by rfl, ?_⟩) hHeld ?_
      rotate_left
      · intro w hSw; (try dsimp only at hSw); go_simp; try with_reducible rfl
      try simp only [Act.put, List.setIfInBounds_toArray, List.set_cons_zero, List.set_cons_succ]
      refine wpAnyH_take (i := 8) (oi := { dst := some 13, op := Op.nilCheck (Operand.tmp 12), type := 0, pos := "deeds.go:47", after := #[{ on := 7, ground := Ground.data }, { on := 4, ground := Ground.guard }], guard := some (4, true) }) (v := ?_) rfl (by kernel_rfl) (by kernel_rfl) (by kernel_rfl) (fun _ _ _ h => h) (Or.inl ⟨by rfl, ?_⟩) hHeld ?_
      rotate_left
      · intro w hSw; (try dsimp only at hSw); go_simp; try with_reducible rfl
      try simp only [Act.put, List.setIfInBounds_toArray, List.set_cons_zero, List.set_cons_succ]
      refine wpAnyH_take (i := 9) (oi := { dst := some 14, op := Op.fieldAddr 41 (Operand.tmp 13) 2, type := 0, pos := "deeds.go:47", after := #[{ on := 8, ground := Ground.data }, { on := 4, ground := Ground.guard }], guard := some (4, true) }) (v := ?_) rfl (by kernel_rfl) (by kernel_rfl) (by kernel_rfl) (fun _ _ _ h => h) (Or.inl ⟨by rfl, ?_⟩) hHeld ?_
      rotate_left
      · intro w hSw; (try dsimp only at hSw); go_simp; try with_reducible rfl
      try simp only [Act.put, List.setIfInBounds_toArray, List.set_cons_zero, List.set_cons_succ]
      refine wpAnyH_take (i := 10) (oi := { dst := some 15, op := Op.load 3 (Operand.tmp 14), type := 3, pos := "deeds.go:47", after := #[{ on := 9, ground := Ground.data }, { on := 4, ground := Ground.guard }], guard := some (4, true) }) (v := ?_) rfl (by kernel_rfl) (by kernel_rfl) (by kernel_rfl) (fun _ _ _ h => h) (Or.inl ⟨by rfl, ?_⟩) hHeld ?_
      rotate_left
      · intro w hSw; (try dsimp only at hSw); go_simp; try with_reducible rfl
      try simp only [Act.put, List.setIfInBounds_toArray, List.set_cons_zero, List.set_cons_succ]
      refine wpAnyH_take (i := 11) (oi := { dst := some 16, op := Op.binOp BinOp.eql 3 (Operand.tmp 11) (Operand.tmp 15) 3, type := 4, pos := "deeds.go:47", after := #[{ on := 6, ground := Ground.data }, { on := 10, ground := Ground.data }, { on := 4, ground := Ground.guard }], guard := some (4, true) }) (v := ?_) rfl (by kernel_rfl) (by kernel_rfl) (by kernel_rfl) (fun _ _ _ h => h) (Or.inl ⟨by rfl, ?_⟩) hHeld ?_
      rotate_left
      · intro w hSw; (try dsimp only at hSw); go_simp; try with_reducible rfl
      try simp only [Act.put, List.setIfInBounds_toArray, List.set_cons_zero, List.set_cons_succ]
      refine wpAnyH_take (i := 12) (oi := { dst := some 17, op := Op.pick (Operand.tmp 9) (Operand.tmp 16) (Operand.const (Value.bool false)), type := 4, pos := "deeds.go:47", after := #[{ on := 4, ground := Ground.data }, { on := 11, ground := Ground.data }], guard := none }) (v := ?_) rfl (by kernel_rfl) (by kernel_rfl) (by kernel_rfl) (fun _ _ _ h => h) (Or.inl ⟨by rfl, ?_⟩) hHeld ?_
      rotate_left
      · intro w hSw; (try dsimp only at hSw); go_simp; try with_reducible rfl
      try simp only [Act.put, List.setIfInBounds_toArray, List.set_cons_zero, List.set_cons_succ]
      refine wpAnyH_ready (rs := [13]) (by kernel_rfl) (by simp) ?_
      refine AllReadyH.cons rfl (fun K hK => ?_) (AllReadyH.nil)
      go_simp
      go_wp2_with (go_at_call 22; refine (insist_ok 60 _).mono ?_; rintro r w9 ⟨rfl, hw9⟩; obtain rfl := hw9.symm)
      refine hK.out _ _ (HS.out _ HB2.out) (fun hHeld => ?_)
      clear hK K
      try simp only [Act.put, List.setIfInBounds_toArray, List.set_cons_zero, List.set_cons_succ]
      refine wpAnyH_done (by kernel_rfl) ?_ _
      clear hHeld
      go_wp2_with fail
      go_ret
      exact ⟨rfl, HB1.out.trans (HB2.out.mono HB1.out.size)⟩
    · have hqb : (a == gg) = false := by simpa using hq
      rw [hqb]
      go_enter Tryz.func42, Tryz.ntmps42
      go_wp2_with fail
      refine wp_region_held_drew (S := fun W => W.cell? ⟨w.heap.size, 1, none⟩ = some (.string t) ∧ W.cell? ⟨w.heap.size, 2, none⟩ = some (.int .i64 a) ∧ W.cell? ⟨g, 2, none⟩ = some (.int .i64 gg)) (by kernel_rfl) (HS.out _ (Below.refl _ W1).drew) (fun hHeld => ?_)
      refine wpAnyH_take (i := 0) (oi := { dst := some 5, op := Op.move (Operand.tmp 0), type := 23, pos := "deeds.go:47", after := #[], guard := none }) (v := ?_) rfl (by kernel_rfl) (by kernel_rfl) (by kernel_rfl) (fun _ _ _ h => h) (Or.inl ⟨by rfl, ?_⟩) hHeld ?_
      rotate_left
      · intro w hSw; (try dsimp only at hSw); go_simp; try with_reducible rfl
      try simp only [Act.put, List.setIfInBounds_toArray, List.set_cons_zero, List.set_cons_succ]
      refine wpAnyH_take (i := 1) (oi := { dst := some 6, op := Op.fieldAddr 31 (Operand.tmp 3) 1, type := 0, pos := "deeds.go:47", after := #[], guard := none }) (v := ?_) rfl (by kernel_rfl) (by kernel_rfl) (by kernel_rfl) (fun _ _ _ h => h) (Or.inl ⟨by rfl, ?_⟩) hHeld ?_
      rotate_left
      · intro w hSw; (try dsimp only at hSw); go_simp; try with_reducible rfl
      try simp only [Act.put, List.setIfInBounds_toArray, List.set_cons_zero, List.set_cons_succ]
      refine wpAnyH_take (i := 2) (oi := { dst := some 7, op := Op.load 9 (Operand.tmp 6), type := 9, pos := "deeds.go:47", after := #[{ on := 1, ground := Ground.data }], guard := none }) (v := ?_) rfl (by kernel_rfl) (by kernel_rfl) (by kernel_rfl) (fun _ _ _ h => h) (Or.inl ⟨by rfl, ?_⟩) hHeld ?_
      rotate_left
      · intro w hSw; (try dsimp only at hSw); go_simp; try with_reducible rfl
      try simp only [Act.put, List.setIfInBounds_toArray, List.set_cons_zero, List.set_cons_succ]
      refine wpAnyH_ready (rs := [3]) (by kernel_rfl) (by simp) ?_
      refine AllReadyH.cons rfl (fun K hK => ?_) (AllReadyH.nil)
      go_simp
      go_wp2_with (go_at_call 54; (with_reducible_and_instances (refine (HH.out _ (Below.refl _ W1).drew).mono ?_)); rintro r W2 ⟨rfl, hb2⟩; have HB2 := hid ((Below.refl _ W1).drew.trans hb2); clear hb2)
      refine hK.out _ _ (HS.out _ HB2.out) (fun hHeld => ?_)
      clear hK K
      try simp only [Act.put, List.setIfInBounds_toArray, List.set_cons_zero, List.set_cons_succ]
      refine wpAnyH_take (i := 4) (oi := { dst := some 9, op := Op.move (Operand.tmp 8), type := 4, pos := "deeds.go:47", after := #[{ on := 3, ground := Ground.data }, { on := 3, ground := Ground.chain }], guard := none }) (v := ?_) rfl (by kernel_rfl) (by kernel_rfl) (by kernel_rfl) (fun _ _ _ h => h) (Or.inl ⟨by rfl, ?_⟩) hHeld ?_
      rotate_left
      · intro w hSw; (try dsimp only at hSw); go_simp; try with_reducible rfl
      try simp only [Act.put, List.setIfInBounds_toArray, List.set_cons_zero, List.set_cons_succ]
      refine wpAnyH_take (i := 5) (oi := { dst := some 10, op := Op.fieldAddr 31 (Operand.tmp 3) 2, type := 0, pos := "deeds.go:47", after := #[{ on := 4, ground := Ground.guard }], guard := some (4, true) }) (v := ?_) rfl (by kernel_rfl) (by kernel_rfl) (by kernel_rfl) (fun _ _ _ h => h) (Or.inl ⟨by rfl, ?_⟩) hHeld ?_
      rotate_left
      · intro w hSw; (try dsimp only at hSw); go_simp; try with_reducible rfl
      try simp only [Act.put, List.setIfInBounds_toArray, List.set_cons_zero, List.set_cons_succ]
      refine wpAnyH_take (i := 6) (oi := { dst := some 11, op := Op.load 3 (Operand.tmp 10), type := 3, pos := "deeds.go:47", after := #[{ on := 5, ground := Ground.data }, { on := 4, ground := Ground.guard }], guard := some (4, true) }) (v := ?_) rfl (by kernel_rfl) (by kernel_rfl) (by kernel_rfl) (fun _ _ _ h => h) (Or.inl ⟨by rfl, ?_⟩) hHeld ?_
      rotate_left
      · intro w hSw; (try dsimp only at hSw); go_simp; try with_reducible rfl
      try simp only [Act.put, List.setIfInBounds_toArray, List.set_cons_zero, List.set_cons_succ]
      refine wpAnyH_take (i := 7) (oi := { dst := some 12, op := Op.move (Operand.tmp 0), type := 23, pos := "deeds.go:47", after := #[{ on := 4, ground := Ground.guard }], guard := some (4, true) }) (v := ?_) rfl (by kernel_rfl) (by kernel_rfl) (by kernel_rfl) (fun _ _ _ h => h) (Or.inl ⟨by rfl, ?_⟩) hHeld ?_
      rotate_left
      · intro w hSw; (try dsimp only at hSw); go_simp; try with_reducible rfl
      try simp only [Act.put, List.setIfInBounds_toArray, List.set_cons_zero, List.set_cons_succ]
      refine wpAnyH_take (i := 8) (oi := { dst := some 13, op := Op.nilCheck (Operand.tmp 12), type := 0, pos := "deeds.go:47", after := #[{ on := 7, ground := Ground.data }, { on := 4, ground := Ground.guard }], guard := some (4, true) }) (v := ?_) rfl (by kernel_rfl) (by kernel_rfl) (by kernel_rfl) (fun _ _ _ h => h) (Or.inl ⟨by rfl, ?_⟩) hHeld ?_
      rotate_left
      · intro w hSw; (try dsimp only at hSw); go_simp; try with_reducible rfl
      try simp only [Act.put, List.setIfInBounds_toArray, List.set_cons_zero, List.set_cons_succ]
      refine wpAnyH_take (i := 9) (oi := { dst := some 14, op := Op.fieldAddr 41 (Operand.tmp 13) 2, type := 0, pos := "deeds.go:47", after := #[{ on := 8, ground := Ground.data }, { on := 4, ground := Ground.guard }], guard := some (4, true) }) (v := ?_) rfl (by kernel_rfl) (by kernel_rfl) (by kernel_rfl) (fun _ _ _ h => h) (Or.inl ⟨by rfl, ?_⟩) hHeld ?_
      rotate_left
      · intro w hSw; (try dsimp only at hSw); go_simp; try with_reducible rfl
      try simp only [Act.put, List.setIfInBounds_toArray, List.set_cons_zero, List.set_cons_succ]
      refine wpAnyH_take (i := 10) (oi := { dst := some 15, op := Op.load 3 (Operand.tmp 14), type := 3, pos := "deeds.go:47", after := #[{ on := 9, ground := Ground.data }, { on := 4, ground := Ground.guard }], guard := some (4, true) }) (v := ?_) rfl (by kernel_rfl) (by kernel_rfl) (by kernel_rfl) (fun _ _ _ h => h) (Or.inl ⟨by rfl, ?_⟩) hHeld ?_
      rotate_left
      · intro w hSw; (try dsimp only at hSw); go_simp; try with_reducible rfl
      try simp only [Act.put, List.setIfInBounds_toArray, List.set_cons_zero, List.set_cons_succ]
      refine wpAnyH_take (i := 11) (oi := { dst := some 16, op := Op.binOp BinOp.eql 3 (Operand.tmp 11) (Operand.tmp 15) 3, type := 4, pos := "deeds.go:47", after := #[{ on := 6, ground := Ground.data }, { on := 10, ground := Ground.data }, { on := 4, ground := Ground.guard }], guard := some (4, true) }) (v := ?_) rfl (by kernel_rfl) (by kernel_rfl) (by kernel_rfl) (fun _ _ _ h => h) (Or.inl ⟨by rfl, ?_⟩) hHeld ?_
      rotate_left
      · intro w hSw; (try dsimp only at hSw); go_simp; try with_reducible rfl
      try simp only [Act.put, List.setIfInBounds_toArray, List.set_cons_zero, List.set_cons_succ]
      refine wpAnyH_take (i := 12) (oi := { dst := some 17, op := Op.pick (Operand.tmp 9) (Operand.tmp 16) (Operand.const (Value.bool false)), type := 4, pos := "deeds.go:47", after := #[{ on := 4, ground := Ground.data }, { on := 11, ground := Ground.data }], guard := none }) (v := ?_) rfl (by kernel_rfl) (by kernel_rfl) (by kernel_rfl) (fun _ _ _ h => h) (Or.inl ⟨by rfl, ?_⟩) hHeld ?_
      rotate_left
      · intro w hSw; (try dsimp only at hSw); go_simp; try with_reducible rfl
      try simp only [Act.put, List.setIfInBounds_toArray, List.set_cons_zero, List.set_cons_succ]
      refine wpAnyH_ready (rs := [13]) (by kernel_rfl) (by simp) ?_
      refine AllReadyH.cons rfl (fun K hK => ?_) (AllReadyH.nil)
      go_simp
      go_wp2_with (go_at_call 22; refine (insist_no 60 _).mono ?_; rintro r w9 ⟨rfl, hw9⟩; obtain rfl := hw9.symm)
      exact ⟨rfl, rfl, HB1.out.trans (HB2.out.mono HB1.out.size)⟩
  | false =>
    rw [hh] at HH
    go_enter Tryz.func42, Tryz.ntmps42
    go_wp2_with fail
    refine wp_region_held_drew (S := fun W => W.cell? ⟨w.heap.size, 1, none⟩ = some (.string t) ∧ W.cell? ⟨w.heap.size, 2, none⟩ = some (.int .i64 a) ∧ W.cell? ⟨g, 2, none⟩ = some (.int .i64 gg)) (by kernel_rfl) (HS.out _ (Below.refl _ W1).drew) (fun hHeld => ?_)
    refine wpAnyH_take (i := 0) (oi := { dst := some 5, op := Op.move (Operand.tmp 0), type := 23, pos := "deeds.go:47", after := #[], guard := none }) (v := ?_) rfl (by kernel_rfl) (by kernel_rfl) (by kernel_rfl) (fun _ _ _ h => h) (Or.inl ⟨by rfl, ?_⟩) hHeld ?_
    rotate_left
    · intro w hSw; (try dsimp only at hSw); go_simp; try with_reducible rfl
    try simp only [Act.put, List.setIfInBounds_toArray, List.set_cons_zero, List.set_cons_succ]
    refine wpAnyH_take (i := 1) (oi := { dst := some 6, op := Op.fieldAddr 31 (Operand.tmp 3) 1, type := 0, pos := "deeds.go:47", after := #[], guard := none }) (v := ?_) rfl (by kernel_rfl) (by kernel_rfl) (by kernel_rfl) (fun _ _ _ h => h) (Or.inl ⟨by rfl, ?_⟩) hHeld ?_
    rotate_left
    · intro w hSw; (try dsimp only at hSw); go_simp; try with_reducible rfl
    try simp only [Act.put, List.setIfInBounds_toArray, List.set_cons_zero, List.set_cons_succ]
    refine wpAnyH_take (i := 2) (oi := { dst := some 7, op := Op.load 9 (Operand.tmp 6), type := 9, pos := "deeds.go:47", after := #[{ on := 1, ground := Ground.data }], guard := none }) (v := ?_) rfl (by kernel_rfl) (by kernel_rfl) (by kernel_rfl) (fun _ _ _ h => h) (Or.inl ⟨by rfl, ?_⟩) hHeld ?_
    rotate_left
    · intro w hSw; (try dsimp only at hSw); go_simp; try with_reducible rfl
    try simp only [Act.put, List.setIfInBounds_toArray, List.set_cons_zero, List.set_cons_succ]
    refine wpAnyH_ready (rs := [3]) (by kernel_rfl) (by simp) ?_
    refine AllReadyH.cons rfl (fun K hK => ?_) (AllReadyH.nil)
    go_simp
    go_wp2_with (go_at_call 54; (with_reducible_and_instances (refine (HH.out _ (Below.refl _ W1).drew).mono ?_)); rintro r W2 ⟨rfl, hb2⟩; have HB2 := hid ((Below.refl _ W1).drew.trans hb2); clear hb2)
    refine hK.out _ _ (HS.out _ HB2.out) (fun hHeld => ?_)
    clear hK K
    try simp only [Act.put, List.setIfInBounds_toArray, List.set_cons_zero, List.set_cons_succ]
    refine wpAnyH_take (i := 4) (oi := { dst := some 9, op := Op.move (Operand.tmp 8), type := 4, pos := "deeds.go:47", after := #[{ on := 3, ground := Ground.data }, { on := 3, ground := Ground.chain }], guard := none }) (v := ?_) rfl (by kernel_rfl) (by kernel_rfl) (by kernel_rfl) (fun _ _ _ h => h) (Or.inl ⟨by rfl, ?_⟩) hHeld ?_
    rotate_left
    · intro w hSw; (try dsimp only at hSw); go_simp; try with_reducible rfl
    try simp only [Act.put, List.setIfInBounds_toArray, List.set_cons_zero, List.set_cons_succ]
    refine wpAnyH_take (i := 5) (oi := { dst := some 10, op := Op.fieldAddr 31 (Operand.tmp 3) 2, type := 0, pos := "deeds.go:47", after := #[{ on := 4, ground := Ground.guard }], guard := some (4, true) }) (v := undef) rfl (by kernel_rfl) (by kernel_rfl) (by kernel_rfl) (fun _ _ _ h => h) (Or.inr ⟨by kernel_rfl, rfl⟩) hHeld ?_
    try simp only [Act.put, List.setIfInBounds_toArray, List.set_cons_zero, List.set_cons_succ]
    refine wpAnyH_take (i := 6) (oi := { dst := some 11, op := Op.load 3 (Operand.tmp 10), type := 3, pos := "deeds.go:47", after := #[{ on := 5, ground := Ground.data }, { on := 4, ground := Ground.guard }], guard := some (4, true) }) (v := undef) rfl (by kernel_rfl) (by kernel_rfl) (by kernel_rfl) (fun _ _ _ h => h) (Or.inr ⟨by kernel_rfl, rfl⟩) hHeld ?_
    try simp only [Act.put, List.setIfInBounds_toArray, List.set_cons_zero, List.set_cons_succ]
    refine wpAnyH_take (i := 7) (oi := { dst := some 12, op := Op.move (Operand.tmp 0), type := 23, pos := "deeds.go:47", after := #[{ on := 4, ground := Ground.guard }], guard := some (4, true) }) (v := undef) rfl (by kernel_rfl) (by kernel_rfl) (by kernel_rfl) (fun _ _ _ h => h) (Or.inr ⟨by kernel_rfl, rfl⟩) hHeld ?_
    try simp only [Act.put, List.setIfInBounds_toArray, List.set_cons_zero, List.set_cons_succ]
    refine wpAnyH_take (i := 8) (oi := { dst := some 13, op := Op.nilCheck (Operand.tmp 12), type := 0, pos := "deeds.go:47", after := #[{ on := 7, ground := Ground.data }, { on := 4, ground := Ground.guard }], guard := some (4, true) }) (v := undef) rfl (by kernel_rfl) (by kernel_rfl) (by kernel_rfl) (fun _ _ _ h => h) (Or.inr ⟨by kernel_rfl, rfl⟩) hHeld ?_
    try simp only [Act.put, List.setIfInBounds_toArray, List.set_cons_zero, List.set_cons_succ]
    refine wpAnyH_take (i := 9) (oi := { dst := some 14, op := Op.fieldAddr 41 (Operand.tmp 13) 2, type := 0, pos := "deeds.go:47", after := #[{ on := 8, ground := Ground.data }, { on := 4, ground := Ground.guard }], guard := some (4, true) }) (v := undef) rfl (by kernel_rfl) (by kernel_rfl) (by kernel_rfl) (fun _ _ _ h => h) (Or.inr ⟨by kernel_rfl, rfl⟩) hHeld ?_
    try simp only [Act.put, List.setIfInBounds_toArray, List.set_cons_zero, List.set_cons_succ]
    refine wpAnyH_take (i := 10) (oi := { dst := some 15, op := Op.load 3 (Operand.tmp 14), type := 3, pos := "deeds.go:47", after := #[{ on := 9, ground := Ground.data }, { on := 4, ground := Ground.guard }], guard := some (4, true) }) (v := undef) rfl (by kernel_rfl) (by kernel_rfl) (by kernel_rfl) (fun _ _ _ h => h) (Or.inr ⟨by kernel_rfl, rfl⟩) hHeld ?_
    try simp only [Act.put, List.setIfInBounds_toArray, List.set_cons_zero, List.set_cons_succ]
    refine wpAnyH_take (i := 11) (oi := { dst := some 16, op := Op.binOp BinOp.eql 3 (Operand.tmp 11) (Operand.tmp 15) 3, type := 4, pos := "deeds.go:47", after := #[{ on := 6, ground := Ground.data }, { on := 10, ground := Ground.data }, { on := 4, ground := Ground.guard }], guard := some (4, true) }) (v := undef) rfl (by kernel_rfl) (by kernel_rfl) (by kernel_rfl) (fun _ _ _ h => h) (Or.inr ⟨by kernel_rfl, rfl⟩) hHeld ?_
    try simp only [Act.put, List.setIfInBounds_toArray, List.set_cons_zero, List.set_cons_succ]
    refine wpAnyH_take (i := 12) (oi := { dst := some 17, op := Op.pick (Operand.tmp 9) (Operand.tmp 16) (Operand.const (Value.bool false)), type := 4, pos := "deeds.go:47", after := #[{ on := 4, ground := Ground.data }, { on := 11, ground := Ground.data }], guard := none }) (v := ?_) rfl (by kernel_rfl) (by kernel_rfl) (by kernel_rfl) (fun _ _ _ h => h) (Or.inl ⟨by rfl, ?_⟩) hHeld ?_
    rotate_left
    · intro w hSw; (try dsimp only at hSw); go_simp; try with_reducible rfl
    try simp only [Act.put, List.setIfInBounds_toArray, List.set_cons_zero, List.set_cons_succ]
    refine wpAnyH_ready (rs := [13]) (by kernel_rfl) (by simp) ?_
    refine AllReadyH.cons rfl (fun K hK => ?_) (AllReadyH.nil)
    go_simp
    go_wp2_with (go_at_call 22; refine (insist_no 60 _).mono ?_; rintro r w9 ⟨rfl, hw9⟩; obtain rfl := hw9.symm)
    exact ⟨rfl, rfl, HB1.out.trans (HB2.out.mono HB1.out.size)⟩
end Go.Proofs.YtipgociofjokeaaGreat
namespace Go.Proofs.YtipgociofjokeaaGreat
open Go.RowKit Go.Shelf
variable {w w' : World} {g M1 M2 M3 n : Nat} {A : Nm → Sl} {pv : Value} {G : Gp} {F : List Nat}

set_option maxRecDepth 100000 in
set_option maxHeartbeats 1000000 in
theorem decCommit_any (h : GP w F g M1 M2 M3 n A pv G) (x : Ev) (hs : x.mem.length ≤ maxLen) : Calls Tryz.prog 43 #[.pointer (some ⟨g, 0, none⟩), .agg (evA x)] w fun r w' => r = decC (if G.has x.mem && x.gen == G.gen then (if x.part < G.parts then 0 else 1) else 60) false ∧ Below w.heap.size w w' := by
  obtain ⟨k, s, a, b, c, d, e, f, q⟩ := x
  dsimp only at *
  obtain ⟨t, ht⟩ : ∃ t, nmS s = t := ⟨_, rfl⟩
  obtain ⟨gp, hgp⟩ : ∃ z, G.parts = z := ⟨_, rfl⟩
  obtain ⟨gs, hgs⟩ : ∃ z, G.sess = z := ⟨_, rfl⟩
  obtain ⟨gg, hgg⟩ : ∃ z, G.gen = z := ⟨_, rfl⟩
  obtain ⟨W1, hW1⟩ : ∃ W1, w.alloc (.cells #[.int .i64 k, .string t, .int .i64 a, .int .i64 b, .int .i64 c, .int .i64 d, .int .i64 e, .int .i64 f, .bool q] TEv) = W1 := ⟨_, rfl⟩
  have b1 : Below w.heap.size w W1 := by rw [← hW1]; exact (Below.refl _ _).alloc (Nat.le_refl _) _
  have x1 : Blk W1 w.heap.size #[.int .i64 k, .string t, .int .i64 a, .int .i64 b, .int .i64 c, .int .i64 d, .int .i64 e, .int .i64 f, .bool q] TEv := by rw [← hW1]; exact heap_alloc_new w _
  have HB1 := hid b1
  have HG : Hid (∀ W, Below W1.heap.size W1 W → GP W F g M1 M2 M3 n A pv G) := fun W hW => (h.later b1).later hW
  have HS : Hid (∀ W, Below W1.heap.size W1 W → W.cell? ⟨w.heap.size, 0, none⟩ = some (.int .i64 k) ∧ W.cell? ⟨w.heap.size, 1, none⟩ = some (.string t) ∧ W.cell? ⟨w.heap.size, 2, none⟩ = some (.int .i64 a) ∧ W.cell? ⟨w.heap.size, 3, none⟩ = some (.int .i64 b) ∧ W.cell? ⟨w.heap.size, 4, none⟩ = some (.int .i64 c) ∧ W.cell? ⟨w.heap.size, 5, none⟩ = some (.int .i64 d) ∧ W.cell? ⟨w.heap.size, 6, none⟩ = some (.int .i64 e) ∧ W.cell? ⟨w.heap.size, 7, none⟩ = some (.int .i64 f) ∧ W.cell? ⟨w.heap.size, 8, none⟩ = some (.bool q) ∧ W.cell? ⟨g, 0, none⟩ = some (.int .i64 gp)) := fun W hW => by
    have hx := x1.later hW
    have hg := (HG.out W hW).box
    rw [hgp, hgs, hgg] at hg
    exact ⟨hx.cell 0, hx.cell 1, hx.cell 2, hx.cell 3, hx.cell 4, hx.cell 5, hx.cell 6, hx.cell 7, hx.cell 8, hg.cell 0⟩
  have HBt : Hid (∀ W, Below W1.heap.size W1 W → Calls Tryz.prog 42 #[.pointer (some ⟨g, 0, none⟩), .agg #[.int .i64 k, .string t, .int .i64 a, .int .i64 b, .int .i64 c, .int .i64 d, .int .i64 e, .int .i64 f, .bool q]] W fun r w' => r = decC (if G.has s && a == G.gen then 0 else 60) false ∧ Below W.heap.size W w') := fun W hW => by
    rw [← ht]
    exact decBeat_any (HG.out W hW) ⟨k, s, a, b, c, d, e, f, q⟩ hs
  obtain ⟨c0, c1, c2, c3, c4, c5, c6, c7, c8, cg⟩ := HS.out W1 (Below.refl _ _)
  show Calls Tryz.prog _ #[_, .agg #[.int .i64 k, .string (nmS s), .int .i64 a, .int .i64 b, .int .i64 c, .int .i64 d, .int .i64 e, .int .i64 f, .bool q]] w _
  clear h b1 x1
  rw [ht, hgp]
  cases hc : (G.has s && a == G.gen) with
  | true =>
    rw [hc] at HBt
    have hcd : decC (if true = true then 0 else 60) false = .returned (.bool false) := rfl
    by_cases hq : b < gp
    · have hqd : decide (b < gp) = true := by simpa using hq
      rw [show decC (if true = true then (if b < gp then 0 else 1) else 60) false = .returned (.bool false) by simp [decC, hq]]
      go_enter Tryz.func43, Tryz.ntmps43
      go_wp2_with (go_at_call 42; (with_reducible_and_instances (refine (HBt.out _ (Below.refl _ _)).mono ?_)); rintro r W2 ⟨hr, hb2⟩; rw [hcd] at hr; subst hr; have HB2 := hid hb2; obtain ⟨e0, e1, e2, e3, e4, e5, e6, e7, e8, eg⟩ := HS.out W2 hb2; clear hb2)
      refine wp_region_held_drew (S := fun W => W.cell? ⟨w.heap.size, 0, none⟩ = some (.int .i64 k) ∧ W.cell? ⟨w.heap.size, 1, none⟩ = some (.string t) ∧ W.cell? ⟨w.heap.size, 2, none⟩ = some (.int .i64 a) ∧ W.cell? ⟨w.heap.size, 3, none⟩ = some (.int .i64 b) ∧ W.cell? ⟨w.heap.size, 4, none⟩ = some (.int .i64 c) ∧ W.cell? ⟨w.heap.size, 5, none⟩ = some (.int .i64 d) ∧ W.cell? ⟨w.heap.size, 6, none⟩ = some (.int .i64 e) ∧ W.cell? ⟨w.heap.size, 7, none⟩ = some (.int .i64 f) ∧ W.cell? ⟨w.heap.size, 8, none⟩ = some (.bool q) ∧ W.cell? ⟨g, 0, none⟩ = some (.int .i64 gp)) (by kernel_rfl) (HS.out _ HB2.out.drew) (fun hHeld => ?_)
      refine wpAnyH_take (i := 0) (oi := { dst := some 8, op := Op.fieldAddr 31 (Operand.tmp 3) 3, type := 0, pos := "deeds.go:53", after := #[], guard := none }) (v := ?_) rfl (by kernel_rfl) (by kernel_rfl) (by kernel_rfl) (fun _ _ _ h => h) (Or.inl ⟨by rfl, ?_⟩) hHeld ?_
      rotate_left
      · intro w hSw; (try dsimp only at hSw); go_simp; try with_reducible rfl
      try simp only [Act.put, List.setIfInBounds_toArray, List.set_cons_zero, List.set_cons_succ]
      refine wpAnyH_take (i := 1) (oi := { dst := some 9, op := Op.load 3 (Operand.tmp 8), type := 3, pos := "deeds.go:53", after := #[{ on := 0, ground := Ground.data }], guard := none }) (v := ?_) rfl (by kernel_rfl) (by kernel_rfl) (by kernel_rfl) (fun _ _ _ h => h) (Or.inl ⟨by rfl, ?_⟩) hHeld ?_
      rotate_left
      · intro w hSw; (try dsimp only at hSw); go_simp; try with_reducible rfl
      try simp only [Act.put, List.setIfInBounds_toArray, List.set_cons_zero, List.set_cons_succ]
      refine wpAnyH_take (i := 2) (oi := { dst := some 10, op := Op.move (Operand.tmp 0), type := 23, pos := "deeds.go:53", after := #[], guard := none }) (v := ?_) rfl (by kernel_rfl) (by kernel_rfl) (by kernel_rfl) (fun _ _ _ h => h) (Or.inl ⟨by rfl, ?_⟩) hHeld ?_
      rotate_left
      · intro w hSw; (try dsimp only at hSw); go_simp; try with_reducible rfl
      try simp only [Act.put, List.setIfInBounds_toArray, List.set_cons_zero, List.set_cons_succ]
      refine wpAnyH_take (i := 3) (oi := { dst := some 11, op := Op.nilCheck (Operand.tmp 10), type := 0, pos := "deeds.go:53", after := #[{ on := 2, ground := Ground.data }], guard := none }) (v := ?_) rfl (by kernel_rfl) (by kernel_rfl) (by kernel_rfl) (fun _ _ _ h => h) (Or.inl ⟨by rfl, ?_⟩) hHeld ?_
      rotate_left
      · intro w hSw; (try dsimp only at hSw); go_simp; try with_reducible rfl
      try simp only [Act.put, List.setIfInBounds_toArray, List.set_cons_zero, List.set_cons_succ]
      refine wpAnyH_take (i := 4) (oi := { dst := some 12, op := Op.fieldAddr 41 (Operand.tmp 11) 0, type := 0, pos := "deeds.go:53", after := #[{ on := 3, ground := Ground.data }], guard := none }) (v := ?_) rfl (by kernel_rfl) (by kernel_rfl) (by kernel_rfl) (fun _ _ _ h => h) (Or.inl ⟨by rfl, ?_⟩) hHeld ?_
      rotate_left
      · intro w hSw; (try dsimp only at hSw); go_simp; try with_reducible rfl
      try simp only [Act.put, List.setIfInBounds_toArray, List.set_cons_zero, List.set_cons_succ]
      refine wpAnyH_take (i := 5) (oi := { dst := some 13, op := Op.load 3 (Operand.tmp 12), type := 3, pos := "deeds.go:53", after := #[{ on := 4, ground := Ground.data }], guard := none }) (v := ?_) rfl (by kernel_rfl) (by kernel_rfl) (by kernel_rfl) (fun _ _ _ h => h) (Or.inl ⟨by rfl, ?_⟩) hHeld ?_
      rotate_left
      · intro w hSw; (try dsimp only at hSw); go_simp; try with_reducible rfl
      try simp only [Act.put, List.setIfInBounds_toArray, List.set_cons_zero, List.set_cons_succ]
      refine wpAnyH_take (i := 6) (oi := { dst := some 14, op := Op.binOp BinOp.lss 3 (Operand.tmp 9) (Operand.tmp 13) 3, type := 4, pos := "deeds.go:53", after := #[{ on := 1, ground := Ground.data }, { on := 5, ground := Ground.data }], guard := none }) (v := ?_) rfl (by kernel_rfl) (by kernel_rfl) (by kernel_rfl) (fun _ _ _ h => h) (Or.inl ⟨by rfl, ?_⟩) hHeld ?_
      rotate_left
      · intro w hSw; (try dsimp only at hSw); go_simp; try with_reducible rfl
      try simp only [Act.put, List.setIfInBounds_toArray, List.set_cons_zero, List.set_cons_succ]
      refine wpAnyH_ready (rs := [7]) (by kernel_rfl) (by simp) ?_
      refine AllReadyH.cons rfl (fun K hK => ?_) (AllReadyH.nil)
      go_simp
      go_wp2_with (go_at_call 22; refine (insist_ok 1 _).mono ?_; rintro r w9 ⟨rfl, hw9⟩; obtain rfl := hw9.symm)
      refine hK.out _ _ (HS.out _ HB2.out.drew) (fun hHeld => ?_)
      clear hK K
      try simp only [Act.put, List.setIfInBounds_toArray, List.set_cons_zero, List.set_cons_succ]
      refine wpAnyH_done (by kernel_rfl) ?_ _
      clear hHeld
      go_wp2_with fail
      go_ret
      exact ⟨rfl, (HB1.out.trans (HB2.out.mono HB1.out.size)).drew⟩
    · have hqd : decide (b < gp) = false := by simpa using hq
      rw [show decC (if true = true then (if b < gp then 0 else 1) else 60) false = .panicked (refusal 1) by simp [decC, hq]]
      go_enter Tryz.func43, Tryz.ntmps43
      go_wp2_with (go_at_call 42; (with_reducible_and_instances (refine (HBt.out _ (Below.refl _ _)).mono ?_)); rintro r W2 ⟨hr, hb2⟩; rw [hcd] at hr; subst hr; have HB2 := hid hb2; obtain ⟨e0, e1, e2, e3, e4, e5, e6, e7, e8, eg⟩ := HS.out W2 hb2; clear hb2)
      refine wp_region_held_drew (S := fun W => W.cell? ⟨w.heap.size, 0, none⟩ = some (.int .i64 k) ∧ W.cell? ⟨w.heap.size, 1, none⟩ = some (.string t) ∧ W.cell? ⟨w.heap.size, 2, none⟩ = some (.int .i64 a) ∧ W.cell? ⟨w.heap.size, 3, none⟩ = some (.int .i64 b) ∧ W.cell? ⟨w.heap.size, 4, none⟩ = some (.int .i64 c) ∧ W.cell? ⟨w.heap.size, 5, none⟩ = some (.int .i64 d) ∧ W.cell? ⟨w.heap.size, 6, none⟩ = some (.int .i64 e) ∧ W.cell? ⟨w.heap.size, 7, none⟩ = some (.int .i64 f) ∧ W.cell? ⟨w.heap.size, 8, none⟩ = some (.bool q) ∧ W.cell? ⟨g, 0, none⟩ = some (.int .i64 gp)) (by kernel_rfl) (HS.out _ HB2.out.drew) (fun hHeld => ?_)
      refine wpAnyH_take (i := 0) (oi := { dst := some 8, op := Op.fieldAddr 31 (Operand.tmp 3) 3, type := 0, pos := "deeds.go:53", after := #[], guard := none }) (v := ?_) rfl (by kernel_rfl) (by kernel_rfl) (by kernel_rfl) (fun _ _ _ h => h) (Or.inl ⟨by rfl, ?_⟩) hHeld ?_
      rotate_left
      · intro w hSw; (try dsimp only at hSw); go_simp; try with_reducible rfl
      try simp only [Act.put, List.setIfInBounds_toArray, List.set_cons_zero, List.set_cons_succ]
      refine wpAnyH_take (i := 1) (oi := { dst := some 9, op := Op.load 3 (Operand.tmp 8), type := 3, pos := "deeds.go:53", after := #[{ on := 0, ground := Ground.data }], guard := none }) (v := ?_) rfl (by kernel_rfl) (by kernel_rfl) (by kernel_rfl) (fun _ _ _ h => h) (Or.inl ⟨by rfl, ?_⟩) hHeld ?_
      rotate_left
      · intro w hSw; (try dsimp only at hSw); go_simp; try with_reducible rfl
      try simp only [Act.put, List.setIfInBounds_toArray, List.set_cons_zero, List.set_cons_succ]
      refine wpAnyH_take (i := 2) (oi := { dst := some 10, op := Op.move (Operand.tmp 0), type := 23, pos := "deeds.go:53", after := #[], guard := none }) (v := ?_) rfl (by kernel_rfl) (by kernel_rfl) (by kernel_rfl) (fun _ _ _ h => h) (Or.inl ⟨by rfl, ?_⟩) hHeld ?_
      rotate_left
      · intro w hSw; (try dsimp only at hSw); go_simp; try with_reducible rfl
      try simp only [Act.put, List.setIfInBounds_toArray, List.set_cons_zero, List.set_cons_succ]
      refine wpAnyH_take (i := 3) (oi := { dst := some 11, op := Op.nilCheck (Operand.tmp 10), type := 0, pos := "deeds.go:53", after := #[{ on := 2, ground := Ground.data }], guard := none }) (v := ?_) rfl (by kernel_rfl) (by kernel_rfl) (by kernel_rfl) (fun _ _ _ h => h) (Or.inl ⟨by rfl, ?_⟩) hHeld ?_
      rotate_left
      · intro w hSw; (try dsimp only at hSw); go_simp; try with_reducible rfl
      try simp only [Act.put, List.setIfInBounds_toArray, List.set_cons_zero, List.set_cons_succ]
      refine wpAnyH_take (i := 4) (oi := { dst := some 12, op := Op.fieldAddr 41 (Operand.tmp 11) 0, type := 0, pos := "deeds.go:53", after := #[{ on := 3, ground := Ground.data }], guard := none }) (v := ?_) rfl (by kernel_rfl) (by kernel_rfl) (by kernel_rfl) (fun _ _ _ h => h) (Or.inl ⟨by rfl, ?_⟩) hHeld ?_
      rotate_left
      · intro w hSw; (try dsimp only at hSw); go_simp; try with_reducible rfl
      try simp only [Act.put, List.setIfInBounds_toArray, List.set_cons_zero, List.set_cons_succ]
      refine wpAnyH_take (i := 5) (oi := { dst := some 13, op := Op.load 3 (Operand.tmp 12), type := 3, pos := "deeds.go:53", after := #[{ on := 4, ground := Ground.data }], guard := none }) (v := ?_) rfl (by kernel_rfl) (by kernel_rfl) (by kernel_rfl) (fun _ _ _ h => h) (Or.inl ⟨by rfl, ?_⟩) hHeld ?_
      rotate_left
      · intro w hSw; (try dsimp only at hSw); go_simp; try with_reducible rfl
      try simp only [Act.put, List.setIfInBounds_toArray, List.set_cons_zero, List.set_cons_succ]
      refine wpAnyH_take (i := 6) (oi := { dst := some 14, op := Op.binOp BinOp.lss 3 (Operand.tmp 9) (Operand.tmp 13) 3, type := 4, pos := "deeds.go:53", after := #[{ on := 1, ground := Ground.data }, { on := 5, ground := Ground.data }], guard := none }) (v := ?_) rfl (by kernel_rfl) (by kernel_rfl) (by kernel_rfl) (fun _ _ _ h => h) (Or.inl ⟨by rfl, ?_⟩) hHeld ?_
      rotate_left
      · intro w hSw; (try dsimp only at hSw); go_simp; try with_reducible rfl
      try simp only [Act.put, List.setIfInBounds_toArray, List.set_cons_zero, List.set_cons_succ]
      refine wpAnyH_ready (rs := [7]) (by kernel_rfl) (by simp) ?_
      refine AllReadyH.cons rfl (fun K hK => ?_) (AllReadyH.nil)
      go_simp
      go_wp2_with (go_at_call 22; refine (insist_no 1 _).mono ?_; rintro r w9 ⟨rfl, hw9⟩; obtain rfl := hw9.symm)
      exact ⟨rfl, rfl, (HB1.out.trans (HB2.out.mono HB1.out.size)).drew⟩
  | false =>
    rw [hc] at HBt
    have hcd : decC (if false = true then 0 else 60) false = .panicked (refusal 60) := rfl
    rw [show decC (if false = true then (if b < gp then 0 else 1) else 60) false = .panicked (refusal 60) from rfl]
    go_enter Tryz.func43, Tryz.ntmps43
    go_wp2_with (go_at_call 42; (with_reducible_and_instances (refine (HBt.out _ (Below.refl _ _)).mono ?_)); rintro r W2 ⟨hr, hb2⟩; rw [hcd] at hr; subst hr; have HB2 := hid hb2; obtain ⟨e0, e1, e2, e3, e4, e5, e6, e7, e8, eg⟩ := HS.out W2 hb2; clear hb2)
    exact ⟨rfl, rfl, HB1.out.trans (HB2.out.mono HB1.out.size)⟩
set_option maxRecDepth 100000 in
set_option maxHeartbeats 1000000 in
theorem insistEpoch_any (h : GP w F g M1 M2 M3 n A pv G) (x : Ev) (hp : -9223372036854775808 ≤ x.prod ∧ x.prod ≤ 9223372036854775807) : Calls Tryz.prog 55 #[.pointer (some ⟨g, 0, none⟩), .agg (evA x)] w fun r w' => r = insC (decide (G.epo x.prod ≤ x.ep)) 50 ∧ Below w.heap.size w w' := by
  obtain ⟨k, s, a, b, c, d, e, f, q⟩ := x
  dsimp only at *
  obtain ⟨t, ht⟩ : ∃ t, nmS s = t := ⟨_, rfl⟩
  obtain ⟨gp, hgp⟩ : ∃ z, G.parts = z := ⟨_, rfl⟩
  obtain ⟨gs, hgs⟩ : ∃ z, G.sess = z := ⟨_, rfl⟩
  obtain ⟨gg, hgg⟩ : ∃ z, G.gen = z := ⟨_, rfl⟩
  obtain ⟨W1, hW1⟩ : ∃ W1, w.alloc (.cells #[.int .i64 k, .string t, .int .i64 a, .int .i64 b, .int .i64 c, .int .i64 d, .int .i64 e, .int .i64 f, .bool q] TEv) = W1 := ⟨_, rfl⟩
  have b1 : Below w.heap.size w W1 := by rw [← hW1]; exact (Below.refl _ _).alloc (Nat.le_refl _) _
  have x1 : Blk W1 w.heap.size #[.int .i64 k, .string t, .int .i64 a, .int .i64 b, .int .i64 c, .int .i64 d, .int .i64 e, .int .i64 f, .bool q] TEv := by rw [← hW1]; exact heap_alloc_new w _
  have HB1 := hid b1
  have HG : Hid (∀ W, Below W1.heap.size W1 W → GP W F g M1 M2 M3 n A pv G) := fun W hW => (h.later b1).later hW
  obtain ⟨ep, hep⟩ : ∃ z, G.epo d = z := ⟨_, rfl⟩
  have HS : Hid (∀ W, Below W1.heap.size W1 W → W.cell? ⟨w.heap.size, 0, none⟩ = some (.int .i64 k) ∧ W.cell? ⟨w.heap.size, 1, none⟩ = some (.string t) ∧ W.cell? ⟨w.heap.size, 2, none⟩ = some (.int .i64 a) ∧ W.cell? ⟨w.heap.size, 3, none⟩ = some (.int .i64 b) ∧ W.cell? ⟨w.heap.size, 4, none⟩ = some (.int .i64 c) ∧ W.cell? ⟨w.heap.size, 5, none⟩ = some (.int .i64 d) ∧ W.cell? ⟨w.heap.size, 6, none⟩ = some (.int .i64 e) ∧ W.cell? ⟨w.heap.size, 7, none⟩ = some (.int .i64 f) ∧ W.cell? ⟨w.heap.size, 8, none⟩ = some (.bool q) ∧ W.cell? ⟨g, 6, none⟩ = some (.map (some M3)) ∧ (Instr.lookup TIi (.map (some M3)) (.int .i64 d) false).run Tryz.prog W = .ok (.int .i64 ep) W) := fun W hW => by
    have hx := x1.later hW
    have hg := (HG.out W hW).box
    rw [hgp, hgs, hgg] at hg
    exact ⟨hx.cell 0, hx.cell 1, hx.cell 2, hx.cell 3, hx.cell 4, hx.cell 5, hx.cell 6, hx.cell 7, hx.cell 8, hg.cell 6, by rw [← hep]; exact map_look (HG.out W hW).ep hp.1 hp.2⟩
  obtain ⟨c0, c1, c2, c3, c4, c5, c6, c7, c8, cg, clk⟩ := HS.out W1 (Below.refl _ _)
  show Calls Tryz.prog _ #[_, .agg #[.int .i64 k, .string (nmS s), .int .i64 a, .int .i64 b, .int .i64 c, .int .i64 d, .int .i64 e, .int .i64 f, .bool q]] w _
  clear h b1 x1
  rw [ht, hep]
  by_cases hq : ep ≤ e
  · have hqd : decide (ep ≤ e) = true := by simpa using hq
    rw [hqd]
    go_enter Tryz.func55, Tryz.ntmps55
    go_wp2_with fail
    refine wp_region_held_drew (S := fun W => W.cell? ⟨w.heap.size, 0, none⟩ = some (.int .i64 k) ∧ W.cell? ⟨w.heap.size, 1, none⟩ = some (.string t) ∧ W.cell? ⟨w.heap.size, 2, none⟩ = some (.int .i64 a) ∧ W.cell? ⟨w.heap.size, 3, none⟩ = some (.int .i64 b) ∧ W.cell? ⟨w.heap.size, 4, none⟩ = some (.int .i64 c) ∧ W.cell? ⟨w.heap.size, 5, none⟩ = some (.int .i64 d) ∧ W.cell? ⟨w.heap.size, 6, none⟩ = some (.int .i64 e) ∧ W.cell? ⟨w.heap.size, 7, none⟩ = some (.int .i64 f) ∧ W.cell? ⟨w.heap.size, 8, none⟩ = some (.bool q) ∧ W.cell? ⟨g, 6, none⟩ = some (.map (some M3)) ∧ (Instr.lookup TIi (.map (some M3)) (.int .i64 d) false).run Tryz.prog W = .ok (.int .i64 ep) W) (by kernel_rfl) (HS.out _ (Below.refl _ W1).drew) (fun hHeld => ?_)
    refine wpAnyH_take (i := 0) (oi := { dst := some 4, op := Op.move (Operand.tmp 0), type := 23, pos := "deeds.go:124", after := #[], guard := none }) (v := ?_) rfl (by kernel_rfl) (by kernel_rfl) (by kernel_rfl) (fun _ _ _ h => h) (Or.inl ⟨by rfl, ?_⟩) hHeld ?_
    rotate_left
    · intro w hSw; (try dsimp only at hSw); go_simp; try with_reducible rfl
    try simp only [Act.put, List.setIfInBounds_toArray, List.set_cons_zero, List.set_cons_succ]
    refine wpAnyH_take (i := 1) (oi := { dst := some 5, op := Op.nilCheck (Operand.tmp 4), type := 0, pos := "deeds.go:124", after := #[{ on := 0, ground := Ground.data }], guard := none }) (v := ?_) rfl (by kernel_rfl) (by kernel_rfl) (by kernel_rfl) (fun _ _ _ h => h) (Or.inl ⟨by rfl, ?_⟩) hHeld ?_
    rotate_left
    · intro w hSw; (try dsimp only at hSw); go_simp; try with_reducible rfl
    try simp only [Act.put, List.setIfInBounds_toArray, List.set_cons_zero, List.set_cons_succ]
    refine wpAnyH_take (i := 2) (oi := { dst := some 6, op := Op.fieldAddr 41 (Operand.tmp 5) 6, type := 0, pos := "deeds.go:124", after := #[{ on := 1, ground := Ground.data }], guard := none }) (v := ?_) rfl (by kernel_rfl) (by kernel_rfl) (by kernel_rfl) (fun _ _ _ h => h) (Or.inl ⟨by rfl, ?_⟩) hHeld ?_
    rotate_left
    · intro w hSw; (try dsimp only at hSw); go_simp; try with_reducible rfl
    try simp only [Act.put, List.setIfInBounds_toArray, List.set_cons_zero, List.set_cons_succ]
    refine wpAnyH_take (i := 3) (oi := { dst := some 7, op := Op.load 38 (Operand.tmp 6), type := 38, pos := "deeds.go:124", after := #[{ on := 2, ground := Ground.data }], guard := none }) (v := ?_) rfl (by kernel_rfl) (by kernel_rfl) (by kernel_rfl) (fun _ _ _ h => h) (Or.inl ⟨by rfl, ?_⟩) hHeld ?_
    rotate_left
    · intro w hSw; (try dsimp only at hSw); go_simp; try with_reducible rfl
    try simp only [Act.put, List.setIfInBounds_toArray, List.set_cons_zero, List.set_cons_succ]
    refine wpAnyH_take (i := 4) (oi := { dst := some 8, op := Op.fieldAddr 31 (Operand.tmp 3) 5, type := 0, pos := "deeds.go:124", after := #[], guard := none }) (v := ?_) rfl (by kernel_rfl) (by kernel_rfl) (by kernel_rfl) (fun _ _ _ h => h) (Or.inl ⟨by rfl, ?_⟩) hHeld ?_
    rotate_left
    · intro w hSw; (try dsimp only at hSw); go_simp; try with_reducible rfl
    try simp only [Act.put, List.setIfInBounds_toArray, List.set_cons_zero, List.set_cons_succ]
    refine wpAnyH_take (i := 5) (oi := { dst := some 9, op := Op.load 3 (Operand.tmp 8), type := 3, pos := "deeds.go:124", after := #[{ on := 4, ground := Ground.data }], guard := none }) (v := ?_) rfl (by kernel_rfl) (by kernel_rfl) (by kernel_rfl) (fun _ _ _ h => h) (Or.inl ⟨by rfl, ?_⟩) hHeld ?_
    rotate_left
    · intro w hSw; (try dsimp only at hSw); go_simp; try with_reducible rfl
    try simp only [Act.put, List.setIfInBounds_toArray, List.set_cons_zero, List.set_cons_succ]
    refine wpAnyH_take (i := 6) (oi := { dst := some 10, op := Op.lookup 38 (Operand.tmp 7) (Operand.tmp 9) false, type := 3, pos := "deeds.go:124", after := #[{ on := 3, ground := Ground.data }, { on := 5, ground := Ground.data }], guard := none }) (v := .int .i64 ep) rfl (by kernel_rfl) (by kernel_rfl) (by kernel_rfl) (fun _ _ _ h => h) (Or.inl ⟨by rfl, ?_⟩) hHeld ?_
    · intro w hSw; obtain ⟨-, -, -, -, -, -, -, -, -, -, hlk⟩ := hSw; go_simp
    try simp only [Act.put, List.setIfInBounds_toArray, List.set_cons_zero, List.set_cons_succ]
    refine wpAnyH_take (i := 7) (oi := { dst := some 11, op := Op.fieldAddr 31 (Operand.tmp 3) 6, type := 0, pos := "deeds.go:124", after := #[], guard := none }) (v := ?_) rfl (by kernel_rfl) (by kernel_rfl) (by kernel_rfl) (fun _ _ _ h => h) (Or.inl ⟨by rfl, ?_⟩) hHeld ?_
    rotate_left
    · intro w hSw; (try dsimp only at hSw); go_simp; try with_reducible rfl
    try simp only [Act.put, List.setIfInBounds_toArray, List.set_cons_zero, List.set_cons_succ]
    refine wpAnyH_take (i := 8) (oi := { dst := some 12, op := Op.load 3 (Operand.tmp 11), type := 3, pos := "deeds.go:124", after := #[{ on := 7, ground := Ground.data }], guard := none }) (v := ?_) rfl (by kernel_rfl) (by kernel_rfl) (by kernel_rfl) (fun _ _ _ h => h) (Or.inl ⟨by rfl, ?_⟩) hHeld ?_
    rotate_left
    · intro w hSw; (try dsimp only at hSw); go_simp; try with_reducible rfl
    try simp only [Act.put, List.setIfInBounds_toArray, List.set_cons_zero, List.set_cons_succ]
    refine wpAnyH_take (i := 9) (oi := { dst := some 13, op := Op.binOp BinOp.leq 3 (Operand.tmp 10) (Operand.tmp 12) 3, type := 4, pos := "deeds.go:124", after := #[{ on := 6, ground := Ground.data }, { on := 8, ground := Ground.data }], guard := none }) (v := ?_) rfl (by kernel_rfl) (by kernel_rfl) (by kernel_rfl) (fun _ _ _ h => h) (Or.inl ⟨by rfl, ?_⟩) hHeld ?_
    rotate_left
    · intro w hSw; (try dsimp only at hSw); go_simp; try with_reducible rfl
    try simp only [Act.put, List.setIfInBounds_toArray, List.set_cons_zero, List.set_cons_succ]
    refine wpAnyH_ready (rs := [10]) (by kernel_rfl) (by simp) ?_
    refine AllReadyH.cons rfl (fun K hK => ?_) (AllReadyH.nil)
    go_simp
    go_wp2_with (go_at_call 22; refine (insist_ok 50 _).mono ?_; rintro r w9 ⟨rfl, hw9⟩; obtain rfl := hw9.symm)
    refine hK.out _ _ (HS.out _ (Below.refl _ W1).drew) (fun hHeld => ?_)
    clear hK K
    try simp only [Act.put, List.setIfInBounds_toArray, List.set_cons_zero, List.set_cons_succ]
    refine wpAnyH_done (by kernel_rfl) ?_ _
    clear hHeld
    go_wp2_with fail
    go_end0
    exact ⟨rfl, HB1.out.drew⟩
  · have hqd : decide (ep ≤ e) = false := by simpa using hq
    rw [hqd]
    go_enter Tryz.func55, Tryz.ntmps55
    go_wp2_with fail
    refine wp_region_held_drew (S := fun W => W.cell? ⟨w.heap.size, 0, none⟩ = some (.int .i64 k) ∧ W.cell? ⟨w.heap.size, 1, none⟩ = some (.string t) ∧ W.cell? ⟨w.heap.size, 2, none⟩ = some (.int .i64 a) ∧ W.cell? ⟨w.heap.size, 3, none⟩ = some (.int .i64 b) ∧ W.cell? ⟨w.heap.size, 4, none⟩ = some (.int .i64 c) ∧ W.cell? ⟨w.heap.size, 5, none⟩ = some (.int .i64 d) ∧ W.cell? ⟨w.heap.size, 6, none⟩ = some (.int .i64 e) ∧ W.cell? ⟨w.heap.size, 7, none⟩ = some (.int .i64 f) ∧ W.cell? ⟨w.heap.size, 8, none⟩ = some (.bool q) ∧ W.cell? ⟨g, 6, none⟩ = some (.map (some M3)) ∧ (Instr.lookup TIi (.map (some M3)) (.int .i64 d) false).run Tryz.prog W = .ok (.int .i64 ep) W) (by kernel_rfl) (HS.out _ (Below.refl _ W1).drew) (fun hHeld => ?_)
    refine wpAnyH_take (i := 0) (oi := { dst := some 4, op := Op.move (Operand.tmp 0), type := 23, pos := "deeds.go:124", after := #[], guard := none }) (v := ?_) rfl (by kernel_rfl) (by kernel_rfl) (by kernel_rfl) (fun _ _ _ h => h) (Or.inl ⟨by rfl, ?_⟩) hHeld ?_
    rotate_left
    · intro w hSw; (try dsimp only at hSw); go_simp; try with_reducible rfl
    try simp only [Act.put, List.setIfInBounds_toArray, List.set_cons_zero, List.set_cons_succ]
    refine wpAnyH_take (i := 1) (oi := { dst := some 5, op := Op.nilCheck (Operand.tmp 4), type := 0, pos := "deeds.go:124", after := #[{ on := 0, ground := Ground.data }], guard := none }) (v := ?_) rfl (by kernel_rfl) (by kernel_rfl) (by kernel_rfl) (fun _ _ _ h => h) (Or.inl ⟨by rfl, ?_⟩) hHeld ?_
    rotate_left
    · intro w hSw; (try dsimp only at hSw); go_simp; try with_reducible rfl
    try simp only [Act.put, List.setIfInBounds_toArray, List.set_cons_zero, List.set_cons_succ]
    refine wpAnyH_take (i := 2) (oi := { dst := some 6, op := Op.fieldAddr 41 (Operand.tmp 5) 6, type := 0, pos := "deeds.go:124", after := #[{ on := 1, ground := Ground.data }], guard := none }) (v := ?_) rfl (by kernel_rfl) (by kernel_rfl) (by kernel_rfl) (fun _ _ _ h => h) (Or.inl ⟨by rfl, ?_⟩) hHeld ?_
    rotate_left
    · intro w hSw; (try dsimp only at hSw); go_simp; try with_reducible rfl
    try simp only [Act.put, List.setIfInBounds_toArray, List.set_cons_zero, List.set_cons_succ]
    refine wpAnyH_take (i := 3) (oi := { dst := some 7, op := Op.load 38 (Operand.tmp 6), type := 38, pos := "deeds.go:124", after := #[{ on := 2, ground := Ground.data }], guard := none }) (v := ?_) rfl (by kernel_rfl) (by kernel_rfl) (by kernel_rfl) (fun _ _ _ h => h) (Or.inl ⟨by rfl, ?_⟩) hHeld ?_
    rotate_left
    · intro w hSw; (try dsimp only at hSw); go_simp; try with_reducible rfl
    try simp only [Act.put, List.setIfInBounds_toArray, List.set_cons_zero, List.set_cons_succ]
    refine wpAnyH_take (i := 4) (oi := { dst := some 8, op := Op.fieldAddr 31 (Operand.tmp 3) 5, type := 0, pos := "deeds.go:124", after := #[], guard := none }) (v := ?_) rfl (by kernel_rfl) (by kernel_rfl) (by kernel_rfl) (fun _ _ _ h => h) (Or.inl ⟨by rfl, ?_⟩) hHeld ?_
    rotate_left
    · intro w hSw; (try dsimp only at hSw); go_simp; try with_reducible rfl
    try simp only [Act.put, List.setIfInBounds_toArray, List.set_cons_zero, List.set_cons_succ]
    refine wpAnyH_take (i := 5) (oi := { dst := some 9, op := Op.load 3 (Operand.tmp 8), type := 3, pos := "deeds.go:124", after := #[{ on := 4, ground := Ground.data }], guard := none }) (v := ?_) rfl (by kernel_rfl) (by kernel_rfl) (by kernel_rfl) (fun _ _ _ h => h) (Or.inl ⟨by rfl, ?_⟩) hHeld ?_
    rotate_left
    · intro w hSw; (try dsimp only at hSw); go_simp; try with_reducible rfl
    try simp only [Act.put, List.setIfInBounds_toArray, List.set_cons_zero, List.set_cons_succ]
    refine wpAnyH_take (i := 6) (oi := { dst := some 10, op := Op.lookup 38 (Operand.tmp 7) (Operand.tmp 9) false, type := 3, pos := "deeds.go:124", after := #[{ on := 3, ground := Ground.data }, { on := 5, ground := Ground.data }], guard := none }) (v := .int .i64 ep) rfl (by kernel_rfl) (by kernel_rfl) (by kernel_rfl) (fun _ _ _ h => h) (Or.inl ⟨by rfl, ?_⟩) hHeld ?_
    · intro w hSw; obtain ⟨-, -, -, -, -, -, -, -, -, -, hlk⟩ := hSw; go_simp
    try simp only [Act.put, List.setIfInBounds_toArray, List.set_cons_zero, List.set_cons_succ]
    refine wpAnyH_take (i := 7) (oi := { dst := some 11, op := Op.fieldAddr 31 (Operand.tmp 3) 6, type := 0, pos := "deeds.go:124", after := #[], guard := none }) (v := ?_) rfl (by kernel_rfl) (by kernel_rfl) (by kernel_rfl) (fun _ _ _ h => h) (Or.inl ⟨by rfl, ?_⟩) hHeld ?_
    rotate_left
    · intro w hSw; (try dsimp only at hSw); go_simp; try with_reducible rfl
    try simp only [Act.put, List.setIfInBounds_toArray, List.set_cons_zero, List.set_cons_succ]
    refine wpAnyH_take (i := 8) (oi := { dst := some 12, op := Op.load 3 (Operand.tmp 11), type := 3, pos := "deeds.go:124", after := #[{ on := 7, ground := Ground.data }], guard := none }) (v := ?_) rfl (by kernel_rfl) (by kernel_rfl) (by kernel_rfl) (fun _ _ _ h => h) (Or.inl ⟨by rfl, ?_⟩) hHeld ?_
    rotate_left
    · intro w hSw; (try dsimp only at hSw); go_simp; try with_reducible rfl
    try simp only [Act.put, List.setIfInBounds_toArray, List.set_cons_zero, List.set_cons_succ]
    refine wpAnyH_take (i := 9) (oi := { dst := some 13, op := Op.binOp BinOp.leq 3 (Operand.tmp 10) (Operand.tmp 12) 3, type := 4, pos := "deeds.go:124", after := #[{ on := 6, ground := Ground.data }, { on := 8, ground := Ground.data }], guard := none }) (v := ?_) rfl (by kernel_rfl) (by kernel_rfl) (by kernel_rfl) (fun _ _ _ h => h) (Or.inl ⟨by rfl, ?_⟩) hHeld ?_
    rotate_left
    · intro w hSw; (try dsimp only at hSw); go_simp; try with_reducible rfl
    try simp only [Act.put, List.setIfInBounds_toArray, List.set_cons_zero, List.set_cons_succ]
    refine wpAnyH_ready (rs := [10]) (by kernel_rfl) (by simp) ?_
    refine AllReadyH.cons rfl (fun K hK => ?_) (AllReadyH.nil)
    go_simp
    go_wp2_with (go_at_call 22; refine (insist_no 50 _).mono ?_; rintro r w9 ⟨rfl, hw9⟩; obtain rfl := hw9.symm)
    exact ⟨rfl, rfl, HB1.out.drew⟩
set_option maxRecDepth 100000 in
set_option maxHeartbeats 1000000 in
theorem decPromise_any (h : GP w F g M1 M2 M3 n A pv G) (x : Ev) (hs : x.mem.length ≤ maxLen) (hp : -9223372036854775808 ≤ x.prod ∧ x.prod ≤ 9223372036854775807) : Calls Tryz.prog 45 #[.pointer (some ⟨g, 0, none⟩), .agg (evA x)] w fun r w' => r = decC (if G.has x.mem && x.gen == G.gen then (if x.part < G.parts then (if G.epo x.prod ≤ x.ep then 0 else 50) else 1) else 60) false ∧ Below w.heap.size w w' := by
  obtain ⟨k, s, a, b, c, d, e, f, q⟩ := x
  dsimp only at *
  obtain ⟨t, ht⟩ : ∃ t, nmS s = t := ⟨_, rfl⟩
  obtain ⟨gp, hgp⟩ : ∃ z, G.parts = z := ⟨_, rfl⟩
  obtain ⟨gs, hgs⟩ : ∃ z, G.sess = z := ⟨_, rfl⟩
  obtain ⟨gg, hgg⟩ : ∃ z, G.gen = z := ⟨_, rfl⟩
  obtain ⟨W1, hW1⟩ : ∃ W1, w.alloc (.cells #[.int .i64 k, .string t, .int .i64 a, .int .i64 b, .int .i64 c, .int .i64 d, .int .i64 e, .int .i64 f, .bool q] TEv) = W1 := ⟨_, rfl⟩
  have b1 : Below w.heap.size w W1 := by rw [← hW1]; exact (Below.refl _ _).alloc (Nat.le_refl _) _
  have x1 : Blk W1 w.heap.size #[.int .i64 k, .string t, .int .i64 a, .int .i64 b, .int .i64 c, .int .i64 d, .int .i64 e, .int .i64 f, .bool q] TEv := by rw [← hW1]; exact heap_alloc_new w _
  have HB1 := hid b1
  have HG : Hid (∀ W, Below W1.heap.size W1 W → GP W F g M1 M2 M3 n A pv G) := fun W hW => (h.later b1).later hW
  have HS : Hid (∀ W, Below W1.heap.size W1 W → W.cell? ⟨w.heap.size, 0, none⟩ = some (.int .i64 k) ∧ W.cell? ⟨w.heap.size, 1, none⟩ = some (.string t) ∧ W.cell? ⟨w.heap.size, 2, none⟩ = some (.int .i64 a) ∧ W.cell? ⟨w.heap.size, 3, none⟩ = some (.int .i64 b) ∧ W.cell? ⟨w.heap.size, 4, none⟩ = some (.int .i64 c) ∧ W.cell? ⟨w.heap.size, 5, none⟩ = some (.int .i64 d) ∧ W.cell? ⟨w.heap.size, 6, none⟩ = some (.int .i64 e) ∧ W.cell? ⟨w.heap.size, 7, none⟩ = some (.int .i64 f) ∧ W.cell? ⟨w.heap.size, 8, none⟩ = some (.bool q) ∧ W.cell? ⟨g, 0, none⟩ = some (.int .i64 gp)) := fun W hW => by
    have hx := x1.later hW
    have hg := (HG.out W hW).box
    rw [hgp, hgs, hgg] at hg
    exact ⟨hx.cell 0, hx.cell 1, hx.cell 2, hx.cell 3, hx.cell 4, hx.cell 5, hx.cell 6, hx.cell 7, hx.cell 8, hg.cell 0⟩
  have HBt : Hid (∀ W, Below W1.heap.size W1 W → Calls Tryz.prog 43 #[.pointer (some ⟨g, 0, none⟩), .agg #[.int .i64 k, .string t, .int .i64 a, .int .i64 b, .int .i64 c, .int .i64 d, .int .i64 e, .int .i64 f, .bool q]] W fun r w' => r = decC (if G.has s && a == G.gen then (if b < G.parts then 0 else 1) else 60) false ∧ Below W.heap.size W w') := fun W hW => by
    rw [← ht]
    exact decCommit_any (HG.out W hW) ⟨k, s, a, b, c, d, e, f, q⟩ hs
  have HEp : Hid (∀ W, Below W1.heap.size W1 W → Calls Tryz.prog 55 #[.pointer (some ⟨g, 0, none⟩), .agg #[.int .i64 k, .string t, .int .i64 a, .int .i64 b, .int .i64 c, .int .i64 d, .int .i64 e, .int .i64 f, .bool q]] W fun r w' => r = insC (decide (G.epo d ≤ e)) 50 ∧ Below W.heap.size W w') := fun W hW => by
    rw [← ht]
    exact insistEpoch_any (HG.out W hW) ⟨k, s, a, b, c, d, e, f, q⟩ hp
  obtain ⟨c0, c1, c2, c3, c4, c5, c6, c7, c8, cg⟩ := HS.out W1 (Below.refl _ _)
  show Calls Tryz.prog _ #[_, .agg #[.int .i64 k, .string (nmS s), .int .i64 a, .int .i64 b, .int .i64 c, .int .i64 d, .int .i64 e, .int .i64 f, .bool q]] w _
  clear h b1 x1
  rw [ht]
  obtain ⟨y, hy⟩ : ∃ y, (if G.has s && a == G.gen then (if b < G.parts then 0 else 1) else 60 : Int) = y := ⟨_, rfl⟩
  rw [hy] at HBt
  by_cases hc : y = 0
  · have hcd : decC y false = .returned (.bool false) := by simp [decC, hc]
    have hy2 : (if G.has s && a == G.gen then (if b < G.parts then (if G.epo d ≤ e then 0 else 50) else 1) else 60 : Int) = (if G.epo d ≤ e then 0 else 50) := by
      subst hc
      split at hy
      · split at hy
        · rename_i h1 h2; rw [if_pos h1, if_pos h2]
        · cases hy
      · cases hy
    rw [hy2]
    by_cases hq : G.epo d ≤ e
    · rw [if_pos hq]
      have hed : insC (decide (G.epo d ≤ e)) 50 = .returned (.tuple #[]) := insC_ok hq
      go_enter Tryz.func45, Tryz.ntmps45
      go_wp2_with (first | (go_at_call 43; (with_reducible_and_instances (refine (HBt.out _ (Below.refl _ _)).mono ?_)); rintro r W2 ⟨hr, hb2⟩; rw [hcd] at hr; subst hr; have HB2 := hid hb2; obtain ⟨e0, e1, e2, e3, e4, e5, e6, e7, e8, eg⟩ := HS.out W2 hb2; clear hb2) | (go_at_call 55; (with_reducible_and_instances (refine (HEp.out _ HB2.out).mono ?_)); rintro r W3 ⟨hr, hb3⟩; rw [hed] at hr; subst hr; have HB3 := hid (HB2.out.trans (hb3.mono HB2.out.size)); clear hb3))
      go_ret
      exact ⟨rfl, HB1.out.trans (HB3.out.mono HB1.out.size)⟩
    · rw [if_neg hq]
      have hed : insC (decide (G.epo d ≤ e)) 50 = .panicked (refusal 50) := insC_no hq
      go_enter Tryz.func45, Tryz.ntmps45
      go_wp2_with (first | (go_at_call 43; (with_reducible_and_instances (refine (HBt.out _ (Below.refl _ _)).mono ?_)); rintro r W2 ⟨hr, hb2⟩; rw [hcd] at hr; subst hr; have HB2 := hid hb2; obtain ⟨e0, e1, e2, e3, e4, e5, e6, e7, e8, eg⟩ := HS.out W2 hb2; clear hb2) | (go_at_call 55; (with_reducible_and_instances (refine (HEp.out _ HB2.out).mono ?_)); rintro r W3 ⟨hr, hb3⟩; rw [hed] at hr; subst hr; have HB3 := hid (HB2.out.trans (hb3.mono HB2.out.size)); clear hb3))
      exact ⟨rfl, rfl, HB1.out.trans (HB3.out.mono HB1.out.size)⟩
  · have hcd : decC y false = .panicked (refusal y) := by simp [decC, hc]
    have hy2 : (if G.has s && a == G.gen then (if b < G.parts then (if G.epo d ≤ e then 0 else 50) else 1) else 60 : Int) = y := by
      rw [← hy]
      split
      · split
        · rename_i h1 h2; rw [if_pos h1, if_pos h2] at hy; exact absurd hy.symm hc
        · rfl
      · rfl
    rw [hy2, hcd]
    go_enter Tryz.func45, Tryz.ntmps45
    go_wp2_with (go_at_call 43; (with_reducible_and_instances (refine (HBt.out _ (Below.refl _ _)).mono ?_)); rintro r W2 ⟨hr, hb2⟩; rw [hcd] at hr; subst hr; have HB2 := hid hb2; obtain ⟨e0, e1, e2, e3, e4, e5, e6, e7, e8, eg⟩ := HS.out W2 hb2; clear hb2)
    exact ⟨rfl, rfl, HB1.out.trans (HB2.out.mono HB1.out.size)⟩
end Go.Proofs.YtipgociofjokeaaGreat
