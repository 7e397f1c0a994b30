/- Apply of package group (by genapply15.py). -/
import Derived.Test.YtipgociofjokeaaGreatPGDecF
import Derived.Test.YtipgociofjokeaaGreatPGDo
namespace Go.Proofs.YtipgociofjokeaaGreat
open Go.RowKit Go.Shelf
variable {w w' W : World} {g n : Nat} {G : Gp} {F : List Nat}

set_option maxRecDepth 100000 in
set_option maxHeartbeats 1000000 in
theorem doers_any (w : World) : Calls Tryz.prog 15 #[] w fun x w' => x = .returned (.agg #[.nilFunc, .func (.func 25) #[] #[], .func (.func 26) #[] #[], .func (.func 27) #[] #[], .func (.func 28) #[] #[], .func (.func 29) #[] #[], .func (.func 30) #[] #[], .func (.func 31) #[] #[]]) ∧ w' = w.alloc (.cells #[.nilFunc, .func (.func 25) #[] #[], .func (.func 26) #[] #[], .func (.func 27) #[] #[], .func (.func 28) #[] #[], .func (.func 29) #[] #[], .func (.func 30) #[] #[], .func (.func 31) #[] #[]] 50) := by
  go_enter Tryz.func15, Tryz.ntmps15
  go_wp2
  refine bodyPost_ret (v := .agg #[.nilFunc, .func (.func 25) #[] #[], .func (.func 26) #[] #[], .func (.func 27) #[] #[], .func (.func 28) #[] #[], .func (.func 29) #[] #[], .func (.func 30) #[] #[], .func (.func 31) #[] #[]]) (by simp [results, Tryz.results15, go_sem]) rfl ⟨rfl, rfl⟩
set_option maxRecDepth 100000 in
theorem do_at (W : World) : (Instr.index 50 (.agg #[.nilFunc, .func (.func 25) #[] #[], .func (.func 26) #[] #[], .func (.func 27) #[] #[], .func (.func 28) #[] #[], .func (.func 29) #[] #[], .func (.func 30) #[] #[], .func (.func 31) #[] #[]]) (.int .i64 1)).run Tryz.prog W = .ok (.func (.func 25) #[] #[]) W ∧ (Instr.index 50 (.agg #[.nilFunc, .func (.func 25) #[] #[], .func (.func 26) #[] #[], .func (.func 27) #[] #[], .func (.func 28) #[] #[], .func (.func 29) #[] #[], .func (.func 30) #[] #[], .func (.func 31) #[] #[]]) (.int .i64 2)).run Tryz.prog W = .ok (.func (.func 26) #[] #[]) W ∧ (Instr.index 50 (.agg #[.nilFunc, .func (.func 25) #[] #[], .func (.func 26) #[] #[], .func (.func 27) #[] #[], .func (.func 28) #[] #[], .func (.func 29) #[] #[], .func (.func 30) #[] #[], .func (.func 31) #[] #[]]) (.int .i64 3)).run Tryz.prog W = .ok (.func (.func 27) #[] #[]) W ∧ (Instr.index 50 (.agg #[.nilFunc, .func (.func 25) #[] #[], .func (.func 26) #[] #[], .func (.func 27) #[] #[], .func (.func 28) #[] #[], .func (.func 29) #[] #[], .func (.func 30) #[] #[], .func (.func 31) #[] #[]]) (.int .i64 4)).run Tryz.prog W = .ok (.func (.func 28) #[] #[]) W ∧ (Instr.index 50 (.agg #[.nilFunc, .func (.func 25) #[] #[], .func (.func 26) #[] #[], .func (.func 27) #[] #[], .func (.func 28) #[] #[], .func (.func 29) #[] #[], .func (.func 30) #[] #[], .func (.func 31) #[] #[]]) (.int .i64 5)).run Tryz.prog W = .ok (.func (.func 29) #[] #[]) W ∧ (Instr.index 50 (.agg #[.nilFunc, .func (.func 25) #[] #[], .func (.func 26) #[] #[], .func (.func 27) #[] #[], .func (.func 28) #[] #[], .func (.func 29) #[] #[], .func (.func 30) #[] #[], .func (.func 31) #[] #[]]) (.int .i64 6)).run Tryz.prog W = .ok (.func (.func 30) #[] #[]) W ∧ (Instr.index 50 (.agg #[.nilFunc, .func (.func 25) #[] #[], .func (.func 26) #[] #[], .func (.func 27) #[] #[], .func (.func 28) #[] #[], .func (.func 29) #[] #[], .func (.func 30) #[] #[], .func (.func 31) #[] #[]]) (.int .i64 7)).run Tryz.prog W = .ok (.func (.func 31) #[] #[]) W := by
  refine ⟨?_, ?_, ?_, ?_, ?_, ?_, ?_⟩ <;> kernel_rfl
theorem en_join : ∀ args w, (callFunc 25 args).run Tryz.prog w = .ok (.enter 25 args) w := fun _ _ => by kernel_rfl
theorem en_leave : ∀ args w, (callFunc 26 args).run Tryz.prog w = .ok (.enter 26 args) w := fun _ _ => by kernel_rfl
theorem en_beat : ∀ args w, (callFunc 27 args).run Tryz.prog w = .ok (.enter 27 args) w := fun _ _ => by kernel_rfl
theorem en_commit : ∀ args w, (callFunc 28 args).run Tryz.prog w = .ok (.enter 28 args) w := fun _ _ => by kernel_rfl
theorem en_expire : ∀ args w, (callFunc 29 args).run Tryz.prog w = .ok (.enter 29 args) w := fun _ _ => by kernel_rfl
theorem en_promise : ∀ args w, (callFunc 30 args).run Tryz.prog w = .ok (.enter 30 args) w := fun _ _ => by kernel_rfl
theorem en_mark : ∀ args w, (callFunc 31 args).run Tryz.prog w = .ok (.enter 31 args) w := fun _ _ => by kernel_rfl
set_option maxRecDepth 100000 in
/-- Apply of what is refused, or done. -/
theorem Apply_stop (gv : Option Addr) (x : Ev) (y : Int) (dn : Bool) (hy : y ≠ 0 ∨ dn = true) (w : World) (hD : ∀ W, Below w.heap.size w W → Calls Tryz.prog 14 #[.pointer gv, .agg (evA x)] W fun r w' => r = .returned (.tuple #[.bool dn, .int .i64 y]) ∧ Below W.heap.size W w') :
    Calls Tryz.prog 7 #[.pointer gv, .agg (evA x)] w fun r w' => r = .returned (.int .i64 y) ∧ Below w.heap.size w w' := by
  obtain ⟨k, s, a, b, c, d, e, f, q⟩ := x
  obtain ⟨t, ht⟩ : ∃ t, nmS s = t := ⟨_, rfl⟩
  dsimp only [evA] at *
  simp only [ht] at hD
  rw [ht]
  obtain ⟨W1, hW1⟩ : ∃ W1, w.alloc (.cells #[.int .i64 k, .string t, .int .i64 a, .int .i64 b, .int .i64 c, .int .i64 d, .int .i64 e, .int .i64 f, .bool q] TEv) = W1 := ⟨_, rfl⟩
  have b1 : Below w.heap.size w W1 := by rw [← hW1]; exact (Below.refl _ _).alloc (Nat.le_refl _) _
  have x1 : Blk W1 w.heap.size #[.int .i64 k, .string t, .int .i64 a, .int .i64 b, .int .i64 c, .int .i64 d, .int .i64 e, .int .i64 f, .bool q] TEv := by rw [← hW1]; exact heap_alloc_new w _
  have HB1 := hid b1
  have HS : Hid (∀ W, Below W1.heap.size W1 W → W.cell? ⟨w.heap.size, 0, none⟩ = some (.int .i64 k) ∧ W.cell? ⟨w.heap.size, 1, none⟩ = some (.string t) ∧ W.cell? ⟨w.heap.size, 2, none⟩ = some (.int .i64 a) ∧ W.cell? ⟨w.heap.size, 3, none⟩ = some (.int .i64 b) ∧ W.cell? ⟨w.heap.size, 4, none⟩ = some (.int .i64 c) ∧ W.cell? ⟨w.heap.size, 5, none⟩ = some (.int .i64 d) ∧ W.cell? ⟨w.heap.size, 6, none⟩ = some (.int .i64 e) ∧ W.cell? ⟨w.heap.size, 7, none⟩ = some (.int .i64 f) ∧ W.cell? ⟨w.heap.size, 8, none⟩ = some (.bool q)) := fun W hW => by
    have hx := x1.later hW
    exact ⟨hx.cell 0, hx.cell 1, hx.cell 2, hx.cell 3, hx.cell 4, hx.cell 5, hx.cell 6, hx.cell 7, hx.cell 8⟩
  obtain ⟨c0, c1, c2, c3, c4, c5, c6, c7, c8⟩ := HS.out W1 (Below.refl _ _)
  have HD := hid (hD W1 b1)
  clear hD x1 b1
  by_cases h0 : y = 0
  · have hd : dn = true := hy.resolve_left (by omega)
    subst h0
    subst hd
    go_enter Tryz.func7, Tryz.ntmps7
    go_wp2_with (go_at_call 14; (with_reducible_and_instances (refine HD.out.mono ?_)); rintro r W2 ⟨rfl, hb2⟩; have HB2 := hid hb2; clear hb2)
    go_ret
    exact ⟨rfl, HB1.out.trans (HB2.out.mono HB1.out.size)⟩
  · have hq : (y == 0) = false := by simpa using h0
    go_enter Tryz.func7, Tryz.ntmps7
    go_wp2_with (go_at_call 14; (with_reducible_and_instances (refine HD.out.mono ?_)); rintro r W2 ⟨rfl, hb2⟩; have HB2 := hid hb2; clear hb2)
    go_ret
    exact ⟨rfl, HB1.out.trans (HB2.out.mono HB1.out.size)⟩
set_option maxRecDepth 100000 in
set_option maxHeartbeats 1000000 in
/-- Apply of what is taken, over any doer. -/
theorem Apply_core (h : GAt w F g n G) (x : Ev) (gf : Nat) (eg : ∀ args w, (callFunc gf args).run Tryz.prog w = .ok (.enter gf args) w) (hix : ∀ W, (Instr.index 50 (.agg #[.nilFunc, .func (.func 25) #[] #[], .func (.func 26) #[] #[], .func (.func 27) #[] #[], .func (.func 28) #[] #[], .func (.func 29) #[] #[], .func (.func 30) #[] #[], .func (.func 31) #[] #[]]) (.int .i64 x.kind)).run Tryz.prog W = .ok (.func (.func gf) #[] #[]) W)
    (hDe : ∀ W, GAt W F g n G → Calls Tryz.prog 14 #[.pointer (some ⟨g, 0, none⟩), .agg (evA x)] W fun r w' => r = .returned (.tuple #[.bool false, .int .i64 0]) ∧ Below W.heap.size W w') (m : Nat) (G' : Gp)
    (hDo : ∀ W, GAt W F g n G → Calls Tryz.prog gf #[.pointer (some ⟨g, 0, none⟩), .agg (evA x)] W fun r w' => r = .returned (.tuple #[]) ∧ GMv W w' F g m G') :
    Calls Tryz.prog 7 #[.pointer (some ⟨g, 0, none⟩), .agg (evA x)] w fun r w' => r = .returned (.int .i64 0) ∧ GMv w w' F g m G' := by
  obtain ⟨k, s, a, b, c, d, e, f, q⟩ := x
  obtain ⟨t, ht⟩ : ∃ t, nmS s = t := ⟨_, rfl⟩
  dsimp only [evA] at *
  simp only [ht] at hDe hDo
  rw [ht]
  obtain ⟨W1, hW1⟩ : ∃ W1, w.alloc (.cells #[.int .i64 k, .string t, .int .i64 a, .int .i64 b, .int .i64 c, .int .i64 d, .int .i64 e, .int .i64 f, .bool q] TEv) = W1 := ⟨_, rfl⟩
  have b1 : Below w.heap.size w W1 := by rw [← hW1]; exact (Below.refl _ _).alloc (Nat.le_refl _) _
  have x1 : Blk W1 w.heap.size #[.int .i64 k, .string t, .int .i64 a, .int .i64 b, .int .i64 c, .int .i64 d, .int .i64 e, .int .i64 f, .bool q] TEv := by rw [← hW1]; exact heap_alloc_new w _
  have HB1 := hid b1
  have HS : Hid (∀ W, Below W1.heap.size W1 W → W.cell? ⟨w.heap.size, 0, none⟩ = some (.int .i64 k) ∧ W.cell? ⟨w.heap.size, 1, none⟩ = some (.string t) ∧ W.cell? ⟨w.heap.size, 2, none⟩ = some (.int .i64 a) ∧ W.cell? ⟨w.heap.size, 3, none⟩ = some (.int .i64 b) ∧ W.cell? ⟨w.heap.size, 4, none⟩ = some (.int .i64 c) ∧ W.cell? ⟨w.heap.size, 5, none⟩ = some (.int .i64 d) ∧ W.cell? ⟨w.heap.size, 6, none⟩ = some (.int .i64 e) ∧ W.cell? ⟨w.heap.size, 7, none⟩ = some (.int .i64 f) ∧ W.cell? ⟨w.heap.size, 8, none⟩ = some (.bool q)) := fun W hW => by
    have hx := x1.later hW
    exact ⟨hx.cell 0, hx.cell 1, hx.cell 2, hx.cell 3, hx.cell 4, hx.cell 5, hx.cell 6, hx.cell 7, hx.cell 8⟩
  obtain ⟨c0, c1, c2, c3, c4, c5, c6, c7, c8⟩ := HS.out W1 (Below.refl _ _)
  have HDe := hid (hDe W1 (h.later b1))
  have HD : Hid (∀ W, Below W1.heap.size W1 W → Calls Tryz.prog gf #[.pointer (some ⟨g, 0, none⟩), .agg #[.int .i64 k, .string t, .int .i64 a, .int .i64 b, .int .i64 c, .int .i64 d, .int .i64 e, .int .i64 f, .bool q]] W fun r w' => r = .returned (.tuple #[]) ∧ GMv W w' F g m G') := fun W hW => hDo W ((h.later b1).later hW)
  have HSm : Hid (∀ W W', Below W1.heap.size W1 W → GMv W W' F g m G' → W'.cell? ⟨w.heap.size, 0, none⟩ = some (.int .i64 k) ∧ W'.cell? ⟨w.heap.size, 1, none⟩ = some (.string t) ∧ W'.cell? ⟨w.heap.size, 2, none⟩ = some (.int .i64 a) ∧ W'.cell? ⟨w.heap.size, 3, none⟩ = some (.int .i64 b) ∧ W'.cell? ⟨w.heap.size, 4, none⟩ = some (.int .i64 c) ∧ W'.cell? ⟨w.heap.size, 5, none⟩ = some (.int .i64 d) ∧ W'.cell? ⟨w.heap.size, 6, none⟩ = some (.int .i64 e) ∧ W'.cell? ⟨w.heap.size, 7, none⟩ = some (.int .i64 f) ∧ W'.cell? ⟨w.heap.size, 8, none⟩ = some (.bool q)) := fun W W' hW hm => by
    obtain ⟨F', -, hc, -⟩ := hm
    have hx := (x1.later hW).chg hc (fun hm => by have := h.2.2 _ hm; omega)
    exact ⟨hx.cell 0, hx.cell 1, hx.cell 2, hx.cell 3, hx.cell 4, hx.cell 5, hx.cell 6, hx.cell 7, hx.cell 8⟩
  clear h hDe hDo x1 b1
  go_enter Tryz.func7, Tryz.ntmps7
  go_wp2_with (go_at_call 14; (with_reducible_and_instances (refine HDe.out.mono ?_)); rintro r W2 ⟨rfl, hb2⟩; have HB2 := hid hb2; obtain ⟨e0, e1, e2, e3, e4, e5, e6, e7, e8⟩ := HS.out W2 hb2; clear hb2)
  have HB3 := hid (HB2.out.alloc HB2.out.size (.cells #[.nilFunc, .func (.func 25) #[] #[], .func (.func 26) #[] #[], .func (.func 27) #[] #[], .func (.func 28) #[] #[], .func (.func 29) #[] #[], .func (.func 30) #[] #[], .func (.func 31) #[] #[]] 50)).drew
  refine wp_region_held_drew (S := fun W => W.cell? ⟨w.heap.size, 0, none⟩ = some (.int .i64 k) ∧ W.cell? ⟨w.heap.size, 1, none⟩ = some (.string t) ∧ W.cell? ⟨w.heap.size, 2, none⟩ = some (.int .i64 a) ∧ W.cell? ⟨w.heap.size, 3, none⟩ = some (.int .i64 b) ∧ W.cell? ⟨w.heap.size, 4, none⟩ = some (.int .i64 c) ∧ W.cell? ⟨w.heap.size, 5, none⟩ = some (.int .i64 d) ∧ W.cell? ⟨w.heap.size, 6, none⟩ = some (.int .i64 e) ∧ W.cell? ⟨w.heap.size, 7, none⟩ = some (.int .i64 f) ∧ W.cell? ⟨w.heap.size, 8, none⟩ = some (.bool q)) (by kernel_rfl) (HS.out _ HB2.out.drew) (fun hHeld => ?_)
  refine wpAnyH_take (i := 1) (oi := { dst := some 20, op := Op.fieldAddr 31 (Operand.tmp 3) 0, type := 0, pos := "group.go:67", after := #[], guard := none }) (v := ?_) rfl (by kernel_rfl) (by kernel_rfl) (by kernel_rfl) (fun _ _ _ h => h) (Or.inl ⟨by rfl, ?_⟩) hHeld ?_
  rotate_left
  · intro w hSw; (try dsimp only at hSw); go_simp; try with_reducible rfl
  try simp only [Act.put, List.setIfInBounds_toArray, List.set_cons_zero, List.set_cons_succ]
  refine wpAnyH_take (i := 2) (oi := { dst := some 21, op := Op.load 3 (Operand.tmp 20), type := 3, pos := "group.go:67", after := #[{ on := 1, ground := Ground.data }], guard := none }) (v := ?_) rfl (by kernel_rfl) (by kernel_rfl) (by kernel_rfl) (fun _ _ _ h => h) (Or.inl ⟨by rfl, ?_⟩) hHeld ?_
  rotate_left
  · intro w hSw; (try dsimp only at hSw); go_simp; try with_reducible rfl
  try simp only [Act.put, List.setIfInBounds_toArray, List.set_cons_zero, List.set_cons_succ]
  refine wpAnyH_take (i := 4) (oi := { dst := some 23, op := Op.move (Operand.tmp 0), type := 23, pos := "group.go:67", after := #[], guard := none }) (v := ?_) rfl (by kernel_rfl) (by kernel_rfl) (by kernel_rfl) (fun _ _ _ h => h) (Or.inl ⟨by rfl, ?_⟩) hHeld ?_
  rotate_left
  · intro w hSw; (try dsimp only at hSw); go_simp; try with_reducible rfl
  try simp only [Act.put, List.setIfInBounds_toArray, List.set_cons_zero, List.set_cons_succ]
  refine wpAnyH_take (i := 5) (oi := { dst := some 24, op := Op.load 31 (Operand.tmp 3), type := 31, pos := "group.go:67", after := #[], guard := none }) (v := ?_) rfl (by kernel_rfl) (by kernel_rfl) (by kernel_rfl) (fun _ _ _ h => h) (Or.inl ⟨by rfl, ?_⟩) hHeld ?_
  rotate_left
  · intro w hSw; (try dsimp only at hSw); go_simp; try with_reducible rfl
  try simp only [Act.put, List.setIfInBounds_toArray, List.set_cons_zero, List.set_cons_succ]
  refine wpAnyH_ready (rs := [0]) (by kernel_rfl) (by simp) ?_
  refine AllReadyH.cons rfl (fun K hK => ?_) (AllReadyH.nil)
  go_simp
  go_wp2_with (go_at_call 15; refine (doers_any _).mono ?_; rintro r w9 ⟨rfl, hw9⟩; obtain rfl := hw9.symm)
  refine hK.out _ _ (HS.out _ HB3.out) (fun hHeld => ?_)
  clear hK K
  refine wpAnyH_take (i := 3) (oi := { dst := some 22, op := Op.index 50 (Operand.tmp 19) (Operand.tmp 21), type := 49, pos := "group.go:67", after := #[{ on := 0, ground := Ground.data }, { on := 2, ground := Ground.data }], guard := none }) (v := .func (.func gf) #[] #[]) rfl (by kernel_rfl) (by kernel_rfl) (by kernel_rfl) (fun _ _ _ h => h) (Or.inl ⟨by rfl, ?_⟩) hHeld ?_
  · intro w hSw; have hi := hix w; go_simp
  refine wpAnyH_ready (rs := [6]) (by kernel_rfl) (by simp) ?_
  refine AllReadyH.cons rfl (fun K hK => ?_) (AllReadyH.nil)
  go_simp
  go_wp2_with (go_at_fn gf; (with_reducible_and_instances (refine (HD.out _ HB3.out).mono ?_)); rintro r W4 ⟨rfl, hm4⟩; have HM4 := hid (hm4.ahead (Chg.of (HB1.out.trans (HB3.out.mono HB1.out.size)))); have HS4 := hid (HSm.out _ _ HB3.out hm4); clear hm4)
  refine hK.out _ _ (HS4.out) (fun hHeld => ?_)
  clear hK K
  try simp only [Act.put, List.setIfInBounds_toArray, List.set_cons_zero, List.set_cons_succ]
  refine wpAnyH_done (by kernel_rfl) ?_ _
  clear hHeld
  go_wp2_with fail
  go_ret
  exact ⟨rfl, HM4.out⟩
theorem GMv.same {m : Nat} (h : GAt w F g n G) (hb : Below w.heap.size w w') (hm : n ≤ m) : GMv w w' F g m G := ⟨F, (h.later hb).mono hm, Chg.of hb, fun _ hb => Or.inl hb⟩
theorem GMv.mono {m m' : Nat} (h : GMv w w' F g m G) (hm : m ≤ m') : GMv w w' F g m' G := by
  obtain ⟨F', h1, h2, h3⟩ := h
  exact ⟨F', h1.mono hm, h2, h3⟩
/-- Apply: what it answers and leaves of any event; of Mark and Promise as far as their deeds are known. -/
theorem Apply_any (h : GAt w F g n G) (x : Ev) (hn : n + 400 ≤ 4611686018427387904)
    (hM : x.may → x.kind = 7 → ∀ W' M1 M2 M3 A pv, GP W' F g M1 M2 M3 n A pv G → Calls Tryz.prog 46 #[.pointer (some ⟨g, 0, none⟩), .agg (evA x)] W' fun r w' => r = decC (G.whyNot x) (G.done x) ∧ Below W'.heap.size W' w')
    (hP : x.may → x.kind = 6 → ∀ W, GAt W F g n G → Calls Tryz.prog 30 #[.pointer (some ⟨g, 0, none⟩), .agg (evA x)] W fun r w' => r = .returned (.tuple #[]) ∧ GMv W w' F g (n + 102) (G.take x))
    (hK : x.may → x.kind = 7 → ∀ W, GAt W F g n G → Calls Tryz.prog 31 #[.pointer (some ⟨g, 0, none⟩), .agg (evA x)] W fun r w' => r = .returned (.tuple #[]) ∧ GMv W w' F g (n + 102) (G.take x)) :
    Calls Tryz.prog 7 #[.pointer (some ⟨g, 0, none⟩), .agg (evA x)] w fun r w' => r = .returned (.int .i64 (G.dec x).2) ∧ GMv w w' F g (n + 102) (G.app x) := by
  have hDe : ∀ W, GAt W F g n G → Calls Tryz.prog 14 #[.pointer (some ⟨g, 0, none⟩), .agg (evA x)] W fun r w' => r = .returned (.tuple #[.bool (G.dec x).1, .int .i64 (G.dec x).2]) ∧ Below W.heap.size W w' := fun W hW => by
    obtain ⟨⟨M1, M2, M3, A, pv, hg⟩, ho, -⟩ := hW
    exact Decide_any hg ho x (fun hx hk W' hW' => hM hx hk W' M1 M2 M3 A pv hW')
  by_cases hc : x.may ∧ G.whyNot x = 0 ∧ G.done x = false
  · obtain ⟨hx, hy, hd⟩ := hc
    have e1 : G.dec x = (false, 0) := by unfold Gp.dec; rw [if_pos hx, if_pos hy, hd]
    have e2 : G.app x = G.take x := by unfold Gp.app; rw [if_pos ⟨hx, hy, hd⟩]
    rw [e1] at hDe ⊢
    rw [e2]
    have hs := may_name hx
    have hk := hx.1
    obtain ⟨i1, i2, i3, i4, i5, i6, i7⟩ : _ := (⟨fun W => (do_at W).1, fun W => (do_at W).2.1, fun W => (do_at W).2.2.1, fun W => (do_at W).2.2.2.1, fun W => (do_at W).2.2.2.2.1, fun W => (do_at W).2.2.2.2.2.1, fun W => (do_at W).2.2.2.2.2.2⟩ : (∀ W : World, _) ∧ (∀ W : World, _) ∧ (∀ W : World, _) ∧ (∀ W : World, _) ∧ (∀ W : World, _) ∧ (∀ W : World, _) ∧ (∀ W : World, _))
    have hmb : ∀ {c : Int}, x.kind = c → c = 1 → nameOk x.mem = true := fun hc1 hc2 => by
      rw [hx.2.2.1]
      unfold Ev.isM
      rw [hc1, hc2]
      rfl
    rcases (show x.kind = 1 ∨ x.kind = 2 ∨ x.kind = 3 ∨ x.kind = 4 ∨ x.kind = 5 ∨ x.kind = 6 ∨ x.kind = 7 by omega) with e | e | e | e | e | e | e
    · refine Apply_core h x _ en_join (by rw [e]; exact i1) hDe _ _ (fun W hW => ?_)
      have et : G.take x = (if G.has x.mem then { G with mem := setN G.mem x.mem (some ⟨x.now, G.share x.mem⟩) } else Gp.deal { G with mem := setN G.mem x.mem (some ⟨x.now, []⟩), ks := risN (x.mem :: G.ks) }) := by unfold Gp.take; rw [if_pos e]
      rw [et]
      refine joinG_any hW x (hmb e rfl) hx.2.2.2.1.2.2.2.2.2 ?_ (by omega)
      unfold Gp.whyNot at hy
      rw [if_pos e] at hy
      by_cases hh : G.has x.mem = true
      · exact Or.inl hh
      · refine Or.inr ?_
        by_cases hl : G.ks.length < 100
        · exact hl
        · rw [if_neg (by simp [hh, hl])] at hy; cases hy
    · refine Apply_core h x _ en_leave (by rw [e]; exact i2) hDe _ _ (fun W hW => (leave_any hW x hs (by omega)).mono ?_)
      rintro r w' ⟨h1, h2⟩
      have et : G.take x = Gp.deal { G with mem := setN G.mem x.mem none, ks := G.ks.filter (fun nm => decide (nm ≠ x.mem)) } := by unfold Gp.take; rw [if_neg (by omega), if_pos e]
      rw [et]
      exact ⟨h1, h2.mono (by omega)⟩
    · refine Apply_core h x _ en_beat (by rw [e]; exact i3) hDe _ _ (fun W hW => (beat_any hW x hs hx.2.2.2.1.2.2.2.2.2 ?_ (by omega)).mono ?_)
      · unfold Gp.whyNot at hy
        rw [if_neg (by omega), if_neg (by omega), if_pos e] at hy
        by_cases hh : G.has x.mem = true
        · exact hh
        · rw [if_neg (by simp [hh])] at hy; cases hy
      · rintro r w' ⟨h1, h2⟩
        have et : G.take x = { G with mem := setN G.mem x.mem (some ⟨max (G.heard x.mem) x.now, G.share x.mem⟩) } := by unfold Gp.take; rw [if_neg (by omega), if_neg (by omega), if_pos e]
        rw [et]
        exact ⟨h1, h2.mono (by omega)⟩
    · refine Apply_core h x _ en_commit (by rw [e]; exact i4) hDe _ _ (fun W hW => (commit_any hW x (may_i64 hx.2.2.2.1.2.1) (by omega)).mono ?_)
      rintro r w' ⟨h1, h2⟩
      have et : G.take x = { G with off := setN G.off x.part (some x.off) } := by unfold Gp.take; rw [if_neg (by omega), if_neg (by omega), if_neg (by omega), if_pos e]
      rw [et]
      exact ⟨h1, h2.mono (by omega)⟩
    · refine Apply_core h x _ en_expire (by rw [e]; exact i5) hDe _ _ (fun W hW => (expire_any hW x (by omega)).mono ?_)
      rintro r w' ⟨h1, h2⟩
      have et : G.take x = Gp.deal { G with mem := fun nm => if nm ∈ G.silent x.now then none else G.mem nm, ks := G.ks.filter (fun nm => decide (x.now < G.heard nm + G.sess)) } := by unfold Gp.take; rw [if_neg (by omega), if_neg (by omega), if_neg (by omega), if_neg (by omega), if_pos e]
      rw [et]
      exact ⟨h1, h2.mono (by omega)⟩
    · exact Apply_core h x _ en_promise (by rw [e]; exact i6) hDe _ _ (fun W hW => hP hx e W hW)
    · exact Apply_core h x _ en_mark (by rw [e]; exact i7) hDe _ _ (fun W hW => hK hx e W hW)
  · have e2 : G.app x = G := by unfold Gp.app; rw [if_neg hc]
    rw [e2]
    have hstop : (G.dec x).2 ≠ 0 ∨ (G.dec x).1 = true := by
      unfold Gp.dec
      by_cases hx : x.may
      · rw [if_pos hx]
        by_cases hy : G.whyNot x = 0
        · rw [if_pos hy]
          refine Or.inr ?_
          cases hd : G.done x with
          | true => rfl
          | false => exact absurd ⟨hx, hy, hd⟩ hc
        · rw [if_neg hy]; exact Or.inl hy
      · rw [if_neg hx]; exact Or.inl (by decide)
    refine (Apply_stop (some ⟨g, 0, none⟩) x _ _ hstop w (fun W hW => hDe W (h.later hW))).mono ?_
    rintro r w' ⟨h1, h2⟩
    exact ⟨h1, GMv.same h h2 (by omega)⟩
end Go.Proofs.YtipgociofjokeaaGreat
