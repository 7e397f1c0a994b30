/- Decide of package group (by gendecide15.py). Decide of package group: its face (by gendecf15.py). -/
import Derived.Test.YtipgociofjokeaaGreatGIns
import Derived.Test.YtipgociofjokeaaGreatPGSil
import Derived.Test.YtipgociofjokeaaGreatPGDec
import Derived.Test.YtipgociofjokeaaGreatGAttB
import Derived.Test.YtipgociofjokeaaGreatPGStep
import Derived.Laws.EntriesVeiled
namespace Go.Proofs.YtipgociofjokeaaGreat
open Go.RowKit Go.Shelf
variable {w w' W : World} {g M1 M2 M3 n : Nat} {A : Nm → Sl} {pv : Value} {G : Gp} {F : List Nat}

set_option maxRecDepth 100000 in
set_option maxHeartbeats 1000000 in
theorem deciders_any (w : World) : Calls Tryz.prog 24 #[] w fun x w' => x = .returned (.agg #[.nilFunc, .func (.func 40) #[] #[], .func (.func 41) #[] #[], .func (.func 42) #[] #[], .func (.func 43) #[] #[], .func (.func 44) #[] #[], .func (.func 45) #[] #[], .func (.func 46) #[] #[]]) ∧ w' = w.alloc (.cells #[.nilFunc, .func (.func 40) #[] #[], .func (.func 41) #[] #[], .func (.func 42) #[] #[], .func (.func 43) #[] #[], .func (.func 44) #[] #[], .func (.func 45) #[] #[], .func (.func 46) #[] #[]] 63) := by
  go_enter Tryz.func24, Tryz.ntmps24
  go_wp2
  refine bodyPost_ret (v := .agg #[.nilFunc, .func (.func 40) #[] #[], .func (.func 41) #[] #[], .func (.func 42) #[] #[], .func (.func 43) #[] #[], .func (.func 44) #[] #[], .func (.func 45) #[] #[], .func (.func 46) #[] #[]]) (by simp [results, Tryz.results24, go_sem]) rfl ⟨rfl, rfl⟩
set_option maxRecDepth 100000 in
/-- Decide's work, over any decider. -/
theorem dec1_core {B0 B1 : Nat} (x : Ev) (hx : x.may) (gf : Nat) (eg : ∀ args w, (callFunc gf args).run Tryz.prog w = .ok (.enter gf args) w) (hix : ∀ W, (Instr.index 63 (.agg #[.nilFunc, .func (.func 40) #[] #[], .func (.func 41) #[] #[], .func (.func 42) #[] #[], .func (.func 43) #[] #[], .func (.func 44) #[] #[], .func (.func 45) #[] #[], .func (.func 46) #[] #[]]) (.int .i64 x.kind)).run Tryz.prog W = .ok (.func (.func gf) #[] #[]) W)
    (h : GP W F g M1 M2 M3 n A pv G) (x0 : Blk W B0 #[.pointer (some ⟨g, 0, none⟩)] 23) (x1 : Blk W B1 (evA x) TEv) (y : Int) (dn : Bool)
    (hD : ∀ W', GP W' F g M1 M2 M3 n A pv G → Calls Tryz.prog gf #[.pointer (some ⟨g, 0, none⟩), .agg (evA x)] W' fun r w' => r = decC y dn ∧ Below W'.heap.size W' w') :
    Calls Tryz.prog 21 #[.pointer (some ⟨B0, 0, none⟩), .pointer (some ⟨B1, 0, none⟩)] W fun r w' => r = decC y dn ∧ Below W.heap.size W w' := by
  have HI := hid (insistEvent_any x 1)
  rw [insC_ok hx] at HI
  have HMd : Hid (∀ W', Below W.heap.size W W' → Calls Tryz.prog 16 #[.pointer (some ⟨g, 0, none⟩)] W' fun e w' => e = .returned (.bool true) ∧ w' = W') := fun W' hb => made_any (h.later hb)
  have HD : Hid (∀ W', Below W.heap.size W W' → Calls Tryz.prog gf #[.pointer (some ⟨g, 0, none⟩), .agg (evA x)] W' fun r w' => r = decC y dn ∧ Below W'.heap.size W' w') := fun W' hb => hD W' (h.later hb)
  obtain ⟨k, s, a, b, c, d, e, f, q⟩ := x
  obtain ⟨t, ht⟩ : ∃ t, nmS s = t := ⟨_, rfl⟩
  have x1' : Blk W B1 #[.int .i64 k, .string t, .int .i64 a, .int .i64 b, .int .i64 c, .int .i64 d, .int .i64 e, .int .i64 f, .bool q] TEv := by rw [← ht]; exact x1
  dsimp only [evA] at HI HD hix
  rw [ht] at HI HD
  have HS : Hid (∀ W', Below W.heap.size W W' → W'.cell? ⟨B0, 0, none⟩ = some (.pointer (some ⟨g, 0, none⟩)) ∧ W'.cell? ⟨B1, 0, none⟩ = some (.int .i64 k) ∧ W'.cell? ⟨B1, 1, none⟩ = some (.string t) ∧ W'.cell? ⟨B1, 2, none⟩ = some (.int .i64 a) ∧ W'.cell? ⟨B1, 3, none⟩ = some (.int .i64 b) ∧ W'.cell? ⟨B1, 4, none⟩ = some (.int .i64 c) ∧ W'.cell? ⟨B1, 5, none⟩ = some (.int .i64 d) ∧ W'.cell? ⟨B1, 6, none⟩ = some (.int .i64 e) ∧ W'.cell? ⟨B1, 7, none⟩ = some (.int .i64 f) ∧ W'.cell? ⟨B1, 8, none⟩ = some (.bool q)) := fun W' hb => by
    have h0 := x0.later hb
    have h1 := x1'.later hb
    exact ⟨h0.cell 0, h1.cell 0, h1.cell 1, h1.cell 2, h1.cell 3, h1.cell 4, h1.cell 5, h1.cell 6, h1.cell 7, h1.cell 8⟩
  obtain ⟨c00, c0, c1, c2, c3, c4, c5, c6, c7, c8⟩ := HS.out W (Below.refl _ _)
  clear h x0 x1 x1' hD hx
  by_cases hy : y = 0
  · have hcd : decC y dn = .returned (.bool dn) := by simp [decC, hy]
    rw [hcd]
    go_enter Tryz.func21, Tryz.ntmps21
    go_wp2_with (first
      | (go_at_call 16; (with_reducible_and_instances (refine (HMd.out _ (Below.refl _ _)).mono ?_)); rintro r w9 ⟨rfl, hw9⟩; obtain rfl := hw9.symm)
      | (go_at_call 22; refine (insist_ok 1 _).mono ?_; rintro r w9 ⟨rfl, hw9⟩; obtain rfl := hw9.symm)
      | (go_at_call 23; (with_reducible_and_instances (refine (HI.out _).mono ?_)); rintro r W2 ⟨rfl, hb2⟩; have HB2 := hid hb2; obtain ⟨e00, e0, e1, e2, e3, e4, e5, e6, e7, e8⟩ := HS.out W2 hb2; clear hb2))
    have HB3 := hid (HB2.out.alloc HB2.out.size (.cells #[.nilFunc, .func (.func 40) #[] #[], .func (.func 41) #[] #[], .func (.func 42) #[] #[], .func (.func 43) #[] #[], .func (.func 44) #[] #[], .func (.func 45) #[] #[], .func (.func 46) #[] #[]] 63)).drew
    refine wp_region_held_drew (S := fun W => W.cell? ⟨B0, 0, none⟩ = some (.pointer (some ⟨g, 0, none⟩)) ∧ W.cell? ⟨B1, 0, none⟩ = some (.int .i64 k) ∧ W.cell? ⟨B1, 1, none⟩ = some (.string t) ∧ W.cell? ⟨B1, 2, none⟩ = some (.int .i64 a) ∧ W.cell? ⟨B1, 3, none⟩ = some (.int .i64 b) ∧ W.cell? ⟨B1, 4, none⟩ = some (.int .i64 c) ∧ W.cell? ⟨B1, 5, none⟩ = some (.int .i64 d) ∧ W.cell? ⟨B1, 6, none⟩ = some (.int .i64 e) ∧ W.cell? ⟨B1, 7, none⟩ = some (.int .i64 f) ∧ W.cell? ⟨B1, 8, none⟩ = some (.bool q)) (by kernel_rfl) (HS.out _ HB2.out.drew) (fun hHeld => ?_)
    refine wpAnyH_take (i := 1) (oi := { dst := some 9, op := Op.fieldAddr 31 (Operand.tmp 1) 0, type := 0, pos := "group.go:57", after := #[], guard := none }) (v := ?_) rfl (by kernel_rfl) (by kernel_rfl) (by kernel_rfl) (fun _ _ _ h => h) (Or.inl ⟨by rfl, ?_⟩) hHeld ?_
    rotate_left
    · intro w hSw; (try dsimp only at hSw); go_simp; try with_reducible rfl
    try simp only [Act.put, List.setIfInBounds_toArray, List.set_cons_zero, List.set_cons_succ]
    refine wpAnyH_take (i := 2) (oi := { dst := some 10, op := Op.load 3 (Operand.tmp 9), type := 3, pos := "group.go:57", after := #[{ on := 1, ground := Ground.data }], guard := none }) (v := ?_) rfl (by kernel_rfl) (by kernel_rfl) (by kernel_rfl) (fun _ _ _ h => h) (Or.inl ⟨by rfl, ?_⟩) hHeld ?_
    rotate_left
    · intro w hSw; (try dsimp only at hSw); go_simp; try with_reducible rfl
    try simp only [Act.put, List.setIfInBounds_toArray, List.set_cons_zero, List.set_cons_succ]
    refine wpAnyH_take (i := 4) (oi := { dst := some 12, op := Op.load 23 (Operand.tmp 0), type := 23, pos := "group.go:57", after := #[], guard := none }) (v := ?_) rfl (by kernel_rfl) (by kernel_rfl) (by kernel_rfl) (fun _ _ _ h => h) (Or.inl ⟨by rfl, ?_⟩) hHeld ?_
    rotate_left
    · intro w hSw; (try dsimp only at hSw); go_simp; try with_reducible rfl
    try simp only [Act.put, List.setIfInBounds_toArray, List.set_cons_zero, List.set_cons_succ]
    refine wpAnyH_take (i := 5) (oi := { dst := some 13, op := Op.load 31 (Operand.tmp 1), type := 31, pos := "group.go:57", after := #[], guard := none }) (v := ?_) rfl (by kernel_rfl) (by kernel_rfl) (by kernel_rfl) (fun _ _ _ h => h) (Or.inl ⟨by rfl, ?_⟩) hHeld ?_
    rotate_left
    · intro w hSw; (try dsimp only at hSw); go_simp; try with_reducible rfl
    try simp only [Act.put, List.setIfInBounds_toArray, List.set_cons_zero, List.set_cons_succ]
    refine wpAnyH_ready (rs := [0]) (by kernel_rfl) (by simp) ?_
    refine AllReadyH.cons rfl (fun K hK => ?_) (AllReadyH.nil)
    go_simp
    go_wp2_with (go_at_call 24; refine (deciders_any _).mono ?_; rintro r w9 ⟨rfl, hw9⟩; obtain rfl := hw9.symm)
    refine hK.out _ _ (HS.out _ HB3.out) (fun hHeld => ?_)
    clear hK K
    refine wpAnyH_take (i := 3) (oi := { dst := some 11, op := Op.index 63 (Operand.tmp 8) (Operand.tmp 10), type := 62, pos := "group.go:57", after := #[{ on := 0, ground := Ground.data }, { on := 2, ground := Ground.data }], guard := none }) (v := .func (.func gf) #[] #[]) rfl (by kernel_rfl) (by kernel_rfl) (by kernel_rfl) (fun _ _ _ h => h) (Or.inl ⟨by rfl, ?_⟩) hHeld ?_
    · intro w hSw; have hi := hix w; go_simp
    refine wpAnyH_ready (rs := [6]) (by kernel_rfl) (by simp) ?_
    refine AllReadyH.cons rfl (fun K hK => ?_) (AllReadyH.nil)
    go_simp
    go_wp2_with (go_at_fn gf; (with_reducible_and_instances (refine (HD.out _ HB3.out).mono ?_)); rintro r W4 ⟨hr, hb4⟩; rw [hcd] at hr; subst hr; have HB4 := hid (HB3.out.trans (hb4.mono HB3.out.size)); clear hb4)
    refine hK.out _ _ (HS.out _ HB4.out) (fun hHeld => ?_)
    clear hK K
    try simp only [Act.put, List.setIfInBounds_toArray, List.set_cons_zero, List.set_cons_succ]
    refine wpAnyH_take (i := 7) (oi := { dst := some 2, op := Op.assign (Operand.tmp 14), type := 4, pos := "group.go:57", after := #[{ on := 6, ground := Ground.data }, { on := 6, ground := Ground.chain }, { on := 0, ground := Ground.phase }, { on := 1, ground := Ground.phase }, { on := 2, ground := Ground.phase }, { on := 3, ground := Ground.phase }, { on := 4, ground := Ground.phase }, { on := 5, ground := Ground.phase }, { on := 6, ground := Ground.phase }], guard := none }) (v := ?_) rfl (by kernel_rfl) (by kernel_rfl) (by kernel_rfl) (fun _ _ _ h => h) (Or.inl ⟨by rfl, ?_⟩) hHeld ?_
    rotate_left
    · intro w hSw; (try dsimp only at hSw); go_simp; try with_reducible rfl
    try simp only [Act.put, List.setIfInBounds_toArray, List.set_cons_zero, List.set_cons_succ]
    refine wpAnyH_done (by kernel_rfl) ?_ _
    clear hHeld
    go_wp2_with fail
    go_ret
    exact ⟨rfl, HB4.out⟩
  · have hcd : decC y dn = .panicked (refusal y) := by simp [decC, hy]
    rw [hcd]
    go_enter Tryz.func21, Tryz.ntmps21
    go_wp2_with (first
      | (go_at_call 16; (with_reducible_and_instances (refine (HMd.out _ (Below.refl _ _)).mono ?_)); rintro r w9 ⟨rfl, hw9⟩; obtain rfl := hw9.symm)
      | (go_at_call 22; refine (insist_ok 1 _).mono ?_; rintro r w9 ⟨rfl, hw9⟩; obtain rfl := hw9.symm)
      | (go_at_call 23; (with_reducible_and_instances (refine (HI.out _).mono ?_)); rintro r W2 ⟨rfl, hb2⟩; have HB2 := hid hb2; obtain ⟨e00, e0, e1, e2, e3, e4, e5, e6, e7, e8⟩ := HS.out W2 hb2; clear hb2))
    have HB3 := hid (HB2.out.alloc HB2.out.size (.cells #[.nilFunc, .func (.func 40) #[] #[], .func (.func 41) #[] #[], .func (.func 42) #[] #[], .func (.func 43) #[] #[], .func (.func 44) #[] #[], .func (.func 45) #[] #[], .func (.func 46) #[] #[]] 63)).drew
    refine wp_region_held_drew (S := fun W => W.cell? ⟨B0, 0, none⟩ = some (.pointer (some ⟨g, 0, none⟩)) ∧ W.cell? ⟨B1, 0, none⟩ = some (.int .i64 k) ∧ W.cell? ⟨B1, 1, none⟩ = some (.string t) ∧ W.cell? ⟨B1, 2, none⟩ = some (.int .i64 a) ∧ W.cell? ⟨B1, 3, none⟩ = some (.int .i64 b) ∧ W.cell? ⟨B1, 4, none⟩ = some (.int .i64 c) ∧ W.cell? ⟨B1, 5, none⟩ = some (.int .i64 d) ∧ W.cell? ⟨B1, 6, none⟩ = some (.int .i64 e) ∧ W.cell? ⟨B1, 7, none⟩ = some (.int .i64 f) ∧ W.cell? ⟨B1, 8, none⟩ = some (.bool q)) (by kernel_rfl) (HS.out _ HB2.out.drew) (fun hHeld => ?_)
    refine wpAnyH_take (i := 1) (oi := { dst := some 9, op := Op.fieldAddr 31 (Operand.tmp 1) 0, type := 0, pos := "group.go:57", after := #[], guard := none }) (v := ?_) rfl (by kernel_rfl) (by kernel_rfl) (by kernel_rfl) (fun _ _ _ h => h) (Or.inl ⟨by rfl, ?_⟩) hHeld ?_
    rotate_left
    · intro w hSw; (try dsimp only at hSw); go_simp; try with_reducible rfl
    try simp only [Act.put, List.setIfInBounds_toArray, List.set_cons_zero, List.set_cons_succ]
    refine wpAnyH_take (i := 2) (oi := { dst := some 10, op := Op.load 3 (Operand.tmp 9), type := 3, pos := "group.go:57", after := #[{ on := 1, ground := Ground.data }], guard := none }) (v := ?_) rfl (by kernel_rfl) (by kernel_rfl) (by kernel_rfl) (fun _ _ _ h => h) (Or.inl ⟨by rfl, ?_⟩) hHeld ?_
    rotate_left
    · intro w hSw; (try dsimp only at hSw); go_simp; try with_reducible rfl
    try simp only [Act.put, List.setIfInBounds_toArray, List.set_cons_zero, List.set_cons_succ]
    refine wpAnyH_take (i := 4) (oi := { dst := some 12, op := Op.load 23 (Operand.tmp 0), type := 23, pos := "group.go:57", after := #[], guard := none }) (v := ?_) rfl (by kernel_rfl) (by kernel_rfl) (by kernel_rfl) (fun _ _ _ h => h) (Or.inl ⟨by rfl, ?_⟩) hHeld ?_
    rotate_left
    · intro w hSw; (try dsimp only at hSw); go_simp; try with_reducible rfl
    try simp only [Act.put, List.setIfInBounds_toArray, List.set_cons_zero, List.set_cons_succ]
    refine wpAnyH_take (i := 5) (oi := { dst := some 13, op := Op.load 31 (Operand.tmp 1), type := 31, pos := "group.go:57", after := #[], guard := none }) (v := ?_) rfl (by kernel_rfl) (by kernel_rfl) (by kernel_rfl) (fun _ _ _ h => h) (Or.inl ⟨by rfl, ?_⟩) hHeld ?_
    rotate_left
    · intro w hSw; (try dsimp only at hSw); go_simp; try with_reducible rfl
    try simp only [Act.put, List.setIfInBounds_toArray, List.set_cons_zero, List.set_cons_succ]
    refine wpAnyH_ready (rs := [0]) (by kernel_rfl) (by simp) ?_
    refine AllReadyH.cons rfl (fun K hK => ?_) (AllReadyH.nil)
    go_simp
    go_wp2_with (go_at_call 24; refine (deciders_any _).mono ?_; rintro r w9 ⟨rfl, hw9⟩; obtain rfl := hw9.symm)
    refine hK.out _ _ (HS.out _ HB3.out) (fun hHeld => ?_)
    clear hK K
    refine wpAnyH_take (i := 3) (oi := { dst := some 11, op := Op.index 63 (Operand.tmp 8) (Operand.tmp 10), type := 62, pos := "group.go:57", after := #[{ on := 0, ground := Ground.data }, { on := 2, ground := Ground.data }], guard := none }) (v := .func (.func gf) #[] #[]) rfl (by kernel_rfl) (by kernel_rfl) (by kernel_rfl) (fun _ _ _ h => h) (Or.inl ⟨by rfl, ?_⟩) hHeld ?_
    · intro w hSw; have hi := hix w; go_simp
    refine wpAnyH_ready (rs := [6]) (by kernel_rfl) (by simp) ?_
    refine AllReadyH.cons rfl (fun K hK => ?_) (AllReadyH.nil)
    go_simp
    go_wp2_with (go_at_fn gf; (with_reducible_and_instances (refine (HD.out _ HB3.out).mono ?_)); rintro r W4 ⟨hr, hb4⟩; rw [hcd] at hr; subst hr; have HB4 := hid (HB3.out.trans (hb4.mono HB3.out.size)); clear hb4)
    exact ⟨rfl, rfl, HB4.out⟩
end Go.Proofs.YtipgociofjokeaaGreat
namespace Go.Proofs.YtipgociofjokeaaGreat
open Go.RowKit Go.Shelf
variable {w w' W : World} {g M1 M2 M3 n : Nat} {A : Nm → Sl} {pv : Value} {G : Gp} {F : List Nat}

theorem enters_dec1 : ∀ args w, (callFunc 21 args).run Tryz.prog w = .ok (.enter 21 args) w := fun _ _ => by kernel_rfl
set_option maxRecDepth 100000 in
set_option maxHeartbeats 1000000 in
theorem Decide_of (gv : Option Addr) (x : Ev) (y : Int) (dn : Bool) (w : World) (hC : ∀ W, Below w.heap.size w W → Blk W w.heap.size #[.pointer gv] 23 → Blk W (w.heap.size + 1) (evA x) TEv → Calls Tryz.prog 21 #[.pointer (some ⟨w.heap.size, 0, none⟩), .pointer (some ⟨w.heap.size + 1, 0, none⟩)] W fun r w' => r = decC y dn ∧ Below W.heap.size W w') :
    Calls Tryz.prog 14 #[.pointer gv, .agg (evA x)] w fun r w' => r = .returned (.tuple #[.bool (if y = 0 then dn else false), .int .i64 y]) ∧ Below w.heap.size w w' := by
  obtain ⟨W2, hW2⟩ : ∃ W2, (w.alloc (.cells #[.pointer gv] 23)).alloc (.cells (evA x) TEv) = W2 := ⟨_, rfl⟩
  have b2 : Below w.heap.size w W2 := by rw [← hW2]; exact ((Below.refl _ _).alloc (Nat.le_refl _) _).alloc (by simp) _
  have z2 : W2.heap.size = w.heap.size + 2 := by rw [← hW2]; simp
  have x0 : Blk W2 w.heap.size #[.pointer gv] 23 := by
    rw [← hW2]
    exact Blk.later (heap_alloc_new w _) ((Below.refl _ _).alloc (Nat.le_refl _) _)
  have x1 : Blk W2 (w.heap.size + 1) (evA x) TEv := by
    have h := heap_alloc_new (w.alloc (.cells #[.pointer gv] 23)) (.cells (evA x) TEv)
    rw [World.size_alloc] at h
    rw [← hW2]
    exact h
  have b3 : Below W2.heap.size W2 (W2.alloc (.cells #[.int .i64 0] 24)) := (Below.refl _ _).alloc (Nat.le_refl _) _
  have hCa := hC (W2.alloc (.cells #[.int .i64 0] 24)) (b2.trans (b3.mono b2.size)) (x0.later b3) (x1.later b3)
  have HA := attemptB 21 #[.pointer (some ⟨w.heap.size, 0, none⟩), .pointer (some ⟨w.heap.size + 1, 0, none⟩)] W2 enters_dec1 (fun d _ => y = 0 ∧ d = dn) (fun z => z = y ∧ y ≠ 0) (hCa.mono (by
    rintro r W' ⟨rfl, hb⟩
    refine ⟨?_, by rw [World.size_alloc] at hb; exact hb⟩
    unfold decC
    by_cases hy : y = 0
    · rw [if_pos hy]; exact Or.inl ⟨dn, rfl, hy, rfl⟩
    · rw [if_neg hy]; exact Or.inr ⟨y, rfl, rfl, hy⟩))
  have HA2 := hid (HA.mono (R' := fun r w' => r = .returned (.tuple #[.bool (if y = 0 then dn else false), .int .i64 y]) ∧ Below W2.heap.size W2 w') (by
    rintro r w' ⟨h | h, hb⟩
    · obtain ⟨W', -, -, d, rfl, hy, rfl⟩ := h
      refine ⟨?_, hb⟩
      rw [if_pos hy, hy]
    · obtain ⟨z, rfl, rfl, hy⟩ := h
      refine ⟨?_, hb⟩
      rw [if_neg hy]))
  have HB2 := hid b2
  have hmf : ∀ (fn : Fn) (first cap : Array Value) (w : World), (Instr.makeFunc fn first cap).run Tryz.prog w = .ok (.func fn first cap) w := fun _ _ _ _ => rfl
  clear hC hCa HA b2 b3 x0 x1 z2
  generalize (if y = 0 then dn else false) = dd at *
  obtain ⟨k, s, a, b, c, d, e, f, q⟩ := x
  obtain ⟨t, ht⟩ : ∃ t, nmS s = t := ⟨_, rfl⟩
  dsimp only [evA] at *
  rw [ht] at hW2 ⊢
  go_enter Tryz.func14, Tryz.ntmps14
  go_wp2_with (go_at_call 20; (with_reducible_and_instances (refine HA2.out.mono ?_)); rintro r W9 ⟨rfl, hb9⟩; have HB9 := hid hb9; clear hb9)
  refine bodyPost_ret (results_tmp2 Tryz.results14 _ _ _) rfl ⟨rfl, HB2.out.trans (HB9.out.mono HB2.out.size)⟩
set_option maxRecDepth 100000 in
theorem dec_at (W : World) : (Instr.index 63 (.agg #[.nilFunc, .func (.func 40) #[] #[], .func (.func 41) #[] #[], .func (.func 42) #[] #[], .func (.func 43) #[] #[], .func (.func 44) #[] #[], .func (.func 45) #[] #[], .func (.func 46) #[] #[]]) (.int .i64 1)).run Tryz.prog W = .ok (.func (.func 40) #[] #[]) W ∧ (Instr.index 63 (.agg #[.nilFunc, .func (.func 40) #[] #[], .func (.func 41) #[] #[], .func (.func 42) #[] #[], .func (.func 43) #[] #[], .func (.func 44) #[] #[], .func (.func 45) #[] #[], .func (.func 46) #[] #[]]) (.int .i64 2)).run Tryz.prog W = .ok (.func (.func 41) #[] #[]) W ∧ (Instr.index 63 (.agg #[.nilFunc, .func (.func 40) #[] #[], .func (.func 41) #[] #[], .func (.func 42) #[] #[], .func (.func 43) #[] #[], .func (.func 44) #[] #[], .func (.func 45) #[] #[], .func (.func 46) #[] #[]]) (.int .i64 3)).run Tryz.prog W = .ok (.func (.func 42) #[] #[]) W ∧ (Instr.index 63 (.agg #[.nilFunc, .func (.func 40) #[] #[], .func (.func 41) #[] #[], .func (.func 42) #[] #[], .func (.func 43) #[] #[], .func (.func 44) #[] #[], .func (.func 45) #[] #[], .func (.func 46) #[] #[]]) (.int .i64 4)).run Tryz.prog W = .ok (.func (.func 43) #[] #[]) W ∧ (Instr.index 63 (.agg #[.nilFunc, .func (.func 40) #[] #[], .func (.func 41) #[] #[], .func (.func 42) #[] #[], .func (.func 43) #[] #[], .func (.func 44) #[] #[], .func (.func 45) #[] #[], .func (.func 46) #[] #[]]) (.int .i64 5)).run Tryz.prog W = .ok (.func (.func 44) #[] #[]) W ∧ (Instr.index 63 (.agg #[.nilFunc, .func (.func 40) #[] #[], .func (.func 41) #[] #[], .func (.func 42) #[] #[], .func (.func 43) #[] #[], .func (.func 44) #[] #[], .func (.func 45) #[] #[], .func (.func 46) #[] #[]]) (.int .i64 6)).run Tryz.prog W = .ok (.func (.func 45) #[] #[]) W ∧ (Instr.index 63 (.agg #[.nilFunc, .func (.func 40) #[] #[], .func (.func 41) #[] #[], .func (.func 42) #[] #[], .func (.func 43) #[] #[], .func (.func 44) #[] #[], .func (.func 45) #[] #[], .func (.func 46) #[] #[]]) (.int .i64 7)).run Tryz.prog W = .ok (.func (.func 46) #[] #[]) W := by
  refine ⟨?_, ?_, ?_, ?_, ?_, ?_, ?_⟩ <;> kernel_rfl
theorem en_decideJoin : ∀ args w, (callFunc 40 args).run Tryz.prog w = .ok (.enter 40 args) w := fun _ _ => by kernel_rfl
theorem en_decideLeave : ∀ args w, (callFunc 41 args).run Tryz.prog w = .ok (.enter 41 args) w := fun _ _ => by kernel_rfl
theorem en_decideBeat : ∀ args w, (callFunc 42 args).run Tryz.prog w = .ok (.enter 42 args) w := fun _ _ => by kernel_rfl
theorem en_decideCommit : ∀ args w, (callFunc 43 args).run Tryz.prog w = .ok (.enter 43 args) w := fun _ _ => by kernel_rfl
theorem en_decideExpire : ∀ args w, (callFunc 44 args).run Tryz.prog w = .ok (.enter 44 args) w := fun _ _ => by kernel_rfl
theorem en_decidePromise : ∀ args w, (callFunc 45 args).run Tryz.prog w = .ok (.enter 45 args) w := fun _ _ => by kernel_rfl
theorem en_decideMark : ∀ args w, (callFunc 46 args).run Tryz.prog w = .ok (.enter 46 args) w := fun _ _ => by kernel_rfl
/-- Decide's work of an event that may not be. -/
theorem dec1_no {B0 B1 : Nat} (x : Ev) (hx : ¬ x.may) (h : GP W F g M1 M2 M3 n A pv G) (x0 : Blk W B0 #[.pointer (some ⟨g, 0, none⟩)] 23) (x1 : Blk W B1 (evA x) TEv) :
    Calls Tryz.prog 21 #[.pointer (some ⟨B0, 0, none⟩), .pointer (some ⟨B1, 0, none⟩)] W fun r w' => r = .panicked (refusal 1) ∧ Below W.heap.size W w' := by
  have HI := hid (insistEvent_any x 1)
  rw [insC_no hx] at HI
  have HMd := hid (made_any h)
  obtain ⟨k, s, a, b, c, d, e, f, q⟩ := x
  obtain ⟨t, ht⟩ : ∃ t, nmS s = t := ⟨_, rfl⟩
  have x1' : Blk W B1 #[.int .i64 k, .string t, .int .i64 a, .int .i64 b, .int .i64 c, .int .i64 d, .int .i64 e, .int .i64 f, .bool q] TEv := by rw [← ht]; exact x1
  dsimp only [evA] at HI
  rw [ht] at HI
  have c00 := x0.cell 0
  obtain ⟨c0, c1, c2, c3, c4, c5, c6, c7, c8⟩ : W.cell? ⟨B1, 0, none⟩ = some (.int .i64 k) ∧ W.cell? ⟨B1, 1, none⟩ = some (.string t) ∧ W.cell? ⟨B1, 2, none⟩ = some (.int .i64 a) ∧ W.cell? ⟨B1, 3, none⟩ = some (.int .i64 b) ∧ W.cell? ⟨B1, 4, none⟩ = some (.int .i64 c) ∧ W.cell? ⟨B1, 5, none⟩ = some (.int .i64 d) ∧ W.cell? ⟨B1, 6, none⟩ = some (.int .i64 e) ∧ W.cell? ⟨B1, 7, none⟩ = some (.int .i64 f) ∧ W.cell? ⟨B1, 8, none⟩ = some (.bool q) := ⟨x1'.cell 0, x1'.cell 1, x1'.cell 2, x1'.cell 3, x1'.cell 4, x1'.cell 5, x1'.cell 6, x1'.cell 7, x1'.cell 8⟩
  simp only [List.getElem?_toArray, List.getElem?_cons_zero] at c00
  clear h x0 x1 x1' hx
  go_enter Tryz.func21, Tryz.ntmps21
  go_wp2_with (first
    | (go_at_call 16; (with_reducible_and_instances (refine HMd.out.mono ?_)); rintro r w9 ⟨rfl, hw9⟩; obtain rfl := hw9.symm)
    | (go_at_call 22; refine (insist_ok 1 _).mono ?_; rintro r w9 ⟨rfl, hw9⟩; obtain rfl := hw9.symm)
    | (go_at_call 23; (with_reducible_and_instances (refine (HI.out _).mono ?_)); rintro r W2 ⟨rfl, hb2⟩; have HB2 := hid hb2; clear hb2))
  exact ⟨rfl, rfl, HB2.out⟩
/-- .. on no group, or one that nobody made. -/
theorem dec1_nil {B0 B1 : Nat} (gv : Option Addr) (hm : Calls Tryz.prog 16 #[.pointer gv] W fun e w' => e = .returned (.bool false) ∧ w' = W) (x0 : Blk W B0 #[.pointer gv] 23) :
    Calls Tryz.prog 21 #[.pointer (some ⟨B0, 0, none⟩), .pointer (some ⟨B1, 0, none⟩)] W fun r w' => r = .panicked (refusal 1) ∧ Below W.heap.size W w' := by
  have HMd := hid hm
  have c00 := x0.cell 0
  simp only [List.getElem?_toArray, List.getElem?_cons_zero] at c00
  clear hm x0
  go_enter Tryz.func21, Tryz.ntmps21
  go_wp2_with (first
    | (go_at_call 16; (with_reducible_and_instances (refine HMd.out.mono ?_)); rintro r w9 ⟨rfl, hw9⟩; obtain rfl := hw9.symm)
    | (go_at_call 22; refine (insist_no 1 _).mono ?_; rintro r w9 ⟨rfl, hw9⟩; obtain rfl := hw9.symm))
  exact ⟨rfl, rfl, Below.refl _ _⟩
theorem may_name {x : Ev} (hx : x.may) : x.mem.length ≤ maxLen := by
  have h3 := hx.2.2.1
  by_cases h : nameOk x.mem = true
  · unfold nameOk at h
    rw [Bool.and_eq_true, decide_eq_true_eq, decide_eq_true_eq] at h
    unfold maxLen
    omega
  · have hm : x.isM = false := by rw [← h3]; simpa using h
    have ht := hx.2.1
    have hk : x.kind = 5 ∨ x.kind = 7 := by
      unfold Ev.isM at hm
      by_cases h5 : x.kind = 5
      · exact Or.inl h5
      · refine Or.inr ?_
        have : (x.kind == 5) = false := by simpa using h5
        rw [this] at hm
        simpa using hm
    have he : x.mem = [] := by
      rw [ht]
      unfold Ev.taken
      rcases hk with h5 | h5 <;> simp [h5]
    rw [he]
    simp
theorem may_i64 {n : Int} (h : inN n) : -9223372036854775808 ≤ n ∧ n ≤ 9223372036854775807 := by unfold inN at h; omega
set_option maxHeartbeats 1000000 in
/-- Decide: what it answers of any event; of Mark as far as its decider is known. -/
theorem Decide_any (h : GP w F g M1 M2 M3 n A pv G) {kk : Nat} (ho : GOk kk G) (x : Ev) (hM : x.may → x.kind = 7 → ∀ W', GP W' F g M1 M2 M3 n A pv G → Calls Tryz.prog 46 #[.pointer (some ⟨g, 0, none⟩), .agg (evA x)] W' fun r w' => r = decC (G.whyNot x) (G.done x) ∧ Below W'.heap.size W' w') :
    Calls Tryz.prog 14 #[.pointer (some ⟨g, 0, none⟩), .agg (evA x)] w fun r w' => r = .returned (.tuple #[.bool (G.dec x).1, .int .i64 (G.dec x).2]) ∧ Below w.heap.size w w' := by
  by_cases hx : x.may
  · have hs := may_name hx
    have hp := may_i64 hx.2.2.2.1.2.2.2.1
    have hD := Decide_of (some ⟨g, 0, none⟩) x (G.whyNot x) (G.done x) w (fun W hb x0 x1 => by
      have hg := h.later hb
      obtain ⟨i1, i2, i3, i4, i5, i6, i7⟩ : _ := (⟨fun W => (dec_at W).1, fun W => (dec_at W).2.1, fun W => (dec_at W).2.2.1, fun W => (dec_at W).2.2.2.1, fun W => (dec_at W).2.2.2.2.1, fun W => (dec_at W).2.2.2.2.2.1, fun W => (dec_at W).2.2.2.2.2.2⟩ : (∀ W : World, _) ∧ (∀ W : World, _) ∧ (∀ W : World, _) ∧ (∀ W : World, _) ∧ (∀ W : World, _) ∧ (∀ W : World, _) ∧ (∀ W : World, _))
      have hk := hx.1
      rcases (show x.kind = 1 ∨ x.kind = 2 ∨ x.kind = 3 ∨ x.kind = 4 ∨ x.kind = 5 ∨ x.kind = 6 ∨ x.kind = 7 by omega) with e | e | e | e | e | e | e
      · have ew : G.whyNot x = (if G.has x.mem || decide (G.ks.length < 100) then 0 else 7) := by unfold Gp.whyNot; rw [if_pos e]
        have ed : G.done x = false := by unfold Gp.done; simp [e]
        rw [ew, ed]
        exact dec1_core x hx _ en_decideJoin (by rw [e]; exact i1) hg x0 x1 _ _ (fun W' hW' => decJoin_any hW' ho x hs)
      · have ew : G.whyNot x = (if G.has x.mem then 0 else 60) := by unfold Gp.whyNot; rw [if_neg (by omega), if_pos e]
        have ed : G.done x = false := by unfold Gp.done; simp [e]
        rw [ew, ed]
        exact dec1_core x hx _ en_decideLeave (by rw [e]; exact i2) hg x0 x1 _ _ (fun W' hW' => decLeave_any hW' x hs)
      · have ew : G.whyNot x = (if G.has x.mem && x.gen == G.gen then 0 else 60) := by unfold Gp.whyNot; rw [if_neg (by omega), if_neg (by omega), if_pos e]
        have ed : G.done x = false := by unfold Gp.done; simp [e]
        rw [ew, ed]
        exact dec1_core x hx _ en_decideBeat (by rw [e]; exact i3) hg x0 x1 _ _ (fun W' hW' => decBeat_any hW' x hs)
      · have ew : G.whyNot x = (if G.has x.mem && x.gen == G.gen then (if x.part < G.parts then 0 else 1) else 60) := by unfold Gp.whyNot; rw [if_neg (by omega), if_neg (by omega), if_neg (by omega), if_pos e]
        have ed : G.done x = false := by unfold Gp.done; simp [e]
        rw [ew, ed]
        exact dec1_core x hx _ en_decideCommit (by rw [e]; exact i4) hg x0 x1 _ _ (fun W' hW' => decCommit_any hW' x hs)
      · have ew : G.whyNot x = 0 := by unfold Gp.whyNot; rw [if_neg (by omega), if_neg (by omega), if_neg (by omega), if_neg (by omega), if_pos e]
        have ed : G.done x = (G.silent x.now).isEmpty := by unfold Gp.done; simp [e]
        rw [ew, ed]
        exact dec1_core x hx _ en_decideExpire (by rw [e]; exact i5) hg x0 x1 _ _ (fun W' hW' => decExpire_any hW' ho x)
      · have ew : G.whyNot x = (if G.has x.mem && x.gen == G.gen then (if x.part < G.parts then (if G.epo x.prod ≤ x.ep then 0 else 50) else 1) else 60) := by unfold Gp.whyNot; rw [if_neg (by omega), if_neg (by omega), if_neg (by omega), if_neg (by omega), if_neg (by omega), if_pos e]
        have ed : G.done x = false := by unfold Gp.done; simp [e]
        rw [ew, ed]
        exact dec1_core x hx _ en_decidePromise (by rw [e]; exact i6) hg x0 x1 _ _ (fun W' hW' => decPromise_any hW' x hs hp)
      · exact dec1_core x hx _ en_decideMark (by rw [e]; exact i7) hg x0 x1 _ _ (fun W' hW' => hM hx e W' hW'))
    refine hD.mono ?_
    rintro r w' ⟨rfl, hb⟩
    refine ⟨?_, hb⟩
    unfold Gp.dec
    rw [if_pos hx]
    by_cases hy : G.whyNot x = 0
    · rw [if_pos hy, if_pos hy, hy]
    · rw [if_neg hy, if_neg hy]
  · have hD := Decide_of (some ⟨g, 0, none⟩) x 1 false w (fun W hb x0 x1 => (dec1_no x hx (h.later hb) x0 x1).mono (fun _ _ hh => hh))
    refine hD.mono ?_
    rintro r w' ⟨rfl, hb⟩
    refine ⟨?_, hb⟩
    unfold Gp.dec
    rw [if_neg hx]
    rfl
theorem Decide_nil (gv : Option Addr) (hm : ∀ W, Below w.heap.size w W → Calls Tryz.prog 16 #[.pointer gv] W fun e w' => e = .returned (.bool false) ∧ w' = W) (x : Ev) :
    Calls Tryz.prog 14 #[.pointer gv, .agg (evA x)] w fun r w' => r = .returned (.tuple #[.bool false, .int .i64 1]) ∧ Below w.heap.size w w' :=
  (Decide_of gv x 1 false w (fun W hb x0 _ => (dec1_nil gv (hm W hb) x0).mono (fun _ _ hh => hh))).mono (fun _ _ hh => hh)
end Go.Proofs.YtipgociofjokeaaGreat
