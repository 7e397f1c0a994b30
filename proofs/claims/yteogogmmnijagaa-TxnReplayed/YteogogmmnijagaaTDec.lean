/- Decide of package txn, of any event (by gendec16.py). -/
import Derived.Test.YteogogmmnijagaaTTab
namespace Go.Proofs.Yteogogmmnijagaa
open Go.RowKit
variable {w w' : World} {F : List Nat} {g M : Nat} {v : Value} {Z : List (Pr × Sl)} {B : Bk}

set_option maxRecDepth 100000 in
set_option maxHeartbeats 1000000 in
/-- Decide of an event that may be, over any question. -/
theorem decide_core (x : Ev) (hx : x.may) (gf : Nat) (eg : ∀ args w, (callFunc gf args).run Try.prog w = .ok (.enter gf args) w) (hgf : qFn x.kind = gf) (h : BP w F g M v Z B) (dn : Bool) (er : Int)
    (hD : ∀ W', BP W' F g M v Z B → Calls Try.prog gf #[.pointer (some ⟨g, 0, none⟩), .agg (evA x)] W' (AskP W' (dn, er))) :
    Calls Try.prog 6 #[.pointer (some ⟨g, 0, none⟩), .agg (evA x)] w (AskP w (dn, er)) := by
  have HMd : Hid (∀ W', Below w.heap.size w W' → Calls Try.prog 15 #[.pointer (some ⟨g, 0, none⟩)] W' fun e w' => e = .returned (.bool true) ∧ w' = W') := fun W' hb => made_any (h.later hb)
  have HI : Hid (∀ W', Calls Try.prog 16 #[.agg (evA x)] W' fun r w' => r = .returned (.bool true) ∧ Below W'.heap.size W' w') := fun W' => by
    have h := mayBe_any x W'
    rw [decide_eq_true hx] at h
    exact h
  have HD : Hid (∀ W', Below w.heap.size w W' → Calls Try.prog gf #[.pointer (some ⟨g, 0, none⟩), .agg (evA x)] W' fun e w' => e = .returned (.tuple #[.bool dn, .int .i64 er]) ∧ Below W'.heap.size W' w') := fun W' hb => hD W' (h.later hb)
  have HL : Hid (∀ M w', TabP TQ qFn g M w' → ∀ W, Below w'.heap.size w' W → (Instr.lookup TQ (.map (some M)) (.int .i64 x.kind) false).run Try.prog W = .ok (.func (.func gf) #[.pointer (some ⟨g, 0, none⟩)] #[]) W) := fun M w' ht W hW => by
    rw [ht x.kind hx.1.1 hx.1.2 W hW, hgf]
  show Calls _ _ _ _ fun e w' => e = .returned (.tuple #[.bool dn, .int .i64 er]) ∧ Below w.heap.size w w'
  clear h hD hx hgf
  obtain ⟨k, nm, a, b, cc, d, e, q⟩ := x
  dsimp only [Ev.kind, Ev.name, Ev.prod, Ev.ep, Ev.place, Ev.tmo, Ev.now, Ev.yes, evA] at *
  obtain ⟨t, ht⟩ : ∃ t, nmS nm = t := ⟨_, rfl⟩
  rw [ht] at HI HD ⊢
  obtain ⟨W1, hW1⟩ : ∃ W1, w.alloc (.cells #[.int .i64 k, .string t, .int .i64 a, .int .i64 b, .int .i64 cc, .int .i64 d, .int .i64 e, .bool q] TEv) = W1 := ⟨_, rfl⟩
  have b1 : Below w.heap.size w W1 := by rw [← hW1]; exact (Below.refl _ _).alloc (Nat.le_refl _) _
  have x1 : Blk W1 w.heap.size #[.int .i64 k, .string t, .int .i64 a, .int .i64 b, .int .i64 cc, .int .i64 d, .int .i64 e, .bool q] TEv := by rw [← hW1]; exact heap_alloc_new w _
  have HS : Hid (∀ W, Below W1.heap.size W1 W → W.cell? ⟨w.heap.size, 0, none⟩ = some (.int .i64 k) ∧ W.cell? ⟨w.heap.size, 1, none⟩ = some (.string t) ∧ W.cell? ⟨w.heap.size, 2, none⟩ = some (.int .i64 a) ∧ W.cell? ⟨w.heap.size, 3, none⟩ = some (.int .i64 b) ∧ W.cell? ⟨w.heap.size, 4, none⟩ = some (.int .i64 cc) ∧ W.cell? ⟨w.heap.size, 5, none⟩ = some (.int .i64 d) ∧ W.cell? ⟨w.heap.size, 6, none⟩ = some (.int .i64 e) ∧ W.cell? ⟨w.heap.size, 7, none⟩ = some (.bool q)) := fun W hW => ⟨(x1.later hW).cell 0, (x1.later hW).cell 1, (x1.later hW).cell 2, (x1.later hW).cell 3, (x1.later hW).cell 4, (x1.later hW).cell 5, (x1.later hW).cell 6, (x1.later hW).cell 7⟩
  have HB1 := hid b1
  obtain ⟨y0, y1, y2, y3, y4, y5, y6, y7⟩ := HS.out W1 (Below.refl _ _)
  clear x1 b1
  go_enter Try.func6, Try.ntmps6
  go_wp2_with (first
    | (go_at_call 15; (with_reducible_and_instances (refine (HMd.out _ HB1.out).mono ?_)); rintro r w9 ⟨rfl, hw9⟩; obtain rfl := hw9.symm)
    | (go_at_call 16; (with_reducible_and_instances (refine (HI.out _).mono ?_)); rintro r w2 ⟨rfl, hb2⟩; have HB2 := hid hb2; clear hb2))
  refine wp_region_held_drew (S := fun W => W.cell? ⟨w.heap.size, 0, none⟩ = some (.int .i64 k) ∧ W.cell? ⟨w.heap.size, 1, none⟩ = some (.string t) ∧ W.cell? ⟨w.heap.size, 2, none⟩ = some (.int .i64 a) ∧ W.cell? ⟨w.heap.size, 3, none⟩ = some (.int .i64 b) ∧ W.cell? ⟨w.heap.size, 4, none⟩ = some (.int .i64 cc) ∧ W.cell? ⟨w.heap.size, 5, none⟩ = some (.int .i64 d) ∧ W.cell? ⟨w.heap.size, 6, none⟩ = some (.int .i64 e) ∧ W.cell? ⟨w.heap.size, 7, none⟩ = some (.bool q)) (by kernel_rfl) (HS.out _ HB2.out.drew) (fun hHeld => ?_)
  refine wpAnyH_take (i := 0) (oi := { dst := some 14, op := Op.move (Operand.tmp 0), type := 23, pos := "txn.go:35", after := #[], guard := none }) (v := ?_) rfl (by kernel_rfl) (by kernel_rfl) (by kernel_rfl) (fun _ _ _ h => h) (Or.inl ⟨by rfl, ?_⟩) hHeld ?_
  rotate_left
  · intro w hSw; (try dsimp only at hSw); go_simp; try with_reducible rfl
  try simp only [Act.put, List.setIfInBounds_toArray, List.set_cons_zero, List.set_cons_succ]
  refine wpAnyH_take (i := 2) (oi := { dst := some 16, op := Op.fieldAddr 30 (Operand.tmp 3) 0, type := 0, pos := "txn.go:35", after := #[], guard := none }) (v := ?_) rfl (by kernel_rfl) (by kernel_rfl) (by kernel_rfl) (fun _ _ _ h => h) (Or.inl ⟨by rfl, ?_⟩) hHeld ?_
  rotate_left
  · intro w hSw; (try dsimp only at hSw); go_simp; try with_reducible rfl
  try simp only [Act.put, List.setIfInBounds_toArray, List.set_cons_zero, List.set_cons_succ]
  refine wpAnyH_take (i := 3) (oi := { dst := some 17, op := Op.load 3 (Operand.tmp 16), type := 3, pos := "txn.go:35", after := #[{ on := 2, ground := Ground.data }], guard := none }) (v := ?_) rfl (by kernel_rfl) (by kernel_rfl) (by kernel_rfl) (fun _ _ _ h => h) (Or.inl ⟨by rfl, ?_⟩) hHeld ?_
  rotate_left
  · intro w hSw; (try dsimp only at hSw); go_simp; try with_reducible rfl
  try simp only [Act.put, List.setIfInBounds_toArray, List.set_cons_zero, List.set_cons_succ]
  refine wpAnyH_take (i := 5) (oi := { dst := some 19, op := Op.load 30 (Operand.tmp 3), type := 30, pos := "txn.go:35", after := #[], guard := none }) (v := ?_) rfl (by kernel_rfl) (by kernel_rfl) (by kernel_rfl) (fun _ _ _ h => h) (Or.inl ⟨by rfl, ?_⟩) hHeld ?_
  rotate_left
  · intro w hSw; (try dsimp only at hSw); go_simp; try with_reducible rfl
  try simp only [Act.put, List.setIfInBounds_toArray, List.set_cons_zero, List.set_cons_succ]
  refine wpAnyH_ready (rs := [1]) (by kernel_rfl) (by simp) ?_
  refine AllReadyH.cons rfl (fun K hK => ?_) (AllReadyH.nil)
  go_simp
  go_wp2_with (go_at_call 17; refine (questions_any g _).mono ?_; rintro r w3 ⟨M3, rfl, ht3, hb3⟩; have hl := HL.out _ _ ht3 w3 (Below.refl _ _); have HB3 := hid (HB2.out.drew.trans (hb3.mono HB2.out.drew.size)); clear ht3 hb3)
  refine hK.out _ _ (HS.out _ HB3.out) (fun hHeld => ?_)
  clear hK K
  try simp only [Act.put, List.setIfInBounds_toArray, List.set_cons_zero, List.set_cons_succ]
  refine wpAnyH_ready (rs := [4]) (by kernel_rfl) (by simp) ?_
  refine AllReadyH.cons rfl (fun K hK => ?_) (AllReadyH.nil)
  go_simp
  refine hK.out _ _ (HS.out _ HB3.out) (fun hHeld => ?_)
  clear hK K
  try simp only [Act.put, List.setIfInBounds_toArray, List.set_cons_zero, List.set_cons_succ]
  clear hl
  refine wpAnyH_ready (rs := [6]) (by kernel_rfl) (by simp) ?_
  refine AllReadyH.cons rfl (fun K hK => ?_) (AllReadyH.nil)
  go_simp
  go_wp2_with (go_at_fn gf; (with_reducible_and_instances (refine (HD.out _ (HB1.out.trans (HB3.out.mono HB1.out.size))).mono ?_)); rintro r w4 ⟨rfl, hb4⟩; have HB4 := hid (HB3.out.trans (hb4.mono HB3.out.size)); clear hb4)
  refine hK.out _ _ (HS.out _ HB4.out) (fun hHeld => ?_)
  clear hK K
  try simp only [Act.put, List.setIfInBounds_toArray, List.set_cons_zero, List.set_cons_succ]
  refine wpAnyH_take (i := 7) (oi := { dst := some 21, op := Op.extract (Operand.tmp 20) 0, type := 4, pos := "txn.go:35", after := #[{ on := 6, ground := Ground.data }], guard := none }) (v := ?_) rfl (by kernel_rfl) (by kernel_rfl) (by kernel_rfl) (fun _ _ _ h => h) (Or.inl ⟨by rfl, ?_⟩) hHeld ?_
  rotate_left
  · intro w hSw; (try dsimp only at hSw); go_simp; try with_reducible rfl
  try simp only [Act.put, List.setIfInBounds_toArray, List.set_cons_zero, List.set_cons_succ]
  refine wpAnyH_take (i := 8) (oi := { dst := some 22, op := Op.extract (Operand.tmp 20) 1, type := 26, pos := "txn.go:35", after := #[{ on := 6, ground := Ground.data }], guard := none }) (v := ?_) rfl (by kernel_rfl) (by kernel_rfl) (by kernel_rfl) (fun _ _ _ h => h) (Or.inl ⟨by rfl, ?_⟩) hHeld ?_
  rotate_left
  · intro w hSw; (try dsimp only at hSw); go_simp; try with_reducible rfl
  try simp only [Act.put, List.setIfInBounds_toArray, List.set_cons_zero, List.set_cons_succ]
  refine wpAnyH_take (i := 9) (oi := { dst := some 4, op := Op.assign (Operand.tmp 21), type := 4, pos := "txn.go:35", after := #[{ on := 7, ground := Ground.data }, { on := 6, ground := Ground.chain }, { on := 0, ground := Ground.phase }, { on := 1, ground := Ground.phase }, { on := 2, ground := Ground.phase }, { on := 3, ground := Ground.phase }, { on := 4, ground := Ground.phase }, { on := 5, ground := Ground.phase }, { on := 6, ground := Ground.phase }, { on := 7, ground := Ground.phase }, { on := 8, ground := Ground.phase }], guard := none }) (v := ?_) rfl (by kernel_rfl) (by kernel_rfl) (by kernel_rfl) (fun _ _ _ h => h) (Or.inl ⟨by rfl, ?_⟩) hHeld ?_
  rotate_left
  · intro w hSw; (try dsimp only at hSw); go_simp; try with_reducible rfl
  try simp only [Act.put, List.setIfInBounds_toArray, List.set_cons_zero, List.set_cons_succ]
  refine wpAnyH_take (i := 10) (oi := { dst := some 5, op := Op.assign (Operand.tmp 22), type := 26, pos := "txn.go:35", after := #[{ on := 8, ground := Ground.data }, { on := 9, ground := Ground.chain }, { on := 0, ground := Ground.phase }, { on := 1, ground := Ground.phase }, { on := 2, ground := Ground.phase }, { on := 3, ground := Ground.phase }, { on := 4, ground := Ground.phase }, { on := 5, ground := Ground.phase }, { on := 6, ground := Ground.phase }, { on := 7, ground := Ground.phase }, { on := 8, ground := Ground.phase }, { on := 9, ground := Ground.phase }], guard := none }) (v := ?_) rfl (by kernel_rfl) (by kernel_rfl) (by kernel_rfl) (fun _ _ _ h => h) (Or.inl ⟨by rfl, ?_⟩) hHeld ?_
  rotate_left
  · intro w hSw; (try dsimp only at hSw); go_simp; try with_reducible rfl
  try simp only [Act.put, List.setIfInBounds_toArray, List.set_cons_zero, List.set_cons_succ]
  refine wpAnyH_done (by kernel_rfl) ?_ _
  clear hHeld
  go_wp2_with fail
  refine bodyPost_ret (results_tmp2 Try.results6 _ _ _) rfl ⟨rfl, HB1.out.trans (HB4.out.mono HB1.out.size)⟩
set_option maxRecDepth 100000 in
set_option maxHeartbeats 1000000 in
theorem decide_no (x : Ev) (hx : ¬ x.may) (h : BP w F g M v Z B) : Calls Try.prog 6 #[.pointer (some ⟨g, 0, none⟩), .agg (evA x)] w (AskP w (false, 1)) := by
  have HMd : Hid (∀ W', Below w.heap.size w W' → Calls Try.prog 15 #[.pointer (some ⟨g, 0, none⟩)] W' fun e w' => e = .returned (.bool true) ∧ w' = W') := fun W' hb => made_any (h.later hb)
  have HI : Hid (∀ W', Calls Try.prog 16 #[.agg (evA x)] W' fun r w' => r = .returned (.bool false) ∧ Below W'.heap.size W' w') := fun W' => by
    have h := mayBe_any x W'
    rw [decide_eq_false hx] at h
    exact h
  show Calls _ _ _ _ fun e w' => e = .returned (.tuple #[.bool false, .int .i64 1]) ∧ Below w.heap.size w w'
  clear h hx
  obtain ⟨k, nm, a, b, cc, d, e, q⟩ := x
  dsimp only [Ev.kind, Ev.name, Ev.prod, Ev.ep, Ev.place, Ev.tmo, Ev.now, Ev.yes, evA] at *
  obtain ⟨t, ht⟩ : ∃ t, nmS nm = t := ⟨_, rfl⟩
  rw [ht] at HI ⊢
  obtain ⟨W1, hW1⟩ : ∃ W1, w.alloc (.cells #[.int .i64 k, .string t, .int .i64 a, .int .i64 b, .int .i64 cc, .int .i64 d, .int .i64 e, .bool q] TEv) = W1 := ⟨_, rfl⟩
  have b1 : Below w.heap.size w W1 := by rw [← hW1]; exact (Below.refl _ _).alloc (Nat.le_refl _) _
  have x1 : Blk W1 w.heap.size #[.int .i64 k, .string t, .int .i64 a, .int .i64 b, .int .i64 cc, .int .i64 d, .int .i64 e, .bool q] TEv := by rw [← hW1]; exact heap_alloc_new w _
  have HS : Hid (∀ W, Below W1.heap.size W1 W → W.cell? ⟨w.heap.size, 0, none⟩ = some (.int .i64 k) ∧ W.cell? ⟨w.heap.size, 1, none⟩ = some (.string t) ∧ W.cell? ⟨w.heap.size, 2, none⟩ = some (.int .i64 a) ∧ W.cell? ⟨w.heap.size, 3, none⟩ = some (.int .i64 b) ∧ W.cell? ⟨w.heap.size, 4, none⟩ = some (.int .i64 cc) ∧ W.cell? ⟨w.heap.size, 5, none⟩ = some (.int .i64 d) ∧ W.cell? ⟨w.heap.size, 6, none⟩ = some (.int .i64 e) ∧ W.cell? ⟨w.heap.size, 7, none⟩ = some (.bool q)) := fun W hW => ⟨(x1.later hW).cell 0, (x1.later hW).cell 1, (x1.later hW).cell 2, (x1.later hW).cell 3, (x1.later hW).cell 4, (x1.later hW).cell 5, (x1.later hW).cell 6, (x1.later hW).cell 7⟩
  have HB1 := hid b1
  obtain ⟨y0, y1, y2, y3, y4, y5, y6, y7⟩ := HS.out W1 (Below.refl _ _)
  clear x1 b1
  go_enter Try.func6, Try.ntmps6
  go_wp2_with (first
    | (go_at_call 15; (with_reducible_and_instances (refine (HMd.out _ HB1.out).mono ?_)); rintro r w9 ⟨rfl, hw9⟩; obtain rfl := hw9.symm)
    | (go_at_call 16; (with_reducible_and_instances (refine (HI.out _).mono ?_)); rintro r w2 ⟨rfl, hb2⟩; have HB2 := hid hb2; clear hb2))
  refine bodyPost_ret (results_tmp2 Try.results6 _ _ _) rfl ⟨rfl, HB1.out.trans (HB2.out.mono HB1.out.size)⟩
theorem enters_askInit : ∀ args w, (callFunc 28 args).run Try.prog w = .ok (.enter 28 args) w := fun _ _ => by kernel_rfl
theorem enters_askAdd : ∀ args w, (callFunc 29 args).run Try.prog w = .ok (.enter 29 args) w := fun _ _ => by kernel_rfl
theorem enters_askEnd : ∀ args w, (callFunc 30 args).run Try.prog w = .ok (.enter 30 args) w := fun _ _ => by kernel_rfl
theorem enters_askMarked : ∀ args w, (callFunc 31 args).run Try.prog w = .ok (.enter 31 args) w := fun _ _ => by kernel_rfl
theorem enters_askExpire : ∀ args w, (callFunc 32 args).run Try.prog w = .ok (.enter 32 args) w := fun _ _ => by kernel_rfl
theorem nm_may {x : Ev} (hx : x.may) (hk : x.kind = 1) : x.name.length ≤ maxLen := by
  have h1 := (hx.2.2.1 hk).1
  unfold nameOk at h1
  simp at h1
  unfold maxLen
  omega
/-- Decide: of any event, of any book. -/
theorem Decide_any (h : BP w F g M v Z B) (hB : BkOk B) (x : Ev) : Calls Try.prog 6 #[.pointer (some ⟨g, 0, none⟩), .agg (evA x)] w (AskP w (B.dec x)) := by
  unfold Bk.dec
  by_cases hx : x.may
  · rw [if_pos hx]
    unfold Bk.ask
    by_cases k1 : x.kind = 1
    · rw [if_pos k1]
      exact decide_core x hx 28 enters_askInit (by rw [k1]; rfl) h _ _ (fun W' h => askInit_any h hB x (nm_may hx k1))
    · rw [if_neg k1]
      by_cases k2 : x.kind = 2
      · rw [if_pos k2]
        exact decide_core x hx 29 enters_askAdd (by rw [k2]; rfl) h _ _ (fun W' h => askAdd_any h hB x)
      · rw [if_neg k2]
        by_cases k3 : x.kind = 3
        · rw [if_pos k3]
          exact decide_core x hx 30 enters_askEnd (by rw [k3]; rfl) h _ _ (fun W' h => askEnd_any h hB x)
        · rw [if_neg k3]
          by_cases k4 : x.kind = 4
          · rw [if_pos k4]
            exact decide_core x hx 31 enters_askMarked (by rw [k4]; rfl) h _ _ (fun W' h => askMarked_any h hB x)
          · rw [if_neg k4]
            have k5 : x.kind = 5 := by have := hx.1; omega
            exact decide_core x hx 32 enters_askExpire (by rw [k5]; rfl) h _ _ (fun W' h => askExpire_any h hB x)
  · rw [if_neg hx]
    exact decide_no x hx h
end Go.Proofs.Yteogogmmnijagaa
