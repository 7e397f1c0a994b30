/- Apply of package txn, of any event (by gendec16.py). -/
import Derived.Test.YteogogmmnijagaaTDec
namespace Go.Proofs.Yteogogmmnijagaa
open Go.RowKit
variable {w w' : World} {F : List Nat} {g M : Nat} {v : Value} {Z : List (Pr × Sl)} {B : Bk}

theorem DMv.after {w0 : World} (hb : Below w0.heap.size w0 w) (h : DMv w w' F g B) : DMv w0 w' F g B := by
  obtain ⟨F', h1, h2, h3⟩ := h
  exact ⟨F', h1, (Chg.of hb).trans h2 (fun k hk => Or.inl hk), fun b hb' => (h3 b hb').elim Or.inl (fun h => Or.inr ⟨Nat.le_trans hb.size h.1, h.2⟩)⟩
set_option maxRecDepth 100000 in
set_option maxHeartbeats 1000000 in
/-- Apply of an event that is taken, and not done, over any deed. -/
theorem apply_core (x : Ev) (hk : 1 ≤ x.kind ∧ x.kind ≤ 5) (gf : Nat) (eg : ∀ args w, (callFunc gf args).run Try.prog w = .ok (.enter gf args) w) (hgf : dFn x.kind = gf) (h : BP w F g M v Z B) (hF : ∀ b ∈ F, b < w.heap.size) (hB : BkOk B) (hd : B.dec x = (false, 0)) (C : Bk)
    (hD : ∀ W', BP W' F g M v Z B → (∀ b ∈ F, b < W'.heap.size) → Calls Try.prog gf #[.pointer (some ⟨g, 0, none⟩), .agg (evA x)] W' fun e w' => e = .returned (.tuple #[]) ∧ DMv W' w' F g C) :
    Calls Try.prog 8 #[.pointer (some ⟨g, 0, none⟩), .agg (evA x)] w fun e w' => e = .returned (.int .i64 0) ∧ DMv w w' F g C := by
  have HDc : Hid (∀ W', Below w.heap.size w W' → Calls Try.prog 6 #[.pointer (some ⟨g, 0, none⟩), .agg (evA x)] W' fun e w' => e = .returned (.tuple #[.bool false, .int .i64 0]) ∧ Below W'.heap.size W' w') := fun W' hb => by
    have h := Decide_any (h.later hb) hB x
    rw [hd] at h
    exact h
  have HD : Hid (∀ W', Below w.heap.size w W' → Calls Try.prog gf #[.pointer (some ⟨g, 0, none⟩), .agg (evA x)] W' fun e w' => e = .returned (.tuple #[]) ∧ DMv w w' F g C ∧ ∀ W0, Below w.heap.size w W0 → Below W0.heap.size W0 W' → Chg F W0 w') := fun W' hb => (hD W' (h.later hb) (fun b hb' => Nat.lt_of_lt_of_le (hF b hb') hb.size)).mono (fun e w' hh => ⟨hh.1, hh.2.after hb, fun W0 h0 h1 => by
    obtain ⟨F', -, k2, -⟩ := hh.2
    exact (Chg.of h1).trans k2 (fun k hk => Or.inl hk)⟩)
  have HL : Hid (∀ M w', TabP TD dFn g M w' → ∀ W, Below w'.heap.size w' W → (Instr.lookup TD (.map (some M)) (.int .i64 x.kind) false).run Try.prog W = .ok (.func (.func gf) #[.pointer (some ⟨g, 0, none⟩)] #[]) W) := fun M w' ht W hW => by
    rw [ht x.kind hk.1 hk.2 W hW, hgf]
  have HF : Hid (∀ b ∈ F, b < w.heap.size) := hF
  clear h hD hk hgf hd hF
  obtain ⟨k, nm, a, b, cc, d, e, q⟩ := x
  dsimp only [Ev.kind, Ev.name, Ev.prod, Ev.ep, Ev.place, Ev.tmo, Ev.now, Ev.yes, evA] at *
  obtain ⟨t, ht⟩ : ∃ t, nmS nm = t := ⟨_, rfl⟩
  rw [ht] at HDc HD ⊢
  obtain ⟨W1, hW1⟩ : ∃ W1, w.alloc (.cells #[.int .i64 k, .string t, .int .i64 a, .int .i64 b, .int .i64 cc, .int .i64 d, .int .i64 e, .bool q] TEv) = W1 := ⟨_, rfl⟩
  have b1 : Below w.heap.size w W1 := by rw [← hW1]; exact (Below.refl _ _).alloc (Nat.le_refl _) _
  have x1 : Blk W1 w.heap.size #[.int .i64 k, .string t, .int .i64 a, .int .i64 b, .int .i64 cc, .int .i64 d, .int .i64 e, .bool q] TEv := by rw [← hW1]; exact heap_alloc_new w _
  have HS : Hid (∀ W, Below W1.heap.size W1 W → W.cell? ⟨w.heap.size, 0, none⟩ = some (.int .i64 k) ∧ W.cell? ⟨w.heap.size, 1, none⟩ = some (.string t) ∧ W.cell? ⟨w.heap.size, 2, none⟩ = some (.int .i64 a) ∧ W.cell? ⟨w.heap.size, 3, none⟩ = some (.int .i64 b) ∧ W.cell? ⟨w.heap.size, 4, none⟩ = some (.int .i64 cc) ∧ W.cell? ⟨w.heap.size, 5, none⟩ = some (.int .i64 d) ∧ W.cell? ⟨w.heap.size, 6, none⟩ = some (.int .i64 e) ∧ W.cell? ⟨w.heap.size, 7, none⟩ = some (.bool q)) := fun W hW => ⟨(x1.later hW).cell 0, (x1.later hW).cell 1, (x1.later hW).cell 2, (x1.later hW).cell 3, (x1.later hW).cell 4, (x1.later hW).cell 5, (x1.later hW).cell 6, (x1.later hW).cell 7⟩
  have HB1 := hid b1
  obtain ⟨y0, y1, y2, y3, y4, y5, y6, y7⟩ := HS.out W1 (Below.refl _ _)
  have HX : Hid (∀ W, Chg F W1 W → W.cell? ⟨w.heap.size, 0, none⟩ = some (.int .i64 k) ∧ W.cell? ⟨w.heap.size, 1, none⟩ = some (.string t) ∧ W.cell? ⟨w.heap.size, 2, none⟩ = some (.int .i64 a) ∧ W.cell? ⟨w.heap.size, 3, none⟩ = some (.int .i64 b) ∧ W.cell? ⟨w.heap.size, 4, none⟩ = some (.int .i64 cc) ∧ W.cell? ⟨w.heap.size, 5, none⟩ = some (.int .i64 d) ∧ W.cell? ⟨w.heap.size, 6, none⟩ = some (.int .i64 e) ∧ W.cell? ⟨w.heap.size, 7, none⟩ = some (.bool q)) := fun W hW => ⟨(x1.chg hW (fun hm => Nat.lt_irrefl _ (HF.out _ hm))).cell 0, (x1.chg hW (fun hm => Nat.lt_irrefl _ (HF.out _ hm))).cell 1, (x1.chg hW (fun hm => Nat.lt_irrefl _ (HF.out _ hm))).cell 2, (x1.chg hW (fun hm => Nat.lt_irrefl _ (HF.out _ hm))).cell 3, (x1.chg hW (fun hm => Nat.lt_irrefl _ (HF.out _ hm))).cell 4, (x1.chg hW (fun hm => Nat.lt_irrefl _ (HF.out _ hm))).cell 5, (x1.chg hW (fun hm => Nat.lt_irrefl _ (HF.out _ hm))).cell 6, (x1.chg hW (fun hm => Nat.lt_irrefl _ (HF.out _ hm))).cell 7⟩
  clear x1 b1
  go_enter Try.func8, Try.ntmps8
  go_wp2_with (go_at_call 6; (with_reducible_and_instances (refine (HDc.out _ HB1.out).mono ?_)); rintro r w2 ⟨rfl, hb2⟩; have HB2 := hid hb2; clear hb2)
  refine wp_region_held_drew (S := fun W => W.cell? ⟨w.heap.size, 0, none⟩ = some (.int .i64 k) ∧ W.cell? ⟨w.heap.size, 1, none⟩ = some (.string t) ∧ W.cell? ⟨w.heap.size, 2, none⟩ = some (.int .i64 a) ∧ W.cell? ⟨w.heap.size, 3, none⟩ = some (.int .i64 b) ∧ W.cell? ⟨w.heap.size, 4, none⟩ = some (.int .i64 cc) ∧ W.cell? ⟨w.heap.size, 5, none⟩ = some (.int .i64 d) ∧ W.cell? ⟨w.heap.size, 6, none⟩ = some (.int .i64 e) ∧ W.cell? ⟨w.heap.size, 7, none⟩ = some (.bool q)) (by kernel_rfl) (HS.out _ HB2.out.drew) (fun hHeld => ?_)
  refine wpAnyH_take (i := 0) (oi := { dst := some 19, op := Op.move (Operand.tmp 0), type := 23, pos := "txn.go:44", after := #[], guard := none }) (v := ?_) rfl (by kernel_rfl) (by kernel_rfl) (by kernel_rfl) (fun _ _ _ h => h) (Or.inl ⟨by rfl, ?_⟩) hHeld ?_
  rotate_left
  · intro w hSw; (try dsimp only at hSw); go_simp; try with_reducible rfl
  try simp only [Act.put, List.setIfInBounds_toArray, List.set_cons_zero, List.set_cons_succ]
  refine wpAnyH_take (i := 2) (oi := { dst := some 21, op := Op.fieldAddr 30 (Operand.tmp 3) 0, type := 0, pos := "txn.go:44", after := #[], guard := none }) (v := ?_) rfl (by kernel_rfl) (by kernel_rfl) (by kernel_rfl) (fun _ _ _ h => h) (Or.inl ⟨by rfl, ?_⟩) hHeld ?_
  rotate_left
  · intro w hSw; (try dsimp only at hSw); go_simp; try with_reducible rfl
  try simp only [Act.put, List.setIfInBounds_toArray, List.set_cons_zero, List.set_cons_succ]
  refine wpAnyH_take (i := 3) (oi := { dst := some 22, op := Op.load 3 (Operand.tmp 21), type := 3, pos := "txn.go:44", after := #[{ on := 2, ground := Ground.data }], guard := none }) (v := ?_) rfl (by kernel_rfl) (by kernel_rfl) (by kernel_rfl) (fun _ _ _ h => h) (Or.inl ⟨by rfl, ?_⟩) hHeld ?_
  rotate_left
  · intro w hSw; (try dsimp only at hSw); go_simp; try with_reducible rfl
  try simp only [Act.put, List.setIfInBounds_toArray, List.set_cons_zero, List.set_cons_succ]
  refine wpAnyH_take (i := 5) (oi := { dst := some 24, op := Op.load 30 (Operand.tmp 3), type := 30, pos := "txn.go:44", after := #[], guard := none }) (v := ?_) rfl (by kernel_rfl) (by kernel_rfl) (by kernel_rfl) (fun _ _ _ h => h) (Or.inl ⟨by rfl, ?_⟩) hHeld ?_
  rotate_left
  · intro w hSw; (try dsimp only at hSw); go_simp; try with_reducible rfl
  try simp only [Act.put, List.setIfInBounds_toArray, List.set_cons_zero, List.set_cons_succ]
  refine wpAnyH_ready (rs := [1]) (by kernel_rfl) (by simp) ?_
  refine AllReadyH.cons rfl (fun K hK => ?_) (AllReadyH.nil)
  go_simp
  go_wp2_with (go_at_call 18; refine (deeds_any g _).mono ?_; rintro r w3 ⟨M3, rfl, ht3, hb3⟩; have hl := HL.out _ _ ht3 w3 (Below.refl _ _); have HB3 := hid (HB2.out.drew.trans (hb3.mono HB2.out.drew.size)); clear ht3 hb3)
  refine hK.out _ _ (HS.out _ HB3.out) (fun hHeld => ?_)
  clear hK K
  try simp only [Act.put, List.setIfInBounds_toArray, List.set_cons_zero, List.set_cons_succ]
  refine wpAnyH_ready (rs := [4]) (by kernel_rfl) (by simp) ?_
  refine AllReadyH.cons rfl (fun K hK => ?_) (AllReadyH.nil)
  go_simp
  refine hK.out _ _ (HS.out _ HB3.out) (fun hHeld => ?_)
  clear hK K
  try simp only [Act.put, List.setIfInBounds_toArray, List.set_cons_zero, List.set_cons_succ]
  clear hl
  refine wpAnyH_ready (rs := [6]) (by kernel_rfl) (by simp) ?_
  refine AllReadyH.cons rfl (fun K hK => ?_) (AllReadyH.nil)
  go_simp
  go_wp2_with (go_at_fn gf; (with_reducible_and_instances (refine (HD.out _ (HB1.out.trans (HB3.out.mono HB1.out.size))).mono ?_)); rintro r w4 ⟨rfl, hd4, hs4⟩; have HE4 := hid hd4; have HS4 := hid (HX.out _ (hs4 W1 HB1.out HB3.out)); clear hd4 hs4)
  refine hK.out _ _ (HS4.out) (fun hHeld => ?_)
  clear hK K
  try simp only [Act.put, List.setIfInBounds_toArray, List.set_cons_zero, List.set_cons_succ]
  refine wpAnyH_done (by kernel_rfl) ?_ _
  clear hHeld
  go_wp2_with fail
  go_ret
  exact ⟨rfl, HE4.out⟩
set_option maxRecDepth 100000 in
set_option maxHeartbeats 1000000 in
/-- Apply of an event that is refused, or done. -/
theorem apply_no (x : Ev) (h : BP w F g M v Z B) (hB : BkOk B) (hd : B.dec x ≠ (false, 0)) : Calls Try.prog 8 #[.pointer (some ⟨g, 0, none⟩), .agg (evA x)] w fun e w' => e = .returned (.int .i64 (B.dec x).2) ∧ Below w.heap.size w w' := by
  have HDc : Hid (∀ W', Below w.heap.size w W' → Calls Try.prog 6 #[.pointer (some ⟨g, 0, none⟩), .agg (evA x)] W' fun e w' => e = .returned (.tuple #[.bool (B.dec x).1, .int .i64 (B.dec x).2]) ∧ Below W'.heap.size W' w') := fun W' hb => Decide_any (h.later hb) hB x
  obtain ⟨⟨dn, er⟩, he⟩ : ∃ y, B.dec x = y := ⟨_, rfl⟩
  rw [he] at HDc hd ⊢
  dsimp only at HDc ⊢
  clear h he
  obtain ⟨k, nm, a, b, cc, d, e, q⟩ := x
  dsimp only [Ev.kind, Ev.name, Ev.prod, Ev.ep, Ev.place, Ev.tmo, Ev.now, Ev.yes, evA] at *
  obtain ⟨t, ht⟩ : ∃ t, nmS nm = t := ⟨_, rfl⟩
  rw [ht] at HDc ⊢
  obtain ⟨W1, hW1⟩ : ∃ W1, w.alloc (.cells #[.int .i64 k, .string t, .int .i64 a, .int .i64 b, .int .i64 cc, .int .i64 d, .int .i64 e, .bool q] TEv) = W1 := ⟨_, rfl⟩
  have b1 : Below w.heap.size w W1 := by rw [← hW1]; exact (Below.refl _ _).alloc (Nat.le_refl _) _
  have x1 : Blk W1 w.heap.size #[.int .i64 k, .string t, .int .i64 a, .int .i64 b, .int .i64 cc, .int .i64 d, .int .i64 e, .bool q] TEv := by rw [← hW1]; exact heap_alloc_new w _
  have HS : Hid (∀ W, Below W1.heap.size W1 W → W.cell? ⟨w.heap.size, 0, none⟩ = some (.int .i64 k) ∧ W.cell? ⟨w.heap.size, 1, none⟩ = some (.string t) ∧ W.cell? ⟨w.heap.size, 2, none⟩ = some (.int .i64 a) ∧ W.cell? ⟨w.heap.size, 3, none⟩ = some (.int .i64 b) ∧ W.cell? ⟨w.heap.size, 4, none⟩ = some (.int .i64 cc) ∧ W.cell? ⟨w.heap.size, 5, none⟩ = some (.int .i64 d) ∧ W.cell? ⟨w.heap.size, 6, none⟩ = some (.int .i64 e) ∧ W.cell? ⟨w.heap.size, 7, none⟩ = some (.bool q)) := fun W hW => ⟨(x1.later hW).cell 0, (x1.later hW).cell 1, (x1.later hW).cell 2, (x1.later hW).cell 3, (x1.later hW).cell 4, (x1.later hW).cell 5, (x1.later hW).cell 6, (x1.later hW).cell 7⟩
  have HB1 := hid b1
  obtain ⟨y0, y1, y2, y3, y4, y5, y6, y7⟩ := HS.out W1 (Below.refl _ _)
  clear x1 b1
  by_cases hz : er = 0
  · subst hz
    obtain rfl : dn = true := by cases dn; exact absurd rfl hd; rfl
    clear hd
    go_enter Try.func8, Try.ntmps8
    go_wp2_with (go_at_call 6; (with_reducible_and_instances (refine (HDc.out _ HB1.out).mono ?_)); rintro r w2 ⟨rfl, hb2⟩; have HB2 := hid hb2; clear hb2)
    go_ret
    exact ⟨rfl, HB1.out.trans (HB2.out.mono HB1.out.size)⟩
  · have dz : (er == 0) = false := by simpa using hz
    clear hd
    go_enter Try.func8, Try.ntmps8
    go_wp2_with (go_at_call 6; (with_reducible_and_instances (refine (HDc.out _ HB1.out).mono ?_)); rintro r w2 ⟨rfl, hb2⟩; have HB2 := hid hb2; clear hb2)
    go_ret
    exact ⟨rfl, HB1.out.trans (HB2.out.mono HB1.out.size)⟩
theorem enters_grant : ∀ args w, (callFunc 33 args).run Try.prog w = .ok (.enter 33 args) w := fun _ _ => by kernel_rfl
theorem enters_add : ∀ args w, (callFunc 34 args).run Try.prog w = .ok (.enter 34 args) w := fun _ _ => by kernel_rfl
theorem enters_end : ∀ args w, (callFunc 35 args).run Try.prog w = .ok (.enter 35 args) w := fun _ _ => by kernel_rfl
theorem enters_marked : ∀ args w, (callFunc 36 args).run Try.prog w = .ok (.enter 36 args) w := fun _ _ => by kernel_rfl
theorem enters_expire : ∀ args w, (callFunc 37 args).run Try.prog w = .ok (.enter 37 args) w := fun _ _ => by kernel_rfl
theorem dec_err {x : Ev} (hd : B.dec x ≠ (false, 0)) : B.app x = B := app_no hd
/-- Apply: what it answers, and what it leaves. -/
theorem BAt.apply (h : BAt w F g B) (x : Ev) : Calls Try.prog 8 #[.pointer (some ⟨g, 0, none⟩), .agg (evA x)] w fun e w' => e = .returned (.int .i64 (B.dec x).2) ∧ BMv w w' F g (B.app x) := by
  by_cases hd : B.dec x = (false, 0)
  · obtain ⟨hm, ha⟩ := dec_may hd
    have hok := app_ok h.2.1 x
    have e2 : (B.dec x).2 = 0 := by rw [hd]
    rw [e2]
    obtain ⟨⟨M, v, Z, hb⟩, hB, hF⟩ := h
    have fin : ∀ {e : Ending} {w' : World}, (e = .returned (.int .i64 0) ∧ DMv w w' F g (B.deed x)) → e = .returned (.int .i64 0) ∧ BMv w w' F g (B.app x) := fun {e w'} hh => by
      obtain ⟨h1, F', h2, h3, h4⟩ := hh
      rw [app_yes hd] at hok ⊢
      exact ⟨h1, F', ⟨h2, hok, fun b hb => (h4 b hb).elim (fun h => Nat.lt_of_lt_of_le (hF b h) h3.size) (fun h => h.2)⟩, h3, fun b hb => (h4 b hb).imp id (fun h => h.1)⟩
    unfold Bk.ask at ha
    by_cases k1 : x.kind = 1
    · rw [if_pos k1] at ha
      have ed : B.deed x = B.grantTo x := by unfold Bk.deed; rw [if_pos k1]
      refine (apply_core x hm.1 33 enters_grant (by rw [k1]; rfl) hb hF hB hd (B.deed x) (fun W' hW hFW => ?_)).mono (fun e w' hh => fin hh)
      rw [ed]
      unfold Bk.grantTo
      rcases ask1_ok ha with ⟨hn, hl⟩ | ⟨i, hn, -, -⟩
      · rw [hn]; exact grant_new hW x (nm_may hm k1) hn (by have := hB.cnt; omega)
      · rw [hn]; exact grant_known hW hFW hB x (nm_may hm k1) hn
    · rw [if_neg k1] at ha
      by_cases k2 : x.kind = 2
      · rw [if_pos k2] at ha
        obtain ⟨i, hi, e1, e3, -, -⟩ := askW_ok ha
        have ed : B.deed x = B.upd i ((B.at i).add x.place x.now) := by unfold Bk.deed; rw [if_neg k1, if_pos k2, e3]
        refine (apply_core x hm.1 34 enters_add (by rw [k2]; rfl) hb hF hB hd (B.deed x) (fun W' hW hFW => ?_)).mono (fun e w' hh => fin hh)
        rw [ed]
        exact add_deed hW hFW hB x hi e1
      · rw [if_neg k2] at ha
        by_cases k3 : x.kind = 3
        · rw [if_pos k3] at ha
          obtain ⟨i, hi, e1, e3, -, -⟩ := askW_ok ha
          have ed : B.deed x = B.upd i ((B.at i).decide x.yes) := by unfold Bk.deed; rw [if_neg k1, if_neg k2, if_pos k3, e3]
          refine (apply_core x hm.1 35 enters_end (by rw [k3]; rfl) hb hF hB hd (B.deed x) (fun W' hW hFW => ?_)).mono (fun e w' hh => fin hh)
          rw [ed]
          exact end_deed hW hFW x hi e1
        · rw [if_neg k3] at ha
          by_cases k4 : x.kind = 4
          · rw [if_pos k4] at ha
            obtain ⟨i, hi, e1, e3, -, hf⟩ := askW_ok ha
            have ed : B.deed x = B.upd i ((B.at i).mark x.place) := by unfold Bk.deed; rw [if_neg k1, if_neg k2, if_neg k3, if_pos k4, e3]
            refine (apply_core x hm.1 36 enters_marked (by rw [k4]; rfl) hb hF hB hd (B.deed x) (fun W' hW hFW => ?_)).mono (fun e w' hh => fin hh)
            rw [ed]
            exact marked_deed hW hFW hB x hi e1 (ask4_ok hf).2
          · have k5 : x.kind = 5 := by have := hm.1; omega
            have ed : B.deed x = B.expire x.now := by unfold Bk.deed; rw [if_neg k1, if_neg k2, if_neg k3, if_neg k4]
            refine (apply_core x hm.1 37 enters_expire (by rw [k5]; rfl) hb hF hB hd (B.deed x) (fun W' hW hFW => ?_)).mono (fun e w' hh => fin hh)
            rw [ed]
            exact expire_deed hW hFW hB x
  · rw [app_no hd]
    obtain ⟨⟨M, v, Z, hb⟩, hB, hF⟩ := h
    refine (apply_no x hb hB hd).mono (fun e w' hh => ⟨hh.1, BMv.of ⟨⟨M, v, Z, hb⟩, hB, hF⟩ hh.2⟩)
theorem BAt.decide (h : BAt w F g B) (x : Ev) : Calls Try.prog 6 #[.pointer (some ⟨g, 0, none⟩), .agg (evA x)] w fun e w' => e = .returned (.tuple #[.bool (B.dec x).1, .int .i64 (B.dec x).2]) ∧ Below w.heap.size w w' := by
  obtain ⟨⟨M, v, Z, hb⟩, hB, -⟩ := h
  exact Decide_any hb hB x
end Go.Proofs.Yteogogmmnijagaa
