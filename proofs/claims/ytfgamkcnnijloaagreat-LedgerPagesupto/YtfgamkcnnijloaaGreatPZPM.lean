/- Decide of package producer (by genpdecide.py). What is noted, and where (P1203): the memory of a table. -/
import Derived.Test.YtfgamkcnnijloaaGreatTk
import Derived.Test.YtfgamkcnnijloaaGreatPZMem
import Derived.Test.YtfgamkcnnijloaaGreatPZCheck
import Derived.Test.YtfgamkcnnijloaaGreatPZAsked
import Derived.Test.YtfgamkcnnijloaaGreatPAdd
namespace Go.Proofs.YtfgamkcnnijloaaGreat
open Go.RowKit Go.Shelf
variable {w w' : World} {t M n : Nat} {T : Tb}

theorem check_prod {b : Bat} (h : checkN b = 0) : -1 ≤ b.prod ∧ b.prod < 281474976710656 := by
  unfold checkN at h
  split at h
  · rename_i ha
    unfold argOk at ha
    simp only [Bool.and_eq_true] at ha
    obtain ⟨-, ha⟩ := ha
    split at ha
    · rename_i hp
      have : b.prod = -1 := by simpa using hp
      omega
    · simp only [Bool.and_eq_true, decide_eq_true_eq] at ha
      omega
  · cases h
set_option maxRecDepth 20000 in
set_option maxHeartbeats 1000000 in
theorem Decide_any (h : TPic w t M n T) (k p e q : Int) (tx : Bool) (rs : List Rec) (ad : Option Addr) (len cap : Nat) (hB : BArg w ⟨k, p, e, q, tx, rs⟩ ad len cap) :
    Calls Tryz.prog 45 #[.pointer (some ⟨t, 0, none⟩), .agg #[.int .i64 k, .int .i64 p, .int .i64 e, .int .i64 q, .bool tx, .slice ad len cap]] w fun x w' => x = .returned (decV (decN T ⟨k, p, e, q, tx, rs⟩)) ∧ Below w.heap.size w w' := by
  obtain ⟨W0, hW0⟩ : ∃ W0, w.alloc (.cells #[.int .i64 k, .int .i64 p, .int .i64 e, .int .i64 q, .bool tx, .slice ad len cap] 30) = W0 := ⟨_, rfl⟩
  have b0 : Below w.heap.size w W0 := by rw [← hW0]; exact (Below.refl _ _).alloc (Nat.le_refl _) _
  have X0 : BBox W0 w.heap.size k p e q tx (.slice ad len cap) := by rw [← hW0]; exact BBox.new w k p e q tx _
  have hlt0 : w.heap.size < W0.heap.size := X0.lt
  have hmade := hid (made_any (h.later b0).made)
  have hchk := hid (check_any k p e q tx rs ad len cap W0 (hB.later b0))
  have a0 := X0.c0
  have a1 := X0.c1
  have a2 := X0.c2
  have a3 := X0.c3
  have a4 := X0.c4
  have a5 := X0.c5
  have HB0 := hid b0
  have HX := hid X0
  have HH := hid h
  have HL := hid hB.len_eq
  clear b0 X0 h hB
  by_cases hc : checkN ⟨k, p, e, q, tx, rs⟩ = 0
  rotate_left
  · have HD := hid (decV_eq (decN T ⟨k, p, e, q, tx, rs⟩) 0 false (checkN ⟨k, p, e, q, tx, rs⟩) (by unfold decN; rw [if_pos hc]))
    generalize checkN ⟨k, p, e, q, tx, rs⟩ = z at *
    have hz : (z == 0) = false := by simpa using hc
    clear hc
    go_enter Tryz.func45, Tryz.ntmps45
    go_wp2_with (first
      | (go_at_call 70; (with_reducible_and_instances (refine hmade.out.mono ?_)); rintro x w1 ⟨rfl, hw1⟩; obtain rfl := hw1.symm)
      | (go_at_call 43; (with_reducible_and_instances (refine hchk.out.mono ?_)); rintro x w1 ⟨rfl, hb1⟩; have HB1 := hid (HB0.out.trans (hb1.mono HB0.out.size)); clear hb1))
    refine bodyPost_ret (results_tmp3 Tryz.results45 _ _ _) rfl ⟨by rw [HD.out]; rfl, HB1.out⟩
  have hpr := check_prod hc
  simp only at hpr
  rw [hc] at hchk
  by_cases hm1 : p = -1
  · subst hm1
    have HD := hid (decV_eq (decN T ⟨k, -1, e, q, tx, rs⟩) 0 false 0 (by unfold decN; rw [if_neg (by rw [hc]; simp), if_pos rfl]))
    clear hc hpr
    go_enter Tryz.func45, Tryz.ntmps45
    go_wp2_with (first
      | (go_at_call 70; (with_reducible_and_instances (refine hmade.out.mono ?_)); rintro x w1 ⟨rfl, hw1⟩; obtain rfl := hw1.symm)
      | (go_at_call 43; (with_reducible_and_instances (refine hchk.out.mono ?_)); rintro x w1 ⟨rfl, hb1⟩; have HB1 := hid (HB0.out.trans (hb1.mono HB0.out.size)); have c1 := (hb1.cell (p := ⟨w.heap.size, 1, none⟩) hlt0).trans a1; clear hb1))
    refine bodyPost_ret (results_tmp3 Tryz.results45 _ _ _) rfl ⟨by rw [HD.out]; rfl, HB1.out⟩
  have hm2 : (p == -1) = false := by simpa using hm1
  obtain ⟨st, hst⟩ : ∃ st, T.get p = st := ⟨_, rfl⟩
  have HSt : Hid st.ok := by rw [← hst]; exact HH.out.get_ok p
  have HD0 : Hid (decN T ⟨k, p, e, q, tx, rs⟩ = if e < st.epoch then ((0, false, 50) : Int × Bool × Int) else if k ≠ 1 then (0, false, 0) else if st.epoch < e then decS 0 [] q len else decS st.next st.last q len) := by
    unfold decN
    rw [if_neg (by rw [hc]; simp), if_neg hm1, hst, HL.out]
    exact rfl
  have HLk : Hid (∀ X, Below w.heap.size w X → TPic X t M n T ∧ (Instr.lookup TMp (.map (some M)) (.int .i64 p) false).run Tryz.prog X = .ok (.agg (psL st).toArray) X) := fun X hX => ⟨HH.out.later hX, by rw [← hst]; exact (HH.out.later hX).look (by omega) (by omega)⟩
  clear hc hm1 hst hpr
  go_enter Tryz.func45, Tryz.ntmps45
  go_wp2_with (first
    | (go_at_call 70; (with_reducible_and_instances (refine hmade.out.mono ?_)); rintro x w1 ⟨rfl, hw1⟩; obtain rfl := hw1.symm)
    | (go_at_call 43; (with_reducible_and_instances (refine hchk.out.mono ?_)); rintro x W1 ⟨rfl, hb1⟩; have HB1 := hid (HB0.out.trans (hb1.mono HB0.out.size)); have HX1 := hid (HX.out.later hb1); have c1 := HX1.out.c1; have l1 := HX1.out.lt; clear hb1))
  have HS : Hid (∀ W, Below W1.heap.size W1 W → (W.cell? ⟨t, 0, none⟩ = some (.map (some M))) ∧ W.cell? ⟨w.heap.size, 1, none⟩ = some (.int .i64 p) ∧ (Instr.lookup TMp (.map (some M)) (.int .i64 p) false).run Tryz.prog W = .ok (.agg (psL st).toArray) W) := fun W hW => ⟨(HLk.out W (HB1.out.trans (hW.mono HB1.out.size))).1.made, (HX1.out.later hW).c1, (HLk.out W (HB1.out.trans (hW.mono HB1.out.size))).2⟩
  clear a0 a1 a2 a3 a4 a5 hlt0 hW0 hmade hchk
  refine wp_region_held_drew (S := fun W => (W.cell? ⟨t, 0, none⟩ = some (.map (some M))) ∧ W.cell? ⟨w.heap.size, 1, none⟩ = some (.int .i64 p) ∧ (Instr.lookup TMp (.map (some M)) (.int .i64 p) false).run Tryz.prog W = .ok (.agg (psL st).toArray) W) (by kernel_rfl) (HS.out _ (Below.refl _ _).drew) (fun hHeld => ?_)
  refine tk 0 20 hHeld ?_
  try simp only [Act.put, p1, p2, p3]
  refine tk 1 21 hHeld ?_
  try simp only [Act.put, p1, p2, p3]
  refine tk 2 22 hHeld ?_
  try simp only [Act.put, p1, p2, p3]
  refine tk 3 23 hHeld ?_
  try simp only [Act.put, p1, p2, p3]
  refine tk 4 24 hHeld ?_
  try simp only [Act.put, p1, p2, p3]
  refine tk 5 25 hHeld ?_
  try simp only [Act.put, p1, p2, p3]
  refine tk 6 26 hHeld ?_
  try simp only [Act.put, p1, p2, p3]
  refine wpAnyH_ready (rs := [7]) (by kernel_rfl) (by simp) ?_
  refine AllReadyH.cons rfl (fun K hK => ?_) (AllReadyH.nil)
  go_simp
  refine hK.out _ _ (HS.out _ ((Below.refl _ _).drew.alloc (Nat.le_refl _) _)) (fun hHeld => ?_)
  clear hK K
  try simp only [Act.put, p1, p2, p3]
  refine wpAnyH_ready (rs := [8]) (by kernel_rfl) (by simp) ?_
  refine AllReadyH.cons rfl (fun K hK => ?_) (AllReadyH.nil)
  refine step_store (w := (W1.alloc (.cells #[.int .i64 0, .int .i64 0, .int .i64 0, .int .i64 0, .int .i64 0, .int .i64 0, .int .i64 0, .int .i64 0, .int .i64 0, .int .i64 0, .int .i64 0, .int .i64 0, .int .i64 0, .int .i64 0, .int .i64 0, .int .i64 0, .int .i64 0, .int .i64 0, .int .i64 0] TSt)).drew) st rfl _ _ rfl rfl rfl (heap_alloc_new W1 _) rfl ?_
  intro W2 hs2 hc2
  have hb2 : Below W1.heap.size W1 W2 := (((Below.refl _ W1).alloc (Nat.le_refl _) _).drew).trans (hc2.below (fun g hg => by simp at hg; omega) (by simp [World.drew]))
  refine hK.out _ _ (HS.out _ hb2) (fun hHeld => ?_)
  clear hK K
  try simp only [Act.put, p1]
  refine wpAnyH_done (by kernel_rfl) ?_ _

  have HS2 := hid hs2
  have HB2 := hid hb2
  have HX2 := hid (HX1.out.later hb2)
  have k0 : W2.cell? ⟨W1.heap.size, 0, none⟩ = some (.int .i64 st.epoch) := Blk.cell hs2 0
  have k2 := HX2.out.c2
  have kl : W1.heap.size < W2.heap.size := Blk.lt hs2
  have kl0 : w.heap.size < W2.heap.size := HX2.out.lt
  have d0 := HX2.out.c0
  have d1 := HX2.out.c1
  have d3 := HX2.out.c3
  have d4 := HX2.out.c4
  have d5 := HX2.out.c5
  have HB12 := hid (HB1.out.trans (hb2.mono HB1.out.size))
  clear hs2 hc2 hb2 hHeld HS
  by_cases hf : e < st.epoch
  · have HD := hid (decV_eq (decN T ⟨k, p, e, q, tx, rs⟩) 0 false 50 (by rw [HD0.out, if_pos hf]))
    have hf2 : decide (e < st.epoch) = true := by simpa using hf
    generalize st.epoch = z at *
    clear hf HD0
    go_wp2_with fail
    refine bodyPost_ret (results_tmp3 Tryz.results45 _ _ _) rfl ⟨by rw [HD.out]; rfl, HB12.out⟩
  have hf2 : decide (e < st.epoch) = false := by simpa using hf
  by_cases hk : k = 1
  rotate_left
  · have HD := hid (decV_eq (decN T ⟨k, p, e, q, tx, rs⟩) 0 false 0 (by rw [HD0.out, if_neg hf, if_pos hk]))
    have hk2 : (k == 1) = false := by simpa using hk
    generalize st.epoch = z at *
    clear hf HD0 hk
    go_wp2_with (go_at_call 71; refine (mark_any _ _ _ _ _ _ _).mono ?_; rintro x w3 ⟨rfl, hw3⟩; obtain rfl := hw3.symm)
    refine bodyPost_ret (results_tmp3 Tryz.results45 _ _ _) rfl ⟨by rw [HD.out]; rfl, HB12.out.alloc HB12.out.size _⟩
  subst hk
  obtain ⟨W3, hW3⟩ : ∃ W3, W2.alloc (.cells #[.int .i64 1, .int .i64 p, .int .i64 e, .int .i64 q, .bool tx, .slice ad len cap] 30) = W3 := ⟨_, rfl⟩
  have b23 : Below W2.heap.size W2 W3 := by rw [← hW3]; exact (Below.refl _ _).alloc (Nat.le_refl _) _
  have HB23 := hid b23
  have HX3 := hid (HX2.out.later b23)
  have HS3 := hid (HS2.out.later b23)
  have z0 : W3.cell? ⟨W1.heap.size, 0, none⟩ = some (.int .i64 st.epoch) := Blk.cell HS3.out 0
  have z2 := HX3.out.c2
  clear b23
  by_cases hl : st.epoch < e
  · obtain ⟨st', hst'⟩ : ∃ st' : PSt, ({ ps0 with epoch := e } : PSt) = st' := ⟨_, rfl⟩
    have HDe : Hid (∀ X, Calls Tryz.prog 72 #[.agg (psL st').toArray, .int .i64 q, .int .i64 (len : Int)] X fun x w' => x = .returned (decV (decS 0 [] q len)) ∧ Below X.heap.size X w') := by
      intro X
      have hok : st'.ok := by rw [← hst']; exact ⟨(by show (0 : Nat) < 5; omega), (by show (0 : Nat) ≤ 5; omega)⟩
      have := decide_any hok q len X
      rw [show st'.next = 0 from by rw [← hst']; rfl, show st'.last = [] from by rw [← hst']; rfl] at this
      exact this
    have HD : Hid (decN T ⟨1, p, e, q, tx, rs⟩ = decS 0 [] q len) := HD0.out.trans (by rw [if_neg hf, if_neg (by simp), if_pos hl])
    have HV : Hid ((psL st').toArray = #[.int .i64 e, .int .i64 0, .int .i64 0, .int .i64 0, .int .i64 0, .int .i64 0, .int .i64 0, .int .i64 0, .int .i64 0, .int .i64 0, .int .i64 0, .int .i64 0, .int .i64 0, .int .i64 0, .int .i64 0, .int .i64 0, .int .i64 0, .int .i64 0, .int .i64 0]) := by rw [← hst']; exact rfl
    have hl2 : decide (st.epoch < e) = true := by simpa using hl
    generalize st.epoch = z at *
    clear hf HD0 hl hst'
    go_wp2_with (first
      | (go_at_call 71; refine (mark_any _ _ _ _ _ _ _).mono ?_; rintro x w3 ⟨rfl, hw3⟩; obtain rfl := hw3.symm)
      | (refine store_box (g := W1.heap.size) st' rfl _ _ rfl rfl (by rw [HV.out]; rfl) HS3.out rfl ?_; intro W4 hs4 hc4))
    have HT : Hid (∀ W, Below W4.heap.size W4 W → SBox W W1.heap.size st' ∧ W.cell? ⟨w.heap.size, 0, none⟩ = some (.int .i64 1) ∧ W.cell? ⟨w.heap.size, 1, none⟩ = some (.int .i64 p) ∧ W.cell? ⟨w.heap.size, 2, none⟩ = some (.int .i64 e) ∧ W.cell? ⟨w.heap.size, 3, none⟩ = some (.int .i64 q) ∧ W.cell? ⟨w.heap.size, 4, none⟩ = some (.bool tx) ∧ W.cell? ⟨w.heap.size, 5, none⟩ = some (.slice ad len cap)) := fun W hW => by
      have hx := (show BBox W4 w.heap.size 1 p e q tx (.slice ad len cap) from (hc4.block _ HX3.out.lt (by simp; omega)).trans HX3.out).later hW
      exact ⟨hs4.later hW, hx.c0, hx.c1, hx.c2, hx.c3, hx.c4, hx.c5⟩
    have HB4 := hid ((HB12.out.trans (HB23.out.mono HB12.out.size)).trans (hc4.below (N := w.heap.size) (fun g hg => by simp at hg; omega) (Nat.le_trans HB12.out.size HB23.out.size)))
    clear hs4 hc4 HX3 HS3 HX2 HS2 z0 z2 d0 d1 d3 d4 d5 k0 k2 HX1 HX HV
    refine wp_region_held_drew (S := fun W => SBox W W1.heap.size st' ∧ W.cell? ⟨w.heap.size, 0, none⟩ = some (.int .i64 1) ∧ W.cell? ⟨w.heap.size, 1, none⟩ = some (.int .i64 p) ∧ W.cell? ⟨w.heap.size, 2, none⟩ = some (.int .i64 e) ∧ W.cell? ⟨w.heap.size, 3, none⟩ = some (.int .i64 q) ∧ W.cell? ⟨w.heap.size, 4, none⟩ = some (.bool tx) ∧ W.cell? ⟨w.heap.size, 5, none⟩ = some (.slice ad len cap)) (by kernel_rfl) (HT.out _ (Below.refl _ _).drew) (fun hHeld => ?_)
    refine wpAnyH_take (i := 0) (oi := ⟨some 42, _, _, _, _, _⟩) (v := .agg (psL st').toArray) rfl (by kernel_rfl) (by kernel_rfl) (by kernel_rfl) (fun _ _ _ h => h) (Or.inl ⟨by rfl, ?_⟩) hHeld ?_
    · intro w hSw; exact exec_load (.tmp 8) (by rfl) (by rfl) hSw.1
    try simp only [Act.put, p1, p2, p3]
    refine tk 1 43 hHeld ?_
    try simp only [Act.put, p1, p2, p3]
    refine tk 2 44 hHeld ?_
    try simp only [Act.put, p1, p2, p3]
    refine tk 3 45 hHeld ?_
    try simp only [Act.put, p1, p2, p3]
    refine wpAnyH_ready (rs := [4]) (by kernel_rfl) (by simp) ?_
    refine AllReadyH.cons rfl (fun K hK => ?_) (AllReadyH.nil)
    go_simp
    go_wp2_with (go_at_call 49; refine (len_any 1 p e q tx ad len cap _).mono ?_; rintro x W6 ⟨rfl, hb6⟩; have HB6 := hid ((Below.refl _ W4).drew.trans hb6); clear hb6)
    refine hK.out _ _ (HT.out _ HB6.out) (fun hHeld => ?_)
    clear hK K
    try simp only [Act.put, p1, p2, p3]
    refine wpAnyH_ready (rs := [5]) (by kernel_rfl) (by simp) ?_
    refine AllReadyH.cons rfl (fun K hK => ?_) (AllReadyH.nil)
    go_simp
    go_wp2_with (go_at_call 72; (with_reducible_and_instances (refine (HDe.out _).mono ?_)); rintro x W5 ⟨rfl, hb5⟩; have HB5 := hid (HB6.out.trans (hb5.mono HB6.out.size)); clear hb5)
    refine hK.out _ _ (HT.out _ HB5.out) (fun hHeld => ?_)
    clear hK K
    try simp only [Act.put, p1, p2, p3]
    unfold decV
    refine tk 6 48 hHeld ?_
    try simp only [Act.put, p1, p2, p3]
    refine tk 7 49 hHeld ?_
    try simp only [Act.put, p1, p2, p3]
    refine tk 8 50 hHeld ?_
    try simp only [Act.put, p1, p2, p3]
    refine tk 9 4 hHeld ?_
    try simp only [Act.put, p1, p2, p3]
    refine tk 10 5 hHeld ?_
    try simp only [Act.put, p1, p2, p3]
    refine tk 11 6 hHeld ?_
    try simp only [Act.put, p1, p2, p3]
    refine wpAnyH_done (by kernel_rfl) ?_ _
    go_wp2_with fail
    refine bodyPost_ret (results_tmp3 Tryz.results45 _ _ _) rfl ⟨by rw [HD.out]; rfl, ?_⟩
    exact HB4.out.trans (HB5.out.mono HB4.out.size)
  · have HDe : Hid (∀ X, Calls Tryz.prog 72 #[.agg (psL st).toArray, .int .i64 q, .int .i64 (len : Int)] X fun x w' => x = .returned (decV (decS st.next st.last q len)) ∧ Below X.heap.size X w') := fun X => decide_any HSt.out q len X
    have HD : Hid (decN T ⟨1, p, e, q, tx, rs⟩ = decS st.next st.last q len) := HD0.out.trans (by rw [if_neg hf, if_neg (by simp), if_neg hl])
    have hl2 : decide (st.epoch < e) = false := by simpa using hl
    obtain ⟨st', hst'⟩ : ∃ st' : PSt, st = st' := ⟨_, rfl⟩
    have HT : Hid (∀ W, Below W3.heap.size W3 W → SBox W W1.heap.size st' ∧ W.cell? ⟨w.heap.size, 0, none⟩ = some (.int .i64 1) ∧ W.cell? ⟨w.heap.size, 1, none⟩ = some (.int .i64 p) ∧ W.cell? ⟨w.heap.size, 2, none⟩ = some (.int .i64 e) ∧ W.cell? ⟨w.heap.size, 3, none⟩ = some (.int .i64 q) ∧ W.cell? ⟨w.heap.size, 4, none⟩ = some (.bool tx) ∧ W.cell? ⟨w.heap.size, 5, none⟩ = some (.slice ad len cap)) := fun W hW => by
      have hx := HX3.out.later hW
      exact ⟨hst' ▸ HS3.out.later hW, hx.c0, hx.c1, hx.c2, hx.c3, hx.c4, hx.c5⟩
    subst hst'
    generalize hz : st.epoch = z at *
    clear hf HD0 hl hz
    go_wp2_with (first
      | (go_at_call 71; refine (mark_any _ _ _ _ _ _ _).mono ?_; rintro x w3 ⟨rfl, hw3⟩; obtain rfl := hw3.symm))
    refine wp_region_held_drew (S := fun W => SBox W W1.heap.size st ∧ W.cell? ⟨w.heap.size, 0, none⟩ = some (.int .i64 1) ∧ W.cell? ⟨w.heap.size, 1, none⟩ = some (.int .i64 p) ∧ W.cell? ⟨w.heap.size, 2, none⟩ = some (.int .i64 e) ∧ W.cell? ⟨w.heap.size, 3, none⟩ = some (.int .i64 q) ∧ W.cell? ⟨w.heap.size, 4, none⟩ = some (.bool tx) ∧ W.cell? ⟨w.heap.size, 5, none⟩ = some (.slice ad len cap)) (by kernel_rfl) (HT.out _ (Below.refl _ _).drew) (fun hHeld => ?_)
    refine wpAnyH_take (i := 0) (oi := ⟨some 42, _, _, _, _, _⟩) (v := .agg (psL st).toArray) rfl (by kernel_rfl) (by kernel_rfl) (by kernel_rfl) (fun _ _ _ h => h) (Or.inl ⟨by rfl, ?_⟩) hHeld ?_
    · intro w hSw; exact exec_load (.tmp 8) (by rfl) (by rfl) hSw.1
    try simp only [Act.put, p1, p2, p3]
    refine tk 1 43 hHeld ?_
    try simp only [Act.put, p1, p2, p3]
    refine tk 2 44 hHeld ?_
    try simp only [Act.put, p1, p2, p3]
    refine tk 3 45 hHeld ?_
    try simp only [Act.put, p1, p2, p3]
    refine wpAnyH_ready (rs := [4]) (by kernel_rfl) (by simp) ?_
    refine AllReadyH.cons rfl (fun K hK => ?_) (AllReadyH.nil)
    go_simp
    go_wp2_with (go_at_call 49; refine (len_any 1 p e q tx ad len cap _).mono ?_; rintro x W6 ⟨rfl, hb6⟩; have HB6 := hid ((Below.refl _ W3).drew.trans hb6); clear hb6)
    refine hK.out _ _ (HT.out _ HB6.out) (fun hHeld => ?_)
    clear hK K
    try simp only [Act.put, p1, p2, p3]
    refine wpAnyH_ready (rs := [5]) (by kernel_rfl) (by simp) ?_
    refine AllReadyH.cons rfl (fun K hK => ?_) (AllReadyH.nil)
    go_simp
    go_wp2_with (go_at_call 72; (with_reducible_and_instances (refine (HDe.out _).mono ?_)); rintro x W5 ⟨rfl, hb5⟩; have HB5 := hid (HB6.out.trans (hb5.mono HB6.out.size)); clear hb5)
    refine hK.out _ _ (HT.out _ HB5.out) (fun hHeld => ?_)
    clear hK K
    try simp only [Act.put, p1, p2, p3]
    unfold decV
    refine tk 6 48 hHeld ?_
    try simp only [Act.put, p1, p2, p3]
    refine tk 7 49 hHeld ?_
    try simp only [Act.put, p1, p2, p3]
    refine tk 8 50 hHeld ?_
    try simp only [Act.put, p1, p2, p3]
    refine tk 9 4 hHeld ?_
    try simp only [Act.put, p1, p2, p3]
    refine tk 10 5 hHeld ?_
    try simp only [Act.put, p1, p2, p3]
    refine tk 11 6 hHeld ?_
    try simp only [Act.put, p1, p2, p3]
    refine wpAnyH_done (by kernel_rfl) ?_ _
    go_wp2_with fail
    refine bodyPost_ret (results_tmp3 Tryz.results45 _ _ _) rfl ⟨by rw [HD.out]; rfl, ?_⟩
    exact (HB12.out.trans (HB23.out.mono HB12.out.size)).trans (HB5.out.mono (Nat.le_trans HB12.out.size HB23.out.size))
end Go.Proofs.YtfgamkcnnijloaaGreat
namespace Go.Proofs.YtfgamkcnnijloaaGreat
open Go.RowKit Go.Shelf
variable {w w' : World} {t M n : Nat} {T : Tb}

theorem once2 {F T : World → Prop} {G : Prop} (main : (∀ W, F W → T W) → G) (rest : ∀ W, F W → T W) : G := main rest
theorem TPic.mono (h : TPic w t M n T) {m : Nat} (hm : n ≤ m) : TPic w t M m T := ⟨h.box, h.map.mono hm, h.ok⟩
theorem TPic.eq (h : TPic w t M n T) {T' : Tb} (e : T = T') : TPic w t M n T' := e ▸ h
theorem TPic.store (h : TPic w t M n T) (hn : n < maxLen) {p : Int} (h1 : -9223372036854775808 ≤ p) (h2 : p ≤ 9223372036854775807) {s : PSt} (hs : s.ok) :
    ∃ w', (Instr.mapUpdate TMp (.map (some M)) (.int .i64 p) (.agg (psL s).toArray)).run Tryz.prog w = .ok () w' ∧ TPic w' t M (n + 1) (T.set p s) ∧ Chg [M] w w' := by
  obtain ⟨w', hr, hm, hc⟩ := h.map.store keyI Tryz.underlying92 hn (val := .agg (psL s).toArray) (keyOf_z h1 h2)
  refine ⟨w', hr, ⟨h.box.chg hc (by simp; exact h.ne), hm.congr (tbF_set T p s), fun q x hq => ?_⟩, hc⟩
  unfold Tb.set at hq
  split at hq
  · cases hq; exact hs
  · exact h.ok q x hq
theorem TPic.drop (h : TPic w t M n T) {p : Int} (h1 : -9223372036854775808 ≤ p) (h2 : p ≤ 9223372036854775807) (ty : TypeId) :
    ∃ w', (Builtin.delete_ #[TMp, 3] ty #[.map (some M), .int .i64 p]).run Tryz.prog w = .ok (.tuple #[]) w' ∧ TPic w' t M n (T.del p) ∧ Chg [M] w w' := by
  obtain ⟨w', hr, hm, hc⟩ := h.map.drop keyI Tryz.underlying92 (keyOf_z h1 h2) ty
  refine ⟨w', hr, ⟨h.box.chg hc (by simp; exact h.ne), hm.congr (tbF_del T p), fun q x hq => ?_⟩, hc⟩
  unfold Tb.del at hq
  split at hq
  · cases hq
  · exact h.ok q x hq
theorem del_get (T : Tb) (p : Int) : (T.del p).get p = ps0 := by simp [Tb.get, Tb.del]
theorem del_set (T : Tb) (p : Int) (s : PSt) : (T.del p).set p s = T.set p s := by
  funext q
  unfold Tb.set Tb.del
  by_cases h : q = p <;> simp [h]
theorem field_epoch (s : PSt) (w : World) : (Instr.field TSt (.agg (psL s).toArray) 0).run Tryz.prog w = .ok (.int .i64 s.epoch) w := by kernel_rfl
theorem dec_check {b : Bat} {x : Int} {d : Bool} (h : decN T b = (x, d, 0)) : checkN b = 0 := by
  unfold decN at h
  by_cases hc : checkN b = 0
  · exact hc
  · rw [if_pos hc] at h
    exact absurd (congrArg (fun y => y.2.2) h) hc
theorem check_seq {b : Bat} (h : checkN b = 0) : 0 ≤ b.seq ∧ b.seq ≤ 2147483648 - lenN b := by
  unfold checkN at h
  split at h
  · split at h
    · split at h
      · rename_i hs
        unfold seqOk at hs
        simpa using hs
      · cases h
    · cases h
  · cases h
theorem decS_new {nx : Int} {l : List Dn} {q n x : Int} (h : decS nx l q n = (x, false, 0)) : q = nx := by
  unfold decS at h
  by_cases hq : q = nx
  · exact hq
  · rw [if_neg hq] at h
    split at h
    · simp at h
    · split at h <;> simp at h
/-- What is new has the number that must come. -/
theorem dec_next {b : Bat} {x : Int} (h : decN T b = (x, false, 0)) (hp : b.prod ≠ -1) (hk : b.kind = 1) : b.seq = if (T.get b.prod).epoch = b.epoch then (T.get b.prod).next else 0 := by
  have hc := dec_check h
  unfold decN at h
  rw [if_neg (by rw [hc]; simp), if_neg hp] at h
  split at h
  · simp at h
  · rename_i h1
    rw [if_neg (by simp [hk])] at h
    split at h
    · rename_i h2
      rw [if_neg (by omega)]
      exact decS_new h
    · rw [if_pos (by omega)]
      exact decS_new h
theorem plain_len {b : Bat} (hk : b.kind = 1) : lenN b = b.recs.length := by
  unfold lenN Bat.marker
  rw [hk]; rfl
/-- Whether the state goes on. -/
theorem base_eq (s : PSt) (e : Int) (h : s.epoch = e) : (if s.epoch = e then s else ps0) = s := if_pos h
theorem base_ne (s : PSt) (e : Int) (h : s.epoch ≠ e) : (if s.epoch = e then s else ps0) = ps0 := if_neg h
end Go.Proofs.YtfgamkcnnijloaaGreat
