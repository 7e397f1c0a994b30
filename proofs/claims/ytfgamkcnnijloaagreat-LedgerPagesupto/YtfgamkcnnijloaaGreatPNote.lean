/- Note of package producer (by genpnote.py). -/
import Derived.Test.YtfgamkcnnijloaaGreatTk
import Derived.Test.YtfgamkcnnijloaaGreatPZPM
namespace Go.Proofs.YtfgamkcnnijloaaGreat
open Go.RowKit Go.Shelf
variable {w w' : World} {t M n : Nat} {T : Tb}

set_option maxRecDepth 20000 in
set_option maxHeartbeats 4000000 in
theorem Note_any (h : TPic w t M n T) (hn : n < maxLen) (k p e q : Int) (tx : Bool) (rs : List Rec) (ad : Option Addr) (len cap : Nat) (o : Int) (hB : BArg w ⟨k, p, e, q, tx, rs⟩ ad len cap) :
    Calls Tryz.prog 50 #[.pointer (some ⟨t, 0, none⟩), .agg #[.int .i64 k, .int .i64 p, .int .i64 e, .int .i64 q, .bool tx, .slice ad len cap], .int .i64 o] w fun x w' => x = .returned (.int .i64 (notN T ⟨k, p, e, q, tx, rs⟩ o).1) ∧ TPic w' t M (n + 1) (notN T ⟨k, p, e, q, tx, rs⟩ o).2 ∧ Chg [M] w w' := by
  obtain ⟨W0, hW0⟩ : ∃ W0, w.alloc (.cells #[.int .i64 k, .int .i64 p, .int .i64 e, .int .i64 q, .bool tx, .slice ad len cap] 30) = W0 := ⟨_, rfl⟩
  have b0 : Below w.heap.size w W0 := by rw [← hW0]; exact (Below.refl _ _).alloc (Nat.le_refl _) _
  have X0 : BBox W0 w.heap.size k p e q tx (.slice ad len cap) := by rw [← hW0]; exact BBox.new w k p e q tx _
  have hlt0 : w.heap.size < W0.heap.size := X0.lt
  have hmade := hid (made_any (h.later b0).made)
  have hdec := hid (Decide_any (h.later b0) k p e q tx rs ad len cap (hB.later b0))
  have a0 := X0.c0
  have a1 := X0.c1
  have a2 := X0.c2
  have a3 := X0.c3
  have a4 := X0.c4
  have a5 := X0.c5
  have HB0 := hid b0
  have HX := hid X0
  have HH := hid h
  have HL : Hid (rs.length = len) := hB.len_eq
  have hlm : len ≤ 9223372036854775807 := by have := hB.le; have := hB.room; unfold maxLen at this; omega
  have HE : Hid (∀ X, Chg [] w X → TPic X t M (n + 1) T ∧ Chg [M] w X) := fun X hX => ⟨(h.chg hX (by simp) (by simp)).mono (Nat.le_succ _), hX.mono (by simp)⟩
  clear b0 X0 h hB
  cases ho : isOff o with
  | false =>
    have HN : Hid (notN T ⟨k, p, e, q, tx, rs⟩ o = (1, T)) := by
      unfold notN
      rw [if_pos (by unfold isOff at ho; simp at ho; omega)]; exact rfl
    go_enter Tryz.func50, Tryz.ntmps50
    go_wp2_with (first
      | (go_at_call 70; (with_reducible_and_instances (refine hmade.out.mono ?_)); rintro y w1 ⟨rfl, hw1⟩; obtain rfl := hw1.symm)
      | (go_at_call 79; refine (off_any _ _).mono ?_; rintro y w1 ⟨rfl, hw1⟩; obtain rfl := hw1.symm; rw [ho])
      | (go_at_call 45; (with_reducible_and_instances (refine hdec.out.mono ?_)); rintro y W1 ⟨rfl, hb1⟩; have HB1 := hid hb1; clear hb1))
    go_ret
    have hE := HE.out _ (Chg.of (F := []) HB0.out)
    exact ⟨by rw [HN.out]; rfl, by rw [HN.out]; exact hE.1, hE.2⟩
  | true =>
  have ho2 : ¬ (o < 0 ∨ 281474976710656 < o) := by unfold isOff at ho; simp at ho; omega
  obtain ⟨x0, d0, e0, hd⟩ : ∃ x0 d0 e0, decN T ⟨k, p, e, q, tx, rs⟩ = (x0, d0, e0) := ⟨_, _, _, rfl⟩
  rw [hd] at hdec
  by_cases he : e0 = 0
  rotate_left
  · have HN : Hid (notN T ⟨k, p, e, q, tx, rs⟩ o = (e0, T)) := by
      unfold notN
      rw [if_neg ho2, hd, if_pos he]; exact rfl
    have he2 : (e0 == 0) = false := by simpa using he
    unfold decV at hdec
    clear hd ho2
    go_enter Tryz.func50, Tryz.ntmps50
    go_wp2_with (first
      | (go_at_call 70; (with_reducible_and_instances (refine hmade.out.mono ?_)); rintro y w1 ⟨rfl, hw1⟩; obtain rfl := hw1.symm)
      | (go_at_call 79; refine (off_any _ _).mono ?_; rintro y w1 ⟨rfl, hw1⟩; obtain rfl := hw1.symm; rw [ho])
      | (go_at_call 45; (with_reducible_and_instances (refine hdec.out.mono ?_)); rintro y W1 ⟨rfl, hb1⟩; have HB1 := hid hb1; clear hb1))
    go_ret
    have hE := HE.out _ (Chg.of (F := []) (HB0.out.trans (HB1.out.mono HB0.out.size)))
    exact ⟨by rw [HN.out]; rfl, by rw [HN.out]; exact hE.1, hE.2⟩
  subst he
  cases d0 with
  | true =>
    have HN : Hid (notN T ⟨k, p, e, q, tx, rs⟩ o = (0, T)) := by
      unfold notN
      rw [if_neg ho2, hd, if_neg (by simp), if_pos (Or.inl rfl)]; exact rfl
    unfold decV at hdec
    clear hd ho2
    go_enter Tryz.func50, Tryz.ntmps50
    go_wp2_with (first
      | (go_at_call 70; (with_reducible_and_instances (refine hmade.out.mono ?_)); rintro y w1 ⟨rfl, hw1⟩; obtain rfl := hw1.symm)
      | (go_at_call 79; refine (off_any _ _).mono ?_; rintro y w1 ⟨rfl, hw1⟩; obtain rfl := hw1.symm; rw [ho])
      | (go_at_call 45; (with_reducible_and_instances (refine hdec.out.mono ?_)); rintro y W1 ⟨rfl, hb1⟩; have HB1 := hid hb1; clear hb1))
    go_ret
    have hE := HE.out _ (Chg.of (F := []) (HB0.out.trans (HB1.out.mono HB0.out.size)))
    exact ⟨by rw [HN.out]; rfl, by rw [HN.out]; exact hE.1, hE.2⟩
  | false =>
  by_cases hm1 : p = -1
  · subst hm1
    have HN : Hid (notN T ⟨k, -1, e, q, tx, rs⟩ o = (0, T)) := by
      unfold notN
      rw [if_neg ho2, hd, if_neg (by simp), if_pos (Or.inr rfl)]; exact rfl
    unfold decV at hdec
    clear hd ho2
    go_enter Tryz.func50, Tryz.ntmps50
    go_wp2_with (first
      | (go_at_call 70; (with_reducible_and_instances (refine hmade.out.mono ?_)); rintro y w1 ⟨rfl, hw1⟩; obtain rfl := hw1.symm)
      | (go_at_call 79; refine (off_any _ _).mono ?_; rintro y w1 ⟨rfl, hw1⟩; obtain rfl := hw1.symm; rw [ho])
      | (go_at_call 45; (with_reducible_and_instances (refine hdec.out.mono ?_)); rintro y W1 ⟨rfl, hb1⟩; have HB1 := hid hb1; have c1 := (hb1.cell (p := ⟨w.heap.size, 1, none⟩) hlt0).trans a1; clear hb1))
    go_ret
    have hE := HE.out _ (Chg.of (F := []) (HB0.out.trans (HB1.out.mono HB0.out.size)))
    exact ⟨by rw [HN.out]; rfl, by rw [HN.out]; exact hE.1, hE.2⟩
  have hm2 : (p == -1) = false := by simpa using hm1
  have hck := dec_check hd
  have hpr := check_prod hck
  simp only at hpr
  have hp1 : -9223372036854775808 ≤ p := by omega
  have hp2 : p ≤ 9223372036854775807 := by omega
  have hsq := check_seq hck
  have HNx := hid (fun hk => dec_next hd hm1 hk)
  have HN00 : Hid (notN T ⟨k, p, e, q, tx, rs⟩ o = (0, T.set p (notS (T.get p) ⟨k, p, e, q, tx, rs⟩ o))) := by
    unfold notN
    rw [if_neg ho2, hd, if_neg (by simp), if_neg (by simp [hm1])]
    exact rfl
  obtain ⟨st0, hst0⟩ : ∃ st0, T.get p = st0 := ⟨_, rfl⟩
  have HSt0 : Hid st0.ok := by rw [← hst0]; exact HH.out.get_ok p
  have HOv0 : Hid (k = 1 → -1 ≤ (if st0.epoch = e then st0 else ps0).next ∧ (if st0.epoch = e then st0 else ps0).next + (len : Int) ≤ 9223372036854775807) := fun hk => by
    subst hk
    have h1 := HNx.out rfl
    have h2 := plain_len (b := ⟨1, p, e, q, tx, rs⟩) rfl
    simp only [hst0] at h1
    rw [h2] at hsq
    simp only [HL.out] at hsq
    split
    · rename_i hq
      rw [if_pos hq] at h1
      omega
    · show -1 ≤ (0 : Int) ∧ (0 : Int) + (len : Int) ≤ _
      omega
  rw [hst0] at HN00
  have HG0 := hid hst0
  unfold decV at hdec
  clear hd ho2 hm1 hck hpr hsq HNx hst0
  go_enter Tryz.func50, Tryz.ntmps50
  go_wp2_with (first
      | (go_at_call 70; (with_reducible_and_instances (refine hmade.out.mono ?_)); rintro y w1 ⟨rfl, hw1⟩; obtain rfl := hw1.symm)
      | (go_at_call 79; refine (off_any _ _).mono ?_; rintro y w1 ⟨rfl, hw1⟩; obtain rfl := hw1.symm; rw [ho])
      | (go_at_call 45; (with_reducible_and_instances (refine hdec.out.mono ?_)); rintro y W1 ⟨rfl, hb1⟩; have HB1 := hid (HB0.out.trans (hb1.mono HB0.out.size)); have HX1 := hid (HX.out.later hb1); have c1 := HX1.out.c1; clear hb1))
  have HP1 := hid (HH.out.later HB1.out)
  obtain ⟨st, hst⟩ : ∃ st, st0 = st := ⟨_, rfl⟩
  have HS6 : Hid (∀ W, Below W1.heap.size W1 W → (W.cell? ⟨t, 0, none⟩ = some (.map (some M))) ∧ W.cell? ⟨w.heap.size, 1, none⟩ = some (.int .i64 p) ∧ W.cell? ⟨w.heap.size, 2, none⟩ = some (.int .i64 e) ∧ (Instr.lookup TMp (.map (some M)) (.int .i64 p) false).run Tryz.prog W = .ok (.agg (psL st).toArray) W) := fun W hW => ⟨(HP1.out.later hW).made, (HX1.out.later hW).c1, (HX1.out.later hW).c2, by have := (HP1.out.later hW).look (p := p) hp1 hp2; rw [HG0.out, hst] at this; exact this⟩
  subst hst
  clear a0 a1 a2 a3 a4 a5 hlt0 hW0 hmade hdec HE
  refine wp_region_held_drew (S := fun W => (W.cell? ⟨t, 0, none⟩ = some (.map (some M))) ∧ W.cell? ⟨w.heap.size, 1, none⟩ = some (.int .i64 p) ∧ W.cell? ⟨w.heap.size, 2, none⟩ = some (.int .i64 e) ∧ (Instr.lookup TMp (.map (some M)) (.int .i64 p) false).run Tryz.prog W = .ok (.agg (psL st0).toArray) W) (by kernel_rfl) (HS6.out _ (Below.refl _ _).drew) (fun hHeld => ?_)
  refine tk 0 37 hHeld ?_
  try simp only [Act.put, p1, p2, p3]
  refine tk 1 38 hHeld ?_
  try simp only [Act.put, p1, p2, p3]
  refine tk 2 39 hHeld ?_
  try simp only [Act.put, p1, p2, p3]
  refine tk 3 40 hHeld ?_
  try simp only [Act.put, p1, p2, p3]
  refine tk 4 41 hHeld ?_
  try simp only [Act.put, p1, p2, p3]
  refine tk 5 42 hHeld ?_
  try simp only [Act.put, p1, p2, p3]
  refine tk 6 43 hHeld ?_
  try simp only [Act.put, p1, p2, p3]
  refine wpAnyH_take (i := 7) (oi := ⟨some 44, _, _, _, _, _⟩) (v := .int .i64 st0.epoch) rfl (by kernel_rfl) (by kernel_rfl) (by kernel_rfl) (fun _ _ _ h => h) (Or.inl ⟨by rfl, ?_⟩) hHeld ?_
  · intro w hSw; have hfe := field_epoch st0 w; go_simp
  try simp only [Act.put, p1, p2, p3]
  refine tk 8 45 hHeld ?_
  try simp only [Act.put, p1, p2, p3]
  refine tk 9 46 hHeld ?_
  try simp only [Act.put, p1, p2, p3]
  refine tk 10 47 hHeld ?_
  try simp only [Act.put, p1, p2, p3]
  refine wpAnyH_done (by kernel_rfl) ?_ _
  clear hHeld HS6
  obtain ⟨V1, hV1⟩ : ∃ V1, W1.drew = V1 := ⟨_, rfl⟩
  have HP1d : Hid (TPic V1 t M n T) := by rw [← hV1]; exact HP1.out.later (Below.refl _ _).drew
  have HX1d : Hid (BBox V1 w.heap.size k p e q tx (.slice ad len cap)) := by rw [← hV1]; exact HX1.out.later (Below.refl _ _).drew
  have HC1d : Hid (Chg [M] w V1) := by rw [← hV1]; exact (Chg.of (F := [M]) HB1.out).drew
  rw [hV1]
  clear hV1 HP1 HX1 HB1 c1
  by_cases hep : st0.epoch = e
  · have hep2 : (st0.epoch == e) = true := by simpa using hep
    obtain ⟨st, hst⟩ : ∃ st, st0 = st := ⟨_, rfl⟩
    have HBase : Hid ((if st0.epoch = e then st0 else ps0) = st) := (base_eq st0 e hep).trans hst
    have HN0 := HN00
    have HOv : Hid (k = 1 → -1 ≤ st.next ∧ st.next + (len : Int) ≤ 9223372036854775807) := by rw [← HBase.out]; exact HOv0.out
    have HSt : Hid st.ok := hst ▸ HSt0.out
    obtain ⟨T1, hT1⟩ : ∃ T1, T = T1 := ⟨_, rfl⟩
    have HP6 : Hid (TPic V1 t M n T1) := hT1 ▸ HP1d.out
    have HGet : Hid (T1.get p = st) := hT1 ▸ HG0.out.trans hst
    have HSet : Hid (∀ s, T1.set p s = T.set p s) := fun s => by rw [hT1]
    have HX6 : Hid (BBox V1 w.heap.size k p e q tx (.slice ad len cap)) := HX1d.out
    have HC6 : Hid (Chg [M] w V1) := HC1d.out
    clear HP1d HX1d HC1d hst hT1 HOv0 HG0 HN00 hep
    go_wp2_with fail
    have HS8 : Hid (∀ W, Below V1.heap.size V1 W → (W.cell? ⟨t, 0, none⟩ = some (.map (some M))) ∧ W.cell? ⟨w.heap.size, 1, none⟩ = some (.int .i64 p) ∧ (Instr.lookup TMp (.map (some M)) (.int .i64 p) false).run Tryz.prog W = .ok (.agg (psL st).toArray) W) := fun W hW => ⟨(HP6.out.later hW).made, (HX6.out.later hW).c1, by have := (HP6.out.later hW).look (p := p) (by omega) (by omega); rw [HGet.out] at this; exact this⟩
    have hM6 := HP6.out.lt.2
    have l6 := HX6.out.lt
    refine wp_region_held_drew (S := fun W => (W.cell? ⟨t, 0, none⟩ = some (.map (some M))) ∧ W.cell? ⟨w.heap.size, 1, none⟩ = some (.int .i64 p) ∧ (Instr.lookup TMp (.map (some M)) (.int .i64 p) false).run Tryz.prog W = .ok (.agg (psL st).toArray) W) (by kernel_rfl) (HS8.out _ (Below.refl _ _).drew) (fun hHeld => ?_)
    refine tk 0 54 hHeld ?_
    try simp only [Act.put, p1, p2, p3]
    refine tk 1 55 hHeld ?_
    try simp only [Act.put, p1, p2, p3]
    refine tk 2 56 hHeld ?_
    try simp only [Act.put, p1, p2, p3]
    refine tk 3 57 hHeld ?_
    try simp only [Act.put, p1, p2, p3]
    refine tk 4 58 hHeld ?_
    try simp only [Act.put, p1, p2, p3]
    refine tk 5 59 hHeld ?_
    try simp only [Act.put, p1, p2, p3]
    refine tk 6 60 hHeld ?_
    try simp only [Act.put, p1, p2, p3]
    refine wpAnyH_ready (rs := [7]) (by kernel_rfl) (by simp) ?_
    refine AllReadyH.cons rfl (fun K hK => ?_) (AllReadyH.nil)
    go_simp
    refine hK.out _ _ (HS8.out _ ((Below.refl _ _).drew.alloc (Nat.le_refl _) _)) (fun hHeld => ?_)
    clear hK K
    try simp only [Act.put, p1, p2, p3]
    refine wpAnyH_ready (rs := [8]) (by kernel_rfl) (by simp) ?_
    refine AllReadyH.cons rfl (fun K hK => ?_) (AllReadyH.nil)
    refine step_store (w := (V1.alloc (.cells #[.int .i64 0, .int .i64 0, .int .i64 0, .int .i64 0, .int .i64 0, .int .i64 0, .int .i64 0, .int .i64 0, .int .i64 0, .int .i64 0, .int .i64 0, .int .i64 0, .int .i64 0, .int .i64 0, .int .i64 0, .int .i64 0, .int .i64 0, .int .i64 0, .int .i64 0] TSt)).drew) st rfl _ _ rfl rfl rfl (heap_alloc_new V1 _) rfl ?_
    intro W8 hs8 hc8
    have hb8 : Below V1.heap.size V1 W8 := (((Below.refl _ V1).alloc (Nat.le_refl _) _).drew).trans (hc8.below (fun g hg => by simp at hg; omega) (by simp [World.drew]))
    refine hK.out _ _ (HS8.out _ hb8) (fun hHeld => ?_)
    clear hK K
    try simp only [Act.put, p1]
    refine wpAnyH_done (by kernel_rfl) ?_ _
    have HS8b := hid hs8
    have HB8 := hid hb8
    have HX8 := hid (HX6.out.later hb8)
    have g0 : W8.cell? ⟨V1.heap.size, 0, none⟩ = some (.int .i64 st.epoch) := Blk.cell hs8 0
    have f0 : W8.frozen? ⟨V1.heap.size, 0, none⟩ = false := Blk.free hs8 0
    have k2 := HX8.out.c2
    have lx : V1.heap.size < W8.heap.size := Blk.lt hs8
    obtain ⟨W9, hW9⟩ : ∃ W9, W8.setCell ⟨V1.heap.size, 0, none⟩ (.int .i64 e) = W9 := ⟨_, rfl⟩
    have hs9 : SBox W9 V1.heap.size { st with epoch := e } := by rw [← hW9]; exact Blk.set hs8 0 (.int .i64 e)
    have hc9 : Chg [V1.heap.size] W8 W9 := by rw [← hW9]; exact (Chg.refl _ _).set (Or.inl (by simp)) _ _
    have HX9 : Hid (BBox W9 w.heap.size k p e q tx (.slice ad len cap)) := (hc9.block _ HX8.out.lt (by simp; omega)).trans HX8.out
    have HP9 := hid ((HP6.out.later hb8).chg hc9 (by simp; have := HP6.out.lt.1; omega) (by simp; omega))
    have HC9 := hid ((HC6.out.trans (Chg.of (F := []) hb8) (fun k hk => by cases hk)).trans hc9 (fun k hk => by simp at hk; right; omega))
    have HS9 := hid hs9
    have u0 := HX9.out.c0
    have u1 := HX9.out.c1
    have u2 := HX9.out.c2
    have u3 := HX9.out.c3
    have u4 := HX9.out.c4
    have u5 := HX9.out.c5
    obtain ⟨W10, hW10⟩ : ∃ W10, W9.alloc (.cells #[.int .i64 k, .int .i64 p, .int .i64 e, .int .i64 q, .bool tx, .slice ad len cap] 30) = W10 := ⟨_, rfl⟩
    have b10 : Below W9.heap.size W9 W10 := by rw [← hW10]; exact (Below.refl _ _).alloc (Nat.le_refl _) _
    have HX10 := hid (HX9.out.later b10)
    have HP10 := hid (HP9.out.later b10)
    have HC10 := hid (HC9.out.trans (Chg.of (F := []) b10) (fun k hk => by cases hk))
    have HS10 := hid (HS9.out.later b10)
    have l10 : V1.heap.size < W10.heap.size := Blk.lt HS10.out
    have hsz6 : w.heap.size ≤ V1.heap.size := HC6.out.size
    clear hs8 hb8 hc8 hHeld HS8 hs9 hc9 b10 HP9 HC9 HX8 HS9
    by_cases hk : k = 1
    rotate_left
    · have hk2 : (k == 1) = false := by simpa using hk
      obtain ⟨sf, hsf⟩ : ∃ sf : PSt, ({ st with epoch := e } : PSt) = sf := ⟨_, rfl⟩
      have HNot : Hid (notN T ⟨k, p, e, q, tx, rs⟩ o = (0, T.set p sf)) := by rw [HN0.out, ← hsf]; unfold notS; rw [if_pos hk, HBase.out]; exact rfl
      have HOk : Hid sf.ok := by rw [← hsf]; exact ⟨HSt.out.old, HSt.out.cnt⟩
      have HSv : Hid (SBox W10 V1.heap.size sf) := by rw [← hsf]; exact HS10.out
      have HPv := HP10
      have HXv := HX10
      have HCv := HC10
      clear hsf hk HS10 HX10 HP10 HC10
      go_wp2_with (first
        | (go_at_call 71; refine (mark_any _ _ _ _ _ _ _).mono ?_; rintro x w3 ⟨rfl, hw3⟩; obtain rfl := hw3.symm))
      obtain ⟨W13, hup, hp13, hc13⟩ := (TPic.later HPv.out (Below.refl _ W10).drew).store hn hp1 hp2 HOk.out
      have HS13 : Hid (∀ W, Below W10.heap.size W10 W → (W.cell? ⟨t, 0, none⟩ = some (.map (some M))) ∧ W.cell? ⟨w.heap.size, 1, none⟩ = some (.int .i64 p) ∧ SBox W V1.heap.size sf) := fun W hW => ⟨(HPv.out.later hW).made, (HXv.out.later hW).c1, HSv.out.later hW⟩
      have hMw := HH.out.lt.2
      have hsx : W10.heap.size ≤ W13.heap.size := hc13.size
      have HS13b : Hid ((W13.cell? ⟨t, 0, none⟩ = some (.map (some M))) ∧ W13.cell? ⟨w.heap.size, 1, none⟩ = some (.int .i64 p) ∧ SBox W13 V1.heap.size sf) := ⟨hp13.made, (hc13.cell HXv.out.lt (by simp; omega)).trans HXv.out.c1, HSv.out.drew.chg hc13 (by simp; omega)⟩
      have HP13 := hid (hp13.eq (HSet.out _))
      have HC13 := hid (HCv.out.trans (Chg.drew (Chg.refl [M] W10)) (fun k hk => Or.inl hk) |>.trans hc13 (fun k hk => Or.inl hk))
      clear hp13 hc13 hsx HPv HXv HSv HCv
      refine wp_region_held_drew (S := fun W => (W.cell? ⟨t, 0, none⟩ = some (.map (some M))) ∧ W.cell? ⟨w.heap.size, 1, none⟩ = some (.int .i64 p) ∧ SBox W V1.heap.size sf) (by kernel_rfl) (HS13.out _ (Below.refl _ W10).drew) (fun hHeld => ?_)
      refine tk 0 81 hHeld ?_
      try simp only [Act.put, p1, p2, p3]
      refine tk 1 82 hHeld ?_
      try simp only [Act.put, p1, p2, p3]
      refine tk 2 83 hHeld ?_
      try simp only [Act.put, p1, p2, p3]
      refine tk 3 84 hHeld ?_
      try simp only [Act.put, p1, p2, p3]
      refine tk 4 85 hHeld ?_
      try simp only [Act.put, p1, p2, p3]
      refine tk 5 86 hHeld ?_
      try simp only [Act.put, p1, p2, p3]
      refine wpAnyH_take (i := 6) (oi := ⟨some 87, _, _, _, _, _⟩) (v := .agg (psL sf).toArray) rfl (by kernel_rfl) (by kernel_rfl) (by kernel_rfl) (fun _ _ _ h => h) (Or.inl ⟨by rfl, ?_⟩) hHeld ?_
      · intro w hSw; exact exec_load (.tmp 10) (by rfl) (by rfl) hSw.2.2
      try simp only [Act.put, p1, p2, p3]
      refine wpAnyH_ready (rs := [7]) (by kernel_rfl) (by simp) ?_
      refine AllReadyH.cons rfl (fun K hK => ?_) (AllReadyH.nil)
      go_simp
      refine hK.out _ _ (HS13b.out) (fun hHeld => ?_)
      clear hK K
      try simp only [Act.put, p1]
      refine wpAnyH_done (by kernel_rfl) ?_ _
      clear hHeld
      go_wp2_with fail
      go_ret
      exact ⟨by rw [HNot.out]; rfl, by rw [HNot.out]; exact HP13.out, HC13.out⟩
    subst hk
    obtain ⟨x, hx⟩ : ∃ x, st.next = x := ⟨_, rfl⟩
    have hov := HOv.out rfl
    rw [hx] at hov
    obtain ⟨sf, hsf⟩ : ∃ sf : PSt, (({ st with epoch := e, next := x + (len : Int) } : PSt).add ⟨q, len, o⟩) = sf := ⟨_, rfl⟩
    have HNot : Hid (notN T ⟨1, p, e, q, tx, rs⟩ o = (0, T.set p sf)) := by rw [HN0.out, ← hsf, ← hx]; unfold notS; rw [if_neg (by simp), HBase.out, HL.out]; exact rfl
    have hwr : IntKind.i64.wrap (x + (len : Int)) = x + (len : Int) := by rw [IntKind.wrap_i64]; omega
    have HT : Hid (∀ W, Below W10.heap.size W10 W → (W.cell? ⟨w.heap.size, 0, none⟩ = some (.int .i64 1)) ∧ W.cell? ⟨w.heap.size, 1, none⟩ = some (.int .i64 p) ∧ W.cell? ⟨w.heap.size, 2, none⟩ = some (.int .i64 e) ∧ W.cell? ⟨w.heap.size, 3, none⟩ = some (.int .i64 q) ∧ W.cell? ⟨w.heap.size, 4, none⟩ = some (.bool tx) ∧ W.cell? ⟨w.heap.size, 5, none⟩ = some (.slice ad len cap)) := fun W hW => by
      have hx := HX10.out.later hW
      exact ⟨hx.c0, hx.c1, hx.c2, hx.c3, hx.c4, hx.c5⟩
    have HN10 : Hid (∀ W, Below W10.heap.size W10 W → W.cell? ⟨V1.heap.size, 1, none⟩ = some (.int .i64 x) ∧ W.frozen? ⟨V1.heap.size, 1, none⟩ = false) := fun W hW => by
      rw [← hx]
      exact ⟨Blk.cell (HS10.out.later hW) 1, Blk.free (HS10.out.later hW) 1⟩
    go_wp2_with (first
      | (go_at_call 71; refine (mark_any _ _ _ _ _ _ _).mono ?_; rintro x w3 ⟨rfl, hw3⟩; obtain rfl := hw3.symm))
    apply once2 (F := fun W12 => BBox W12 w.heap.size 1 p e q tx (.slice ad len cap) ∧ SBox W12 V1.heap.size { st with epoch := e, next := x + (len : Int) } ∧ TPic W12 t M n T1 ∧ Chg [M] w W12)
    case main =>
      intro hm
      refine wp_region_held_drew (S := fun W => (W.cell? ⟨w.heap.size, 0, none⟩ = some (.int .i64 1)) ∧ W.cell? ⟨w.heap.size, 1, none⟩ = some (.int .i64 p) ∧ W.cell? ⟨w.heap.size, 2, none⟩ = some (.int .i64 e) ∧ W.cell? ⟨w.heap.size, 3, none⟩ = some (.int .i64 q) ∧ W.cell? ⟨w.heap.size, 4, none⟩ = some (.bool tx) ∧ W.cell? ⟨w.heap.size, 5, none⟩ = some (.slice ad len cap)) (by kernel_rfl) (HT.out _ (Below.refl _ _).drew) (fun hHeld => ?_)
      refine tk 0 67 hHeld ?_
      try simp only [Act.put, p1, p2, p3]
      refine tk 2 69 hHeld ?_
      try simp only [Act.put, p1, p2, p3]
      refine wpAnyH_ready (rs := [1, 3]) (by kernel_rfl) (by simp) ?_
      refine AllReadyH.cons rfl (fun K hK => ?_) (AllReadyH.cons rfl (fun K hK => ?_) (AllReadyH.nil))
      · skip
        obtain ⟨y1, y2⟩ := HN10.out _ (Below.refl _ W10).drew
        go_simp
        clear y1 y2
        refine hK.out _ _ (HT.out _ (Below.refl _ _).drew) (fun hHeld => ?_)
        clear hK K
        try simp only [Act.put, p1, p2, p3]
        refine wpAnyH_ready (rs := [3]) (by kernel_rfl) (by simp) ?_
        refine AllReadyH.cons rfl (fun K hK => ?_) (AllReadyH.nil)
        go_simp
        go_wp2_with (go_at_call 49; refine (len_any 1 p e q tx ad len cap _).mono ?_; rintro y W11 ⟨rfl, hb11⟩; have HB11 := hid ((Below.refl _ W10).drew.trans hb11); clear hb11)
        refine hK.out _ _ (HT.out _ HB11.out) (fun hHeld => ?_)
        clear hK K
        try simp only [Act.put, p1, p2, p3]
        refine tk 4 71 hHeld ?_
        try simp only [Act.put, p1, p2, p3]
        refine tk 5 72 hHeld ?_
        try simp only [Act.put, p1, p2, p3]
        refine wpAnyH_ready (rs := [6]) (by kernel_rfl) (by simp) ?_
        refine AllReadyH.cons rfl (fun K hK => ?_) (AllReadyH.nil)
        obtain ⟨y1, y2⟩ := HN10.out _ HB11.out
        go_simp
        obtain ⟨W12, hW12⟩ : ∃ W12, W11.setCell ⟨V1.heap.size, 1, none⟩ (.int .i64 (x + (len : Int))) = W12 := ⟨_, rfl⟩
        have hs12 : SBox W12 V1.heap.size { st with epoch := e, next := x + (len : Int) } := by rw [← hW12]; exact Blk.set (HS10.out.later HB11.out) 1 _
        have hc12 : Chg [V1.heap.size] W11 W12 := by rw [← hW12]; exact (Chg.refl _ _).set (Or.inl (by simp)) _ _
        have hx12 : BBox W12 w.heap.size 1 p e q tx (.slice ad len cap) := (hc12.block _ (HX10.out.later HB11.out).lt (by simp; omega)).trans (HX10.out.later HB11.out)
        have hp12 : TPic W12 t M n T1 := (HP10.out.later HB11.out).chg hc12 (by simp; have := HP6.out.lt.1; omega) (by simp; omega)
        have hcw12 : Chg [M] w W12 := (HC10.out.trans (Chg.of (F := []) HB11.out) (fun k hk => by cases hk)).trans hc12 (fun k hk => by simp at hk; right; omega)
        rw [hW12]
        refine hK.out _ _ (⟨hx12.c0, hx12.c1, hx12.c2, hx12.c3, hx12.c4, hx12.c5⟩) (fun hHeld => ?_)
        clear hK K
        try simp only [Act.put, p1]
        refine wpAnyH_done (by kernel_rfl) ?_ _
        have HX12 := hid hx12
        have HS12 := hid hs12
        have HP12 := hid hp12
        have HC12 := hid hcw12
        clear hW12 hs12 hc12 hx12 hp12 hcw12 hHeld y1 y2
        exact hm W12 ⟨HX12.out, HS12.out, HP12.out, HC12.out⟩
      · skip
        go_simp
        go_wp2_with (go_at_call 49; refine (len_any 1 p e q tx ad len cap _).mono ?_; rintro y W11 ⟨rfl, hb11⟩; have HB11 := hid ((Below.refl _ W10).drew.trans hb11); clear hb11)
        refine hK.out _ _ (HT.out _ HB11.out) (fun hHeld => ?_)
        clear hK K
        try simp only [Act.put, p1, p2, p3]
        refine wpAnyH_ready (rs := [1]) (by kernel_rfl) (by simp) ?_
        refine AllReadyH.cons rfl (fun K hK => ?_) (AllReadyH.nil)
        obtain ⟨y1, y2⟩ := HN10.out _ HB11.out
        go_simp
        clear y1 y2
        refine hK.out _ _ (HT.out _ HB11.out) (fun hHeld => ?_)
        clear hK K
        try simp only [Act.put, p1, p2, p3]
        refine tk 4 71 hHeld ?_
        try simp only [Act.put, p1, p2, p3]
        refine tk 5 72 hHeld ?_
        try simp only [Act.put, p1, p2, p3]
        refine wpAnyH_ready (rs := [6]) (by kernel_rfl) (by simp) ?_
        refine AllReadyH.cons rfl (fun K hK => ?_) (AllReadyH.nil)
        obtain ⟨y1, y2⟩ := HN10.out _ HB11.out
        go_simp
        obtain ⟨W12, hW12⟩ : ∃ W12, W11.setCell ⟨V1.heap.size, 1, none⟩ (.int .i64 (x + (len : Int))) = W12 := ⟨_, rfl⟩
        have hs12 : SBox W12 V1.heap.size { st with epoch := e, next := x + (len : Int) } := by rw [← hW12]; exact Blk.set (HS10.out.later HB11.out) 1 _
        have hc12 : Chg [V1.heap.size] W11 W12 := by rw [← hW12]; exact (Chg.refl _ _).set (Or.inl (by simp)) _ _
        have hx12 : BBox W12 w.heap.size 1 p e q tx (.slice ad len cap) := (hc12.block _ (HX10.out.later HB11.out).lt (by simp; omega)).trans (HX10.out.later HB11.out)
        have hp12 : TPic W12 t M n T1 := (HP10.out.later HB11.out).chg hc12 (by simp; have := HP6.out.lt.1; omega) (by simp; omega)
        have hcw12 : Chg [M] w W12 := (HC10.out.trans (Chg.of (F := []) HB11.out) (fun k hk => by cases hk)).trans hc12 (fun k hk => by simp at hk; right; omega)
        rw [hW12]
        refine hK.out _ _ (⟨hx12.c0, hx12.c1, hx12.c2, hx12.c3, hx12.c4, hx12.c5⟩) (fun hHeld => ?_)
        clear hK K
        try simp only [Act.put, p1]
        refine wpAnyH_done (by kernel_rfl) ?_ _
        have HX12 := hid hx12
        have HS12 := hid hs12
        have HP12 := hid hp12
        have HC12 := hid hcw12
        clear hW12 hs12 hc12 hx12 hp12 hcw12 hHeld y1 y2
        exact hm W12 ⟨HX12.out, HS12.out, HP12.out, HC12.out⟩
    rintro W12 ⟨hx12, hs12, hp12, hcw12⟩
    have HX12 := hid hx12
    have HS12 := hid hs12
    have HP12 := hid hp12
    have HC12 := hid hcw12
    have l12 : V1.heap.size < W12.heap.size := Blk.lt hs12
    have HT2 : Hid (∀ W, Below W12.heap.size W12 W → (W.cell? ⟨w.heap.size, 0, none⟩ = some (.int .i64 1)) ∧ W.cell? ⟨w.heap.size, 1, none⟩ = some (.int .i64 p) ∧ W.cell? ⟨w.heap.size, 2, none⟩ = some (.int .i64 e) ∧ W.cell? ⟨w.heap.size, 3, none⟩ = some (.int .i64 q) ∧ W.cell? ⟨w.heap.size, 4, none⟩ = some (.bool tx) ∧ W.cell? ⟨w.heap.size, 5, none⟩ = some (.slice ad len cap)) := fun W hW => by
      have hx := HX12.out.later hW
      exact ⟨hx.c0, hx.c1, hx.c2, hx.c3, hx.c4, hx.c5⟩
    have HAd : Hid (∀ W, Below W12.heap.size W12 W → Calls Tryz.prog 80 #[.pointer (some ⟨V1.heap.size, 2, none⟩), .agg #[.int .i64 q, .int .i64 (len : Int), .int .i64 o]] W fun y w' => (∃ v, y = .returned v) ∧ SBox w' V1.heap.size sf ∧ Chg [V1.heap.size] W w') := fun W hW => by
      have := add_any (HS12.out.later hW) ⟨HSt.out.old, HSt.out.cnt⟩ ⟨q, len, o⟩
      rw [hsf] at this
      exact this
    have HOk : Hid sf.ok := by rw [← hsf]; exact hid (add_ok (s := { st with epoch := e, next := x + (len : Int) }) ⟨HSt.out.old, HSt.out.cnt⟩ _)
    clear hx12 hs12 hp12 hcw12 HT HN10 HS10 HX10 HP10 HC10 hsf hx
    go_wp2_with fail
    refine wp_region_held_drew (S := fun W => (W.cell? ⟨w.heap.size, 0, none⟩ = some (.int .i64 1)) ∧ W.cell? ⟨w.heap.size, 1, none⟩ = some (.int .i64 p) ∧ W.cell? ⟨w.heap.size, 2, none⟩ = some (.int .i64 e) ∧ W.cell? ⟨w.heap.size, 3, none⟩ = some (.int .i64 q) ∧ W.cell? ⟨w.heap.size, 4, none⟩ = some (.bool tx) ∧ W.cell? ⟨w.heap.size, 5, none⟩ = some (.slice ad len cap)) (by kernel_rfl) (HT2.out _ (Below.refl _ _).drew) (fun hHeld => ?_)
    refine tk 0 73 hHeld ?_
    try simp only [Act.put, p1, p2, p3]
    refine tk 1 74 hHeld ?_
    try simp only [Act.put, p1, p2, p3]
    refine tk 2 75 hHeld ?_
    try simp only [Act.put, p1, p2, p3]
    refine tk 3 76 hHeld ?_
    try simp only [Act.put, p1, p2, p3]
    refine tk 5 78 hHeld ?_
    try simp only [Act.put, p1, p2, p3]
    refine wpAnyH_ready (rs := [4]) (by kernel_rfl) (by simp) ?_
    refine AllReadyH.cons rfl (fun K hK => ?_) (AllReadyH.nil)
    go_simp
    go_wp2_with (go_at_call 49; refine (len_any 1 p e q tx ad len cap _).mono ?_; rintro y W14 ⟨rfl, hb14⟩; have HB14 := hid ((Below.refl _ W12).drew.trans hb14); clear hb14)
    refine hK.out _ _ (HT2.out _ HB14.out) (fun hHeld => ?_)
    clear hK K
    try simp only [Act.put, p1, p2, p3]
    refine tk 6 79 hHeld ?_
    try simp only [Act.put, p1, p2, p3]
    refine wpAnyH_ready (rs := [7]) (by kernel_rfl) (by simp) ?_
    refine AllReadyH.cons rfl (fun K hK => ?_) (AllReadyH.nil)
    go_simp
    refine (HAd.out _ HB14.out).mono ?_
    rintro y W15 ⟨⟨vv, rfl⟩, hs15, hc15⟩
    dsimp only
    have hx15 : BBox W15 w.heap.size 1 p e q tx (.slice ad len cap) := (hc15.block _ (HX12.out.later HB14.out).lt (by simp; omega)).trans (HX12.out.later HB14.out)
    have HPv := hid ((HP12.out.later HB14.out).chg hc15 (by simp; have := HP6.out.lt.1; omega) (by simp; omega))
    have HCv := hid ((HC12.out.trans (Chg.of (F := []) HB14.out) (fun k hk => by cases hk)).trans hc15 (fun k hk => by simp at hk; right; omega))
    have HXv := hid hx15
    have HSv := hid hs15
    refine hK.out _ _ (⟨hx15.c0, hx15.c1, hx15.c2, hx15.c3, hx15.c4, hx15.c5⟩) (fun hHeld => ?_)
    clear hK K
    try simp only [Act.put, p1, p2, p3]
    refine wpAnyH_done (by kernel_rfl) ?_ _
    clear hx15 hs15 hc15 hHeld HT2 HAd HX12 HS12 HP12 HC12
    go_wp2_with fail
    obtain ⟨W13, hup, hp13, hc13⟩ := (TPic.later HPv.out (Below.refl _ W15).drew).store hn hp1 hp2 HOk.out
    have HS13 : Hid (∀ W, Below W15.heap.size W15 W → (W.cell? ⟨t, 0, none⟩ = some (.map (some M))) ∧ W.cell? ⟨w.heap.size, 1, none⟩ = some (.int .i64 p) ∧ SBox W V1.heap.size sf) := fun W hW => ⟨(HPv.out.later hW).made, (HXv.out.later hW).c1, HSv.out.later hW⟩
    have hMw := HH.out.lt.2
    have hsx : W15.heap.size ≤ W13.heap.size := hc13.size
    have HS13b : Hid ((W13.cell? ⟨t, 0, none⟩ = some (.map (some M))) ∧ W13.cell? ⟨w.heap.size, 1, none⟩ = some (.int .i64 p) ∧ SBox W13 V1.heap.size sf) := ⟨hp13.made, (hc13.cell HXv.out.lt (by simp; omega)).trans HXv.out.c1, HSv.out.drew.chg hc13 (by simp; omega)⟩
    have HP13 := hid (hp13.eq (HSet.out _))
    have HC13 := hid (HCv.out.trans (Chg.drew (Chg.refl [M] W15)) (fun k hk => Or.inl hk) |>.trans hc13 (fun k hk => Or.inl hk))
    clear hp13 hc13 hsx HPv HXv HSv HCv
    refine wp_region_held_drew (S := fun W => (W.cell? ⟨t, 0, none⟩ = some (.map (some M))) ∧ W.cell? ⟨w.heap.size, 1, none⟩ = some (.int .i64 p) ∧ SBox W V1.heap.size sf) (by kernel_rfl) (HS13.out _ (Below.refl _ W15).drew) (fun hHeld => ?_)
    refine tk 0 81 hHeld ?_
    try simp only [Act.put, p1, p2, p3]
    refine tk 1 82 hHeld ?_
    try simp only [Act.put, p1, p2, p3]
    refine tk 2 83 hHeld ?_
    try simp only [Act.put, p1, p2, p3]
    refine tk 3 84 hHeld ?_
    try simp only [Act.put, p1, p2, p3]
    refine tk 4 85 hHeld ?_
    try simp only [Act.put, p1, p2, p3]
    refine tk 5 86 hHeld ?_
    try simp only [Act.put, p1, p2, p3]
    refine wpAnyH_take (i := 6) (oi := ⟨some 87, _, _, _, _, _⟩) (v := .agg (psL sf).toArray) rfl (by kernel_rfl) (by kernel_rfl) (by kernel_rfl) (fun _ _ _ h => h) (Or.inl ⟨by rfl, ?_⟩) hHeld ?_
    · intro w hSw; exact exec_load (.tmp 10) (by rfl) (by rfl) hSw.2.2
    try simp only [Act.put, p1, p2, p3]
    refine wpAnyH_ready (rs := [7]) (by kernel_rfl) (by simp) ?_
    refine AllReadyH.cons rfl (fun K hK => ?_) (AllReadyH.nil)
    go_simp
    refine hK.out _ _ (HS13b.out) (fun hHeld => ?_)
    clear hK K
    try simp only [Act.put, p1]
    refine wpAnyH_done (by kernel_rfl) ?_ _
    clear hHeld
    go_wp2_with fail
    go_ret
    exact ⟨by rw [HNot.out]; rfl, by rw [HNot.out]; exact HP13.out, HC13.out⟩
  · have hep2 : (st0.epoch == e) = false := by simpa using hep
    obtain ⟨st, hst⟩ : ∃ st, ps0 = st := ⟨_, rfl⟩
    have HBase : Hid ((if st0.epoch = e then st0 else ps0) = st) := (base_ne st0 e hep).trans hst
    have HN0 := HN00
    have HOv : Hid (k = 1 → -1 ≤ st.next ∧ st.next + (len : Int) ≤ 9223372036854775807) := by rw [← HBase.out]; exact HOv0.out
    have HSt : Hid st.ok := hst ▸ ps0_ok
    obtain ⟨W6, hdl, hp6, hc6⟩ := (TPic.later HP1d.out (Below.refl _ V1).drew).drop hp1 hp2 0
    have HS7 : Hid (∀ W, Below V1.heap.size V1 W → (W.cell? ⟨t, 0, none⟩ = some (.map (some M))) ∧ W.cell? ⟨w.heap.size, 1, none⟩ = some (.int .i64 p)) := fun W hW => ⟨(HP1d.out.later hW).made, (HX1d.out.later hW).c1⟩
    obtain ⟨T1, hT1⟩ : ∃ T1, T.del p = T1 := ⟨_, rfl⟩
    have hMl := HP1d.out.lt.2
    have HMw : Hid (M < w.heap.size) := HH.out.lt.2
    have HX6 : Hid (BBox W6 w.heap.size k p e q tx (.slice ad len cap)) := (hc6.block _ HX1d.out.lt (by simp; have := HMw.out; omega)).trans HX1d.out
    have HS7b : Hid ((W6.cell? ⟨t, 0, none⟩ = some (.map (some M))) ∧ W6.cell? ⟨w.heap.size, 1, none⟩ = some (.int .i64 p)) := ⟨hp6.made, HX6.out.c1⟩
    have HP6 : Hid (TPic W6 t M n T1) := hT1 ▸ hp6
    have HGet : Hid (T1.get p = st) := hT1 ▸ hst ▸ del_get T p
    have HSet : Hid (∀ s, T1.set p s = T.set p s) := fun s => by rw [← hT1]; exact del_set T p s
    have HC6 := hid ((HC1d.out.trans (Chg.drew (Chg.refl [M] V1)) (fun k hk => Or.inl hk)).trans hc6 (fun k hk => Or.inl hk))
    clear HP1d HX1d HC1d hst hT1 HOv0 HG0 HN00 hep hp6 hc6 hMl
    go_wp2_with fail
    refine wp_region_held_drew (S := fun W => (W.cell? ⟨t, 0, none⟩ = some (.map (some M))) ∧ W.cell? ⟨w.heap.size, 1, none⟩ = some (.int .i64 p)) (by kernel_rfl) (HS7.out _ (Below.refl _ _).drew) (fun hHeld => ?_)
    refine tk 0 48 hHeld ?_
    try simp only [Act.put, p1, p2, p3]
    refine tk 1 49 hHeld ?_
    try simp only [Act.put, p1, p2, p3]
    refine tk 2 50 hHeld ?_
    try simp only [Act.put, p1, p2, p3]
    refine tk 3 51 hHeld ?_
    try simp only [Act.put, p1, p2, p3]
    refine tk 4 52 hHeld ?_
    try simp only [Act.put, p1, p2, p3]
    refine tk 5 53 hHeld ?_
    try simp only [Act.put, p1, p2, p3]
    refine wpAnyH_ready (rs := [6]) (by kernel_rfl) (by simp) ?_
    refine AllReadyH.cons rfl (fun K hK => ?_) (AllReadyH.nil)
    go_simp
    refine hK.out _ _ (HS7b.out) (fun hHeld => ?_)
    clear hK K
    try simp only [Act.put, p1]
    refine wpAnyH_done (by kernel_rfl) ?_ _
    clear hHeld HS7 HS7b hdl
    go_wp2_with fail
    have HS8 : Hid (∀ W, Below W6.heap.size W6 W → (W.cell? ⟨t, 0, none⟩ = some (.map (some M))) ∧ W.cell? ⟨w.heap.size, 1, none⟩ = some (.int .i64 p) ∧ (Instr.lookup TMp (.map (some M)) (.int .i64 p) false).run Tryz.prog W = .ok (.agg (psL st).toArray) W) := fun W hW => ⟨(HP6.out.later hW).made, (HX6.out.later hW).c1, by have := (HP6.out.later hW).look (p := p) (by omega) (by omega); rw [HGet.out] at this; exact this⟩
    have hM6 := HP6.out.lt.2
    have l6 := HX6.out.lt
    refine wp_region_held_drew (S := fun W => (W.cell? ⟨t, 0, none⟩ = some (.map (some M))) ∧ W.cell? ⟨w.heap.size, 1, none⟩ = some (.int .i64 p) ∧ (Instr.lookup TMp (.map (some M)) (.int .i64 p) false).run Tryz.prog W = .ok (.agg (psL st).toArray) W) (by kernel_rfl) (HS8.out _ (Below.refl _ _).drew) (fun hHeld => ?_)
    refine tk 0 54 hHeld ?_
    try simp only [Act.put, p1, p2, p3]
    refine tk 1 55 hHeld ?_
    try simp only [Act.put, p1, p2, p3]
    refine tk 2 56 hHeld ?_
    try simp only [Act.put, p1, p2, p3]
    refine tk 3 57 hHeld ?_
    try simp only [Act.put, p1, p2, p3]
    refine tk 4 58 hHeld ?_
    try simp only [Act.put, p1, p2, p3]
    refine tk 5 59 hHeld ?_
    try simp only [Act.put, p1, p2, p3]
    refine tk 6 60 hHeld ?_
    try simp only [Act.put, p1, p2, p3]
    refine wpAnyH_ready (rs := [7]) (by kernel_rfl) (by simp) ?_
    refine AllReadyH.cons rfl (fun K hK => ?_) (AllReadyH.nil)
    go_simp
    refine hK.out _ _ (HS8.out _ ((Below.refl _ _).drew.alloc (Nat.le_refl _) _)) (fun hHeld => ?_)
    clear hK K
    try simp only [Act.put, p1, p2, p3]
    refine wpAnyH_ready (rs := [8]) (by kernel_rfl) (by simp) ?_
    refine AllReadyH.cons rfl (fun K hK => ?_) (AllReadyH.nil)
    refine step_store (w := (W6.alloc (.cells #[.int .i64 0, .int .i64 0, .int .i64 0, .int .i64 0, .int .i64 0, .int .i64 0, .int .i64 0, .int .i64 0, .int .i64 0, .int .i64 0, .int .i64 0, .int .i64 0, .int .i64 0, .int .i64 0, .int .i64 0, .int .i64 0, .int .i64 0, .int .i64 0, .int .i64 0] TSt)).drew) st rfl _ _ rfl rfl rfl (heap_alloc_new W6 _) rfl ?_
    intro W8 hs8 hc8
    have hb8 : Below W6.heap.size W6 W8 := (((Below.refl _ W6).alloc (Nat.le_refl _) _).drew).trans (hc8.below (fun g hg => by simp at hg; omega) (by simp [World.drew]))
    refine hK.out _ _ (HS8.out _ hb8) (fun hHeld => ?_)
    clear hK K
    try simp only [Act.put, p1]
    refine wpAnyH_done (by kernel_rfl) ?_ _
    have HS8b := hid hs8
    have HB8 := hid hb8
    have HX8 := hid (HX6.out.later hb8)
    have g0 : W8.cell? ⟨W6.heap.size, 0, none⟩ = some (.int .i64 st.epoch) := Blk.cell hs8 0
    have f0 : W8.frozen? ⟨W6.heap.size, 0, none⟩ = false := Blk.free hs8 0
    have k2 := HX8.out.c2
    have lx : W6.heap.size < W8.heap.size := Blk.lt hs8
    obtain ⟨W9, hW9⟩ : ∃ W9, W8.setCell ⟨W6.heap.size, 0, none⟩ (.int .i64 e) = W9 := ⟨_, rfl⟩
    have hs9 : SBox W9 W6.heap.size { st with epoch := e } := by rw [← hW9]; exact Blk.set hs8 0 (.int .i64 e)
    have hc9 : Chg [W6.heap.size] W8 W9 := by rw [← hW9]; exact (Chg.refl _ _).set (Or.inl (by simp)) _ _
    have HX9 : Hid (BBox W9 w.heap.size k p e q tx (.slice ad len cap)) := (hc9.block _ HX8.out.lt (by simp; omega)).trans HX8.out
    have HP9 := hid ((HP6.out.later hb8).chg hc9 (by simp; have := HP6.out.lt.1; omega) (by simp; omega))
    have HC9 := hid ((HC6.out.trans (Chg.of (F := []) hb8) (fun k hk => by cases hk)).trans hc9 (fun k hk => by simp at hk; right; omega))
    have HS9 := hid hs9
    have u0 := HX9.out.c0
    have u1 := HX9.out.c1
    have u2 := HX9.out.c2
    have u3 := HX9.out.c3
    have u4 := HX9.out.c4
    have u5 := HX9.out.c5
    obtain ⟨W10, hW10⟩ : ∃ W10, W9.alloc (.cells #[.int .i64 k, .int .i64 p, .int .i64 e, .int .i64 q, .bool tx, .slice ad len cap] 30) = W10 := ⟨_, rfl⟩
    have b10 : Below W9.heap.size W9 W10 := by rw [← hW10]; exact (Below.refl _ _).alloc (Nat.le_refl _) _
    have HX10 := hid (HX9.out.later b10)
    have HP10 := hid (HP9.out.later b10)
    have HC10 := hid (HC9.out.trans (Chg.of (F := []) b10) (fun k hk => by cases hk))
    have HS10 := hid (HS9.out.later b10)
    have l10 : W6.heap.size < W10.heap.size := Blk.lt HS10.out
    have hsz6 : w.heap.size ≤ W6.heap.size := HC6.out.size
    clear hs8 hb8 hc8 hHeld HS8 hs9 hc9 b10 HP9 HC9 HX8 HS9
    by_cases hk : k = 1
    rotate_left
    · have hk2 : (k == 1) = false := by simpa using hk
      obtain ⟨sf, hsf⟩ : ∃ sf : PSt, ({ st with epoch := e } : PSt) = sf := ⟨_, rfl⟩
      have HNot : Hid (notN T ⟨k, p, e, q, tx, rs⟩ o = (0, T.set p sf)) := by rw [HN0.out, ← hsf]; unfold notS; rw [if_pos hk, HBase.out]; exact rfl
      have HOk : Hid sf.ok := by rw [← hsf]; exact ⟨HSt.out.old, HSt.out.cnt⟩
      have HSv : Hid (SBox W10 W6.heap.size sf) := by rw [← hsf]; exact HS10.out
      have HPv := HP10
      have HXv := HX10
      have HCv := HC10
      clear hsf hk HS10 HX10 HP10 HC10
      go_wp2_with (first
        | (go_at_call 71; refine (mark_any _ _ _ _ _ _ _).mono ?_; rintro x w3 ⟨rfl, hw3⟩; obtain rfl := hw3.symm))
      obtain ⟨W13, hup, hp13, hc13⟩ := (TPic.later HPv.out (Below.refl _ W10).drew).store hn hp1 hp2 HOk.out
      have HS13 : Hid (∀ W, Below W10.heap.size W10 W → (W.cell? ⟨t, 0, none⟩ = some (.map (some M))) ∧ W.cell? ⟨w.heap.size, 1, none⟩ = some (.int .i64 p) ∧ SBox W W6.heap.size sf) := fun W hW => ⟨(HPv.out.later hW).made, (HXv.out.later hW).c1, HSv.out.later hW⟩
      have hMw := HH.out.lt.2
      have hsx : W10.heap.size ≤ W13.heap.size := hc13.size
      have HS13b : Hid ((W13.cell? ⟨t, 0, none⟩ = some (.map (some M))) ∧ W13.cell? ⟨w.heap.size, 1, none⟩ = some (.int .i64 p) ∧ SBox W13 W6.heap.size sf) := ⟨hp13.made, (hc13.cell HXv.out.lt (by simp; omega)).trans HXv.out.c1, HSv.out.drew.chg hc13 (by simp; omega)⟩
      have HP13 := hid (hp13.eq (HSet.out _))
      have HC13 := hid (HCv.out.trans (Chg.drew (Chg.refl [M] W10)) (fun k hk => Or.inl hk) |>.trans hc13 (fun k hk => Or.inl hk))
      clear hp13 hc13 hsx HPv HXv HSv HCv
      refine wp_region_held_drew (S := fun W => (W.cell? ⟨t, 0, none⟩ = some (.map (some M))) ∧ W.cell? ⟨w.heap.size, 1, none⟩ = some (.int .i64 p) ∧ SBox W W6.heap.size sf) (by kernel_rfl) (HS13.out _ (Below.refl _ W10).drew) (fun hHeld => ?_)
      refine tk 0 81 hHeld ?_
      try simp only [Act.put, p1, p2, p3]
      refine tk 1 82 hHeld ?_
      try simp only [Act.put, p1, p2, p3]
      refine tk 2 83 hHeld ?_
      try simp only [Act.put, p1, p2, p3]
      refine tk 3 84 hHeld ?_
      try simp only [Act.put, p1, p2, p3]
      refine tk 4 85 hHeld ?_
      try simp only [Act.put, p1, p2, p3]
      refine tk 5 86 hHeld ?_
      try simp only [Act.put, p1, p2, p3]
      refine wpAnyH_take (i := 6) (oi := ⟨some 87, _, _, _, _, _⟩) (v := .agg (psL sf).toArray) rfl (by kernel_rfl) (by kernel_rfl) (by kernel_rfl) (fun _ _ _ h => h) (Or.inl ⟨by rfl, ?_⟩) hHeld ?_
      · intro w hSw; exact exec_load (.tmp 10) (by rfl) (by rfl) hSw.2.2
      try simp only [Act.put, p1, p2, p3]
      refine wpAnyH_ready (rs := [7]) (by kernel_rfl) (by simp) ?_
      refine AllReadyH.cons rfl (fun K hK => ?_) (AllReadyH.nil)
      go_simp
      refine hK.out _ _ (HS13b.out) (fun hHeld => ?_)
      clear hK K
      try simp only [Act.put, p1]
      refine wpAnyH_done (by kernel_rfl) ?_ _
      clear hHeld
      go_wp2_with fail
      go_ret
      exact ⟨by rw [HNot.out]; rfl, by rw [HNot.out]; exact HP13.out, HC13.out⟩
    subst hk
    obtain ⟨x, hx⟩ : ∃ x, st.next = x := ⟨_, rfl⟩
    have hov := HOv.out rfl
    rw [hx] at hov
    obtain ⟨sf, hsf⟩ : ∃ sf : PSt, (({ st with epoch := e, next := x + (len : Int) } : PSt).add ⟨q, len, o⟩) = sf := ⟨_, rfl⟩
    have HNot : Hid (notN T ⟨1, p, e, q, tx, rs⟩ o = (0, T.set p sf)) := by rw [HN0.out, ← hsf, ← hx]; unfold notS; rw [if_neg (by simp), HBase.out, HL.out]; exact rfl
    have hwr : IntKind.i64.wrap (x + (len : Int)) = x + (len : Int) := by rw [IntKind.wrap_i64]; omega
    have HT : Hid (∀ W, Below W10.heap.size W10 W → (W.cell? ⟨w.heap.size, 0, none⟩ = some (.int .i64 1)) ∧ W.cell? ⟨w.heap.size, 1, none⟩ = some (.int .i64 p) ∧ W.cell? ⟨w.heap.size, 2, none⟩ = some (.int .i64 e) ∧ W.cell? ⟨w.heap.size, 3, none⟩ = some (.int .i64 q) ∧ W.cell? ⟨w.heap.size, 4, none⟩ = some (.bool tx) ∧ W.cell? ⟨w.heap.size, 5, none⟩ = some (.slice ad len cap)) := fun W hW => by
      have hx := HX10.out.later hW
      exact ⟨hx.c0, hx.c1, hx.c2, hx.c3, hx.c4, hx.c5⟩
    have HN10 : Hid (∀ W, Below W10.heap.size W10 W → W.cell? ⟨W6.heap.size, 1, none⟩ = some (.int .i64 x) ∧ W.frozen? ⟨W6.heap.size, 1, none⟩ = false) := fun W hW => by
      rw [← hx]
      exact ⟨Blk.cell (HS10.out.later hW) 1, Blk.free (HS10.out.later hW) 1⟩
    go_wp2_with (first
      | (go_at_call 71; refine (mark_any _ _ _ _ _ _ _).mono ?_; rintro x w3 ⟨rfl, hw3⟩; obtain rfl := hw3.symm))
    apply once2 (F := fun W12 => BBox W12 w.heap.size 1 p e q tx (.slice ad len cap) ∧ SBox W12 W6.heap.size { st with epoch := e, next := x + (len : Int) } ∧ TPic W12 t M n T1 ∧ Chg [M] w W12)
    case main =>
      intro hm
      refine wp_region_held_drew (S := fun W => (W.cell? ⟨w.heap.size, 0, none⟩ = some (.int .i64 1)) ∧ W.cell? ⟨w.heap.size, 1, none⟩ = some (.int .i64 p) ∧ W.cell? ⟨w.heap.size, 2, none⟩ = some (.int .i64 e) ∧ W.cell? ⟨w.heap.size, 3, none⟩ = some (.int .i64 q) ∧ W.cell? ⟨w.heap.size, 4, none⟩ = some (.bool tx) ∧ W.cell? ⟨w.heap.size, 5, none⟩ = some (.slice ad len cap)) (by kernel_rfl) (HT.out _ (Below.refl _ _).drew) (fun hHeld => ?_)
      refine tk 0 67 hHeld ?_
      try simp only [Act.put, p1, p2, p3]
      refine tk 2 69 hHeld ?_
      try simp only [Act.put, p1, p2, p3]
      refine wpAnyH_ready (rs := [1, 3]) (by kernel_rfl) (by simp) ?_
      refine AllReadyH.cons rfl (fun K hK => ?_) (AllReadyH.cons rfl (fun K hK => ?_) (AllReadyH.nil))
      · skip
        obtain ⟨y1, y2⟩ := HN10.out _ (Below.refl _ W10).drew
        go_simp
        clear y1 y2
        refine hK.out _ _ (HT.out _ (Below.refl _ _).drew) (fun hHeld => ?_)
        clear hK K
        try simp only [Act.put, p1, p2, p3]
        refine wpAnyH_ready (rs := [3]) (by kernel_rfl) (by simp) ?_
        refine AllReadyH.cons rfl (fun K hK => ?_) (AllReadyH.nil)
        go_simp
        go_wp2_with (go_at_call 49; refine (len_any 1 p e q tx ad len cap _).mono ?_; rintro y W11 ⟨rfl, hb11⟩; have HB11 := hid ((Below.refl _ W10).drew.trans hb11); clear hb11)
        refine hK.out _ _ (HT.out _ HB11.out) (fun hHeld => ?_)
        clear hK K
        try simp only [Act.put, p1, p2, p3]
        refine tk 4 71 hHeld ?_
        try simp only [Act.put, p1, p2, p3]
        refine tk 5 72 hHeld ?_
        try simp only [Act.put, p1, p2, p3]
        refine wpAnyH_ready (rs := [6]) (by kernel_rfl) (by simp) ?_
        refine AllReadyH.cons rfl (fun K hK => ?_) (AllReadyH.nil)
        obtain ⟨y1, y2⟩ := HN10.out _ HB11.out
        go_simp
        obtain ⟨W12, hW12⟩ : ∃ W12, W11.setCell ⟨W6.heap.size, 1, none⟩ (.int .i64 (x + (len : Int))) = W12 := ⟨_, rfl⟩
        have hs12 : SBox W12 W6.heap.size { st with epoch := e, next := x + (len : Int) } := by rw [← hW12]; exact Blk.set (HS10.out.later HB11.out) 1 _
        have hc12 : Chg [W6.heap.size] W11 W12 := by rw [← hW12]; exact (Chg.refl _ _).set (Or.inl (by simp)) _ _
        have hx12 : BBox W12 w.heap.size 1 p e q tx (.slice ad len cap) := (hc12.block _ (HX10.out.later HB11.out).lt (by simp; omega)).trans (HX10.out.later HB11.out)
        have hp12 : TPic W12 t M n T1 := (HP10.out.later HB11.out).chg hc12 (by simp; have := HP6.out.lt.1; omega) (by simp; omega)
        have hcw12 : Chg [M] w W12 := (HC10.out.trans (Chg.of (F := []) HB11.out) (fun k hk => by cases hk)).trans hc12 (fun k hk => by simp at hk; right; omega)
        rw [hW12]
        refine hK.out _ _ (⟨hx12.c0, hx12.c1, hx12.c2, hx12.c3, hx12.c4, hx12.c5⟩) (fun hHeld => ?_)
        clear hK K
        try simp only [Act.put, p1]
        refine wpAnyH_done (by kernel_rfl) ?_ _
        have HX12 := hid hx12
        have HS12 := hid hs12
        have HP12 := hid hp12
        have HC12 := hid hcw12
        clear hW12 hs12 hc12 hx12 hp12 hcw12 hHeld y1 y2
        exact hm W12 ⟨HX12.out, HS12.out, HP12.out, HC12.out⟩
      · skip
        go_simp
        go_wp2_with (go_at_call 49; refine (len_any 1 p e q tx ad len cap _).mono ?_; rintro y W11 ⟨rfl, hb11⟩; have HB11 := hid ((Below.refl _ W10).drew.trans hb11); clear hb11)
        refine hK.out _ _ (HT.out _ HB11.out) (fun hHeld => ?_)
        clear hK K
        try simp only [Act.put, p1, p2, p3]
        refine wpAnyH_ready (rs := [1]) (by kernel_rfl) (by simp) ?_
        refine AllReadyH.cons rfl (fun K hK => ?_) (AllReadyH.nil)
        obtain ⟨y1, y2⟩ := HN10.out _ HB11.out
        go_simp
        clear y1 y2
        refine hK.out _ _ (HT.out _ HB11.out) (fun hHeld => ?_)
        clear hK K
        try simp only [Act.put, p1, p2, p3]
        refine tk 4 71 hHeld ?_
        try simp only [Act.put, p1, p2, p3]
        refine tk 5 72 hHeld ?_
        try simp only [Act.put, p1, p2, p3]
        refine wpAnyH_ready (rs := [6]) (by kernel_rfl) (by simp) ?_
        refine AllReadyH.cons rfl (fun K hK => ?_) (AllReadyH.nil)
        obtain ⟨y1, y2⟩ := HN10.out _ HB11.out
        go_simp
        obtain ⟨W12, hW12⟩ : ∃ W12, W11.setCell ⟨W6.heap.size, 1, none⟩ (.int .i64 (x + (len : Int))) = W12 := ⟨_, rfl⟩
        have hs12 : SBox W12 W6.heap.size { st with epoch := e, next := x + (len : Int) } := by rw [← hW12]; exact Blk.set (HS10.out.later HB11.out) 1 _
        have hc12 : Chg [W6.heap.size] W11 W12 := by rw [← hW12]; exact (Chg.refl _ _).set (Or.inl (by simp)) _ _
        have hx12 : BBox W12 w.heap.size 1 p e q tx (.slice ad len cap) := (hc12.block _ (HX10.out.later HB11.out).lt (by simp; omega)).trans (HX10.out.later HB11.out)
        have hp12 : TPic W12 t M n T1 := (HP10.out.later HB11.out).chg hc12 (by simp; have := HP6.out.lt.1; omega) (by simp; omega)
        have hcw12 : Chg [M] w W12 := (HC10.out.trans (Chg.of (F := []) HB11.out) (fun k hk => by cases hk)).trans hc12 (fun k hk => by simp at hk; right; omega)
        rw [hW12]
        refine hK.out _ _ (⟨hx12.c0, hx12.c1, hx12.c2, hx12.c3, hx12.c4, hx12.c5⟩) (fun hHeld => ?_)
        clear hK K
        try simp only [Act.put, p1]
        refine wpAnyH_done (by kernel_rfl) ?_ _
        have HX12 := hid hx12
        have HS12 := hid hs12
        have HP12 := hid hp12
        have HC12 := hid hcw12
        clear hW12 hs12 hc12 hx12 hp12 hcw12 hHeld y1 y2
        exact hm W12 ⟨HX12.out, HS12.out, HP12.out, HC12.out⟩
    rintro W12 ⟨hx12, hs12, hp12, hcw12⟩
    have HX12 := hid hx12
    have HS12 := hid hs12
    have HP12 := hid hp12
    have HC12 := hid hcw12
    have l12 : W6.heap.size < W12.heap.size := Blk.lt hs12
    have HT2 : Hid (∀ W, Below W12.heap.size W12 W → (W.cell? ⟨w.heap.size, 0, none⟩ = some (.int .i64 1)) ∧ W.cell? ⟨w.heap.size, 1, none⟩ = some (.int .i64 p) ∧ W.cell? ⟨w.heap.size, 2, none⟩ = some (.int .i64 e) ∧ W.cell? ⟨w.heap.size, 3, none⟩ = some (.int .i64 q) ∧ W.cell? ⟨w.heap.size, 4, none⟩ = some (.bool tx) ∧ W.cell? ⟨w.heap.size, 5, none⟩ = some (.slice ad len cap)) := fun W hW => by
      have hx := HX12.out.later hW
      exact ⟨hx.c0, hx.c1, hx.c2, hx.c3, hx.c4, hx.c5⟩
    have HAd : Hid (∀ W, Below W12.heap.size W12 W → Calls Tryz.prog 80 #[.pointer (some ⟨W6.heap.size, 2, none⟩), .agg #[.int .i64 q, .int .i64 (len : Int), .int .i64 o]] W fun y w' => (∃ v, y = .returned v) ∧ SBox w' W6.heap.size sf ∧ Chg [W6.heap.size] W w') := fun W hW => by
      have := add_any (HS12.out.later hW) ⟨HSt.out.old, HSt.out.cnt⟩ ⟨q, len, o⟩
      rw [hsf] at this
      exact this
    have HOk : Hid sf.ok := by rw [← hsf]; exact hid (add_ok (s := { st with epoch := e, next := x + (len : Int) }) ⟨HSt.out.old, HSt.out.cnt⟩ _)
    clear hx12 hs12 hp12 hcw12 HT HN10 HS10 HX10 HP10 HC10 hsf hx
    go_wp2_with fail
    refine wp_region_held_drew (S := fun W => (W.cell? ⟨w.heap.size, 0, none⟩ = some (.int .i64 1)) ∧ W.cell? ⟨w.heap.size, 1, none⟩ = some (.int .i64 p) ∧ W.cell? ⟨w.heap.size, 2, none⟩ = some (.int .i64 e) ∧ W.cell? ⟨w.heap.size, 3, none⟩ = some (.int .i64 q) ∧ W.cell? ⟨w.heap.size, 4, none⟩ = some (.bool tx) ∧ W.cell? ⟨w.heap.size, 5, none⟩ = some (.slice ad len cap)) (by kernel_rfl) (HT2.out _ (Below.refl _ _).drew) (fun hHeld => ?_)
    refine tk 0 73 hHeld ?_
    try simp only [Act.put, p1, p2, p3]
    refine tk 1 74 hHeld ?_
    try simp only [Act.put, p1, p2, p3]
    refine tk 2 75 hHeld ?_
    try simp only [Act.put, p1, p2, p3]
    refine tk 3 76 hHeld ?_
    try simp only [Act.put, p1, p2, p3]
    refine tk 5 78 hHeld ?_
    try simp only [Act.put, p1, p2, p3]
    refine wpAnyH_ready (rs := [4]) (by kernel_rfl) (by simp) ?_
    refine AllReadyH.cons rfl (fun K hK => ?_) (AllReadyH.nil)
    go_simp
    go_wp2_with (go_at_call 49; refine (len_any 1 p e q tx ad len cap _).mono ?_; rintro y W14 ⟨rfl, hb14⟩; have HB14 := hid ((Below.refl _ W12).drew.trans hb14); clear hb14)
    refine hK.out _ _ (HT2.out _ HB14.out) (fun hHeld => ?_)
    clear hK K
    try simp only [Act.put, p1, p2, p3]
    refine tk 6 79 hHeld ?_
    try simp only [Act.put, p1, p2, p3]
    refine wpAnyH_ready (rs := [7]) (by kernel_rfl) (by simp) ?_
    refine AllReadyH.cons rfl (fun K hK => ?_) (AllReadyH.nil)
    go_simp
    refine (HAd.out _ HB14.out).mono ?_
    rintro y W15 ⟨⟨vv, rfl⟩, hs15, hc15⟩
    dsimp only
    have hx15 : BBox W15 w.heap.size 1 p e q tx (.slice ad len cap) := (hc15.block _ (HX12.out.later HB14.out).lt (by simp; omega)).trans (HX12.out.later HB14.out)
    have HPv := hid ((HP12.out.later HB14.out).chg hc15 (by simp; have := HP6.out.lt.1; omega) (by simp; omega))
    have HCv := hid ((HC12.out.trans (Chg.of (F := []) HB14.out) (fun k hk => by cases hk)).trans hc15 (fun k hk => by simp at hk; right; omega))
    have HXv := hid hx15
    have HSv := hid hs15
    refine hK.out _ _ (⟨hx15.c0, hx15.c1, hx15.c2, hx15.c3, hx15.c4, hx15.c5⟩) (fun hHeld => ?_)
    clear hK K
    try simp only [Act.put, p1, p2, p3]
    refine wpAnyH_done (by kernel_rfl) ?_ _
    clear hx15 hs15 hc15 hHeld HT2 HAd HX12 HS12 HP12 HC12
    go_wp2_with fail
    obtain ⟨W13, hup, hp13, hc13⟩ := (TPic.later HPv.out (Below.refl _ W15).drew).store hn hp1 hp2 HOk.out
    have HS13 : Hid (∀ W, Below W15.heap.size W15 W → (W.cell? ⟨t, 0, none⟩ = some (.map (some M))) ∧ W.cell? ⟨w.heap.size, 1, none⟩ = some (.int .i64 p) ∧ SBox W W6.heap.size sf) := fun W hW => ⟨(HPv.out.later hW).made, (HXv.out.later hW).c1, HSv.out.later hW⟩
    have hMw := HH.out.lt.2
    have hsx : W15.heap.size ≤ W13.heap.size := hc13.size
    have HS13b : Hid ((W13.cell? ⟨t, 0, none⟩ = some (.map (some M))) ∧ W13.cell? ⟨w.heap.size, 1, none⟩ = some (.int .i64 p) ∧ SBox W13 W6.heap.size sf) := ⟨hp13.made, (hc13.cell HXv.out.lt (by simp; omega)).trans HXv.out.c1, HSv.out.drew.chg hc13 (by simp; omega)⟩
    have HP13 := hid (hp13.eq (HSet.out _))
    have HC13 := hid (HCv.out.trans (Chg.drew (Chg.refl [M] W15)) (fun k hk => Or.inl hk) |>.trans hc13 (fun k hk => Or.inl hk))
    clear hp13 hc13 hsx HPv HXv HSv HCv
    refine wp_region_held_drew (S := fun W => (W.cell? ⟨t, 0, none⟩ = some (.map (some M))) ∧ W.cell? ⟨w.heap.size, 1, none⟩ = some (.int .i64 p) ∧ SBox W W6.heap.size sf) (by kernel_rfl) (HS13.out _ (Below.refl _ W15).drew) (fun hHeld => ?_)
    refine tk 0 81 hHeld ?_
    try simp only [Act.put, p1, p2, p3]
    refine tk 1 82 hHeld ?_
    try simp only [Act.put, p1, p2, p3]
    refine tk 2 83 hHeld ?_
    try simp only [Act.put, p1, p2, p3]
    refine tk 3 84 hHeld ?_
    try simp only [Act.put, p1, p2, p3]
    refine tk 4 85 hHeld ?_
    try simp only [Act.put, p1, p2, p3]
    refine tk 5 86 hHeld ?_
    try simp only [Act.put, p1, p2, p3]
    refine wpAnyH_take (i := 6) (oi := ⟨some 87, _, _, _, _, _⟩) (v := .agg (psL sf).toArray) rfl (by kernel_rfl) (by kernel_rfl) (by kernel_rfl) (fun _ _ _ h => h) (Or.inl ⟨by rfl, ?_⟩) hHeld ?_
    · intro w hSw; exact exec_load (.tmp 10) (by rfl) (by rfl) hSw.2.2
    try simp only [Act.put, p1, p2, p3]
    refine wpAnyH_ready (rs := [7]) (by kernel_rfl) (by simp) ?_
    refine AllReadyH.cons rfl (fun K hK => ?_) (AllReadyH.nil)
    go_simp
    refine hK.out _ _ (HS13b.out) (fun hHeld => ?_)
    clear hK K
    try simp only [Act.put, p1]
    refine wpAnyH_done (by kernel_rfl) ?_ _
    clear hHeld
    go_wp2_with fail
    go_ret
    exact ⟨by rw [HNot.out]; rfl, by rw [HNot.out]; exact HP13.out, HC13.out⟩
end Go.Proofs.YtfgamkcnnijloaaGreat
