/- commit and leave of package group (by gendo15.py). join of package group (by gendo15.py). beat and expire of package group (by gendo15.py). -/
import Derived.Test.YtipgociofjokeaaGreatGDeal
import Derived.Deep.RegionHeld3
import Derived.OrdersHeld
import Derived.Test.YtipgociofjokeaaGreatPGSil
namespace Go.Proofs.YtipgociofjokeaaGreat
open Go.RowKit Go.Shelf Go.Sort
variable {w w' : World} {g M1 M2 M3 n : Nat} {A : Nm → Sl} {pv : Value} {G : Gp} {F : List Nat}

theorem GP.reks (h : GP w F g M1 M2 M3 n A pv G) (ks : List Nm) : GP w F g M1 M2 M3 n A pv { G with ks := ks } := ⟨h.box, h.mem, h.off, h.pend, h.ep, h.rows, h.ne12, h.ne13, h.ne23, h.inG, h.in1, h.in2, h.in3, h.inP, h.inR⟩
theorem GOk.left {k : Nat} (ho : GOk k G) (nm : Nm) : GOk k { G with mem := setN G.mem nm none, ks := G.ks.filter (fun q => decide (q ≠ nm)) } := by
  refine ⟨ho.sorted.filter _, ho.nodup.filter _, fun q => ?_, fun q hq => ho.name q (List.mem_filter.1 hq).1, Nat.le_trans (List.length_filter_le _ _) ho.cnt, ho.parts, ho.sess, fun q mb hq => ?_, fun q mb hq => ?_, ho.gen, ho.pend, ho.pin⟩
  · show q ∈ G.ks.filter _ ↔ (setN G.mem nm none q).isSome = true
    rw [List.mem_filter]
    by_cases e : q = nm
    · subst e; rw [setN_same]; simp
    · rw [setN_other _ e, ← ho.mem]; simp [e]
  · have hq' : setN G.mem nm none q = some mb := hq
    by_cases e : q = nm
    · subst e; rw [setN_same] at hq'; cases hq'
    · rw [setN_other _ e] at hq'; exact ho.heard q mb hq'
  · have hq' : setN G.mem nm none q = some mb := hq
    by_cases e : q = nm
    · subst e; rw [setN_same] at hq'; cases hq'
    · rw [setN_other _ e] at hq'; exact ho.share q mb hq'
set_option maxRecDepth 100000 in
set_option maxHeartbeats 1000000 in
theorem commit_any (h : GAt w F g n G) (x : Ev) (hp : -9223372036854775808 ≤ x.part ∧ x.part ≤ 9223372036854775807) (hn : n + 200 ≤ 4611686018427387904) : Calls Tryz.prog 28 #[.pointer (some ⟨g, 0, none⟩), .agg (evA x)] w fun r w' => r = .returned (.tuple #[]) ∧ GMv w w' F g (n + 1) { G with off := setN G.off x.part (some x.off) } := by
  obtain ⟨⟨M1, M2, M3, A, pv, h⟩, ho, hF⟩ := h
  obtain ⟨k, s, a, b, c, d, e, f, q⟩ := x
  dsimp only at *
  obtain ⟨t, ht⟩ : ∃ t, nmS s = t := ⟨_, rfl⟩
  show Calls Tryz.prog _ #[_, .agg #[.int .i64 k, .string (nmS s), .int .i64 a, .int .i64 b, .int .i64 c, .int .i64 d, .int .i64 e, .int .i64 f, .bool q]] w _
  rw [ht]
  obtain ⟨W1, hW1⟩ : ∃ W1, w.alloc (.cells #[.int .i64 k, .string t, .int .i64 a, .int .i64 b, .int .i64 c, .int .i64 d, .int .i64 e, .int .i64 f, .bool q] TEv) = W1 := ⟨_, rfl⟩
  have b1 : Below w.heap.size w W1 := by rw [← hW1]; exact (Below.refl _ _).alloc (Nat.le_refl _) _
  have x1 : Blk W1 w.heap.size #[.int .i64 k, .string t, .int .i64 a, .int .i64 b, .int .i64 c, .int .i64 d, .int .i64 e, .int .i64 f, .bool q] TEv := by rw [← hW1]; exact heap_alloc_new w _
  have hg1 := h.later b1.drew
  obtain ⟨W2, hr2, hg2, hc2⟩ := hg1.storeOff (by have := ho.pend; omega) (by unfold maxLen; omega) hp.1 hp.2 c
  have HS : Hid (W1.drew.cell? ⟨w.heap.size, 3, none⟩ = some (.int .i64 b) ∧ W1.drew.cell? ⟨w.heap.size, 4, none⟩ = some (.int .i64 c) ∧ W1.drew.cell? ⟨g, 4, none⟩ = some (.map (some M2))) := ⟨x1.cell 3, x1.cell 4, hg1.box.cell 4⟩
  have x2 : Blk W2 w.heap.size #[.int .i64 k, .string t, .int .i64 a, .int .i64 b, .int .i64 c, .int .i64 d, .int .i64 e, .int .i64 f, .bool q] TEv := Blk.chg (w := W1.drew) x1 hc2 (by have := h.off.lt; simp; omega)
  have HSb : Hid (W2.cell? ⟨w.heap.size, 3, none⟩ = some (.int .i64 b) ∧ W2.cell? ⟨w.heap.size, 4, none⟩ = some (.int .i64 c) ∧ W2.cell? ⟨g, 4, none⟩ = some (.map (some M2))) := ⟨x2.cell 3, x2.cell 4, hg2.box.cell 4⟩
  have HFin : Hid (GMv w W2 F g (n + 1) { G with off := setN G.off b (some c) }) := ⟨F, ⟨⟨M1, M2, M3, A, pv, hg2⟩, ⟨ho.sorted, ho.nodup, ho.mem, ho.name, ho.cnt, ho.parts, ho.sess, ho.heard, ho.share, ⟨ho.gen.1, by have := ho.gen.2; show G.gen ≤ ((n + 1 : Nat) : Int); omega⟩, Nat.le_succ_of_le ho.pend, ho.pin⟩, fun b hb => Nat.lt_of_lt_of_le (hF b hb) (Nat.le_trans b1.size hc2.size)⟩, (Chg.of b1.drew).trans (hc2.mono (fun k hk => by simp at hk; subst hk; exact h.in2)) (fun k hk => Or.inl hk), fun b hb => Or.inl hb⟩
  clear h ho hF b1 x1 x2 hg1 hg2 hc2
  go_enter Tryz.func28, Tryz.ntmps28
  go_wp2_with fail
  refine wp_region_held_drew (S := fun W => W.cell? ⟨w.heap.size, 3, none⟩ = some (.int .i64 b) ∧ W.cell? ⟨w.heap.size, 4, none⟩ = some (.int .i64 c) ∧ W.cell? ⟨g, 4, none⟩ = some (.map (some M2))) (by kernel_rfl) (HS.out) (fun hHeld => ?_)
  refine wpAnyH_take (i := 0) (oi := { dst := some 4, op := Op.move (Operand.tmp 0), type := 23, pos := "deeds.go:91", after := #[], guard := none }) (v := ?_) rfl (by kernel_rfl) (by kernel_rfl) (by kernel_rfl) (fun _ _ _ h => h) (Or.inl ⟨by rfl, ?_⟩) hHeld ?_
  rotate_left
  · intro w hSw; (try dsimp only at hSw); go_simp; try with_reducible rfl
  try simp only [Act.put, List.setIfInBounds_toArray, List.set_cons_zero, List.set_cons_succ]
  refine wpAnyH_take (i := 1) (oi := { dst := some 5, op := Op.nilCheck (Operand.tmp 4), type := 0, pos := "deeds.go:91", after := #[{ on := 0, ground := Ground.data }], guard := none }) (v := ?_) rfl (by kernel_rfl) (by kernel_rfl) (by kernel_rfl) (fun _ _ _ h => h) (Or.inl ⟨by rfl, ?_⟩) hHeld ?_
  rotate_left
  · intro w hSw; (try dsimp only at hSw); go_simp; try with_reducible rfl
  try simp only [Act.put, List.setIfInBounds_toArray, List.set_cons_zero, List.set_cons_succ]
  refine wpAnyH_take (i := 2) (oi := { dst := some 6, op := Op.fieldAddr 41 (Operand.tmp 5) 4, type := 0, pos := "deeds.go:91", after := #[{ on := 1, ground := Ground.data }], guard := none }) (v := ?_) rfl (by kernel_rfl) (by kernel_rfl) (by kernel_rfl) (fun _ _ _ h => h) (Or.inl ⟨by rfl, ?_⟩) hHeld ?_
  rotate_left
  · intro w hSw; (try dsimp only at hSw); go_simp; try with_reducible rfl
  try simp only [Act.put, List.setIfInBounds_toArray, List.set_cons_zero, List.set_cons_succ]
  refine wpAnyH_take (i := 3) (oi := { dst := some 7, op := Op.load 38 (Operand.tmp 6), type := 38, pos := "deeds.go:91", after := #[{ on := 2, ground := Ground.data }], guard := none }) (v := ?_) rfl (by kernel_rfl) (by kernel_rfl) (by kernel_rfl) (fun _ _ _ h => h) (Or.inl ⟨by rfl, ?_⟩) hHeld ?_
  rotate_left
  · intro w hSw; (try dsimp only at hSw); go_simp; try with_reducible rfl
  try simp only [Act.put, List.setIfInBounds_toArray, List.set_cons_zero, List.set_cons_succ]
  refine wpAnyH_take (i := 4) (oi := { dst := some 8, op := Op.fieldAddr 31 (Operand.tmp 3) 3, type := 0, pos := "deeds.go:91", after := #[], guard := none }) (v := ?_) rfl (by kernel_rfl) (by kernel_rfl) (by kernel_rfl) (fun _ _ _ h => h) (Or.inl ⟨by rfl, ?_⟩) hHeld ?_
  rotate_left
  · intro w hSw; (try dsimp only at hSw); go_simp; try with_reducible rfl
  try simp only [Act.put, List.setIfInBounds_toArray, List.set_cons_zero, List.set_cons_succ]
  refine wpAnyH_take (i := 5) (oi := { dst := some 9, op := Op.load 3 (Operand.tmp 8), type := 3, pos := "deeds.go:91", after := #[{ on := 4, ground := Ground.data }], guard := none }) (v := ?_) rfl (by kernel_rfl) (by kernel_rfl) (by kernel_rfl) (fun _ _ _ h => h) (Or.inl ⟨by rfl, ?_⟩) hHeld ?_
  rotate_left
  · intro w hSw; (try dsimp only at hSw); go_simp; try with_reducible rfl
  try simp only [Act.put, List.setIfInBounds_toArray, List.set_cons_zero, List.set_cons_succ]
  refine wpAnyH_take (i := 6) (oi := { dst := some 10, op := Op.fieldAddr 31 (Operand.tmp 3) 4, type := 0, pos := "deeds.go:91", after := #[], guard := none }) (v := ?_) rfl (by kernel_rfl) (by kernel_rfl) (by kernel_rfl) (fun _ _ _ h => h) (Or.inl ⟨by rfl, ?_⟩) hHeld ?_
  rotate_left
  · intro w hSw; (try dsimp only at hSw); go_simp; try with_reducible rfl
  try simp only [Act.put, List.setIfInBounds_toArray, List.set_cons_zero, List.set_cons_succ]
  refine wpAnyH_take (i := 7) (oi := { dst := some 11, op := Op.load 3 (Operand.tmp 10), type := 3, pos := "deeds.go:91", after := #[{ on := 6, ground := Ground.data }], guard := none }) (v := ?_) rfl (by kernel_rfl) (by kernel_rfl) (by kernel_rfl) (fun _ _ _ h => h) (Or.inl ⟨by rfl, ?_⟩) hHeld ?_
  rotate_left
  · intro w hSw; (try dsimp only at hSw); go_simp; try with_reducible rfl
  try simp only [Act.put, List.setIfInBounds_toArray, List.set_cons_zero, List.set_cons_succ]
  refine wpAnyH_ready (rs := [8]) (by kernel_rfl) (by simp) ?_
  refine AllReadyH.cons rfl (fun K hK => ?_) (AllReadyH.nil)
  go_simp
  refine hK.out _ _ (HSb.out) (fun hHeld => ?_)
  clear hK K
  try simp only [Act.put, List.setIfInBounds_toArray, List.set_cons_zero, List.set_cons_succ]
  refine wpAnyH_done (by kernel_rfl) ?_ _
  clear hHeld
  go_wp2_with fail
  go_end0
  exact ⟨rfl, HFin.out⟩
set_option maxRecDepth 100000 in
set_option maxHeartbeats 1000000 in
theorem leave_any (h : GAt w F g n G) (x : Ev) (hs : x.mem.length ≤ maxLen) (hn : n + 200 ≤ 4611686018427387904) : Calls Tryz.prog 26 #[.pointer (some ⟨g, 0, none⟩), .agg (evA x)] w fun r w' => r = .returned (.tuple #[]) ∧ GMv w w' F g (n + 101) (Gp.deal { G with mem := setN G.mem x.mem none, ks := G.ks.filter (fun nm => decide (nm ≠ x.mem)) }) := by
  obtain ⟨⟨M1, M2, M3, A, pv, h⟩, ho, hF⟩ := h
  obtain ⟨k, s, a, b, c, d, e, f, q⟩ := x
  dsimp only at *
  obtain ⟨t, ht⟩ : ∃ t, nmS s = t := ⟨_, rfl⟩
  show Calls Tryz.prog _ #[_, .agg #[.int .i64 k, .string (nmS s), .int .i64 a, .int .i64 b, .int .i64 c, .int .i64 d, .int .i64 e, .int .i64 f, .bool q]] w _
  rw [ht]
  obtain ⟨W1, hW1⟩ : ∃ W1, w.alloc (.cells #[.int .i64 k, .string t, .int .i64 a, .int .i64 b, .int .i64 c, .int .i64 d, .int .i64 e, .int .i64 f, .bool q] TEv) = W1 := ⟨_, rfl⟩
  have b1 : Below w.heap.size w W1 := by rw [← hW1]; exact (Below.refl _ _).alloc (Nat.le_refl _) _
  have x1 : Blk W1 w.heap.size #[.int .i64 k, .string t, .int .i64 a, .int .i64 b, .int .i64 c, .int .i64 d, .int .i64 e, .int .i64 f, .bool q] TEv := by rw [← hW1]; exact heap_alloc_new w _
  have hg1 := h.later b1.drew
  obtain ⟨W2, hr2, hg2, hc2⟩ := hg1.dropMem s hs 0
  rw [ht] at hr2
  have HS : Hid (W1.drew.cell? ⟨w.heap.size, 1, none⟩ = some (.string t) ∧ W1.drew.cell? ⟨g, 3, none⟩ = some (.map (some M1))) := ⟨x1.cell 1, hg1.box.cell 3⟩
  have x2 : Blk W2 w.heap.size #[.int .i64 k, .string t, .int .i64 a, .int .i64 b, .int .i64 c, .int .i64 d, .int .i64 e, .int .i64 f, .bool q] TEv := Blk.chg (w := W1.drew) x1 hc2 (by have := h.mem.lt; simp; omega)
  have HSb : Hid (W2.cell? ⟨w.heap.size, 1, none⟩ = some (.string t) ∧ W2.cell? ⟨g, 3, none⟩ = some (.map (some M1))) := ⟨x2.cell 1, hg2.box.cell 3⟩
  have hcF : Chg F w W2 := (Chg.of b1.drew).trans (hc2.mono (fun k hk => by simp at hk; subst hk; exact h.in1)) (fun k hk => Or.inl hk)
  have HD := hid (dealG_any (hg2.reks (G.ks.filter (fun q => decide (q ≠ s)))) (ho.left s) (fun b hb => Nat.lt_of_lt_of_le (hF b hb) hcF.size) hn)
  have HC := hid hcF
  clear h ho hF b1 x1 x2 hg1 hg2 hc2 hcF
  go_enter Tryz.func26, Tryz.ntmps26
  go_wp2_with fail
  refine wp_region_held_drew (S := fun W => W.cell? ⟨w.heap.size, 1, none⟩ = some (.string t) ∧ W.cell? ⟨g, 3, none⟩ = some (.map (some M1))) (by kernel_rfl) (HS.out) (fun hHeld => ?_)
  refine wpAnyH_take (i := 0) (oi := { dst := some 4, op := Op.move (Operand.tmp 0), type := 23, pos := "deeds.go:81", after := #[], guard := none }) (v := ?_) rfl (by kernel_rfl) (by kernel_rfl) (by kernel_rfl) (fun _ _ _ h => h) (Or.inl ⟨by rfl, ?_⟩) hHeld ?_
  rotate_left
  · intro w hSw; (try dsimp only at hSw); go_simp; try with_reducible rfl
  try simp only [Act.put, List.setIfInBounds_toArray, List.set_cons_zero, List.set_cons_succ]
  refine wpAnyH_take (i := 1) (oi := { dst := some 5, op := Op.nilCheck (Operand.tmp 4), type := 0, pos := "deeds.go:81", after := #[{ on := 0, ground := Ground.data }], guard := none }) (v := ?_) rfl (by kernel_rfl) (by kernel_rfl) (by kernel_rfl) (fun _ _ _ h => h) (Or.inl ⟨by rfl, ?_⟩) hHeld ?_
  rotate_left
  · intro w hSw; (try dsimp only at hSw); go_simp; try with_reducible rfl
  try simp only [Act.put, List.setIfInBounds_toArray, List.set_cons_zero, List.set_cons_succ]
  refine wpAnyH_take (i := 2) (oi := { dst := some 6, op := Op.fieldAddr 41 (Operand.tmp 5) 3, type := 0, pos := "deeds.go:81", after := #[{ on := 1, ground := Ground.data }], guard := none }) (v := ?_) rfl (by kernel_rfl) (by kernel_rfl) (by kernel_rfl) (fun _ _ _ h => h) (Or.inl ⟨by rfl, ?_⟩) hHeld ?_
  rotate_left
  · intro w hSw; (try dsimp only at hSw); go_simp; try with_reducible rfl
  try simp only [Act.put, List.setIfInBounds_toArray, List.set_cons_zero, List.set_cons_succ]
  refine wpAnyH_take (i := 3) (oi := { dst := some 7, op := Op.load 37 (Operand.tmp 6), type := 37, pos := "deeds.go:81", after := #[{ on := 2, ground := Ground.data }], guard := none }) (v := ?_) rfl (by kernel_rfl) (by kernel_rfl) (by kernel_rfl) (fun _ _ _ h => h) (Or.inl ⟨by rfl, ?_⟩) hHeld ?_
  rotate_left
  · intro w hSw; (try dsimp only at hSw); go_simp; try with_reducible rfl
  try simp only [Act.put, List.setIfInBounds_toArray, List.set_cons_zero, List.set_cons_succ]
  refine wpAnyH_take (i := 4) (oi := { dst := some 8, op := Op.fieldAddr 31 (Operand.tmp 3) 1, type := 0, pos := "deeds.go:81", after := #[], guard := none }) (v := ?_) rfl (by kernel_rfl) (by kernel_rfl) (by kernel_rfl) (fun _ _ _ h => h) (Or.inl ⟨by rfl, ?_⟩) hHeld ?_
  rotate_left
  · intro w hSw; (try dsimp only at hSw); go_simp; try with_reducible rfl
  try simp only [Act.put, List.setIfInBounds_toArray, List.set_cons_zero, List.set_cons_succ]
  refine wpAnyH_take (i := 5) (oi := { dst := some 9, op := Op.load 9 (Operand.tmp 8), type := 9, pos := "deeds.go:81", after := #[{ on := 4, ground := Ground.data }], guard := none }) (v := ?_) rfl (by kernel_rfl) (by kernel_rfl) (by kernel_rfl) (fun _ _ _ h => h) (Or.inl ⟨by rfl, ?_⟩) hHeld ?_
  rotate_left
  · intro w hSw; (try dsimp only at hSw); go_simp; try with_reducible rfl
  try simp only [Act.put, List.setIfInBounds_toArray, List.set_cons_zero, List.set_cons_succ]
  refine wpAnyH_ready (rs := [6]) (by kernel_rfl) (by simp) ?_
  refine AllReadyH.cons rfl (fun K hK => ?_) (AllReadyH.nil)
  go_simp
  refine hK.out _ _ (HSb.out) (fun hHeld => ?_)
  clear hK K
  try simp only [Act.put, List.setIfInBounds_toArray, List.set_cons_zero, List.set_cons_succ]
  refine wpAnyH_done (by kernel_rfl) ?_ _
  clear hHeld
  go_wp2_with (go_at_call 47; (with_reducible_and_instances (refine HD.out.mono ?_)); rintro r w9 ⟨rfl, hm9⟩; have HM9 := hid (hm9.ahead HC.out); clear hm9)
  go_end0
  exact ⟨rfl, HM9.out⟩
end Go.Proofs.YtipgociofjokeaaGreat
namespace Go.Proofs.YtipgociofjokeaaGreat
open Go.RowKit Go.Shelf Go.Sort
variable {w w' : World} {g M1 M2 M3 n : Nat} {A : Nm → Sl} {pv : Value} {G : Gp} {F : List Nat}

theorem inN_now {x : Int} (h : inN x) : 0 ≤ x ∧ x < 281474976710656 := h
/-- A member that is there, heard of anew. -/
theorem GOk.heardAt {k : Nat} (ho : GOk k G) (nm : Nm) (hh : G.has nm = true) {y : Int} (hy : inN y) : GOk (k + 1) { G with mem := setN G.mem nm (some ⟨y, G.share nm⟩) } := by
  refine ⟨ho.sorted, ho.nodup, fun q => ?_, ho.name, ho.cnt, ho.parts, ho.sess, fun q mb hq => ?_, fun q mb hq => ?_, ⟨ho.gen.1, by have := ho.gen.2; show G.gen ≤ ((k + 1 : Nat) : Int); omega⟩, Nat.le_succ_of_le ho.pend, ho.pin⟩
  · show q ∈ G.ks ↔ (setN G.mem nm _ q).isSome = true
    by_cases e : q = nm
    · subst e; rw [setN_same, ho.mem]; unfold Gp.has at hh; simp [hh]
    · rw [setN_other _ e]; exact ho.mem q
  · have hq' : setN G.mem nm (some ⟨y, G.share nm⟩) q = some mb := hq
    by_cases e : q = nm
    · subst e; rw [setN_same] at hq'; cases hq'; exact hy
    · rw [setN_other _ e] at hq'; exact ho.heard q mb hq'
  · have hq' : setN G.mem nm (some ⟨y, G.share nm⟩) q = some mb := hq
    by_cases e : q = nm
    · subst e; rw [setN_same] at hq'; cases hq'
      show (G.share q).length ≤ 32
      unfold Gp.share
      cases hm : G.mem q with
      | none => show ([] : List Int).length ≤ 32; simp
      | some mb' => exact ho.share q mb' hm
    · rw [setN_other _ e] at hq'; exact ho.share q mb hq'
theorem risN_cons_mem (nm q : Nm) (l : List Nm) : q ∈ risN (nm :: l) ↔ q = nm ∨ q ∈ l := by rw [(risN_perm _).mem_iff, List.mem_cons]
/-- A member that comes. -/
theorem GOk.came {k : Nat} (ho : GOk k G) (nm : Nm) (hh : G.has nm = false) (hc : G.ks.length < 100) (hn : nameOk nm = true) {y : Int} (hy : inN y) : GOk (k + 1) { G with mem := setN G.mem nm (some ⟨y, []⟩), ks := risN (nm :: G.ks) } := by
  have hnk : nm ∉ G.ks := fun hm => by have := (ho.mem nm).1 hm; unfold Gp.has at hh; rw [hh] at this; cases this
  refine ⟨risN_sorted _, (risN_perm _).nodup_iff.2 (List.nodup_cons.2 ⟨hnk, ho.nodup⟩), fun q => ?_, fun q hq => ?_, by show (risN (nm :: G.ks)).length ≤ 100; rw [risN_len, List.length_cons]; omega, ho.parts, ho.sess, fun q mb hq => ?_, fun q mb hq => ?_, ⟨ho.gen.1, by have := ho.gen.2; show G.gen ≤ ((k + 1 : Nat) : Int); omega⟩, Nat.le_succ_of_le ho.pend, ho.pin⟩
  · show q ∈ risN (nm :: G.ks) ↔ (setN G.mem nm _ q).isSome = true
    rw [risN_cons_mem]
    by_cases e : q = nm
    · subst e; rw [setN_same]; simp
    · rw [setN_other _ e, ← ho.mem]; simp [e]
  · rcases (risN_cons_mem nm q G.ks).1 hq with rfl | h
    · exact hn
    · exact ho.name q h
  · have hq' : setN G.mem nm (some ⟨y, []⟩) q = some mb := hq
    by_cases e : q = nm
    · subst e; rw [setN_same] at hq'; cases hq'; exact hy
    · rw [setN_other _ e] at hq'; exact ho.heard q mb hq'
  · have hq' : setN G.mem nm (some ⟨y, []⟩) q = some mb := hq
    by_cases e : q = nm
    · subst e; rw [setN_same] at hq'; cases hq'; show ([] : List Int).length ≤ 32; simp
    · rw [setN_other _ e] at hq'; exact ho.share q mb hq'
set_option maxRecDepth 100000 in
set_option maxHeartbeats 1000000 in
theorem joinG_any (h : GAt w F g n G) (x : Ev) (hnm : nameOk x.mem = true) (hy : inN x.now) (hc : G.has x.mem = true ∨ G.ks.length < 100) (hn : n + 400 ≤ 4611686018427387904) : Calls Tryz.prog 25 #[.pointer (some ⟨g, 0, none⟩), .agg (evA x)] w fun r w' => r = .returned (.tuple #[]) ∧ GMv w w' F g (n + 102) (if G.has x.mem then { G with mem := setN G.mem x.mem (some ⟨x.now, G.share x.mem⟩) } else Gp.deal { G with mem := setN G.mem x.mem (some ⟨x.now, []⟩), ks := risN (x.mem :: G.ks) }) := by
  obtain ⟨⟨M1, M2, M3, A, pv, h⟩, ho, hF⟩ := h
  obtain ⟨k, s, a, b, c, d, e, f, q⟩ := x
  dsimp only at *
  obtain ⟨t, ht⟩ : ∃ t, nmS s = t := ⟨_, rfl⟩
  show Calls Tryz.prog _ #[_, .agg #[.int .i64 k, .string (nmS s), .int .i64 a, .int .i64 b, .int .i64 c, .int .i64 d, .int .i64 e, .int .i64 f, .bool q]] w _
  rw [ht]
  obtain ⟨W1, hW1⟩ : ∃ W1, w.alloc (.cells #[.int .i64 k, .string t, .int .i64 a, .int .i64 b, .int .i64 c, .int .i64 d, .int .i64 e, .int .i64 f, .bool q] TEv) = W1 := ⟨_, rfl⟩
  have b1 : Below w.heap.size w W1 := by rw [← hW1]; exact (Below.refl _ _).alloc (Nat.le_refl _) _
  have x1 : Blk W1 w.heap.size #[.int .i64 k, .string t, .int .i64 a, .int .i64 b, .int .i64 c, .int .i64 d, .int .i64 e, .int .i64 f, .bool q] TEv := by rw [← hW1]; exact heap_alloc_new w _
  have hs : s.length ≤ maxLen := by have := nameOk_len hnm; unfold maxLen; omega
  obtain ⟨hd, hhd⟩ : ∃ hd, G.heard s = hd := ⟨_, rfl⟩
  obtain ⟨hb, hhb⟩ : ∃ hb, G.has s = hb := ⟨_, rfl⟩
  obtain ⟨sl, hsle⟩ : ∃ sl, slOf G A s = sl := ⟨_, rfl⟩
  have hlk : ∀ W, Below w.heap.size w W → (Instr.lookup TMb (.map (some M1)) (.string t) true).run Tryz.prog W = .ok (.tuple #[.agg #[.int .i64 hd, .slice sl.ad sl.m sl.c], .bool hb]) W := fun W hW => by
    have h := (h.later hW).look_ok s hs
    rw [ht, hsle, hhd, hhb] at h
    exact h
  have hrow : OwnK kZ w 0 sl.v (G.share s) := by rw [← hsle]; exact h.shareAt s
  have hin : ∀ b, sl.v.ownBlock = some b → b ∈ F := fun b hb => by
    rw [← hsle] at hb
    unfold slOf at hb
    split at hb
    · rename_i hsm
      obtain ⟨mb, hmb⟩ := Option.isSome_iff_exists.1 hsm
      exact h.inR s mb b hmb hb
    · cases hb
  obtain ⟨sa, sm, sc⟩ := sl
  dsimp only at hlk
  have HS1 : Hid (∀ W, Below W1.heap.size W1 W → W.cell? ⟨w.heap.size, 1, none⟩ = some (.string t) ∧ W.cell? ⟨g, 3, none⟩ = some (.map (some M1)) ∧ (Instr.lookup TMb (.map (some M1)) (.string t) true).run Tryz.prog W = .ok (.tuple #[.agg #[.int .i64 hd, .slice sa sm sc], .bool hb]) W) := fun W hW => by
    have hx := x1.later hW
    have hb2 : Below w.heap.size w W := b1.trans (hW.mono b1.size)
    exact ⟨hx.cell 1, (h.later hb2).box.cell 3, hlk W hb2⟩
  obtain ⟨W2, hW2⟩ : ∃ W2, (W1.alloc (.cells #[.int .i64 hd, .slice sa sm sc] 57)).drew = W2 := ⟨_, rfl⟩
  have b2 : Below W1.heap.size W1 W2 := by rw [← hW2]; exact ((Below.refl _ _).alloc (Nat.le_refl _) _).drew
  have x2 : Blk W2 W1.heap.size #[.int .i64 hd, .slice sa sm sc] 57 := by rw [← hW2]; exact heap_alloc_new W1 _
  have HB2 := hid b2
  have x12 := x1.later b2
  have z1 : W1.heap.size = w.heap.size + 1 := by rw [← hW1]; simp
  have q1 := x12.cell 7
  have q2 := x2.cell 0
  have q3 := x2.free 0
  simp only [List.getElem?_toArray, List.getElem?_cons_zero, List.getElem?_cons_succ] at q1 q2
  obtain ⟨W3, hW3⟩ : ∃ W3, W2.setCell ⟨W1.heap.size, 0, none⟩ (.int .i64 (f)) = W3 := ⟨_, rfl⟩
  have hc3 : Chg [W1.heap.size] W2 W3 := by rw [← hW3]; exact (Chg.refl _ _).set (Or.inl (by simp)) 0 _
  have x3 : Blk W3 W1.heap.size #[.int .i64 (f), .slice sa sm sc] 57 := by rw [← hW3]; exact x2.set 0 _
  have x13 := x12.chg hc3 (by simp; omega)
  have b03 : Below w.heap.size w W3 := (b1.trans (b2.mono b1.size)).trans (hc3.below (fun k hk => by simp at hk; omega) (by have := b1.size; have := b2.size; omega))
  have b03d : Below w.heap.size w W3.drew := b03.drew
  have hg3 := h.later b03d
  obtain ⟨W4, hr4, hg4, hc4⟩ := hg3.storeMem (by unfold maxLen; omega) s hs ⟨f, G.share s⟩ ⟨sa, sm, sc⟩ (hrow.later b03d) hin
  rw [ht] at hr4
  dsimp only at hr4
  have HS3 : Hid (W3.drew.cell? ⟨w.heap.size, 1, none⟩ = some (.string t) ∧ W3.drew.cell? ⟨g, 3, none⟩ = some (.map (some M1)) ∧ W3.drew.cell? ⟨W1.heap.size, 0, none⟩ = some (.int .i64 (f)) ∧ W3.drew.cell? ⟨W1.heap.size, 1, none⟩ = some (.slice sa sm sc)) := ⟨x13.cell 1, hg3.box.cell 3, x3.cell 0, x3.cell 1⟩
  have hM1 : M1 < w.heap.size := h.mem.lt
  have x14 : Blk W4 w.heap.size #[.int .i64 k, .string t, .int .i64 a, .int .i64 b, .int .i64 c, .int .i64 d, .int .i64 e, .int .i64 f, .bool q] TEv := Blk.chg (w := W3.drew) x13 hc4 (by simp; omega)
  have x34 : Blk W4 W1.heap.size #[.int .i64 (f), .slice sa sm sc] 57 := Blk.chg (w := W3.drew) x3 hc4 (by simp; omega)
  have HS4 : Hid (W4.cell? ⟨w.heap.size, 1, none⟩ = some (.string t) ∧ W4.cell? ⟨g, 3, none⟩ = some (.map (some M1)) ∧ W4.cell? ⟨W1.heap.size, 0, none⟩ = some (.int .i64 (f)) ∧ W4.cell? ⟨W1.heap.size, 1, none⟩ = some (.slice sa sm sc)) := ⟨x14.cell 1, hg4.box.cell 3, x34.cell 0, x34.cell 1⟩
  have hcF : Chg F w W4 := (Chg.of b03d).trans (hc4.mono (fun k hk => by simp at hk; subst hk; exact h.in1)) (fun k hk => Or.inl hk)
  have hFl : ∀ b ∈ F, b < W4.heap.size := fun b hb => Nat.lt_of_lt_of_le (hF b hb) hcF.size
  rw [hhb]
  cases hb with
  | true =>
    rw [if_pos rfl]
    have HFin : Hid (GMv w W4 F g (n + 102) { G with mem := setN G.mem s (some ⟨f, G.share s⟩) }) := by
      exact ⟨F, ⟨⟨M1, M2, M3, _, pv, hg4.mono (by omega)⟩, (ho.heardAt s hhb hy).mono (by omega), hFl⟩, hcF, fun b hb => Or.inl hb⟩
    clear h ho hF b1 x1 x2 x12 x3 x13 x14 x34 hg3 hg4 hc3 hc4 hcF hFl b2 b03 b03d hrow hin hlk hM1 z1 hsle hhd
    go_enter Tryz.func25, Tryz.ntmps25
    go_wp2_with fail
    refine wp_region_held_drew (S := fun W => W.cell? ⟨w.heap.size, 1, none⟩ = some (.string t) ∧ W.cell? ⟨g, 3, none⟩ = some (.map (some M1)) ∧ (Instr.lookup TMb (.map (some M1)) (.string t) true).run Tryz.prog W = .ok (.tuple #[.agg #[.int .i64 hd, .slice sa sm sc], .bool true]) W) (by kernel_rfl) (HS1.out _ (Below.refl _ W1).drew) (fun hHeld => ?_)
    refine wpAnyH_take (i := 0) (oi := { dst := some 7, op := Op.move (Operand.tmp 0), type := 23, pos := "deeds.go:72", after := #[], guard := none }) (v := ?_) rfl (by kernel_rfl) (by kernel_rfl) (by kernel_rfl) (fun _ _ _ h => h) (Or.inl ⟨by rfl, ?_⟩) hHeld ?_
    rotate_left
    · intro w hSw; (try dsimp only at hSw); go_simp; try with_reducible rfl
    try simp only [Act.put, List.setIfInBounds_toArray, List.set_cons_zero, List.set_cons_succ]
    refine wpAnyH_take (i := 1) (oi := { dst := some 8, op := Op.nilCheck (Operand.tmp 7), type := 0, pos := "deeds.go:72", after := #[{ on := 0, ground := Ground.data }], guard := none }) (v := ?_) rfl (by kernel_rfl) (by kernel_rfl) (by kernel_rfl) (fun _ _ _ h => h) (Or.inl ⟨by rfl, ?_⟩) hHeld ?_
    rotate_left
    · intro w hSw; (try dsimp only at hSw); go_simp; try with_reducible rfl
    try simp only [Act.put, List.setIfInBounds_toArray, List.set_cons_zero, List.set_cons_succ]
    refine wpAnyH_take (i := 2) (oi := { dst := some 9, op := Op.fieldAddr 41 (Operand.tmp 8) 3, type := 0, pos := "deeds.go:72", after := #[{ on := 1, ground := Ground.data }], guard := none }) (v := ?_) rfl (by kernel_rfl) (by kernel_rfl) (by kernel_rfl) (fun _ _ _ h => h) (Or.inl ⟨by rfl, ?_⟩) hHeld ?_
    rotate_left
    · intro w hSw; (try dsimp only at hSw); go_simp; try with_reducible rfl
    try simp only [Act.put, List.setIfInBounds_toArray, List.set_cons_zero, List.set_cons_succ]
    refine wpAnyH_take (i := 3) (oi := { dst := some 10, op := Op.load 37 (Operand.tmp 9), type := 37, pos := "deeds.go:72", after := #[{ on := 2, ground := Ground.data }], guard := none }) (v := ?_) rfl (by kernel_rfl) (by kernel_rfl) (by kernel_rfl) (fun _ _ _ h => h) (Or.inl ⟨by rfl, ?_⟩) hHeld ?_
    rotate_left
    · intro w hSw; (try dsimp only at hSw); go_simp; try with_reducible rfl
    try simp only [Act.put, List.setIfInBounds_toArray, List.set_cons_zero, List.set_cons_succ]
    refine wpAnyH_take (i := 4) (oi := { dst := some 11, op := Op.fieldAddr 31 (Operand.tmp 3) 1, type := 0, pos := "deeds.go:72", after := #[], guard := none }) (v := ?_) rfl (by kernel_rfl) (by kernel_rfl) (by kernel_rfl) (fun _ _ _ h => h) (Or.inl ⟨by rfl, ?_⟩) hHeld ?_
    rotate_left
    · intro w hSw; (try dsimp only at hSw); go_simp; try with_reducible rfl
    try simp only [Act.put, List.setIfInBounds_toArray, List.set_cons_zero, List.set_cons_succ]
    refine wpAnyH_take (i := 5) (oi := { dst := some 12, op := Op.load 9 (Operand.tmp 11), type := 9, pos := "deeds.go:72", after := #[{ on := 4, ground := Ground.data }], guard := none }) (v := ?_) rfl (by kernel_rfl) (by kernel_rfl) (by kernel_rfl) (fun _ _ _ h => h) (Or.inl ⟨by rfl, ?_⟩) hHeld ?_
    rotate_left
    · intro w hSw; (try dsimp only at hSw); go_simp; try with_reducible rfl
    try simp only [Act.put, List.setIfInBounds_toArray, List.set_cons_zero, List.set_cons_succ]
    refine wpAnyH_take (i := 6) (oi := { dst := some 13, op := Op.lookup 37 (Operand.tmp 10) (Operand.tmp 12) true, type := 74, pos := "deeds.go:72", after := #[{ on := 3, ground := Ground.data }, { on := 5, ground := Ground.data }], guard := none }) (v := .tuple #[.agg #[.int .i64 hd, .slice sa sm sc], .bool true]) rfl (by kernel_rfl) (by kernel_rfl) (by kernel_rfl) (fun _ _ _ h => h) (Or.inl ⟨by rfl, ?_⟩) hHeld ?_
    · intro w hSw; obtain ⟨-, -, hlk⟩ := hSw; go_simp
    try simp only [Act.put, List.setIfInBounds_toArray, List.set_cons_zero, List.set_cons_succ]
    refine wpAnyH_take (i := 7) (oi := { dst := some 6, op := Op.move (Operand.tmp 13), type := 74, pos := "deeds.go:72", after := #[{ on := 6, ground := Ground.data }], guard := none }) (v := ?_) rfl (by kernel_rfl) (by kernel_rfl) (by kernel_rfl) (fun _ _ _ h => h) (Or.inl ⟨by rfl, ?_⟩) hHeld ?_
    rotate_left
    · intro w hSw; (try dsimp only at hSw); go_simp; try with_reducible rfl
    try simp only [Act.put, List.setIfInBounds_toArray, List.set_cons_zero, List.set_cons_succ]
    refine wpAnyH_take (i := 8) (oi := { dst := some 14, op := Op.extract (Operand.tmp 6) 0, type := 57, pos := "deeds.go:72", after := #[{ on := 7, ground := Ground.data }], guard := none }) (v := ?_) rfl (by kernel_rfl) (by kernel_rfl) (by kernel_rfl) (fun _ _ _ h => h) (Or.inl ⟨by rfl, ?_⟩) hHeld ?_
    rotate_left
    · intro w hSw; (try dsimp only at hSw); go_simp; try with_reducible rfl
    try simp only [Act.put, List.setIfInBounds_toArray, List.set_cons_zero, List.set_cons_succ]
    refine wpAnyH_take (i := 9) (oi := { dst := some 15, op := Op.extract (Operand.tmp 6) 1, type := 4, pos := "deeds.go:72", after := #[{ on := 7, ground := Ground.data }, { on := 11, ground := Ground.gcOnly Departure.lateStores }], guard := none }) (v := ?_) rfl (by kernel_rfl) (by kernel_rfl) (by kernel_rfl) (fun _ _ _ h => h) (Or.inl ⟨by rfl, ?_⟩) hHeld ?_
    rotate_left
    · intro w hSw; (try dsimp only at hSw); go_simp; try with_reducible rfl
    try simp only [Act.put, List.setIfInBounds_toArray, List.set_cons_zero, List.set_cons_succ]
    refine wpAnyH_ready (rs := [10]) (by kernel_rfl) (by simp) ?_
    refine AllReadyH.cons rfl (fun K hK => ?_) (AllReadyH.nil)
    go_simp
    refine hK.out _ _ (HS1.out _ (by first | exact HB2.out | exact ((Below.refl _ W1).alloc (Nat.le_refl _) _).drew | exact (Below.refl _ W1).drew.alloc (by simp) _)) (fun hHeld => ?_)
    clear hK K
    try simp only [Act.put, List.setIfInBounds_toArray, List.set_cons_zero, List.set_cons_succ]
    refine wpAnyH_ready (rs := [11]) (by kernel_rfl) (by simp) ?_
    refine AllReadyH.cons rfl (fun K hK => ?_) (AllReadyH.nil)
    go_simp
    refine hK.out _ _ (HS1.out _ (by first | exact HB2.out | exact ((Below.refl _ W1).alloc (Nat.le_refl _) _).drew | exact (Below.refl _ W1).drew.alloc (by simp) _)) (fun hHeld => ?_)
    clear hK K
    try simp only [Act.put, List.setIfInBounds_toArray, List.set_cons_zero, List.set_cons_succ]
    refine wpAnyH_take (i := 12) (oi := { dst := some 5, op := Op.assign (Operand.tmp 15), type := 4, pos := "deeds.go:72", after := #[{ on := 9, ground := Ground.data }, { on := 11, ground := Ground.chain }, { on := 0, ground := Ground.phase }, { on := 1, ground := Ground.phase }, { on := 2, ground := Ground.phase }, { on := 3, ground := Ground.phase }, { on := 4, ground := Ground.phase }, { on := 5, ground := Ground.phase }, { on := 6, ground := Ground.phase }, { on := 7, ground := Ground.phase }, { on := 8, ground := Ground.phase }, { on := 9, ground := Ground.phase }, { on := 10, ground := Ground.phase }, { on := 11, ground := Ground.phase }], guard := none }) (v := ?_) rfl (by kernel_rfl) (by kernel_rfl) (by kernel_rfl) (fun _ _ _ h => h) (Or.inl ⟨by rfl, ?_⟩) hHeld ?_
    rotate_left
    · intro w hSw; (try dsimp only at hSw); go_simp; try with_reducible rfl
    try simp only [Act.put, List.setIfInBounds_toArray, List.set_cons_zero, List.set_cons_succ]
    refine wpAnyH_done (by kernel_rfl) ?_ _
    clear hHeld
    try rw [hW2]
    go_wp2_with fail
    refine wp_region_held_drew (S := fun W => W.cell? ⟨w.heap.size, 1, none⟩ = some (.string t) ∧ W.cell? ⟨g, 3, none⟩ = some (.map (some M1)) ∧ W.cell? ⟨W1.heap.size, 0, none⟩ = some (.int .i64 (f)) ∧ W.cell? ⟨W1.heap.size, 1, none⟩ = some (.slice sa sm sc)) (by kernel_rfl) (HS3.out) (fun hHeld => ?_)
    refine wpAnyH_take (i := 0) (oi := { dst := some 19, op := Op.move (Operand.tmp 0), type := 23, pos := "deeds.go:74", after := #[], guard := none }) (v := ?_) rfl (by kernel_rfl) (by kernel_rfl) (by kernel_rfl) (fun _ _ _ h => h) (Or.inl ⟨by rfl, ?_⟩) hHeld ?_
    rotate_left
    · intro w hSw; (try dsimp only at hSw); go_simp; try with_reducible rfl
    try simp only [Act.put, List.setIfInBounds_toArray, List.set_cons_zero, List.set_cons_succ]
    refine wpAnyH_take (i := 1) (oi := { dst := some 20, op := Op.nilCheck (Operand.tmp 19), type := 0, pos := "deeds.go:74", after := #[{ on := 0, ground := Ground.data }], guard := none }) (v := ?_) rfl (by kernel_rfl) (by kernel_rfl) (by kernel_rfl) (fun _ _ _ h => h) (Or.inl ⟨by rfl, ?_⟩) hHeld ?_
    rotate_left
    · intro w hSw; (try dsimp only at hSw); go_simp; try with_reducible rfl
    try simp only [Act.put, List.setIfInBounds_toArray, List.set_cons_zero, List.set_cons_succ]
    refine wpAnyH_take (i := 2) (oi := { dst := some 21, op := Op.fieldAddr 41 (Operand.tmp 20) 3, type := 0, pos := "deeds.go:74", after := #[{ on := 1, ground := Ground.data }], guard := none }) (v := ?_) rfl (by kernel_rfl) (by kernel_rfl) (by kernel_rfl) (fun _ _ _ h => h) (Or.inl ⟨by rfl, ?_⟩) hHeld ?_
    rotate_left
    · intro w hSw; (try dsimp only at hSw); go_simp; try with_reducible rfl
    try simp only [Act.put, List.setIfInBounds_toArray, List.set_cons_zero, List.set_cons_succ]
    refine wpAnyH_take (i := 3) (oi := { dst := some 22, op := Op.load 37 (Operand.tmp 21), type := 37, pos := "deeds.go:74", after := #[{ on := 2, ground := Ground.data }], guard := none }) (v := ?_) rfl (by kernel_rfl) (by kernel_rfl) (by kernel_rfl) (fun _ _ _ h => h) (Or.inl ⟨by rfl, ?_⟩) hHeld ?_
    rotate_left
    · intro w hSw; (try dsimp only at hSw); go_simp; try with_reducible rfl
    try simp only [Act.put, List.setIfInBounds_toArray, List.set_cons_zero, List.set_cons_succ]
    refine wpAnyH_take (i := 4) (oi := { dst := some 23, op := Op.fieldAddr 31 (Operand.tmp 3) 1, type := 0, pos := "deeds.go:74", after := #[], guard := none }) (v := ?_) rfl (by kernel_rfl) (by kernel_rfl) (by kernel_rfl) (fun _ _ _ h => h) (Or.inl ⟨by rfl, ?_⟩) hHeld ?_
    rotate_left
    · intro w hSw; (try dsimp only at hSw); go_simp; try with_reducible rfl
    try simp only [Act.put, List.setIfInBounds_toArray, List.set_cons_zero, List.set_cons_succ]
    refine wpAnyH_take (i := 5) (oi := { dst := some 24, op := Op.load 9 (Operand.tmp 23), type := 9, pos := "deeds.go:74", after := #[{ on := 4, ground := Ground.data }], guard := none }) (v := ?_) rfl (by kernel_rfl) (by kernel_rfl) (by kernel_rfl) (fun _ _ _ h => h) (Or.inl ⟨by rfl, ?_⟩) hHeld ?_
    rotate_left
    · intro w hSw; (try dsimp only at hSw); go_simp; try with_reducible rfl
    try simp only [Act.put, List.setIfInBounds_toArray, List.set_cons_zero, List.set_cons_succ]
    refine wpAnyH_take (i := 6) (oi := { dst := some 25, op := Op.load 57 (Operand.tmp 4), type := 57, pos := "deeds.go:74", after := #[], guard := none }) (v := ?_) rfl (by kernel_rfl) (by kernel_rfl) (by kernel_rfl) (fun _ _ _ h => h) (Or.inl ⟨by rfl, ?_⟩) hHeld ?_
    rotate_left
    · intro w hSw; (try dsimp only at hSw); go_simp; try with_reducible rfl
    try simp only [Act.put, List.setIfInBounds_toArray, List.set_cons_zero, List.set_cons_succ]
    refine wpAnyH_ready (rs := [7]) (by kernel_rfl) (by simp) ?_
    refine AllReadyH.cons rfl (fun K hK => ?_) (AllReadyH.nil)
    go_simp
    refine hK.out _ _ (HS4.out) (fun hHeld => ?_)
    clear hK K
    try simp only [Act.put, List.setIfInBounds_toArray, List.set_cons_zero, List.set_cons_succ]
    refine wpAnyH_done (by kernel_rfl) ?_ _
    clear hHeld
    go_wp2_with fail
    go_end0
    exact ⟨rfl, HFin.out⟩
  | false =>
    have hsh : G.share s = [] := by unfold Gp.share; unfold Gp.has at hhb; cases hm : G.mem s with | none => rfl | some mb => rw [hm] at hhb; cases hhb
    rw [hsh] at hg4
    have hcl : G.ks.length < 100 := hc.resolve_left (by rw [hhb]; simp)
    have HD := hid (dealG_any (hg4.reks (risN (s :: G.ks))) (ho.came s hhb hcl hnm hy) hFl (by omega))
    have HC := hid hcF
    rw [if_neg (by simp)]
    clear h ho hF b1 x1 x2 x12 x3 x13 x14 x34 hg3 hg4 hc3 hc4 hcF hFl b2 b03 b03d hrow hin hlk hM1 z1 hsle hhd hsh hcl
    go_enter Tryz.func25, Tryz.ntmps25
    go_wp2_with fail
    refine wp_region_held_drew (S := fun W => W.cell? ⟨w.heap.size, 1, none⟩ = some (.string t) ∧ W.cell? ⟨g, 3, none⟩ = some (.map (some M1)) ∧ (Instr.lookup TMb (.map (some M1)) (.string t) true).run Tryz.prog W = .ok (.tuple #[.agg #[.int .i64 hd, .slice sa sm sc], .bool false]) W) (by kernel_rfl) (HS1.out _ (Below.refl _ W1).drew) (fun hHeld => ?_)
    refine wpAnyH_take (i := 0) (oi := { dst := some 7, op := Op.move (Operand.tmp 0), type := 23, pos := "deeds.go:72", after := #[], guard := none }) (v := ?_) rfl (by kernel_rfl) (by kernel_rfl) (by kernel_rfl) (fun _ _ _ h => h) (Or.inl ⟨by rfl, ?_⟩) hHeld ?_
    rotate_left
    · intro w hSw; (try dsimp only at hSw); go_simp; try with_reducible rfl
    try simp only [Act.put, List.setIfInBounds_toArray, List.set_cons_zero, List.set_cons_succ]
    refine wpAnyH_take (i := 1) (oi := { dst := some 8, op := Op.nilCheck (Operand.tmp 7), type := 0, pos := "deeds.go:72", after := #[{ on := 0, ground := Ground.data }], guard := none }) (v := ?_) rfl (by kernel_rfl) (by kernel_rfl) (by kernel_rfl) (fun _ _ _ h => h) (Or.inl ⟨by rfl, ?_⟩) hHeld ?_
    rotate_left
    · intro w hSw; (try dsimp only at hSw); go_simp; try with_reducible rfl
    try simp only [Act.put, List.setIfInBounds_toArray, List.set_cons_zero, List.set_cons_succ]
    refine wpAnyH_take (i := 2) (oi := { dst := some 9, op := Op.fieldAddr 41 (Operand.tmp 8) 3, type := 0, pos := "deeds.go:72", after := #[{ on := 1, ground := Ground.data }], guard := none }) (v := ?_) rfl (by kernel_rfl) (by kernel_rfl) (by kernel_rfl) (fun _ _ _ h => h) (Or.inl ⟨by rfl, ?_⟩) hHeld ?_
    rotate_left
    · intro w hSw; (try dsimp only at hSw); go_simp; try with_reducible rfl
    try simp only [Act.put, List.setIfInBounds_toArray, List.set_cons_zero, List.set_cons_succ]
    refine wpAnyH_take (i := 3) (oi := { dst := some 10, op := Op.load 37 (Operand.tmp 9), type := 37, pos := "deeds.go:72", after := #[{ on := 2, ground := Ground.data }], guard := none }) (v := ?_) rfl (by kernel_rfl) (by kernel_rfl) (by kernel_rfl) (fun _ _ _ h => h) (Or.inl ⟨by rfl, ?_⟩) hHeld ?_
    rotate_left
    · intro w hSw; (try dsimp only at hSw); go_simp; try with_reducible rfl
    try simp only [Act.put, List.setIfInBounds_toArray, List.set_cons_zero, List.set_cons_succ]
    refine wpAnyH_take (i := 4) (oi := { dst := some 11, op := Op.fieldAddr 31 (Operand.tmp 3) 1, type := 0, pos := "deeds.go:72", after := #[], guard := none }) (v := ?_) rfl (by kernel_rfl) (by kernel_rfl) (by kernel_rfl) (fun _ _ _ h => h) (Or.inl ⟨by rfl, ?_⟩) hHeld ?_
    rotate_left
    · intro w hSw; (try dsimp only at hSw); go_simp; try with_reducible rfl
    try simp only [Act.put, List.setIfInBounds_toArray, List.set_cons_zero, List.set_cons_succ]
    refine wpAnyH_take (i := 5) (oi := { dst := some 12, op := Op.load 9 (Operand.tmp 11), type := 9, pos := "deeds.go:72", after := #[{ on := 4, ground := Ground.data }], guard := none }) (v := ?_) rfl (by kernel_rfl) (by kernel_rfl) (by kernel_rfl) (fun _ _ _ h => h) (Or.inl ⟨by rfl, ?_⟩) hHeld ?_
    rotate_left
    · intro w hSw; (try dsimp only at hSw); go_simp; try with_reducible rfl
    try simp only [Act.put, List.setIfInBounds_toArray, List.set_cons_zero, List.set_cons_succ]
    refine wpAnyH_take (i := 6) (oi := { dst := some 13, op := Op.lookup 37 (Operand.tmp 10) (Operand.tmp 12) true, type := 74, pos := "deeds.go:72", after := #[{ on := 3, ground := Ground.data }, { on := 5, ground := Ground.data }], guard := none }) (v := .tuple #[.agg #[.int .i64 hd, .slice sa sm sc], .bool false]) rfl (by kernel_rfl) (by kernel_rfl) (by kernel_rfl) (fun _ _ _ h => h) (Or.inl ⟨by rfl, ?_⟩) hHeld ?_
    · intro w hSw; obtain ⟨-, -, hlk⟩ := hSw; go_simp
    try simp only [Act.put, List.setIfInBounds_toArray, List.set_cons_zero, List.set_cons_succ]
    refine wpAnyH_take (i := 7) (oi := { dst := some 6, op := Op.move (Operand.tmp 13), type := 74, pos := "deeds.go:72", after := #[{ on := 6, ground := Ground.data }], guard := none }) (v := ?_) rfl (by kernel_rfl) (by kernel_rfl) (by kernel_rfl) (fun _ _ _ h => h) (Or.inl ⟨by rfl, ?_⟩) hHeld ?_
    rotate_left
    · intro w hSw; (try dsimp only at hSw); go_simp; try with_reducible rfl
    try simp only [Act.put, List.setIfInBounds_toArray, List.set_cons_zero, List.set_cons_succ]
    refine wpAnyH_take (i := 8) (oi := { dst := some 14, op := Op.extract (Operand.tmp 6) 0, type := 57, pos := "deeds.go:72", after := #[{ on := 7, ground := Ground.data }], guard := none }) (v := ?_) rfl (by kernel_rfl) (by kernel_rfl) (by kernel_rfl) (fun _ _ _ h => h) (Or.inl ⟨by rfl, ?_⟩) hHeld ?_
    rotate_left
    · intro w hSw; (try dsimp only at hSw); go_simp; try with_reducible rfl
    try simp only [Act.put, List.setIfInBounds_toArray, List.set_cons_zero, List.set_cons_succ]
    refine wpAnyH_take (i := 9) (oi := { dst := some 15, op := Op.extract (Operand.tmp 6) 1, type := 4, pos := "deeds.go:72", after := #[{ on := 7, ground := Ground.data }, { on := 11, ground := Ground.gcOnly Departure.lateStores }], guard := none }) (v := ?_) rfl (by kernel_rfl) (by kernel_rfl) (by kernel_rfl) (fun _ _ _ h => h) (Or.inl ⟨by rfl, ?_⟩) hHeld ?_
    rotate_left
    · intro w hSw; (try dsimp only at hSw); go_simp; try with_reducible rfl
    try simp only [Act.put, List.setIfInBounds_toArray, List.set_cons_zero, List.set_cons_succ]
    refine wpAnyH_ready (rs := [10]) (by kernel_rfl) (by simp) ?_
    refine AllReadyH.cons rfl (fun K hK => ?_) (AllReadyH.nil)
    go_simp
    refine hK.out _ _ (HS1.out _ (by first | exact HB2.out | exact ((Below.refl _ W1).alloc (Nat.le_refl _) _).drew | exact (Below.refl _ W1).drew.alloc (by simp) _)) (fun hHeld => ?_)
    clear hK K
    try simp only [Act.put, List.setIfInBounds_toArray, List.set_cons_zero, List.set_cons_succ]
    refine wpAnyH_ready (rs := [11]) (by kernel_rfl) (by simp) ?_
    refine AllReadyH.cons rfl (fun K hK => ?_) (AllReadyH.nil)
    go_simp
    refine hK.out _ _ (HS1.out _ (by first | exact HB2.out | exact ((Below.refl _ W1).alloc (Nat.le_refl _) _).drew | exact (Below.refl _ W1).drew.alloc (by simp) _)) (fun hHeld => ?_)
    clear hK K
    try simp only [Act.put, List.setIfInBounds_toArray, List.set_cons_zero, List.set_cons_succ]
    refine wpAnyH_take (i := 12) (oi := { dst := some 5, op := Op.assign (Operand.tmp 15), type := 4, pos := "deeds.go:72", after := #[{ on := 9, ground := Ground.data }, { on := 11, ground := Ground.chain }, { on := 0, ground := Ground.phase }, { on := 1, ground := Ground.phase }, { on := 2, ground := Ground.phase }, { on := 3, ground := Ground.phase }, { on := 4, ground := Ground.phase }, { on := 5, ground := Ground.phase }, { on := 6, ground := Ground.phase }, { on := 7, ground := Ground.phase }, { on := 8, ground := Ground.phase }, { on := 9, ground := Ground.phase }, { on := 10, ground := Ground.phase }, { on := 11, ground := Ground.phase }], guard := none }) (v := ?_) rfl (by kernel_rfl) (by kernel_rfl) (by kernel_rfl) (fun _ _ _ h => h) (Or.inl ⟨by rfl, ?_⟩) hHeld ?_
    rotate_left
    · intro w hSw; (try dsimp only at hSw); go_simp; try with_reducible rfl
    try simp only [Act.put, List.setIfInBounds_toArray, List.set_cons_zero, List.set_cons_succ]
    refine wpAnyH_done (by kernel_rfl) ?_ _
    clear hHeld
    try rw [hW2]
    go_wp2_with fail
    refine wp_region_held_drew (S := fun W => W.cell? ⟨w.heap.size, 1, none⟩ = some (.string t) ∧ W.cell? ⟨g, 3, none⟩ = some (.map (some M1)) ∧ W.cell? ⟨W1.heap.size, 0, none⟩ = some (.int .i64 (f)) ∧ W.cell? ⟨W1.heap.size, 1, none⟩ = some (.slice sa sm sc)) (by kernel_rfl) (HS3.out) (fun hHeld => ?_)
    refine wpAnyH_take (i := 0) (oi := { dst := some 19, op := Op.move (Operand.tmp 0), type := 23, pos := "deeds.go:74", after := #[], guard := none }) (v := ?_) rfl (by kernel_rfl) (by kernel_rfl) (by kernel_rfl) (fun _ _ _ h => h) (Or.inl ⟨by rfl, ?_⟩) hHeld ?_
    rotate_left
    · intro w hSw; (try dsimp only at hSw); go_simp; try with_reducible rfl
    try simp only [Act.put, List.setIfInBounds_toArray, List.set_cons_zero, List.set_cons_succ]
    refine wpAnyH_take (i := 1) (oi := { dst := some 20, op := Op.nilCheck (Operand.tmp 19), type := 0, pos := "deeds.go:74", after := #[{ on := 0, ground := Ground.data }], guard := none }) (v := ?_) rfl (by kernel_rfl) (by kernel_rfl) (by kernel_rfl) (fun _ _ _ h => h) (Or.inl ⟨by rfl, ?_⟩) hHeld ?_
    rotate_left
    · intro w hSw; (try dsimp only at hSw); go_simp; try with_reducible rfl
    try simp only [Act.put, List.setIfInBounds_toArray, List.set_cons_zero, List.set_cons_succ]
    refine wpAnyH_take (i := 2) (oi := { dst := some 21, op := Op.fieldAddr 41 (Operand.tmp 20) 3, type := 0, pos := "deeds.go:74", after := #[{ on := 1, ground := Ground.data }], guard := none }) (v := ?_) rfl (by kernel_rfl) (by kernel_rfl) (by kernel_rfl) (fun _ _ _ h => h) (Or.inl ⟨by rfl, ?_⟩) hHeld ?_
    rotate_left
    · intro w hSw; (try dsimp only at hSw); go_simp; try with_reducible rfl
    try simp only [Act.put, List.setIfInBounds_toArray, List.set_cons_zero, List.set_cons_succ]
    refine wpAnyH_take (i := 3) (oi := { dst := some 22, op := Op.load 37 (Operand.tmp 21), type := 37, pos := "deeds.go:74", after := #[{ on := 2, ground := Ground.data }], guard := none }) (v := ?_) rfl (by kernel_rfl) (by kernel_rfl) (by kernel_rfl) (fun _ _ _ h => h) (Or.inl ⟨by rfl, ?_⟩) hHeld ?_
    rotate_left
    · intro w hSw; (try dsimp only at hSw); go_simp; try with_reducible rfl
    try simp only [Act.put, List.setIfInBounds_toArray, List.set_cons_zero, List.set_cons_succ]
    refine wpAnyH_take (i := 4) (oi := { dst := some 23, op := Op.fieldAddr 31 (Operand.tmp 3) 1, type := 0, pos := "deeds.go:74", after := #[], guard := none }) (v := ?_) rfl (by kernel_rfl) (by kernel_rfl) (by kernel_rfl) (fun _ _ _ h => h) (Or.inl ⟨by rfl, ?_⟩) hHeld ?_
    rotate_left
    · intro w hSw; (try dsimp only at hSw); go_simp; try with_reducible rfl
    try simp only [Act.put, List.setIfInBounds_toArray, List.set_cons_zero, List.set_cons_succ]
    refine wpAnyH_take (i := 5) (oi := { dst := some 24, op := Op.load 9 (Operand.tmp 23), type := 9, pos := "deeds.go:74", after := #[{ on := 4, ground := Ground.data }], guard := none }) (v := ?_) rfl (by kernel_rfl) (by kernel_rfl) (by kernel_rfl) (fun _ _ _ h => h) (Or.inl ⟨by rfl, ?_⟩) hHeld ?_
    rotate_left
    · intro w hSw; (try dsimp only at hSw); go_simp; try with_reducible rfl
    try simp only [Act.put, List.setIfInBounds_toArray, List.set_cons_zero, List.set_cons_succ]
    refine wpAnyH_take (i := 6) (oi := { dst := some 25, op := Op.load 57 (Operand.tmp 4), type := 57, pos := "deeds.go:74", after := #[], guard := none }) (v := ?_) rfl (by kernel_rfl) (by kernel_rfl) (by kernel_rfl) (fun _ _ _ h => h) (Or.inl ⟨by rfl, ?_⟩) hHeld ?_
    rotate_left
    · intro w hSw; (try dsimp only at hSw); go_simp; try with_reducible rfl
    try simp only [Act.put, List.setIfInBounds_toArray, List.set_cons_zero, List.set_cons_succ]
    refine wpAnyH_ready (rs := [7]) (by kernel_rfl) (by simp) ?_
    refine AllReadyH.cons rfl (fun K hK => ?_) (AllReadyH.nil)
    go_simp
    refine hK.out _ _ (HS4.out) (fun hHeld => ?_)
    clear hK K
    try simp only [Act.put, List.setIfInBounds_toArray, List.set_cons_zero, List.set_cons_succ]
    refine wpAnyH_done (by kernel_rfl) ?_ _
    clear hHeld
    go_wp2_with (go_at_call 47; (with_reducible_and_instances (refine HD.out.mono ?_)); rintro r w9 ⟨rfl, hm9⟩; have HM9 := hid (hm9.ahead HC.out); clear hm9)
    go_end0
    exact ⟨rfl, HM9.out⟩
end Go.Proofs.YtipgociofjokeaaGreat
namespace Go.Proofs.YtipgociofjokeaaGreat
open Go.RowKit Go.Shelf Go.Sort
variable {w w' : World} {g M1 M2 M3 n : Nat} {A : Nm → Sl} {pv : Value} {G : Gp} {F : List Nat}

set_option maxRecDepth 100000 in
set_option maxHeartbeats 1000000 in
theorem beat_any (h : GAt w F g n G) (x : Ev) (hs : x.mem.length ≤ maxLen) (hy : inN x.now) (hh : G.has x.mem = true) (hn : n + 200 ≤ 4611686018427387904) : Calls Tryz.prog 27 #[.pointer (some ⟨g, 0, none⟩), .agg (evA x)] w fun r w' => r = .returned (.tuple #[]) ∧ GMv w w' F g (n + 1) { G with mem := setN G.mem x.mem (some ⟨max (G.heard x.mem) x.now, G.share x.mem⟩) } := by
  obtain ⟨⟨M1, M2, M3, A, pv, h⟩, ho, hF⟩ := h
  obtain ⟨k, s, a, b, c, d, e, f, q⟩ := x
  dsimp only at *
  obtain ⟨t, ht⟩ : ∃ t, nmS s = t := ⟨_, rfl⟩
  show Calls Tryz.prog _ #[_, .agg #[.int .i64 k, .string (nmS s), .int .i64 a, .int .i64 b, .int .i64 c, .int .i64 d, .int .i64 e, .int .i64 f, .bool q]] w _
  rw [ht]
  obtain ⟨W1, hW1⟩ : ∃ W1, w.alloc (.cells #[.int .i64 k, .string t, .int .i64 a, .int .i64 b, .int .i64 c, .int .i64 d, .int .i64 e, .int .i64 f, .bool q] TEv) = W1 := ⟨_, rfl⟩
  have b1 : Below w.heap.size w W1 := by rw [← hW1]; exact (Below.refl _ _).alloc (Nat.le_refl _) _
  have x1 : Blk W1 w.heap.size #[.int .i64 k, .string t, .int .i64 a, .int .i64 b, .int .i64 c, .int .i64 d, .int .i64 e, .int .i64 f, .bool q] TEv := by rw [← hW1]; exact heap_alloc_new w _
  obtain ⟨hd, hhd⟩ : ∃ hd, G.heard s = hd := ⟨_, rfl⟩
  obtain ⟨hb, hhb⟩ : ∃ hb, G.has s = hb := ⟨_, rfl⟩
  obtain ⟨sl, hsle⟩ : ∃ sl, slOf G A s = sl := ⟨_, rfl⟩
  have hlk : ∀ W, Below w.heap.size w W → (Instr.lookup TMb (.map (some M1)) (.string t) false).run Tryz.prog W = .ok (.agg #[.int .i64 hd, .slice sl.ad sl.m sl.c]) W := fun W hW => by
    have h := (h.later hW).look s hs
    rw [ht, hsle, hhd] at h
    exact h
  have hrow : OwnK kZ w 0 sl.v (G.share s) := by rw [← hsle]; exact h.shareAt s
  have hin : ∀ b, sl.v.ownBlock = some b → b ∈ F := fun b hb => by
    rw [← hsle] at hb
    unfold slOf at hb
    split at hb
    · rename_i hsm
      obtain ⟨mb, hmb⟩ := Option.isSome_iff_exists.1 hsm
      exact h.inR s mb b hmb hb
    · cases hb
  obtain ⟨sa, sm, sc⟩ := sl
  dsimp only at hlk
  have HS1 : Hid (∀ W, Below W1.heap.size W1 W → W.cell? ⟨w.heap.size, 1, none⟩ = some (.string t) ∧ W.cell? ⟨g, 3, none⟩ = some (.map (some M1)) ∧ (Instr.lookup TMb (.map (some M1)) (.string t) false).run Tryz.prog W = .ok (.agg #[.int .i64 hd, .slice sa sm sc]) W) := fun W hW => by
    have hx := x1.later hW
    have hb2 : Below w.heap.size w W := b1.trans (hW.mono b1.size)
    exact ⟨hx.cell 1, (h.later hb2).box.cell 3, hlk W hb2⟩
  obtain ⟨W2, hW2⟩ : ∃ W2, (W1.alloc (.cells #[.int .i64 hd, .slice sa sm sc] 57)).drew = W2 := ⟨_, rfl⟩
  have b2 : Below W1.heap.size W1 W2 := by rw [← hW2]; exact ((Below.refl _ _).alloc (Nat.le_refl _) _).drew
  have x2 : Blk W2 W1.heap.size #[.int .i64 hd, .slice sa sm sc] 57 := by rw [← hW2]; exact heap_alloc_new W1 _
  have HB2 := hid b2
  have x12 := x1.later b2
  have z1 : W1.heap.size = w.heap.size + 1 := by rw [← hW1]; simp
  have q1 := x12.cell 7
  have q2 := x2.cell 0
  have q3 := x2.free 0
  simp only [List.getElem?_toArray, List.getElem?_cons_zero, List.getElem?_cons_succ] at q1 q2
  obtain ⟨W3, hW3⟩ : ∃ W3, W2.setCell ⟨W1.heap.size, 0, none⟩ (.int .i64 (max hd f)) = W3 := ⟨_, rfl⟩
  have hc3 : Chg [W1.heap.size] W2 W3 := by rw [← hW3]; exact (Chg.refl _ _).set (Or.inl (by simp)) 0 _
  have x3 : Blk W3 W1.heap.size #[.int .i64 (max hd f), .slice sa sm sc] 57 := by rw [← hW3]; exact x2.set 0 _
  have x13 := x12.chg hc3 (by simp; omega)
  have b03 : Below w.heap.size w W3 := (b1.trans (b2.mono b1.size)).trans (hc3.below (fun k hk => by simp at hk; omega) (by have := b1.size; have := b2.size; omega))
  have b03d : Below w.heap.size w W3.drew := b03.drew
  have hg3 := h.later b03d
  obtain ⟨W4, hr4, hg4, hc4⟩ := hg3.storeMem (by unfold maxLen; omega) s hs ⟨max hd f, G.share s⟩ ⟨sa, sm, sc⟩ (hrow.later b03d) hin
  rw [ht] at hr4
  dsimp only at hr4
  have HS3 : Hid (W3.drew.cell? ⟨w.heap.size, 1, none⟩ = some (.string t) ∧ W3.drew.cell? ⟨g, 3, none⟩ = some (.map (some M1)) ∧ W3.drew.cell? ⟨W1.heap.size, 0, none⟩ = some (.int .i64 (max hd f)) ∧ W3.drew.cell? ⟨W1.heap.size, 1, none⟩ = some (.slice sa sm sc)) := ⟨x13.cell 1, hg3.box.cell 3, x3.cell 0, x3.cell 1⟩
  have hM1 : M1 < w.heap.size := h.mem.lt
  have x14 : Blk W4 w.heap.size #[.int .i64 k, .string t, .int .i64 a, .int .i64 b, .int .i64 c, .int .i64 d, .int .i64 e, .int .i64 f, .bool q] TEv := Blk.chg (w := W3.drew) x13 hc4 (by simp; omega)
  have x34 : Blk W4 W1.heap.size #[.int .i64 (max hd f), .slice sa sm sc] 57 := Blk.chg (w := W3.drew) x3 hc4 (by simp; omega)
  have HS4 : Hid (W4.cell? ⟨w.heap.size, 1, none⟩ = some (.string t) ∧ W4.cell? ⟨g, 3, none⟩ = some (.map (some M1)) ∧ W4.cell? ⟨W1.heap.size, 0, none⟩ = some (.int .i64 (max hd f)) ∧ W4.cell? ⟨W1.heap.size, 1, none⟩ = some (.slice sa sm sc)) := ⟨x14.cell 1, hg4.box.cell 3, x34.cell 0, x34.cell 1⟩
  have hcF : Chg F w W4 := (Chg.of b03d).trans (hc4.mono (fun k hk => by simp at hk; subst hk; exact h.in1)) (fun k hk => Or.inl hk)
  have hFl : ∀ b ∈ F, b < W4.heap.size := fun b hb => Nat.lt_of_lt_of_le (hF b hb) hcF.size
  have hmx : inN (max (G.heard s) f) := by
    have h1 := ho.heardIn s
    unfold inN at hy ⊢
    omega
  have HFin : Hid (GMv w W4 F g (n + 1) { G with mem := setN G.mem s (some ⟨max (G.heard s) f, G.share s⟩) }) := by
    have h9 := ho.heardAt s hh hmx
    rw [hhd] at h9 ⊢
    exact ⟨F, ⟨⟨M1, M2, M3, _, pv, hg4⟩, h9, hFl⟩, hcF, fun b hb => Or.inl hb⟩
  clear h ho hF b1 x1 x2 x12 x3 x13 x14 x34 hg3 hg4 hc3 hc4 hcF hFl b2 b03 b03d hrow hin hlk hM1 z1 hsle hmx
  go_enter Tryz.func27, Tryz.ntmps27
  go_wp2_with fail
  refine wp_region_held_drew (S := fun W => W.cell? ⟨w.heap.size, 1, none⟩ = some (.string t) ∧ W.cell? ⟨g, 3, none⟩ = some (.map (some M1)) ∧ (Instr.lookup TMb (.map (some M1)) (.string t) false).run Tryz.prog W = .ok (.agg #[.int .i64 hd, .slice sa sm sc]) W) (by kernel_rfl) (HS1.out _ (Below.refl _ W1).drew) (fun hHeld => ?_)
  refine wpAnyH_take (i := 0) (oi := { dst := some 5, op := Op.move (Operand.tmp 0), type := 23, pos := "deeds.go:86", after := #[], guard := none }) (v := ?_) rfl (by kernel_rfl) (by kernel_rfl) (by kernel_rfl) (fun _ _ _ h => h) (Or.inl ⟨by rfl, ?_⟩) hHeld ?_
  rotate_left
  · intro w hSw; (try dsimp only at hSw); go_simp; try with_reducible rfl
  try simp only [Act.put, List.setIfInBounds_toArray, List.set_cons_zero, List.set_cons_succ]
  refine wpAnyH_take (i := 1) (oi := { dst := some 6, op := Op.nilCheck (Operand.tmp 5), type := 0, pos := "deeds.go:86", after := #[{ on := 0, ground := Ground.data }], guard := none }) (v := ?_) rfl (by kernel_rfl) (by kernel_rfl) (by kernel_rfl) (fun _ _ _ h => h) (Or.inl ⟨by rfl, ?_⟩) hHeld ?_
  rotate_left
  · intro w hSw; (try dsimp only at hSw); go_simp; try with_reducible rfl
  try simp only [Act.put, List.setIfInBounds_toArray, List.set_cons_zero, List.set_cons_succ]
  refine wpAnyH_take (i := 2) (oi := { dst := some 7, op := Op.fieldAddr 41 (Operand.tmp 6) 3, type := 0, pos := "deeds.go:86", after := #[{ on := 1, ground := Ground.data }], guard := none }) (v := ?_) rfl (by kernel_rfl) (by kernel_rfl) (by kernel_rfl) (fun _ _ _ h => h) (Or.inl ⟨by rfl, ?_⟩) hHeld ?_
  rotate_left
  · intro w hSw; (try dsimp only at hSw); go_simp; try with_reducible rfl
  try simp only [Act.put, List.setIfInBounds_toArray, List.set_cons_zero, List.set_cons_succ]
  refine wpAnyH_take (i := 3) (oi := { dst := some 8, op := Op.load 37 (Operand.tmp 7), type := 37, pos := "deeds.go:86", after := #[{ on := 2, ground := Ground.data }], guard := none }) (v := ?_) rfl (by kernel_rfl) (by kernel_rfl) (by kernel_rfl) (fun _ _ _ h => h) (Or.inl ⟨by rfl, ?_⟩) hHeld ?_
  rotate_left
  · intro w hSw; (try dsimp only at hSw); go_simp; try with_reducible rfl
  try simp only [Act.put, List.setIfInBounds_toArray, List.set_cons_zero, List.set_cons_succ]
  refine wpAnyH_take (i := 4) (oi := { dst := some 9, op := Op.fieldAddr 31 (Operand.tmp 3) 1, type := 0, pos := "deeds.go:86", after := #[], guard := none }) (v := ?_) rfl (by kernel_rfl) (by kernel_rfl) (by kernel_rfl) (fun _ _ _ h => h) (Or.inl ⟨by rfl, ?_⟩) hHeld ?_
  rotate_left
  · intro w hSw; (try dsimp only at hSw); go_simp; try with_reducible rfl
  try simp only [Act.put, List.setIfInBounds_toArray, List.set_cons_zero, List.set_cons_succ]
  refine wpAnyH_take (i := 5) (oi := { dst := some 10, op := Op.load 9 (Operand.tmp 9), type := 9, pos := "deeds.go:86", after := #[{ on := 4, ground := Ground.data }], guard := none }) (v := ?_) rfl (by kernel_rfl) (by kernel_rfl) (by kernel_rfl) (fun _ _ _ h => h) (Or.inl ⟨by rfl, ?_⟩) hHeld ?_
  rotate_left
  · intro w hSw; (try dsimp only at hSw); go_simp; try with_reducible rfl
  try simp only [Act.put, List.setIfInBounds_toArray, List.set_cons_zero, List.set_cons_succ]
  refine wpAnyH_take (i := 6) (oi := { dst := some 11, op := Op.lookup 37 (Operand.tmp 8) (Operand.tmp 10) false, type := 57, pos := "deeds.go:86", after := #[{ on := 3, ground := Ground.data }, { on := 5, ground := Ground.data }], guard := none }) (v := .agg #[.int .i64 hd, .slice sa sm sc]) rfl (by kernel_rfl) (by kernel_rfl) (by kernel_rfl) (fun _ _ _ h => h) (Or.inl ⟨by rfl, ?_⟩) hHeld ?_
  · intro w hSw; obtain ⟨-, -, hlk⟩ := hSw; go_simp
  try simp only [Act.put, List.setIfInBounds_toArray, List.set_cons_zero, List.set_cons_succ]
  refine wpAnyH_ready (rs := [7]) (by kernel_rfl) (by simp) ?_
  refine AllReadyH.cons rfl (fun K hK => ?_) (AllReadyH.nil)
  go_simp
  refine hK.out _ _ (HS1.out _ (by first | exact HB2.out | exact ((Below.refl _ W1).alloc (Nat.le_refl _) _).drew | exact (Below.refl _ W1).drew.alloc (by simp) _)) (fun hHeld => ?_)
  clear hK K
  try simp only [Act.put, List.setIfInBounds_toArray, List.set_cons_zero, List.set_cons_succ]
  refine wpAnyH_ready (rs := [8]) (by kernel_rfl) (by simp) ?_
  refine AllReadyH.cons rfl (fun K hK => ?_) (AllReadyH.nil)
  go_simp
  refine hK.out _ _ (HS1.out _ (by first | exact HB2.out | exact ((Below.refl _ W1).alloc (Nat.le_refl _) _).drew | exact (Below.refl _ W1).drew.alloc (by simp) _)) (fun hHeld => ?_)
  clear hK K
  try simp only [Act.put, List.setIfInBounds_toArray, List.set_cons_zero, List.set_cons_succ]
  refine wpAnyH_done (by kernel_rfl) ?_ _
  clear hHeld
  try rw [hW2]
  go_wp2_with fail
  refine wp_region_held_drew (S := fun W => W.cell? ⟨w.heap.size, 1, none⟩ = some (.string t) ∧ W.cell? ⟨g, 3, none⟩ = some (.map (some M1)) ∧ W.cell? ⟨W1.heap.size, 0, none⟩ = some (.int .i64 (max hd f)) ∧ W.cell? ⟨W1.heap.size, 1, none⟩ = some (.slice sa sm sc)) (by kernel_rfl) (HS3.out) (fun hHeld => ?_)
  refine wpAnyH_take (i := 0) (oi := { dst := some 18, op := Op.move (Operand.tmp 0), type := 23, pos := "deeds.go:88", after := #[], guard := none }) (v := ?_) rfl (by kernel_rfl) (by kernel_rfl) (by kernel_rfl) (fun _ _ _ h => h) (Or.inl ⟨by rfl, ?_⟩) hHeld ?_
  rotate_left
  · intro w hSw; (try dsimp only at hSw); go_simp; try with_reducible rfl
  try simp only [Act.put, List.setIfInBounds_toArray, List.set_cons_zero, List.set_cons_succ]
  refine wpAnyH_take (i := 1) (oi := { dst := some 19, op := Op.nilCheck (Operand.tmp 18), type := 0, pos := "deeds.go:88", after := #[{ on := 0, ground := Ground.data }], guard := none }) (v := ?_) rfl (by kernel_rfl) (by kernel_rfl) (by kernel_rfl) (fun _ _ _ h => h) (Or.inl ⟨by rfl, ?_⟩) hHeld ?_
  rotate_left
  · intro w hSw; (try dsimp only at hSw); go_simp; try with_reducible rfl
  try simp only [Act.put, List.setIfInBounds_toArray, List.set_cons_zero, List.set_cons_succ]
  refine wpAnyH_take (i := 2) (oi := { dst := some 20, op := Op.fieldAddr 41 (Operand.tmp 19) 3, type := 0, pos := "deeds.go:88", after := #[{ on := 1, ground := Ground.data }], guard := none }) (v := ?_) rfl (by kernel_rfl) (by kernel_rfl) (by kernel_rfl) (fun _ _ _ h => h) (Or.inl ⟨by rfl, ?_⟩) hHeld ?_
  rotate_left
  · intro w hSw; (try dsimp only at hSw); go_simp; try with_reducible rfl
  try simp only [Act.put, List.setIfInBounds_toArray, List.set_cons_zero, List.set_cons_succ]
  refine wpAnyH_take (i := 3) (oi := { dst := some 21, op := Op.load 37 (Operand.tmp 20), type := 37, pos := "deeds.go:88", after := #[{ on := 2, ground := Ground.data }], guard := none }) (v := ?_) rfl (by kernel_rfl) (by kernel_rfl) (by kernel_rfl) (fun _ _ _ h => h) (Or.inl ⟨by rfl, ?_⟩) hHeld ?_
  rotate_left
  · intro w hSw; (try dsimp only at hSw); go_simp; try with_reducible rfl
  try simp only [Act.put, List.setIfInBounds_toArray, List.set_cons_zero, List.set_cons_succ]
  refine wpAnyH_take (i := 4) (oi := { dst := some 22, op := Op.fieldAddr 31 (Operand.tmp 3) 1, type := 0, pos := "deeds.go:88", after := #[], guard := none }) (v := ?_) rfl (by kernel_rfl) (by kernel_rfl) (by kernel_rfl) (fun _ _ _ h => h) (Or.inl ⟨by rfl, ?_⟩) hHeld ?_
  rotate_left
  · intro w hSw; (try dsimp only at hSw); go_simp; try with_reducible rfl
  try simp only [Act.put, List.setIfInBounds_toArray, List.set_cons_zero, List.set_cons_succ]
  refine wpAnyH_take (i := 5) (oi := { dst := some 23, op := Op.load 9 (Operand.tmp 22), type := 9, pos := "deeds.go:88", after := #[{ on := 4, ground := Ground.data }], guard := none }) (v := ?_) rfl (by kernel_rfl) (by kernel_rfl) (by kernel_rfl) (fun _ _ _ h => h) (Or.inl ⟨by rfl, ?_⟩) hHeld ?_
  rotate_left
  · intro w hSw; (try dsimp only at hSw); go_simp; try with_reducible rfl
  try simp only [Act.put, List.setIfInBounds_toArray, List.set_cons_zero, List.set_cons_succ]
  refine wpAnyH_take (i := 6) (oi := { dst := some 24, op := Op.load 57 (Operand.tmp 4), type := 57, pos := "deeds.go:88", after := #[], guard := none }) (v := ?_) rfl (by kernel_rfl) (by kernel_rfl) (by kernel_rfl) (fun _ _ _ h => h) (Or.inl ⟨by rfl, ?_⟩) hHeld ?_
  rotate_left
  · intro w hSw; (try dsimp only at hSw); go_simp; try with_reducible rfl
  try simp only [Act.put, List.setIfInBounds_toArray, List.set_cons_zero, List.set_cons_succ]
  refine wpAnyH_ready (rs := [7]) (by kernel_rfl) (by simp) ?_
  refine AllReadyH.cons rfl (fun K hK => ?_) (AllReadyH.nil)
  go_simp
  refine hK.out _ _ (HS4.out) (fun hHeld => ?_)
  clear hK K
  try simp only [Act.put, List.setIfInBounds_toArray, List.set_cons_zero, List.set_cons_succ]
  refine wpAnyH_done (by kernel_rfl) ?_ _
  clear hHeld
  go_wp2_with fail
  go_end0
  exact ⟨rfl, HFin.out⟩
/-- Those who were silent are gone. -/
theorem GOk.gone {k : Nat} (ho : GOk k G) (now : Int) : GOk k { G with mem := fun nm => if nm ∈ G.silent now then none else G.mem nm, ks := G.ks.filter (fun nm => decide (now < G.heard nm + G.sess)) } := by
  have hk : ∀ q mb, (if q ∈ G.silent now then none else G.mem q) = some mb → G.mem q = some mb := fun q mb hq => by
    split at hq
    · cases hq
    · exact hq
  refine ⟨ho.sorted.filter _, ho.nodup.filter _, fun q => ?_, fun q hq => ho.name q (List.mem_filter.1 hq).1, Nat.le_trans (List.length_filter_le _ _) ho.cnt, ho.parts, ho.sess, fun q mb hq => ho.heard q mb (hk q mb hq), fun q mb hq => ho.share q mb (hk q mb hq), ho.gen, ho.pend, ho.pin⟩
  show q ∈ G.ks.filter _ ↔ (if q ∈ G.silent now then none else G.mem q).isSome = true
  have hm := ho.mem q
  have hsil : q ∈ G.silent now ↔ q ∈ G.ks ∧ ¬ now < G.heard q + G.sess := by unfold Gp.silent; rw [List.mem_filter]; simp
  rw [List.mem_filter]
  by_cases h1 : q ∈ G.ks
  · by_cases h2 : now < G.heard q + G.sess
    · rw [if_neg (fun h => (hsil.1 h).2 h2)]
      simp [h1, h2, ← hm]
    · rw [if_pos (hsil.2 ⟨h1, h2⟩)]
      simp [h2]
  · rw [if_neg (fun h => h1 (hsil.1 h).1)]
    simp [h1, ← hm]
theorem take_mem_snoc {l : List Nm} {j : Nat} (hj : j < l.length) (T : Nm → Option Mb) : setN (fun nm => if nm ∈ l.take j then none else T nm) (l.getD j []) none = (fun nm => if nm ∈ l.take (j + 1) then none else T nm) := by
  funext q
  rw [take_snoc_any l [] j hj]
  by_cases e : q = l.getD j []
  · rw [e, setN_same, if_pos (by simp)]
  · rw [setN_other _ e]
    by_cases h1 : q ∈ l.take j
    · rw [if_pos h1, if_pos (List.mem_append_left _ h1)]
    · rw [if_neg h1, if_neg (fun h => by rcases List.mem_append.1 h with h | h; exact h1 h; exact e (by simpa using h))]
set_option maxRecDepth 100000 in
set_option maxHeartbeats 1000000 in
theorem expire_any (h : GAt w F g n G) (x : Ev) (hn : n + 200 ≤ 4611686018427387904) : Calls Tryz.prog 29 #[.pointer (some ⟨g, 0, none⟩), .agg (evA x)] w fun r w' => r = .returned (.tuple #[]) ∧ GMv w w' F g (n + 101) (Gp.deal { G with mem := fun nm => if nm ∈ G.silent x.now then none else G.mem nm, ks := G.ks.filter (fun nm => decide (x.now < G.heard nm + G.sess)) }) := by
  obtain ⟨⟨M1, M2, M3, A, pv, h⟩, ho, hF⟩ := h
  obtain ⟨k, s, a, b, c, d, e, f, q⟩ := x
  dsimp only at *
  obtain ⟨t, ht⟩ : ∃ t, nmS s = t := ⟨_, rfl⟩
  show Calls Tryz.prog _ #[_, .agg #[.int .i64 k, .string (nmS s), .int .i64 a, .int .i64 b, .int .i64 c, .int .i64 d, .int .i64 e, .int .i64 f, .bool q]] w _
  rw [ht]
  obtain ⟨W1, hW1⟩ : ∃ W1, w.alloc (.cells #[.int .i64 k, .string t, .int .i64 a, .int .i64 b, .int .i64 c, .int .i64 d, .int .i64 e, .int .i64 f, .bool q] TEv) = W1 := ⟨_, rfl⟩
  have b1 : Below w.heap.size w W1 := by rw [← hW1]; exact (Below.refl _ _).alloc (Nat.le_refl _) _
  have x1 : Blk W1 w.heap.size #[.int .i64 k, .string t, .int .i64 a, .int .i64 b, .int .i64 c, .int .i64 d, .int .i64 e, .int .i64 f, .bool q] TEv := by rw [← hW1]; exact heap_alloc_new w _
  have hg1 := h.later b1
  have c7 := x1.cell 7
  simp only [List.getElem?_toArray, List.getElem?_cons_zero, List.getElem?_cons_succ] at c7
  have HSi := hid (silent_any hg1 ho f)
  have HGo := hid (ho.gone f)
  have hsl : (G.silent f).length ≤ 100 := Nat.le_trans (List.length_filter_le _ _) ho.cnt
  have HNl : Hid (∀ q ∈ G.silent f, q.length ≤ maxLen) := fun q hq => name_len ho q (List.mem_filter.1 hq).1
  have hC1 : Chg F w W1 := Chg.of b1
  have HG1 := hid hg1
  have HC1 := hid hC1
  have HFl := hid hF
  clear h ho hF b1 x1 hg1 hC1
  generalize hsle : G.silent f = sil at *
  obtain ⟨m, hm⟩ : ∃ m, sil.length = m := ⟨_, rfl⟩
  rw [hm] at hsl
  have HM := hid hm
  clear hm hsle
  go_enter Tryz.func29, Tryz.ntmps29
  go_wp2_with (go_at_call 48; (with_reducible_and_instances (refine HSi.out.mono ?_)); rintro r W2 ⟨v, rfl, hO, hb⟩; obtain ⟨na, nc, hv, hA⟩ := hO.form kS_ok.tofit; rw [HM.out] at hv hA; subst hv; have HNb : Hid (∀ b off, na = some ⟨b, off, none⟩ → W1.heap.size ≤ b) := (fun b off e => (hO.block b (by rw [e]; rfl)).1); have HA2 := hid hA; have HB2 := hid hb; clear hO hA hb)
  have HG2 : Hid (GP W2 F g M1 M2 M3 n A pv { G with mem := fun nm => if nm ∈ sil.take 0 then none else G.mem nm }) := HG1.out.later HB2.out
  go_loopw [11] (fun i wr => ∃ j : Nat, j ≤ m ∧ i = .int .i64 (j : Int) ∧ Hid (GP wr F g M1 M2 M3 n A pv { G with mem := fun nm => if nm ∈ sil.take j then none else G.mem nm }) ∧ Hid (ArgK kS wr sil na m nc) ∧ Hid (Chg [M1] W2 wr)) (fun i _ => m - (intOf i).toNat)
  case atStart => exact ⟨0, by omega, rfl, HG2, HA2, Chg.refl _ _⟩
  case round =>
    obtain ⟨j, hj, rfl, HGj, HAj, HCj⟩ := hrel
    clear HG2 HA2
    by_cases hlt : j < m
    · obtain ⟨b, off, rfl, hs, hc⟩ := HAj.out.cells (by omega)
      have r0 : wr.cell? ⟨b, off + j, none⟩ = some (.string (nmS (sil.getD j []))) := by have := hc j hlt 0 (by decide); rw [Nat.mul_one, Nat.add_zero] at this; exact this
      have hnb := HNb.out b off rfl
      have hdl := HNl.out (sil.getD j []) (by rw [getD_at _ _ _ (show j < sil.length by rw [HM.out]; exact hlt)]; exact List.getElem_mem _)
      obtain ⟨W3, hr3, hg3, hc3⟩ := HGj.out.dropMem (sil.getD j []) hdl 0
      have hM1 : M1 < W1.heap.size := HG1.out.mem.lt
      have HG3 : Hid (GP W3 F g M1 M2 M3 n A pv { G with mem := fun nm => if nm ∈ sil.take (j + 1) then none else G.mem nm }) := by
        rw [← take_mem_snoc (by rw [HM.out]; exact hlt)]
        exact hg3
      have HA3 : Hid (ArgK kS W3 sil (some ⟨b, off, none⟩) m nc) := HAj.out.chg hc3 (fun _ b' off' e => by cases e; simp; omega)
      have HC3 : Hid (Chg [M1] W2 W3) := HCj.out.trans hc3 (fun k hk => Or.inl hk)
      have c3 := HGj.out.box.cell 3
      simp only [List.getElem?_toArray, List.getElem?_cons_zero, List.getElem?_cons_succ] at c3
      obtain ⟨ds, hds⟩ : ∃ ds, nmS (sil.getD j []) = ds := ⟨_, rfl⟩
      rw [hds] at r0 hr3
      clear hc hs hg3 hc3 HGj HAj HCj hds hdl
      go_wp2_with fail
      exact ⟨⟨j + 1, by omega, by go_num, HG3, HA3, HC3⟩, by simp [intOf]; omega⟩
    · obtain rfl : m = j := by omega
      have hg9 := HGj.out
      rw [List.take_of_length_le (by rw [HM.out]; exact Nat.le_refl _)] at hg9
      have hcF : Chg F w wr := (HC1.out.trans (Chg.of HB2.out) (fun k hk => Or.inl hk)).trans (HCj.out.mono (fun k hk => by simp at hk; subst hk; exact HG1.out.in1)) (fun k hk => Or.inl hk)
      have HD := hid (dealG_any (hg9.reks (G.ks.filter (fun nm => decide (f < G.heard nm + G.sess)))) HGo.out (fun b hb => Nat.lt_of_lt_of_le (HFl.out b hb) hcF.size) hn)
      have HC := hid hcF
      clear hg9 hcF
      go_wp2_with (go_at_call 47; (with_reducible_and_instances (refine HD.out.mono ?_)); rintro r w9 ⟨rfl, hm9⟩; have HM9 := hid (hm9.ahead HC.out); clear hm9)
      go_end0
      exact ⟨rfl, HM9.out⟩
end Go.Proofs.YtipgociofjokeaaGreat
