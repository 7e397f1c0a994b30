/- config of the law's package (by genown.py). -/
import Derived.Test.YthadagpfmacemaaCGrow
import Derived.Deep.RegionHeld
namespace Go.Proofs.Ythadagpfmacemaa
open Go.RowKit
variable {w : World} {ad : Option Addr} {m c : Nat} {ns : List Int}

set_option maxRecDepth 100000 in
set_option maxHeartbeats 1000000 in
theorem config_any (hx : Ints w ns ad m c) (hx0 : ad = none → m = 0 ∧ c = 0) (hb : m * 8 ≤ 140737488355328) (id : Int) : Calls Try.prog 22 #[.agg #[.int .i64 id, .slice ad m c]] w fun x w' => ∃ s : Sl, x = .returned (.agg #[.int .i64 id, .slice s.ad s.m s.c]) ∧ Hid (NewI w' w.heap.size ns s ∧ s.m = m) ∧ Below w.heap.size w w' := by
  obtain ⟨W2, hW2⟩ : ∃ W2, ((w.alloc (.cells #[.int .i64 id, .slice ad m c] 49)).alloc (.cells #[.int .i64 0, .slice none 0 0] 54)) = W2 := ⟨_, rfl⟩
  have hb2 : Below w.heap.size w W2 := by rw [← hW2]; exact ((Below.refl _ w).alloc (Nat.le_refl _) _).alloc (by simp) _
  have hs2 : W2.heap.size = w.heap.size + 2 := by rw [← hW2]; simp
  have q0 : Blk W2 w.heap.size #[.int .i64 id, .slice ad m c] 49 := by rw [← hW2]; exact (show Blk _ w.heap.size _ _ from heap_alloc_new w _).later ((Below.refl _ _).alloc (Nat.le_refl _) _)
  have q1 : Blk W2 (w.heap.size + 1) #[.int .i64 0, .slice none 0 0] 54 := by rw [← hW2]; exact heap_alloc_new' _ _ _ (by simp)
  have HS : Hid (∀ X, Below W2.heap.size W2 X → X.cell? ⟨w.heap.size, 0, none⟩ = some (.int .i64 id) ∧ X.cell? ⟨w.heap.size, 1, none⟩ = some (.slice ad m c)) := hid (fun X hX => ⟨(q0.later hX).cell 0, (q0.later hX).cell 1⟩)
  have HZ : Hid (∀ X, Below W2.heap.size W2 X → X.cell? ⟨w.heap.size + 1, 0, none⟩ = some (.int .i64 0) ∧ X.cell? ⟨w.heap.size + 1, 1, none⟩ = some (.slice none 0 0) ∧ X.frozen? ⟨w.heap.size + 1, 0, none⟩ = false ∧ X.frozen? ⟨w.heap.size + 1, 1, none⟩ = false) := hid (fun X hX => ⟨(q1.later hX).cell 0, (q1.later hX).cell 1, (q1.later hX).free 0, (q1.later hX).free 1⟩)
  have HQ1 : Hid (∀ X, Below W2.heap.size W2 X → Blk X (w.heap.size + 1) #[.int .i64 0, .slice none 0 0] 54) := hid (fun X hX => q1.later hX)
  have HS2 : Hid (∀ X, Below W2.heap.size W2 X → ∀ s : Sl, (((X.setCell ⟨w.heap.size + 1, 0, none⟩ (.int .i64 id)).setCell ⟨w.heap.size + 1, 1, none⟩ (.slice s.ad s.m s.c)).cell? ⟨w.heap.size, 0, none⟩ = some (.int .i64 id) ∧ ((X.setCell ⟨w.heap.size + 1, 0, none⟩ (.int .i64 id)).setCell ⟨w.heap.size + 1, 1, none⟩ (.slice s.ad s.m s.c)).cell? ⟨w.heap.size, 1, none⟩ = some (.slice ad m c))) := hid (fun X hX s => by
    have q := ((q0.later hX).other (C := w.heap.size + 1) (by omega) 0 (.int .i64 id)).other (C := w.heap.size + 1) (by omega) 1 (.slice s.ad s.m s.c)
    exact ⟨q.cell 0, q.cell 1⟩)
  have HI : Hid (∀ X, Below W2.heap.size W2 X → Ints X ns ad m c) := hid (fun X hX => (hx.later hb2).later hX)
  have HL : Hid (∀ x ∈ ns, -9223372036854775808 ≤ x ∧ x ≤ 9223372036854775807) := hx.rng
  have hl : Hid (ns.length = m) := hx.len
  have Hx0 := hid hx0
  have HB2 := hid hb2
  have Hs2 := hid hs2
  clear hx hx0 q0 q1 hb2 hs2
  go_enter Try.func22, Try.ntmps22
  go_wp2_with fail
  refine wp_region_held_drew (S := fun W => W.cell? ⟨w.heap.size, 0, none⟩ = some (.int .i64 id) ∧ W.cell? ⟨w.heap.size, 1, none⟩ = some (.slice ad m c)) (by kernel_rfl) (HS.out _ (Below.refl _ _).drew) (fun hHeld => ?_)
  refine wpAnyH_take (i := 0) (oi := { dst := some 3, op := Op.fieldAddr 49 (Operand.tmp 1) 0, type := 0, pos := "law.go:17", after := #[], guard := none }) (v := ?_) rfl (by kernel_rfl) (by kernel_rfl) (by kernel_rfl) (fun _ _ _ h => h) (Or.inl ⟨by rfl, ?_⟩) hHeld ?_
  rotate_left
  · intro w hSw; (try dsimp only at hSw); go_simp; try with_reducible rfl
  try simp only [Act.put, List.setIfInBounds_toArray, List.set_cons_zero, List.set_cons_succ]
  refine wpAnyH_take (i := 1) (oi := { dst := some 4, op := Op.load 3 (Operand.tmp 3), type := 3, pos := "law.go:17", after := #[{ on := 0, ground := Ground.data }], guard := none }) (v := ?_) rfl (by kernel_rfl) (by kernel_rfl) (by kernel_rfl) (fun _ _ _ h => h) (Or.inl ⟨by rfl, ?_⟩) hHeld ?_
  rotate_left
  · intro w hSw; (try dsimp only at hSw); go_simp; try with_reducible rfl
  try simp only [Act.put, List.setIfInBounds_toArray, List.set_cons_zero, List.set_cons_succ]
  refine wpAnyH_take (i := 3) (oi := { dst := some 6, op := Op.fieldAddr 49 (Operand.tmp 1) 1, type := 0, pos := "law.go:17", after := #[], guard := none }) (v := ?_) rfl (by kernel_rfl) (by kernel_rfl) (by kernel_rfl) (fun _ _ _ h => h) (Or.inl ⟨by rfl, ?_⟩) hHeld ?_
  rotate_left
  · intro w hSw; (try dsimp only at hSw); go_simp; try with_reducible rfl
  try simp only [Act.put, List.setIfInBounds_toArray, List.set_cons_zero, List.set_cons_succ]
  refine wpAnyH_take (i := 4) (oi := { dst := some 7, op := Op.load 47 (Operand.tmp 6), type := 47, pos := "law.go:17", after := #[{ on := 3, ground := Ground.data }], guard := none }) (v := ?_) rfl (by kernel_rfl) (by kernel_rfl) (by kernel_rfl) (fun _ _ _ h => h) (Or.inl ⟨by rfl, ?_⟩) hHeld ?_
  rotate_left
  · intro w hSw; (try dsimp only at hSw); go_simp; try with_reducible rfl
  try simp only [Act.put, List.setIfInBounds_toArray, List.set_cons_zero, List.set_cons_succ]
  refine wpAnyH_ready (rs := [2]) (by kernel_rfl) (by simp) ?_
  refine AllReadyH.cons rfl (fun K hK => ?_) (AllReadyH.nil)
  go_simp
  refine hK.out _ _ (HS.out _ ((Below.refl _ W2).alloc (Nat.le_refl _) _).drew) (fun hHeld => ?_)
  clear hK K
  try simp only [Act.put, List.setIfInBounds_toArray, List.set_cons_zero, List.set_cons_succ]
  refine wpAnyH_ready (rs := [5]) (by kernel_rfl) (by simp) ?_
  refine AllReadyH.cons rfl (fun K hK => ?_) (AllReadyH.nil)
  refine step_app_ints rfl _ _ rfl W2.heap.size 0 (.slice (some ⟨W2.heap.size, 0, none⟩) 0 0) [] rfl (emptyI_own W2 _ (Nat.le_refl _)) ad m c ns rfl (HI.out _ ((Below.refl _ W2).alloc (Nat.le_refl _) _).drew) Hx0.out (by omega) (by simp) ?_
  intro v' w5 r1 r2
  have HO : Hid (OwnI w5 W2.heap.size v' ns) := hid (by rw [Nat.zero_add, List.nil_append] at r1; unfold OwnI; rw [hl.out]; exact r1)
  have HG : Hid (Below W2.heap.size W2 w5) := hid (((Below.refl _ W2).alloc (Nat.le_refl _) _).drew.trans (grown_below r2 (fun g hg => by cases hg; exact Nat.le_refl _) (by simp)))
  clear r1 r2
  obtain ⟨s, rfl, hsm, hi, hn, hnew⟩ := HO.out.form HL.out
  have HN : Hid (NewI w5 W2.heap.size ns s ∧ s.m = m) := hid ⟨⟨hi, hn, fun _ => hnew⟩, by rw [hsm, hl.out]⟩
  obtain ⟨z0, z1, y0, y1⟩ := HZ.out w5 HG.out
  clear hi hn hnew HO hsm
  refine hK.out _ _ (HS.out _ HG.out) (fun hHeld => ?_)
  clear hK K
  refine wpAnyH_take (i := 6) (oi := { dst := some 9, op := Op.build 54 #[(0, Operand.tmp 4), (1, Operand.tmp 8)], type := 54, pos := "law.go:17", after := #[{ on := 1, ground := Ground.data }, { on := 5, ground := Ground.data }], guard := none }) (v := ?_) rfl (by kernel_rfl) (by kernel_rfl) (by kernel_rfl) (fun _ _ _ h => h) (Or.inl ⟨by rfl, ?_⟩) hHeld ?_
  rotate_left
  · intro w hSw; (try dsimp only at hSw); go_simp; try with_reducible rfl
  refine wpAnyH_ready (rs := [7]) (by kernel_rfl) (by simp) ?_
  refine AllReadyH.cons rfl (fun K hK => ?_) (AllReadyH.nil)
  go_simp
  refine hK.out _ _ (HS2.out _ HG.out s) (fun hHeld => ?_)
  clear hK K
  refine wpAnyH_done (by kernel_rfl) ?_ _

  go_wp2_with fail
  have m0 := ((HQ1.out w5 HG.out).set 0 (.int .i64 id)).set 1 (.slice s.ad s.m s.c)
  have s0 : ((w5.setCell ⟨w.heap.size + 1, 0, none⟩ (.int .i64 id)).setCell ⟨w.heap.size + 1, 1, none⟩ (.slice s.ad s.m s.c)).cell? ⟨w.heap.size + 1, 0, none⟩ = some (.int .i64 id) := m0.cell 0
  have s1 : ((w5.setCell ⟨w.heap.size + 1, 0, none⟩ (.int .i64 id)).setCell ⟨w.heap.size + 1, 1, none⟩ (.slice s.ad s.m s.c)).cell? ⟨w.heap.size + 1, 1, none⟩ = some (.slice s.ad s.m s.c) := m0.cell 1
  have hcg : Chg [w.heap.size + 1] w5 ((w5.setCell ⟨w.heap.size + 1, 0, none⟩ (.int .i64 id)).setCell ⟨w.heap.size + 1, 1, none⟩ (.slice s.ad s.m s.c)) := ((Chg.refl _ w5).set (Or.inl (by simp)) _ _).set (Or.inl (by simp)) _ _
  have hbw : Below w.heap.size w w5 := HB2.out.trans (HG.out.mono HB2.out.size)
  refine bodyPost_ret (v := .agg #[.int .i64 id, .slice s.ad s.m s.c]) (by simp [results, Try.results22, go_sem, s0, s1]) rfl ⟨s, rfl, hid ⟨?_, HN.out.2⟩, ?_⟩
  · refine (HN.out.1.chg hcg (fun g hg cur => ?_)).down HB2.out.size
    simp at hg
    subst hg
    rw [HQ1.out w5 HG.out]
    simp
  · exact hbw.trans (hcg.below (fun k hk => by simp at hk; omega) hbw.size)
end Go.Proofs.Ythadagpfmacemaa
