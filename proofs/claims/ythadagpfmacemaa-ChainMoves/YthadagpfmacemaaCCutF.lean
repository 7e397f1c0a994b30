/- Cut of package chain: its face; Same of two chains without parts. -/
import Derived.Test.YthadagpfmacemaaCCut
namespace Go.Proofs.Ythadagpfmacemaa
open Go.RowKit
variable {w : World} {l : List Pt} {A : Nat → Sl} {ad : Option Addr} {m c : Nat}

set_option maxRecDepth 100000 in
set_option maxHeartbeats 1000000 in
theorem cut_any (h : CArg w l A ad m c) (o t n a : Int) : Calls Try.prog 24 #[.agg #[.int .i64 o, .int .i64 t, .slice ad m c], .int .i64 n, .int .i64 a] w fun x w' =>
      ∃ ad' m' c', x = .returned (.tuple #[.agg #[.int .i64 (cutC o t l n a).owner, .int .i64 (cutC o t l n a).trim, .slice ad' m' c'], .int .i64 (cutE o t l n a)]) ∧ Hid (CAns w' w.heap.size (cutC o t l n a).parts ad' m' c') ∧ Below w.heap.size w w' := by
  obtain ⟨W4, hW4⟩ : ∃ W4, ((((w.alloc (.cells #[.int .i64 o, .int .i64 t, .slice ad m c] 28)).alloc (.cells #[.int .i64 n] 3)).alloc (.cells #[.int .i64 a] 3)).alloc (.cells #[.int .i64 0, .int .i64 0, .slice none 0 0] 28)) = W4 := ⟨_, rfl⟩
  have hb4 : Below w.heap.size w W4 := by rw [← hW4]; exact ((((Below.refl _ w).alloc (Nat.le_refl _) _).alloc (by simp) _).alloc (by simp; omega) _).alloc (by simp; omega) _
  have hs4 : W4.heap.size = w.heap.size + 4 := by rw [← hW4]; simp
  have q0 : Blk W4 w.heap.size #[.int .i64 o, .int .i64 t, .slice ad m c] 28 := by rw [← hW4]; exact blk_alloc _ _ (blk_alloc _ _ (blk_alloc _ _ (heap_alloc_new w _)))
  have q1 : Blk W4 (w.heap.size + 1) #[.int .i64 n] 3 := by rw [← hW4]; exact blk_alloc _ _ (blk_alloc _ _ (heap_alloc_new' _ _ _ (by simp)))
  have q2 : Blk W4 (w.heap.size + 2) #[.int .i64 a] 3 := by rw [← hW4]; exact blk_alloc _ _ (heap_alloc_new' _ _ _ (by simp))
  have q3 : Blk W4 (w.heap.size + 3) #[.int .i64 0, .int .i64 0, .slice none 0 0] 28 := by rw [← hW4]; exact heap_alloc_new' _ _ _ (by simp)
  have n1 := (Below.refl W4.heap.size W4).alloc (Nat.le_refl _) (.cells #[.int .i64 0, .int .i64 0, .slice none 0 0] 28)
  have n2 : Below W4.heap.size W4 ((W4.alloc (.cells #[.int .i64 0, .int .i64 0, .slice none 0 0] 28)).alloc (.cells #[.int .i64 0] 31)) := n1.alloc n1.size _
  have hsz : ((W4.alloc (.cells #[.int .i64 0, .int .i64 0, .slice none 0 0] 28)).alloc (.cells #[.int .i64 0] 31)).heap.size = W4.heap.size + 2 := by simp
  have HX1 := cut1_any (q0.later n2) (q1.later n2) (q2.later n2) ((h.later hb4).later n2)
  rw [hsz] at HX1
  have HAT := hid (attemptChain 49 _ W4 enters_cut1 (fun o' t' ad' m' c' X => cutE o t l n a = 0 ∧ o' = o ∧ t' = a ∧ CAns X (W4.heap.size + 2) (l.drop (cutK l a)) ad' m' c') (fun y => y = cutE o t l n a ∧ y ≠ 0) HX1)
  have HB4 := hid hb4
  have HZ : Hid (∀ X, Below W4.heap.size W4 X → Blk X (w.heap.size + 3) #[.int .i64 0, .int .i64 0, .slice none 0 0] 28) := hid (fun X hX => q3.later hX)
  have HAT2 := hid (HAT.out.mono (R' := fun x w' => ∃ o' t' ad' m' c', x = .returned (.tuple #[.agg #[.int .i64 o', .int .i64 t', .slice ad' m' c'], .int .i64 (cutE o t l n a)]) ∧ (w'.cell? ⟨w.heap.size + 3, 0, none⟩ = some (.int .i64 0) ∧ w'.cell? ⟨w.heap.size + 3, 1, none⟩ = some (.int .i64 0) ∧ w'.cell? ⟨w.heap.size + 3, 2, none⟩ = some (.slice none 0 0) ∧ w'.frozen? ⟨w.heap.size + 3, 0, none⟩ = false ∧ w'.frozen? ⟨w.heap.size + 3, 1, none⟩ = false ∧ w'.frozen? ⟨w.heap.size + 3, 2, none⟩ = false) ∧ Hid (cutC o t l n a = ⟨o', t', (cutC o t l n a).parts⟩ ∧ CAns w' (w.heap.size + 4) (cutC o t l n a).parts ad' m' c' ∧ Below W4.heap.size W4 w')) (by
    rintro x w' ⟨h1, hb⟩
    have hz := HZ.out w' hb
    have hc := (⟨hz.cell 0, hz.cell 1, hz.cell 2, hz.free 0, hz.free 1, hz.free 2⟩ : (w'.cell? ⟨w.heap.size + 3, 0, none⟩ = some (.int .i64 0) ∧ w'.cell? ⟨w.heap.size + 3, 1, none⟩ = some (.int .i64 0) ∧ w'.cell? ⟨w.heap.size + 3, 2, none⟩ = some (.slice none 0 0) ∧ w'.frozen? ⟨w.heap.size + 3, 0, none⟩ = false ∧ w'.frozen? ⟨w.heap.size + 3, 1, none⟩ = false ∧ w'.frozen? ⟨w.heap.size + 3, 2, none⟩ = false))
    rcases h1 with ⟨X, hch, -, o', t', ad', m', c', rfl, hE, rfl, rfl, hA⟩ | ⟨y, rfl, rfl, hy⟩
    · have hC : cutC o' t l n t' = ⟨o', t', l.drop (cutK l t')⟩ := by unfold cutC; rw [if_pos hE]
      refine ⟨o', t', ad', m', c', by rw [hE], hc, hid ⟨by rw [hC], ?_, hb⟩⟩
      rw [hC]
      exact (hA.chg hch (fun g hg => by simp at hg; omega)).down (by omega)
    · have hC : cutC o t l n a = ⟨0, 0, []⟩ := by unfold cutC; rw [if_neg hy]
      exact ⟨0, 0, none, 0, 0, rfl, hc, hid ⟨by rw [hC], by rw [hC]; exact CAns.none _ _, hb⟩⟩))
  have hmf : ∀ (fn : Fn) (first cap : Array Value) (w : World), (Instr.makeFunc fn first cap).run Try.prog w = .ok (.func fn first cap) w := fun _ _ _ _ => rfl
  clear h HAT HX1 n1 n2 hsz q0 q1 q2 q3 hb4
  go_enter Try.func24, Try.ntmps24
  go_wp2_with (go_at_call 34; refine HAT2.out.mono ?_; rintro x w' ⟨o', t', ad', m', c', rfl, ⟨z0, z1, z2, y0, y1, y2⟩, HR⟩)
  obtain ⟨hC, hA, hb⟩ := HR.out
  have hz := HZ.out w' hb
  have m0 := ((hz.set 0 (.int .i64 o')).set 1 (.int .i64 t')).set 2 (.slice ad' m' c')
  have s0 : (((w'.setCell ⟨w.heap.size + 1 + 1 + 1, 0, none⟩ (.int .i64 o')).setCell ⟨w.heap.size + 1 + 1 + 1, 1, none⟩ (.int .i64 t')).setCell ⟨w.heap.size + 1 + 1 + 1, 2, none⟩ (.slice ad' m' c')).cell? ⟨w.heap.size + 1 + 1 + 1, 0, none⟩ = some (.int .i64 o') := m0.cell 0
  have s1 : (((w'.setCell ⟨w.heap.size + 1 + 1 + 1, 0, none⟩ (.int .i64 o')).setCell ⟨w.heap.size + 1 + 1 + 1, 1, none⟩ (.int .i64 t')).setCell ⟨w.heap.size + 1 + 1 + 1, 2, none⟩ (.slice ad' m' c')).cell? ⟨w.heap.size + 1 + 1 + 1, 1, none⟩ = some (.int .i64 t') := m0.cell 1
  have s2 : (((w'.setCell ⟨w.heap.size + 1 + 1 + 1, 0, none⟩ (.int .i64 o')).setCell ⟨w.heap.size + 1 + 1 + 1, 1, none⟩ (.int .i64 t')).setCell ⟨w.heap.size + 1 + 1 + 1, 2, none⟩ (.slice ad' m' c')).cell? ⟨w.heap.size + 1 + 1 + 1, 2, none⟩ = some (.slice ad' m' c') := m0.cell 2
  have hcg : Chg [w.heap.size + 3] w' (((w'.setCell ⟨w.heap.size + 1 + 1 + 1, 0, none⟩ (.int .i64 o')).setCell ⟨w.heap.size + 1 + 1 + 1, 1, none⟩ (.int .i64 t')).setCell ⟨w.heap.size + 1 + 1 + 1, 2, none⟩ (.slice ad' m' c')) := (((Chg.refl _ w').set (Or.inl (by simp)) _ _).set (Or.inl (by simp)) _ _).set (Or.inl (by simp)) _ _
  have hbw : Below w.heap.size w w' := HB4.out.trans (hb.mono HB4.out.size)
  have e1 : (cutC o t l n a).owner = o' := by rw [hC]
  have e2 : (cutC o t l n a).trim = t' := by rw [hC]
  refine bodyPost_ret (v := .tuple #[.agg #[.int .i64 o', .int .i64 t', .slice ad' m' c'], .int .i64 (cutE o t l n a)]) (by simp [results, Try.results24, go_sem, s0, s1, s2]) rfl ⟨ad', m', c', by rw [e1, e2], hid ?_, ?_⟩
  · exact (hA.chg hcg (fun g hg => by simp at hg; omega)).down (by omega)
  · exact hbw.trans (hcg.below (fun k hk => by simp at hk; omega) hbw.size)
set_option maxRecDepth 100000 in
theorem same_none (ad ad2 : Option Addr) (c c2 : Nat) (w : World) : Calls Try.prog 16 #[.agg #[.int .i64 0, .int .i64 0, .slice ad 0 c], .agg #[.int .i64 0, .int .i64 0, .slice ad2 0 c2]] w fun e w' => e = .returned (.bool true) ∧ Below w.heap.size w w' := by
  have HB : Hid (Below w.heap.size w ((w.alloc (.cells #[.int .i64 0, .int .i64 0, .slice ad 0 c] 28)).alloc (.cells #[.int .i64 0, .int .i64 0, .slice ad2 0 c2] 28))) := hid (((Below.refl _ _).alloc (Nat.le_refl _) _).alloc (by simp) _)
  go_enter Try.func16, Try.ntmps16
  go_wp2_with fail
  go_loopw [5] (fun i wr => i = .int .i64 0 ∧ wr = ((w.alloc (.cells #[.int .i64 0, .int .i64 0, .slice ad 0 c] 28)).alloc (.cells #[.int .i64 0, .int .i64 0, .slice ad2 0 c2] 28))) (fun _ _ => 0)
  case atStart => exact ⟨rfl, rfl⟩
  case round =>
    obtain ⟨rfl, rfl⟩ := hrel
    go_wp2_with fail
    go_ret
    exact ⟨rfl, HB.out⟩
end Go.Proofs.Ythadagpfmacemaa
