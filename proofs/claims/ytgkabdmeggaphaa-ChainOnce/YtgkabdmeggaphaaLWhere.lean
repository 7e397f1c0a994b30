/- Cut of package chain: its face; where of the law's package; Same of two chains without parts. -/
import Derived.Test.YtgkabdmeggaphaaCCut
import Derived.Test.YtgkabdmeggaphaaCFind
namespace Go.Proofs.Ytgkabdmeggaphaa
open Go.RowKit
variable {w : World} {l : List Pt} {A : Nat → Sl} {ad : Option Addr} {m c : Nat}

set_option maxRecDepth 100000 in
set_option maxHeartbeats 1000000 in
theorem cut_any (h : CArg w l A ad m c) (o t n a : Int) : Calls Try.prog 26 #[.agg #[.int .i64 o, .int .i64 t, .slice ad m c], .int .i64 n, .int .i64 a] w fun x w' =>
      ∃ ad' m' c', x = .returned (.tuple #[.agg #[.int .i64 (cutC o t l n a).owner, .int .i64 (cutC o t l n a).trim, .slice ad' m' c'], .int .i64 (cutE o t l n a)]) ∧ Hid (CAns w' w.heap.size (cutC o t l n a).parts ad' m' c') ∧ Below w.heap.size w w' := by
  obtain ⟨W4, hW4⟩ : ∃ W4, ((((w.alloc (.cells #[.int .i64 o, .int .i64 t, .slice ad m c] 28)).alloc (.cells #[.int .i64 n] 3)).alloc (.cells #[.int .i64 a] 3)).alloc (.cells #[.int .i64 0, .int .i64 0, .slice none 0 0] 28)) = W4 := ⟨_, rfl⟩
  have hb4 : Below w.heap.size w W4 := by rw [← hW4]; exact ((((Below.refl _ w).alloc (Nat.le_refl _) _).alloc (by simp) _).alloc (by simp; omega) _).alloc (by simp; omega) _
  have hs4 : W4.heap.size = w.heap.size + 4 := by rw [← hW4]; simp
  have q0 : Blk W4 w.heap.size #[.int .i64 o, .int .i64 t, .slice ad m c] 28 := by rw [← hW4]; exact blk_alloc _ _ (blk_alloc _ _ (blk_alloc _ _ (heap_alloc_new w _)))
  have q1 : Blk W4 (w.heap.size + 1) #[.int .i64 n] 3 := by rw [← hW4]; exact blk_alloc _ _ (blk_alloc _ _ (heap_alloc_new' _ _ _ (by simp)))
  have q2 : Blk W4 (w.heap.size + 2) #[.int .i64 a] 3 := by rw [← hW4]; exact blk_alloc _ _ (heap_alloc_new' _ _ _ (by simp))
  have q3 : Blk W4 (w.heap.size + 3) #[.int .i64 0, .int .i64 0, .slice none 0 0] 28 := by rw [← hW4]; exact heap_alloc_new' _ _ _ (by simp)
  have n1 := (Below.refl W4.heap.size W4).alloc (Nat.le_refl _) (.cells #[.int .i64 0, .int .i64 0, .slice none 0 0] 28)
  have n2 : Below W4.heap.size W4 ((W4.alloc (.cells #[.int .i64 0, .int .i64 0, .slice none 0 0] 28)).alloc (.cells #[.int .i64 0] 31)) := n1.alloc n1.size _
  have hsz : ((W4.alloc (.cells #[.int .i64 0, .int .i64 0, .slice none 0 0] 28)).alloc (.cells #[.int .i64 0] 31)).heap.size = W4.heap.size + 2 := by simp
  have HX1 := cut1_any (q0.later n2) (q1.later n2) (q2.later n2) ((h.later hb4).later n2)
  rw [hsz] at HX1
  have HAT := hid (attemptChain 52 _ W4 enters_cut1 (fun o' t' ad' m' c' X => cutE o t l n a = 0 ∧ o' = o ∧ t' = a ∧ CAns X (W4.heap.size + 2) (l.drop (cutK l a)) ad' m' c') (fun y => y = cutE o t l n a ∧ y ≠ 0) HX1)
  have HB4 := hid hb4
  have HZ : Hid (∀ X, Below W4.heap.size W4 X → Blk X (w.heap.size + 3) #[.int .i64 0, .int .i64 0, .slice none 0 0] 28) := hid (fun X hX => q3.later hX)
  have HAT2 := hid (HAT.out.mono (R' := fun x w' => ∃ o' t' ad' m' c', x = .returned (.tuple #[.agg #[.int .i64 o', .int .i64 t', .slice ad' m' c'], .int .i64 (cutE o t l n a)]) ∧ (w'.cell? ⟨w.heap.size + 3, 0, none⟩ = some (.int .i64 0) ∧ w'.cell? ⟨w.heap.size + 3, 1, none⟩ = some (.int .i64 0) ∧ w'.cell? ⟨w.heap.size + 3, 2, none⟩ = some (.slice none 0 0) ∧ w'.frozen? ⟨w.heap.size + 3, 0, none⟩ = false ∧ w'.frozen? ⟨w.heap.size + 3, 1, none⟩ = false ∧ w'.frozen? ⟨w.heap.size + 3, 2, none⟩ = false) ∧ Hid (cutC o t l n a = ⟨o', t', (cutC o t l n a).parts⟩ ∧ CAns w' (w.heap.size + 4) (cutC o t l n a).parts ad' m' c' ∧ Below W4.heap.size W4 w')) (by
    rintro x w' ⟨h1, hb⟩
    have hz := HZ.out w' hb
    have hc := (⟨hz.cell 0, hz.cell 1, hz.cell 2, hz.free 0, hz.free 1, hz.free 2⟩ : (w'.cell? ⟨w.heap.size + 3, 0, none⟩ = some (.int .i64 0) ∧ w'.cell? ⟨w.heap.size + 3, 1, none⟩ = some (.int .i64 0) ∧ w'.cell? ⟨w.heap.size + 3, 2, none⟩ = some (.slice none 0 0) ∧ w'.frozen? ⟨w.heap.size + 3, 0, none⟩ = false ∧ w'.frozen? ⟨w.heap.size + 3, 1, none⟩ = false ∧ w'.frozen? ⟨w.heap.size + 3, 2, none⟩ = false))
    rcases h1 with ⟨X, hch, -, o', t', ad', m', c', rfl, hE, rfl, rfl, hA⟩ | ⟨y, rfl, rfl, hy⟩
    · have hC : cutC o' t l n t' = ⟨o', t', l.drop (cutK l t')⟩ := by unfold cutC; rw [if_pos hE]
      refine ⟨o', t', ad', m', c', by rw [hE], hc, hid ⟨by rw [hC], ?_, hb⟩⟩
      rw [hC]
      exact (hA.chg hch (fun g hg => by simp at hg; omega)).down (by omega)
    · have hC : cutC o t l n a = ⟨0, 0, []⟩ := by unfold cutC; rw [if_neg hy]
      exact ⟨0, 0, none, 0, 0, rfl, hc, hid ⟨by rw [hC], by rw [hC]; exact CAns.none _ _, hb⟩⟩))
  have hmf : ∀ (fn : Fn) (first cap : Array Value) (w : World), (Instr.makeFunc fn first cap).run Try.prog w = .ok (.func fn first cap) w := fun _ _ _ _ => rfl
  clear h HAT HX1 n1 n2 hsz q0 q1 q2 q3 hb4
  go_enter Try.func26, Try.ntmps26
  go_wp2_with (go_at_call 37; refine HAT2.out.mono ?_; rintro x w' ⟨o', t', ad', m', c', rfl, ⟨z0, z1, z2, y0, y1, y2⟩, HR⟩)
  obtain ⟨hC, hA, hb⟩ := HR.out
  have hz := HZ.out w' hb
  have m0 := ((hz.set 0 (.int .i64 o')).set 1 (.int .i64 t')).set 2 (.slice ad' m' c')
  have s0 : (((w'.setCell ⟨w.heap.size + 1 + 1 + 1, 0, none⟩ (.int .i64 o')).setCell ⟨w.heap.size + 1 + 1 + 1, 1, none⟩ (.int .i64 t')).setCell ⟨w.heap.size + 1 + 1 + 1, 2, none⟩ (.slice ad' m' c')).cell? ⟨w.heap.size + 1 + 1 + 1, 0, none⟩ = some (.int .i64 o') := m0.cell 0
  have s1 : (((w'.setCell ⟨w.heap.size + 1 + 1 + 1, 0, none⟩ (.int .i64 o')).setCell ⟨w.heap.size + 1 + 1 + 1, 1, none⟩ (.int .i64 t')).setCell ⟨w.heap.size + 1 + 1 + 1, 2, none⟩ (.slice ad' m' c')).cell? ⟨w.heap.size + 1 + 1 + 1, 1, none⟩ = some (.int .i64 t') := m0.cell 1
  have s2 : (((w'.setCell ⟨w.heap.size + 1 + 1 + 1, 0, none⟩ (.int .i64 o')).setCell ⟨w.heap.size + 1 + 1 + 1, 1, none⟩ (.int .i64 t')).setCell ⟨w.heap.size + 1 + 1 + 1, 2, none⟩ (.slice ad' m' c')).cell? ⟨w.heap.size + 1 + 1 + 1, 2, none⟩ = some (.slice ad' m' c') := m0.cell 2
  have hcg : Chg [w.heap.size + 3] w' (((w'.setCell ⟨w.heap.size + 1 + 1 + 1, 0, none⟩ (.int .i64 o')).setCell ⟨w.heap.size + 1 + 1 + 1, 1, none⟩ (.int .i64 t')).setCell ⟨w.heap.size + 1 + 1 + 1, 2, none⟩ (.slice ad' m' c')) := (((Chg.refl _ w').set (Or.inl (by simp)) _ _).set (Or.inl (by simp)) _ _).set (Or.inl (by simp)) _ _
  have hbw : Below w.heap.size w w' := HB4.out.trans (hb.mono HB4.out.size)
  have e1 : (cutC o t l n a).owner = o' := by rw [hC]
  have e2 : (cutC o t l n a).trim = t' := by rw [hC]
  refine bodyPost_ret (v := .tuple #[.agg #[.int .i64 o', .int .i64 t', .slice ad' m' c'], .int .i64 (cutE o t l n a)]) (by simp [results, Try.results26, go_sem, s0, s1, s2]) rfl ⟨ad', m', c', by rw [e1, e2], hid ?_, ?_⟩
  · exact (hA.chg hcg (fun g hg => by simp at hg; omega)).down (by omega)
  · exact hbw.trans (hcg.below (fun k hk => by simp at hk; omega) hbw.size)
/-- where's answer. -/
def whereN (t : Int) (l : List Pt) (a : Int) : Option (Int × Int) := match findN t l a with
  | none => none
  | some (i, q) => some ((ptAt l i).id, q)
def whereV (x : Option (Int × Int)) : Value := match x with
  | none => .tuple #[.int .i64 0, .int .i64 0, .bool false]
  | some (i, q) => .tuple #[.int .i64 i, .int .i64 q, .bool true]
theorem findN_lt {t : Int} {l : List Pt} {a : Int} {i : Nat} {q : Int} (h : findN t l a = some (i, q)) : i < l.length := by
  unfold findN at h
  split at h
  · cases h
  · split at h
    · cases h
    · rename_i k hk
      split at h
      · cases h
      · cases h
        exact (holdT_lt hk).1
set_option maxRecDepth 100000 in
set_option maxHeartbeats 1000000 in
theorem where_any (h : CArg w l A ad m c) (o t a : Int) (ha : -9223372036854775808 ≤ a ∧ a ≤ 9223372036854775807) : Calls Try.prog 30 #[.agg #[.int .i64 o, .int .i64 t, .slice ad m c], .int .i64 a] w fun e w' => e = .returned (whereV (whereN t l a)) ∧ Below w.heap.size w w' := by
  have hl := h.len
  have hm : m ≤ 9223372036854775807 := by have := h.cap; have := h.room; unfold maxLen at this; omega
  have HB : Hid (Below w.heap.size w (w.alloc (.cells #[.int .i64 o, .int .i64 t, .slice ad m c] 28))) := hid ((Below.refl _ _).alloc (Nat.le_refl _) _)
  have h2 := h.later HB.out
  have HF := find_any h2 o t a ha
  cases hf : findN t l a with
  | none =>
    have HE : Hid (whereN t l a = none) := hid (by unfold whereN; rw [hf])
    rw [hf] at HF
    unfold findV at HF
    simp only at HF
    clear h h2 hf
    go_enter Try.func30, Try.ntmps30
    go_wp2_with (go_at_call 21; refine HF.mono ?_; rintro e w1 ⟨rfl, hb1⟩; have HB1 := hid hb1; clear hb1)
    refine bodyPost_ret (v := .tuple #[.int .i64 0, .int .i64 0, .bool false]) (by simp [results, Try.results30, go_sem]) rfl ⟨by rw [HE.out]; rfl, ?_⟩
    exact HB.out.trans (HB1.out.mono HB.out.size)
  | some x =>
    obtain ⟨i, q⟩ := x
    have hil : i < m := by rw [← hl]; exact findN_lt hf
    have HE : Hid (whereN t l a = some ((ptAt l i).id, q)) := hid (by unfold whereN; rw [hf])
    rw [hf] at HF
    unfold findV at HF
    simp only at HF
    have HW : Hid (∀ X, Below (w.alloc (.cells #[.int .i64 o, .int .i64 t, .slice ad m c] 28)).heap.size (w.alloc (.cells #[.int .i64 o, .int .i64 t, .slice ad m c] 28)) X → X.cell? ⟨w.heap.size, 2, none⟩ = some (.slice ad m c) ∧ ∃ b off, ad = some ⟨b, off, none⟩ ∧ X.cell? ⟨b, off + i * 3 + 1, none⟩ = some (.int .i64 (ptAt l i).id)) := hid (fun X hX => by
      refine ⟨((show Blk _ w.heap.size _ _ from heap_alloc_new w _).later hX).cell 2, ?_⟩
      obtain ⟨b, off, e, -, hc⟩ := (h2.later hX).cells (by omega)
      exact ⟨b, off, e, (hc i hil).2.1⟩)
    have d1 : decide ((i : Int) < 0) = false := by simp
    have d2 : decide ((m : Int) ≤ (i : Int)) = false := by simp; omega
    clear h h2 hf
    generalize (ptAt l i).id = id at *
    go_enter Try.func30, Try.ntmps30
    go_wp2_with (go_at_call 21; refine HF.mono ?_; rintro e w1 ⟨rfl, hb1⟩; have HB1 := hid hb1; obtain ⟨k2, b, off, rfl, k3⟩ := HW.out w1 hb1; clear hb1)
    refine bodyPost_ret (v := .tuple #[.int .i64 id, .int .i64 q, .bool true]) (by simp [results, Try.results30, go_sem]) rfl ⟨by rw [HE.out]; rfl, ?_⟩
    exact HB.out.trans (HB1.out.mono HB.out.size)
set_option maxRecDepth 100000 in
theorem same_none (ad ad2 : Option Addr) (c c2 : Nat) (w : World) : Calls Try.prog 18 #[.agg #[.int .i64 0, .int .i64 0, .slice ad 0 c], .agg #[.int .i64 0, .int .i64 0, .slice ad2 0 c2]] w fun e w' => e = .returned (.bool true) ∧ Below w.heap.size w w' := by
  have HB : Hid (Below w.heap.size w ((w.alloc (.cells #[.int .i64 0, .int .i64 0, .slice ad 0 c] 28)).alloc (.cells #[.int .i64 0, .int .i64 0, .slice ad2 0 c2] 28))) := hid (((Below.refl _ _).alloc (Nat.le_refl _) _).alloc (by simp) _)
  go_enter Try.func18, Try.ntmps18
  go_wp2_with fail
  go_loopw [5] (fun i wr => i = .int .i64 0 ∧ wr = ((w.alloc (.cells #[.int .i64 0, .int .i64 0, .slice ad 0 c] 28)).alloc (.cells #[.int .i64 0, .int .i64 0, .slice ad2 0 c2] 28))) (fun _ _ => 0)
  case atStart => exact ⟨rfl, rfl⟩
  case round =>
    obtain ⟨rfl, rfl⟩ := hrel
    go_wp2_with fail
    go_ret
    exact ⟨rfl, HB.out⟩
end Go.Proofs.Ytgkabdmeggaphaa
