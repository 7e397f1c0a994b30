/- Extend of package chain. -/
import Derived.Test.YthadagpfmacemaaCExt1
namespace Go.Proofs.Ythadagpfmacemaa
open Go.RowKit
variable {w : World} {l : List Pt} {A : Nat → Sl} {ad ad1 : Option Addr} {m c m1 c1 : Nat} {ns : List Int}

/-- The chain that Extend answers. -/
def extC (o t : Int) (l : List Pt) (n ow e id : Int) (ns : List Int) : Ch := if extE o t l n ow e id ns = 0 then ⟨ow, t, extL t l e ⟨e, id, ns⟩⟩ else ⟨0, 0, []⟩
theorem blk_alloc (w : World) (o : Obj) {cs : Array Value} {T : TypeId} {g : Nat} (h : Blk w g cs T) : Blk (w.alloc o) g cs T := h.later ((Below.refl _ _).alloc (Nat.le_refl _) _)
/-- Six boxes, one behind the other. -/
theorem six_blocks (w : World) (c0 c1 c2 c3 c4 c5 : Array Value) (t0 t1 t2 t3 t4 t5 : TypeId) :
    let W := (((((w.alloc (.cells c0 t0)).alloc (.cells c1 t1)).alloc (.cells c2 t2)).alloc (.cells c3 t3)).alloc (.cells c4 t4)).alloc (.cells c5 t5)
    W.heap.size = w.heap.size + 6 ∧ Below w.heap.size w W ∧ Blk W w.heap.size c0 t0 ∧ Blk W (w.heap.size + 1) c1 t1 ∧ Blk W (w.heap.size + 2) c2 t2 ∧ Blk W (w.heap.size + 3) c3 t3 ∧ Blk W (w.heap.size + 4) c4 t4 ∧ Blk W (w.heap.size + 5) c5 t5 := by
  intro W
  have q0 : Blk (w.alloc (.cells c0 t0)) w.heap.size c0 t0 := heap_alloc_new w _
  have q1 := heap_alloc_new' (w.alloc (.cells c0 t0)) (w.heap.size + 1) c1 (T := t1) (by simp)
  have q2 := heap_alloc_new' ((w.alloc (.cells c0 t0)).alloc (.cells c1 t1)) (w.heap.size + 2) c2 (T := t2) (by simp)
  have q3 := heap_alloc_new' (((w.alloc (.cells c0 t0)).alloc (.cells c1 t1)).alloc (.cells c2 t2)) (w.heap.size + 3) c3 (T := t3) (by simp)
  have q4 := heap_alloc_new' ((((w.alloc (.cells c0 t0)).alloc (.cells c1 t1)).alloc (.cells c2 t2)).alloc (.cells c3 t3)) (w.heap.size + 4) c4 (T := t4) (by simp)
  have q5 := heap_alloc_new' (((((w.alloc (.cells c0 t0)).alloc (.cells c1 t1)).alloc (.cells c2 t2)).alloc (.cells c3 t3)).alloc (.cells c4 t4)) (w.heap.size + 5) c5 (T := t5) (by simp)
  refine ⟨by simp [W], ?_, blk_alloc _ _ (blk_alloc _ _ (blk_alloc _ _ (blk_alloc _ _ (blk_alloc _ _ q0)))), blk_alloc _ _ (blk_alloc _ _ (blk_alloc _ _ (blk_alloc _ _ q1))), blk_alloc _ _ (blk_alloc _ _ (blk_alloc _ _ q2)), blk_alloc _ _ (blk_alloc _ _ q3), blk_alloc _ _ q4, q5⟩
  exact ((((((Below.refl _ w).alloc (Nat.le_refl _) _).alloc (by simp) _).alloc (by simp; omega) _).alloc (by simp; omega) _).alloc (by simp; omega) _).alloc (by simp; omega) _
theorem enters_ext1 : ∀ args w, (callFunc 43 args).run Try.prog w = .ok (.enter 43 args) w := fun _ _ => by kernel_rfl
set_option maxRecDepth 100000 in
set_option maxHeartbeats 1000000 in
theorem extend_any {o t n e ow id : Int} (h : CArg w l A ad m c) (hx : Ints w ns ad1 m1 c1) (hx0 : ad1 = none → m1 = 0 ∧ c1 = 0) (hm1 : m1 * 8 ≤ 140737488355328) (hid' : -9223372036854775808 ≤ id ∧ id ≤ 9223372036854775807) (he' : -9223372036854775808 ≤ e ∧ e ≤ 9223372036854775807) :
    Calls Try.prog 21 #[.agg #[.int .i64 o, .int .i64 t, .slice ad m c], .int .i64 n, .int .i64 ow, .int .i64 e, .agg #[.int .i64 id, .slice ad1 m1 c1]] w fun x w' =>
      ∃ ad' m' c', x = .returned (.tuple #[.agg #[.int .i64 (extC o t l n ow e id ns).owner, .int .i64 (extC o t l n ow e id ns).trim, .slice ad' m' c'], .int .i64 (extE o t l n ow e id ns)]) ∧ Hid (CAns w' w.heap.size (extC o t l n ow e id ns).parts ad' m' c') ∧ Below w.heap.size w w' := by
  obtain ⟨W6, hW6⟩ : ∃ W6, ((((((w.alloc (.cells #[.int .i64 o, .int .i64 t, .slice ad m c] 28)).alloc (.cells #[.int .i64 n] 3)).alloc (.cells #[.int .i64 ow] 3)).alloc (.cells #[.int .i64 e] 3)).alloc (.cells #[.int .i64 id, .slice ad1 m1 c1] 54)).alloc (.cells #[.int .i64 0, .int .i64 0, .slice none 0 0] 28)) = W6 := ⟨_, rfl⟩
  have h6 := six_blocks w (#[.int .i64 o, .int .i64 t, .slice ad m c]) (#[.int .i64 n]) (#[.int .i64 ow]) (#[.int .i64 e]) (#[.int .i64 id, .slice ad1 m1 c1]) (#[.int .i64 0, .int .i64 0, .slice none 0 0]) 28 3 3 3 54 28
  simp only at h6
  rw [hW6] at h6
  obtain ⟨hs6, hb6, q0, q1, q2, q3, q4, q5⟩ := h6
  have n1 := (Below.refl W6.heap.size W6).alloc (Nat.le_refl _) (.cells #[.int .i64 0, .int .i64 0, .slice none 0 0] 28)
  have n2 : Below W6.heap.size W6 ((W6.alloc (.cells #[.int .i64 0, .int .i64 0, .slice none 0 0] 28)).alloc (.cells #[.int .i64 0] 31)) := n1.alloc n1.size _
  have hsz : ((W6.alloc (.cells #[.int .i64 0, .int .i64 0, .slice none 0 0] 28)).alloc (.cells #[.int .i64 0] 31)).heap.size = W6.heap.size + 2 := by simp
  have HX1 := ext1_any (W := (W6.alloc (.cells #[.int .i64 0, .int .i64 0, .slice none 0 0] 28)).alloc (.cells #[.int .i64 0] 31)) (gc := w.heap.size) (gn := w.heap.size + 1) (go := w.heap.size + 2) (ge := w.heap.size + 3) (gx := w.heap.size + 4) (n := n) (ow := ow) ⟨q0.later n2, q1.later n2, q3.later n2, q2.later n2, q4.later n2⟩ ((h.later hb6).later n2) ((hx.later hb6).later n2) hx0 hm1 hid' he'
  unfold ExtP at HX1
  rw [hsz] at HX1
  have HAT := hid (attemptChain 43 _ W6 enters_ext1 (fun o' t' ad' m' c' X => extE o t l n ow e id ns = 0 ∧ o' = ow ∧ t' = t ∧ CAns X (W6.heap.size + 2) (extL t l e ⟨e, id, ns⟩) ad' m' c') (fun y => y = extE o t l n ow e id ns ∧ y ≠ 0) HX1)
  have HB6 := hid hb6
  have HZ : Hid (∀ X, Below W6.heap.size W6 X → Blk X (w.heap.size + 5) #[.int .i64 0, .int .i64 0, .slice none 0 0] 28) := hid (fun X hX => q5.later hX)
  have HAT2 := hid (HAT.out.mono (R' := fun x w' => ∃ o' t' ad' m' c', x = .returned (.tuple #[.agg #[.int .i64 o', .int .i64 t', .slice ad' m' c'], .int .i64 (extE o t l n ow e id ns)]) ∧ (w'.cell? ⟨w.heap.size + 5, 0, none⟩ = some (.int .i64 0) ∧ w'.cell? ⟨w.heap.size + 5, 1, none⟩ = some (.int .i64 0) ∧ w'.cell? ⟨w.heap.size + 5, 2, none⟩ = some (.slice none 0 0) ∧ w'.frozen? ⟨w.heap.size + 5, 0, none⟩ = false ∧ w'.frozen? ⟨w.heap.size + 5, 1, none⟩ = false ∧ w'.frozen? ⟨w.heap.size + 5, 2, none⟩ = false) ∧ Hid (extC o t l n ow e id ns = ⟨o', t', (extC o t l n ow e id ns).parts⟩ ∧ CAns w' (w.heap.size + 6) (extC o t l n ow e id ns).parts ad' m' c' ∧ Below W6.heap.size W6 w')) (by
    rintro x w' ⟨h1, hb⟩
    have hz := HZ.out w' hb
    have hc := (⟨hz.cell 0, hz.cell 1, hz.cell 2, hz.free 0, hz.free 1, hz.free 2⟩ : (w'.cell? ⟨w.heap.size + 5, 0, none⟩ = some (.int .i64 0) ∧ w'.cell? ⟨w.heap.size + 5, 1, none⟩ = some (.int .i64 0) ∧ w'.cell? ⟨w.heap.size + 5, 2, none⟩ = some (.slice none 0 0) ∧ w'.frozen? ⟨w.heap.size + 5, 0, none⟩ = false ∧ w'.frozen? ⟨w.heap.size + 5, 1, none⟩ = false ∧ w'.frozen? ⟨w.heap.size + 5, 2, none⟩ = false))
    rcases h1 with ⟨X, hch, -, o', t', ad', m', c', rfl, hE, rfl, rfl, hA⟩ | ⟨y, rfl, rfl, hy⟩
    · have hC : extC o t' l n o' e id ns = ⟨o', t', extL t' l e ⟨e, id, ns⟩⟩ := by unfold extC; rw [if_pos hE]
      refine ⟨o', t', ad', m', c', by rw [hE], hc, hid ⟨by rw [hC], ?_, hb⟩⟩
      rw [hC]
      exact (hA.chg hch (fun g hg => by simp at hg; omega)).down (by omega)
    · have hC : extC o t l n ow e id ns = ⟨0, 0, []⟩ := by unfold extC; rw [if_neg hy]
      exact ⟨0, 0, none, 0, 0, rfl, hc, hid ⟨by rw [hC], by rw [hC]; exact CAns.none _ _, hb⟩⟩))
  have hmf : ∀ (fn : Fn) (first cap : Array Value) (w : World), (Instr.makeFunc fn first cap).run Try.prog w = .ok (.func fn first cap) w := fun _ _ _ _ => rfl
  clear h hx hx0 HAT HX1 n1 n2 hsz q0 q1 q2 q3 q4 q5 hb6
  go_enter Try.func21, Try.ntmps21
  go_wp2_with (go_at_call 34; refine HAT2.out.mono ?_; rintro x w' ⟨o', t', ad', m', c', rfl, ⟨z0, z1, z2, y0, y1, y2⟩, HR⟩)
  obtain ⟨hC, hA, hb⟩ := HR.out
  have hz := HZ.out w' hb
  have m0 := ((hz.set 0 (.int .i64 o')).set 1 (.int .i64 t')).set 2 (.slice ad' m' c')
  have s0 : (((w'.setCell ⟨w.heap.size + 1 + 1 + 1 + 1 + 1, 0, none⟩ (.int .i64 o')).setCell ⟨w.heap.size + 1 + 1 + 1 + 1 + 1, 1, none⟩ (.int .i64 t')).setCell ⟨w.heap.size + 1 + 1 + 1 + 1 + 1, 2, none⟩ (.slice ad' m' c')).cell? ⟨w.heap.size + 1 + 1 + 1 + 1 + 1, 0, none⟩ = some (.int .i64 o') := m0.cell 0
  have s1 : (((w'.setCell ⟨w.heap.size + 1 + 1 + 1 + 1 + 1, 0, none⟩ (.int .i64 o')).setCell ⟨w.heap.size + 1 + 1 + 1 + 1 + 1, 1, none⟩ (.int .i64 t')).setCell ⟨w.heap.size + 1 + 1 + 1 + 1 + 1, 2, none⟩ (.slice ad' m' c')).cell? ⟨w.heap.size + 1 + 1 + 1 + 1 + 1, 1, none⟩ = some (.int .i64 t') := m0.cell 1
  have s2 : (((w'.setCell ⟨w.heap.size + 1 + 1 + 1 + 1 + 1, 0, none⟩ (.int .i64 o')).setCell ⟨w.heap.size + 1 + 1 + 1 + 1 + 1, 1, none⟩ (.int .i64 t')).setCell ⟨w.heap.size + 1 + 1 + 1 + 1 + 1, 2, none⟩ (.slice ad' m' c')).cell? ⟨w.heap.size + 1 + 1 + 1 + 1 + 1, 2, none⟩ = some (.slice ad' m' c') := m0.cell 2
  have hcg : Chg [w.heap.size + 5] w' (((w'.setCell ⟨w.heap.size + 1 + 1 + 1 + 1 + 1, 0, none⟩ (.int .i64 o')).setCell ⟨w.heap.size + 1 + 1 + 1 + 1 + 1, 1, none⟩ (.int .i64 t')).setCell ⟨w.heap.size + 1 + 1 + 1 + 1 + 1, 2, none⟩ (.slice ad' m' c')) := (((Chg.refl _ w').set (Or.inl (by simp)) _ _).set (Or.inl (by simp)) _ _).set (Or.inl (by simp)) _ _
  have hbw : Below w.heap.size w w' := HB6.out.trans (hb.mono HB6.out.size)
  have e1 : (extC o t l n ow e id ns).owner = o' := by rw [hC]
  have e2 : (extC o t l n ow e id ns).trim = t' := by rw [hC]
  refine bodyPost_ret (v := .tuple #[.agg #[.int .i64 o', .int .i64 t', .slice ad' m' c'], .int .i64 (extE o t l n ow e id ns)]) (by simp [results, Try.results21, go_sem, s0, s1, s2]) rfl ⟨ad', m', c', by rw [e1, e2], hid ?_, ?_⟩
  · exact (hA.chg hcg (fun g hg => by simp at hg; omega)).down (by omega)
  · exact hbw.trans (hcg.below (fun k hk => by simp at hk; omega) hbw.size)
end Go.Proofs.Ythadagpfmacemaa
