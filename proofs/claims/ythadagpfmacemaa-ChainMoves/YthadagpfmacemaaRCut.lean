/- Cut of the document's package (by genrcut.py). -/
import Derived.Test.YthadagpfmacemaaROwn
import Derived.Test.YthadagpfmacemaaRChk
import Derived.Test.YthadagpfmacemaaOnceM
namespace Go.Proofs.Ythadagpfmacemaa.Rf
open Go.RowKit
variable {w w' : World} {l : List Pt} {A : Nat → Sl} {ad : Option Addr} {m c : Nat}

theorem cutK_of {o t n a : Int} {k : Nat} (h : CutOk o t l n a) (hp : partsOk n l l.length) (hk : k < l.length) (h1 : (ptAt l k).first ≤ a) (h2 : k + 1 < l.length → a < (ptAt l (k + 1)).first) : cutK l a = k := by
  obtain ⟨-, e1, e2, e3⟩ := h.hold (by omega)
  rcases Nat.lt_trichotomy (cutK l a) k with hl | hl | hl
  · have := e3 k hl hk; omega
  · exact hl
  · have := hp.mono (i := k + 1) (j := cutK l a) hl e1
    have := h2 (by omega)
    omega
theorem cutE_eq {o t n a : Int} (h : mayC o t l n) (h1 : t ≤ a) (h2 : a ≤ lastF l) : cutE o t l n a = 0 := by unfold cutE; rw [if_pos h, if_pos ⟨h1, h2⟩]
theorem cutE_no {o t n a : Int} (h : ¬ (mayC o t l n ∧ t ≤ a ∧ a ≤ lastF l)) : cutE o t l n a = 1 := by
  unfold cutE
  by_cases h1 : mayC o t l n
  · rw [if_pos h1, if_neg (fun h2 => h ⟨h1, h2⟩)]
  · rw [if_neg h1]
theorem cutC_no {o t n a : Int} (h : cutE o t l n a = 1) : cutC o t l n a = ⟨0, 0, []⟩ := by unfold cutC; rw [h, if_neg (by omega)]
theorem cutC_ok {o t n a : Int} (h : cutE o t l n a = 0) : cutC o t l n a = ⟨o, a, l.drop (cutK l a)⟩ := by unfold cutC; rw [if_pos h]
/-- The length of the slice at a cell. -/
def lenAt (w : World) (g : Nat) : Nat := match w.cell? ⟨g, 2, none⟩ with
  | some (.slice _ n _) => n
  | _ => 0
set_option maxRecDepth 100000 in
set_option maxHeartbeats 2000000 in
theorem cut_any (h : CArg w l A ad m c) (o t n a : Int) : Calls Try.prog 25 #[.agg #[.int .i64 o, .int .i64 t, .slice ad m c], .int .i64 n, .int .i64 a] w fun x w' =>
      ∃ ad' m' c', x = .returned (.tuple #[.agg #[.int .i64 (cutC o t l n a).owner, .int .i64 (cutC o t l n a).trim, .slice ad' m' c'], .int .i64 (cutE o t l n a)]) ∧ Hid (CAns w' w.heap.size (cutC o t l n a).parts ad' m' c') ∧ Below w.heap.size w w' := by
  have hl := h.len
  have hm : m ≤ 9223372036854775807 := by have := h.cap; have := h.room; unfold maxLen at this; omega
  have HB2 : Hid (Below w.heap.size w ((w.alloc (.cells #[.int .i64 o, .int .i64 t, .slice ad m c] 24)).alloc (.cells #[.int .i64 0, .int .i64 0, .slice none 0 0] 24))) := hid (((Below.refl _ w).alloc (Nat.le_refl _) _).alloc (by simp) _)
  have HS2 : Hid (((w.alloc (.cells #[.int .i64 o, .int .i64 t, .slice ad m c] 24)).alloc (.cells #[.int .i64 0, .int .i64 0, .slice none 0 0] 24)).heap.size = w.heap.size + 2) := hid (by simp)
  have HZ : Hid (∀ X, Below ((w.alloc (.cells #[.int .i64 o, .int .i64 t, .slice ad m c] 24)).alloc (.cells #[.int .i64 0, .int .i64 0, .slice none 0 0] 24)).heap.size ((w.alloc (.cells #[.int .i64 o, .int .i64 t, .slice ad m c] 24)).alloc (.cells #[.int .i64 0, .int .i64 0, .slice none 0 0] 24)) X → Blk X (w.heap.size + 1) #[.int .i64 0, .int .i64 0, .slice none 0 0] 24) := hid (fun X hX => (heap_alloc_new' _ (w.heap.size + 1) #[.int .i64 0, .int .i64 0, .slice none 0 0] (by simp)).later hX)
  have HW : Hid (∀ X, Below ((w.alloc (.cells #[.int .i64 o, .int .i64 t, .slice ad m c] 24)).alloc (.cells #[.int .i64 0, .int .i64 0, .slice none 0 0] 24)).heap.size ((w.alloc (.cells #[.int .i64 o, .int .i64 t, .slice ad m c] 24)).alloc (.cells #[.int .i64 0, .int .i64 0, .slice none 0 0] 24)) X → X.cell? ⟨w.heap.size, 0, none⟩ = some (.int .i64 o) ∧ X.cell? ⟨w.heap.size, 1, none⟩ = some (.int .i64 t) ∧ X.cell? ⟨w.heap.size, 2, none⟩ = some (.slice ad m c) ∧ X.cell? ⟨w.heap.size + 1, 0, none⟩ = some (.int .i64 0) ∧ X.cell? ⟨w.heap.size + 1, 1, none⟩ = some (.int .i64 0) ∧ X.cell? ⟨w.heap.size + 1, 2, none⟩ = some (.slice none 0 0) ∧ X.frozen? ⟨w.heap.size + 1, 0, none⟩ = false ∧ X.frozen? ⟨w.heap.size + 1, 1, none⟩ = false ∧ X.frozen? ⟨w.heap.size + 1, 2, none⟩ = false) := hid (fun X hX => by
    have q0 := ((show Blk _ w.heap.size #[.int .i64 o, .int .i64 t, .slice ad m c] 24 from heap_alloc_new w _).later ((Below.refl _ _).alloc (Nat.le_refl _) (.cells #[.int .i64 0, .int .i64 0, .slice none 0 0] 24))).later hX
    have q1 := HZ.out X hX
    exact ⟨q0.cell 0, q0.cell 1, q0.cell 2, q1.cell 0, q1.cell 1, q1.cell 2, q1.free 0, q1.free 1, q1.free 2⟩)
  have HK := hid (refChk_any (h.later HB2.out) o t n)
  have H := hid h
  have HL := hid hl
  clear h hl
  by_cases p1 : mayC o t l n
  case neg =>
    have HE := hid (cutE_no (a := a) (fun q => p1 q.1))
    have HC := hid (cutC_no HE.out)
    rw [mayN_no p1] at HK
    clear p1
    go_enter Try.func25, Try.ntmps25
    go_wp2_with (go_at_call 15; refine HK.out.mono ?_; rintro x w1 ⟨rfl, hb1⟩; obtain ⟨k0, k1, k2, z0, z1, z2, f0, f1, f2⟩ := HW.out w1 hb1; have HB1 := hid hb1; clear hb1)
    have m0 := (((HZ.out w1 HB1.out).set 0 (.int .i64 0)).set 1 (.int .i64 0)).set 2 (.slice none 0 0)
    have s0 : (((w1.setCell ⟨w.heap.size + 1, 0, none⟩ (.int .i64 0)).setCell ⟨w.heap.size + 1, 1, none⟩ (.int .i64 0)).setCell ⟨w.heap.size + 1, 2, none⟩ (.slice none 0 0)).cell? ⟨w.heap.size + 1, 0, none⟩ = some (.int .i64 0) := m0.cell 0
    have s1 : (((w1.setCell ⟨w.heap.size + 1, 0, none⟩ (.int .i64 0)).setCell ⟨w.heap.size + 1, 1, none⟩ (.int .i64 0)).setCell ⟨w.heap.size + 1, 2, none⟩ (.slice none 0 0)).cell? ⟨w.heap.size + 1, 1, none⟩ = some (.int .i64 0) := m0.cell 1
    have s2 : (((w1.setCell ⟨w.heap.size + 1, 0, none⟩ (.int .i64 0)).setCell ⟨w.heap.size + 1, 1, none⟩ (.int .i64 0)).setCell ⟨w.heap.size + 1, 2, none⟩ (.slice none 0 0)).cell? ⟨w.heap.size + 1, 2, none⟩ = some (.slice none 0 0) := m0.cell 2
    have hcg : Chg [w.heap.size + 1] w1 (((w1.setCell ⟨w.heap.size + 1, 0, none⟩ (.int .i64 0)).setCell ⟨w.heap.size + 1, 1, none⟩ (.int .i64 0)).setCell ⟨w.heap.size + 1, 2, none⟩ (.slice none 0 0)) := (((Chg.refl _ w1).set (Or.inl (by simp)) _ _).set (Or.inl (by simp)) _ _).set (Or.inl (by simp)) _ _
    have hbw : Below w.heap.size w w1 := HB2.out.trans (HB1.out.mono HB2.out.size)
    refine bodyPost_ret (v := .tuple #[.agg #[.int .i64 0, .int .i64 0, .slice none 0 0], .int .i64 1]) (by simp [results, Try.results25, go_sem, s0, s1, s2]) rfl ⟨none, 0, 0, by rw [HC.out, HE.out], hid (by rw [HC.out]; exact CAns.none _ _), ?_⟩
    exact hbw.trans (hcg.below (fun k hk => by simp at hk; omega) hbw.size)
  rw [mayN_ok p1] at HK
  by_cases p2 : a < t
  · have HE := hid (cutE_no (o := o) (t := t) (l := l) (n := n) (a := a) (fun q => by have := q.2.1; omega))
    have HC := hid (cutC_no HE.out)
    have d2 : decide (a < t) = true := by simpa using p2
    clear p1 p2
    go_enter Try.func25, Try.ntmps25
    go_wp2_with (go_at_call 15; refine HK.out.mono ?_; rintro x w1 ⟨rfl, hb1⟩; obtain ⟨k0, k1, k2, z0, z1, z2, f0, f1, f2⟩ := HW.out w1 hb1; have HB1 := hid hb1; clear hb1)
    have m0 := (((HZ.out w1 HB1.out).set 0 (.int .i64 0)).set 1 (.int .i64 0)).set 2 (.slice none 0 0)
    have s0 : (((w1.setCell ⟨w.heap.size + 1, 0, none⟩ (.int .i64 0)).setCell ⟨w.heap.size + 1, 1, none⟩ (.int .i64 0)).setCell ⟨w.heap.size + 1, 2, none⟩ (.slice none 0 0)).cell? ⟨w.heap.size + 1, 0, none⟩ = some (.int .i64 0) := m0.cell 0
    have s1 : (((w1.setCell ⟨w.heap.size + 1, 0, none⟩ (.int .i64 0)).setCell ⟨w.heap.size + 1, 1, none⟩ (.int .i64 0)).setCell ⟨w.heap.size + 1, 2, none⟩ (.slice none 0 0)).cell? ⟨w.heap.size + 1, 1, none⟩ = some (.int .i64 0) := m0.cell 1
    have s2 : (((w1.setCell ⟨w.heap.size + 1, 0, none⟩ (.int .i64 0)).setCell ⟨w.heap.size + 1, 1, none⟩ (.int .i64 0)).setCell ⟨w.heap.size + 1, 2, none⟩ (.slice none 0 0)).cell? ⟨w.heap.size + 1, 2, none⟩ = some (.slice none 0 0) := m0.cell 2
    have hcg : Chg [w.heap.size + 1] w1 (((w1.setCell ⟨w.heap.size + 1, 0, none⟩ (.int .i64 0)).setCell ⟨w.heap.size + 1, 1, none⟩ (.int .i64 0)).setCell ⟨w.heap.size + 1, 2, none⟩ (.slice none 0 0)) := (((Chg.refl _ w1).set (Or.inl (by simp)) _ _).set (Or.inl (by simp)) _ _).set (Or.inl (by simp)) _ _
    have hbw : Below w.heap.size w w1 := HB2.out.trans (HB1.out.mono HB2.out.size)
    refine bodyPost_ret (v := .tuple #[.agg #[.int .i64 0, .int .i64 0, .slice none 0 0], .int .i64 1]) (by simp [results, Try.results25, go_sem, s0, s1, s2]) rfl ⟨none, 0, 0, by rw [HC.out, HE.out], hid (by rw [HC.out]; exact CAns.none _ _), ?_⟩
    exact hbw.trans (hcg.below (fun k hk => by simp at hk; omega) hbw.size)
  have d2 : decide (a < t) = false := by simpa using p2
  by_cases p3 : m = 0
  · have hl0 : l.length = 0 := by rw [HL.out, p3]
    have ht : t = 0 := by have := p1.2.2.2; unfold trimOk at this; rwa [if_pos hl0] at this
    have hlf := lastF_nil hl0
    have q3 : ((m : Int) == 0) = true := by simp [p3]
    have hlt0 : l = [] := List.length_eq_zero_iff.1 hl0
    by_cases p4 : a = 0
    · have HE := hid (cutE_eq p1 (by omega : t ≤ a) (by omega))
      have HC0 := hid (cutC_ok HE.out)
      have HC : Hid (cutC o t l n a = ⟨o, a, l⟩) := hid (by rw [HC0.out, hlt0]; rfl)
      have d4 : (a == 0) = true := by simpa using p4
      have d5 : decide (0 < m) = false := by simp; omega
      have HO : Hid (∀ X, Below ((w.alloc (.cells #[.int .i64 o, .int .i64 t, .slice ad m c] 24)).alloc (.cells #[.int .i64 0, .int .i64 0, .slice none 0 0] 24)).heap.size ((w.alloc (.cells #[.int .i64 o, .int .i64 t, .slice ad m c] 24)).alloc (.cells #[.int .i64 0, .int .i64 0, .slice none 0 0] 24)) X → Calls Try.prog 48 #[.agg #[.int .i64 o, .int .i64 t, .slice ad m c]] X fun x w' => ∃ ad' c', x = .returned (.agg #[.int .i64 o, .int .i64 t, .slice ad' m c']) ∧ Hid (CAns w' X.heap.size l ad' m c') ∧ Below X.heap.size X w') := hid (fun X hX => own_any (H.out.later (HB2.out.trans (hX.mono HB2.out.size))) o t (by omega) (fun i hi => by omega))
      clear HC0 hlt0 hlf hl0 ht p1 p2 d4 q3 d5
      subst p3
      subst p4
      go_enter Try.func25, Try.ntmps25
      go_wp2_with first
        | (go_at_call 15; refine HK.out.mono ?_; rintro x w1 ⟨rfl, hb1⟩; obtain ⟨k0, k1, k2, z0, z1, z2, f0, f1, f2⟩ := HW.out w1 hb1; have HB1 := hid hb1; clear hb1)
        | (go_at_call 48; refine (HO.out w1 HB1.out).mono ?_; rintro x w2 ⟨adx, cx, rfl, hans, hb2⟩; have HBB := hid (HB1.out.trans (hb2.mono HB1.out.size)); clear hb2 k0 k1 k2 z0 z1 z2 f0 f1 f2)
      go_loopw [] (fun wr => ∃ k : Nat, k = 0 ∧ Hid (wr = w2.alloc (.cells #[.int .i64 o, .int .i64 0, .slice adx 0 cx] 24))) (fun wr => lenAt wr w2.heap.size)
      case atStart => exact ⟨0, rfl, hid rfl⟩
      case round =>
        obtain ⟨-, -, hrel⟩ := hrel
        have hwr := hrel.out
        clear hrel
        have HBR0 : Below w2.heap.size w2 wr := by rw [hwr]; exact (Below.refl _ _).alloc (Nat.le_refl _) _
        have HZR := HZ.out wr (HBB.out.trans (HBR0.mono HBB.out.size))
        have z0 := HZR.cell 0
        have z1 := HZR.cell 1
        have z2 := HZR.cell 2
        have f0 := HZR.free 0
        have f1 := HZR.free 1
        have f2 := HZR.free 2
        have HG : Blk wr w2.heap.size #[.int .i64 o, .int .i64 0, .slice adx 0 cx] 24 := by rw [hwr]; exact heap_alloc_new w2 _
        have g0 := HG.cell 0
        have g1 := HG.cell 1
        have g2 := HG.cell 2
        have HBR := hid (HB2.out.trans ((HBB.out.trans (HBR0.mono HBB.out.size)).mono HB2.out.size))
        have HA3 := hid (hans.out.later HBR0)
        clear hwr HBR0 HG
        go_wp2_with fail
        have m0 := ((HZR.set 0 (.int .i64 o)).set 1 (.int .i64 0)).set 2 (.slice adx 0 cx)
        have s0 : (((wr.setCell ⟨w.heap.size + 1, 0, none⟩ (.int .i64 o)).setCell ⟨w.heap.size + 1, 1, none⟩ (.int .i64 0)).setCell ⟨w.heap.size + 1, 2, none⟩ (.slice adx 0 cx)).cell? ⟨w.heap.size + 1, 0, none⟩ = some (.int .i64 o) := m0.cell 0
        have s1 : (((wr.setCell ⟨w.heap.size + 1, 0, none⟩ (.int .i64 o)).setCell ⟨w.heap.size + 1, 1, none⟩ (.int .i64 0)).setCell ⟨w.heap.size + 1, 2, none⟩ (.slice adx 0 cx)).cell? ⟨w.heap.size + 1, 1, none⟩ = some (.int .i64 0) := m0.cell 1
        have s2 : (((wr.setCell ⟨w.heap.size + 1, 0, none⟩ (.int .i64 o)).setCell ⟨w.heap.size + 1, 1, none⟩ (.int .i64 0)).setCell ⟨w.heap.size + 1, 2, none⟩ (.slice adx 0 cx)).cell? ⟨w.heap.size + 1, 2, none⟩ = some (.slice adx 0 cx) := m0.cell 2
        have hcg : Chg [w.heap.size + 1] wr (((wr.setCell ⟨w.heap.size + 1, 0, none⟩ (.int .i64 o)).setCell ⟨w.heap.size + 1, 1, none⟩ (.int .i64 0)).setCell ⟨w.heap.size + 1, 2, none⟩ (.slice adx 0 cx)) := (((Chg.refl _ wr).set (Or.inl (by simp)) _ _).set (Or.inl (by simp)) _ _).set (Or.inl (by simp)) _ _
        refine bodyPost_ret (v := .tuple #[.agg #[.int .i64 o, .int .i64 0, .slice adx 0 cx], .int .i64 0]) (by simp [results, Try.results25, go_sem, s0, s1, s2]) rfl ⟨adx, 0, cx, by rw [HC.out, HE.out], hid ?_, ?_⟩
        · rw [HC.out]
          exact (HA3.out.chg hcg (fun g hg => by simp at hg; have := HB1.out.size; have := HS2.out; omega)).down (by have := HB1.out.size; have := HS2.out; omega)
        · exact HBR.out.trans (hcg.below (fun k hk => by simp at hk; omega) HBR.out.size)
    · have HE := hid (cutE_no (o := o) (t := t) (l := l) (n := n) (a := a) (fun q => by have := q.2.2; omega))
      have HC := hid (cutC_no HE.out)
      have d4 : (a == 0) = false := by simpa using p4
      clear p1 p2 hlt0 hl0 hlf ht
      subst p3
      go_enter Try.func25, Try.ntmps25
      go_wp2_with (go_at_call 15; refine HK.out.mono ?_; rintro x w1 ⟨rfl, hb1⟩; obtain ⟨k0, k1, k2, z0, z1, z2, f0, f1, f2⟩ := HW.out w1 hb1; have HB1 := hid hb1; clear hb1)
      have m0 := (((HZ.out w1 HB1.out).set 0 (.int .i64 0)).set 1 (.int .i64 0)).set 2 (.slice none 0 0)
      have s0 : (((w1.setCell ⟨w.heap.size + 1, 0, none⟩ (.int .i64 0)).setCell ⟨w.heap.size + 1, 1, none⟩ (.int .i64 0)).setCell ⟨w.heap.size + 1, 2, none⟩ (.slice none 0 0)).cell? ⟨w.heap.size + 1, 0, none⟩ = some (.int .i64 0) := m0.cell 0
      have s1 : (((w1.setCell ⟨w.heap.size + 1, 0, none⟩ (.int .i64 0)).setCell ⟨w.heap.size + 1, 1, none⟩ (.int .i64 0)).setCell ⟨w.heap.size + 1, 2, none⟩ (.slice none 0 0)).cell? ⟨w.heap.size + 1, 1, none⟩ = some (.int .i64 0) := m0.cell 1
      have s2 : (((w1.setCell ⟨w.heap.size + 1, 0, none⟩ (.int .i64 0)).setCell ⟨w.heap.size + 1, 1, none⟩ (.int .i64 0)).setCell ⟨w.heap.size + 1, 2, none⟩ (.slice none 0 0)).cell? ⟨w.heap.size + 1, 2, none⟩ = some (.slice none 0 0) := m0.cell 2
      have hcg : Chg [w.heap.size + 1] w1 (((w1.setCell ⟨w.heap.size + 1, 0, none⟩ (.int .i64 0)).setCell ⟨w.heap.size + 1, 1, none⟩ (.int .i64 0)).setCell ⟨w.heap.size + 1, 2, none⟩ (.slice none 0 0)) := (((Chg.refl _ w1).set (Or.inl (by simp)) _ _).set (Or.inl (by simp)) _ _).set (Or.inl (by simp)) _ _
      have hbw : Below w.heap.size w w1 := HB2.out.trans (HB1.out.mono HB2.out.size)
      refine bodyPost_ret (v := .tuple #[.agg #[.int .i64 0, .int .i64 0, .slice none 0 0], .int .i64 1]) (by simp [results, Try.results25, go_sem, s0, s1, s2]) rfl ⟨none, 0, 0, by rw [HC.out, HE.out], hid (by rw [HC.out]; exact CAns.none _ _), ?_⟩
      exact hbw.trans (hcg.below (fun k hk => by simp at hk; omega) hbw.size)
  · have q3 : ((m : Int) == 0) = false := by simp; omega
    have hmp : 0 < m := by omega
    have hix : ((m : Int) - 1).toNat = m - 1 := by omega
    have hlf : lastF l = (ptAt l (m - 1)).first := by rw [lastF_eq (by rw [HL.out]; omega), HL.out]
    obtain ⟨b0, off0, rfl, -, -⟩ := H.out.cells hmp
    have HRY : Hid (∀ X, Below ((w.alloc (.cells #[.int .i64 o, .int .i64 t, .slice (some ⟨b0, off0, none⟩) m c] 24)).alloc (.cells #[.int .i64 0, .int .i64 0, .slice none 0 0] 24)).heap.size ((w.alloc (.cells #[.int .i64 o, .int .i64 t, .slice (some ⟨b0, off0, none⟩) m c] 24)).alloc (.cells #[.int .i64 0, .int .i64 0, .slice none 0 0] 24)) X → X.cell? ⟨b0, off0 + (m - 1) * 3, none⟩ = some (.int .i64 (ptAt l (m - 1)).first)) := hid (fun X hX => by
      obtain ⟨b', off', e, -, hc⟩ := (H.out.later (HB2.out.trans (hX.mono HB2.out.size))).cells hmp
      cases e
      exact (hc (m - 1) (by omega)).1)
    by_cases p4 : (ptAt l (m - 1)).first < a
    · have HE := hid (cutE_no (o := o) (t := t) (l := l) (n := n) (a := a) (fun q => by have := q.2.2; omega))
      have HC := hid (cutC_no HE.out)
      have d4 : decide ((ptAt l (m - 1)).first < a) = true := by simpa using p4
      clear p1 p2 p4 hlf
      generalize (ptAt l (m - 1)).first = y at *
      go_enter Try.func25, Try.ntmps25
      go_wp2_with (go_at_call 15; refine HK.out.mono ?_; rintro x w1 ⟨rfl, hb1⟩; obtain ⟨k0, k1, k2, z0, z1, z2, f0, f1, f2⟩ := HW.out w1 hb1; have HB1 := hid hb1; have ry0 := HRY.out w1 hb1; clear hb1)
      have m0 := (((HZ.out w1 HB1.out).set 0 (.int .i64 0)).set 1 (.int .i64 0)).set 2 (.slice none 0 0)
      have s0 : (((w1.setCell ⟨w.heap.size + 1, 0, none⟩ (.int .i64 0)).setCell ⟨w.heap.size + 1, 1, none⟩ (.int .i64 0)).setCell ⟨w.heap.size + 1, 2, none⟩ (.slice none 0 0)).cell? ⟨w.heap.size + 1, 0, none⟩ = some (.int .i64 0) := m0.cell 0
      have s1 : (((w1.setCell ⟨w.heap.size + 1, 0, none⟩ (.int .i64 0)).setCell ⟨w.heap.size + 1, 1, none⟩ (.int .i64 0)).setCell ⟨w.heap.size + 1, 2, none⟩ (.slice none 0 0)).cell? ⟨w.heap.size + 1, 1, none⟩ = some (.int .i64 0) := m0.cell 1
      have s2 : (((w1.setCell ⟨w.heap.size + 1, 0, none⟩ (.int .i64 0)).setCell ⟨w.heap.size + 1, 1, none⟩ (.int .i64 0)).setCell ⟨w.heap.size + 1, 2, none⟩ (.slice none 0 0)).cell? ⟨w.heap.size + 1, 2, none⟩ = some (.slice none 0 0) := m0.cell 2
      have hcg : Chg [w.heap.size + 1] w1 (((w1.setCell ⟨w.heap.size + 1, 0, none⟩ (.int .i64 0)).setCell ⟨w.heap.size + 1, 1, none⟩ (.int .i64 0)).setCell ⟨w.heap.size + 1, 2, none⟩ (.slice none 0 0)) := (((Chg.refl _ w1).set (Or.inl (by simp)) _ _).set (Or.inl (by simp)) _ _).set (Or.inl (by simp)) _ _
      have hbw : Below w.heap.size w w1 := HB2.out.trans (HB1.out.mono HB2.out.size)
      refine bodyPost_ret (v := .tuple #[.agg #[.int .i64 0, .int .i64 0, .slice none 0 0], .int .i64 1]) (by simp [results, Try.results25, go_sem, s0, s1, s2]) rfl ⟨none, 0, 0, by rw [HC.out, HE.out], hid (by rw [HC.out]; exact CAns.none _ _), ?_⟩
      exact hbw.trans (hcg.below (fun k hk => by simp at hk; omega) hbw.size)
    · have HE := hid (cutE_eq p1 (by omega : t ≤ a) (by omega))
      have HC0 := hid (cutC_ok HE.out)
      have HOK := hid (cut_ok HE.out)
      have d4 : decide ((ptAt l (m - 1)).first < a) = false := by simpa using p4
      have h64 : m ≤ 64 := by have := p1.2.1.2; rwa [HL.out] at this
      have HP := hid p1.2.2.1
      have HF0 : Hid ((ptAt l 0).first ≤ a) := hid (by have := p1.2.2.2; unfold trimOk at this; rw [if_neg (by rw [HL.out]; omega)] at this; have := this.2.1; omega)
      have HO : Hid (∀ X, Below ((w.alloc (.cells #[.int .i64 o, .int .i64 t, .slice (some ⟨b0, off0, none⟩) m c] 24)).alloc (.cells #[.int .i64 0, .int .i64 0, .slice none 0 0] 24)).heap.size ((w.alloc (.cells #[.int .i64 o, .int .i64 t, .slice (some ⟨b0, off0, none⟩) m c] 24)).alloc (.cells #[.int .i64 0, .int .i64 0, .slice none 0 0] 24)) X → Calls Try.prog 48 #[.agg #[.int .i64 o, .int .i64 t, .slice (some ⟨b0, off0, none⟩) m c]] X fun x w' => ∃ ad' c', x = .returned (.agg #[.int .i64 o, .int .i64 t, .slice ad' m c']) ∧ Hid (CAns w' X.heap.size l ad' m c') ∧ Below X.heap.size X w') := hid (fun X hX => own_any (H.out.later (HB2.out.trans (hX.mono HB2.out.size))) o t (by omega) (fun i hi => by
        have e1 := (H.out.ints i hi).1.len
        have e2 := (p1.2.2.1 i (by rw [HL.out]; exact hi)).2.1
        have e3 : (ptAt l i).nodes.length ≤ 9 := by
          unfold checkL at e2
          by_cases hq : 0 ≤ (ptAt l i).id ∧ (ptAt l i).id < 281474976710656 ∧ 1 ≤ (ptAt l i).nodes.length ∧ (ptAt l i).nodes.length ≤ 9 ∧ goodN n (ptAt l i).nodes (ptAt l i).nodes.length
          · exact hq.2.2.2.1
          · rw [if_neg hq] at e2; omega
        omega))
      clear p1 p2 p4 hlf
      generalize (ptAt l (m - 1)).first = y at *
      go_enter Try.func25, Try.ntmps25
      go_wp2_with first
        | (go_at_call 15; refine HK.out.mono ?_; rintro x w1 ⟨rfl, hb1⟩; obtain ⟨k0, k1, k2, z0, z1, z2, f0, f1, f2⟩ := HW.out w1 hb1; have HB1 := hid hb1; have ry0 := HRY.out w1 hb1; clear hb1)
        | (go_at_call 48; refine (HO.out w1 HB1.out).mono ?_; rintro x w2 ⟨adx, cx, rfl, hans, hb2⟩; have HBB := hid (HB1.out.trans (hb2.mono HB1.out.size)); clear hb2 k0 k1 k2 z0 z1 z2 f0 f1 f2 ry0; obtain ⟨A2, hA2, hBk, hTy⟩ := hans.out.arg; have HTy := hid hTy; obtain ⟨b, off, rfl, -, -⟩ := hA2.cells hmp; have HA2 := hid hA2; have HBk := hid hBk; clear hA2 hBk hTy hans)
      go_loopw [] (fun wr => ∃ k, k < m ∧ Hid ((ptAt l k).first ≤ a) ∧ Hid (Below w2.heap.size w2 wr ∧ Blk wr w2.heap.size #[.int .i64 o, .int .i64 a, .slice (some ⟨b, off + k * 3, none⟩) (m - k) (cx - k)] 24)) (fun wr => lenAt wr w2.heap.size)
      case atStart => exact ⟨0, hmp, HF0, hid ⟨(Below.refl _ _).alloc (Nat.le_refl _) _, by simp only [Nat.zero_mul, Nat.add_zero, Nat.sub_zero]; exact (show Blk (w2.alloc (.cells #[.int .i64 o, .int .i64 a, .slice (some ⟨b, off, none⟩) m cx] 24)) w2.heap.size #[.int .i64 o, .int .i64 a, .slice (some ⟨b, off, none⟩) m cx] 24 from heap_alloc_new w2 _)⟩⟩
      case round =>
        obtain ⟨k, hk, HF, HGG⟩ := hrel
        have HZR := HZ.out wr (HBB.out.trans (HGG.out.1.mono HBB.out.size))
        have z0 := HZR.cell 0
        have z1 := HZR.cell 1
        have z2 := HZR.cell 2
        have f0 := HZR.free 0
        have f1 := HZR.free 1
        have f2 := HZR.free 2
        have g0 : wr.cell? ⟨w2.heap.size, 0, none⟩ = some (.int .i64 o) := HGG.out.2.cell 0
        have g1 : wr.cell? ⟨w2.heap.size, 1, none⟩ = some (.int .i64 a) := HGG.out.2.cell 1
        have g2 : wr.cell? ⟨w2.heap.size, 2, none⟩ = some (.slice (some ⟨b, off + k * 3, none⟩) (m - k) (cx - k)) := HGG.out.2.cell 2
        have fg := HGG.out.2.free 2
        have HBR := hid (HB2.out.trans ((HBB.out.trans (HGG.out.1.mono HBB.out.size)).mono HB2.out.size))
        have HAW := hid (HA2.out.later HGG.out.1)
        have HEND : Hid ((k + 1 < m → a < (ptAt l (k + 1)).first) → cutC o t l n a = ⟨o, a, l.drop k⟩) := hid (fun hh => by rw [HC0.out, cutK_of HOK.out HP.out (by rw [HL.out]; exact hk) HF.out (by rw [HL.out]; exact hh)])
        have HA3 : Hid (CAns wr w1.heap.size (l.drop k) (some ⟨b, off + k * 3, none⟩) (m - k) (cx - k)) := hid (by
          obtain ⟨b', off', e, hcb⟩ := HAW.out.behind k hk
          cases e
          exact ⟨_, hcb, ⟨fun _ b' off' e => by cases e; exact HBk.out.row (by omega) b off rfl, fun i hi h0 b' off' e => HBk.out.ints (k + i) (by omega) h0 b' off' e⟩, fun i hi h0 b' off' e => (HTy.out.later HGG.out.1) (k + i) (by omega) h0 b' off' e⟩)
        have hkm : m - k ≤ 9223372036854775807 := by omega
        by_cases e1 : 1 < m - k
        · have d7 : decide (1 < m - k) = true := by simpa using e1
          have ry : wr.cell? ⟨b, off + k * 3 + 3, none⟩ = some (.int .i64 (ptAt l (k + 1)).first) := by
            obtain ⟨b', off', e, -, hc⟩ := HAW.out.cells hmp
            cases e
            rw [show off + k * 3 + 3 = off + (k + 1) * 3 by omega]
            exact (hc (k + 1) (by omega)).1
          by_cases e2 : (ptAt l (k + 1)).first ≤ a
          · have d8 : decide ((ptAt l (k + 1)).first ≤ a) = true := by simpa using e2
            have HF2 := hid e2
            clear e2
            generalize (ptAt l (k + 1)).first = yk at ry d8
            go_wp2_with fail
            have hcx : ¬ cx - k = 1 := by have := HAW.out.cap; omega
            simp only [if_neg hcx]
            have nb := HGG.out.2.set 2 (.slice (some ⟨b, off + k * 3 + 3, none⟩) (m - k - 1) (cx - k - 1))
            have n2 : (wr.setCell ⟨w2.heap.size, 2, none⟩ (.slice (some ⟨b, off + k * 3 + 3, none⟩) (m - k - 1) (cx - k - 1))).cell? ⟨w2.heap.size, 2, none⟩ = some (.slice (some ⟨b, off + k * 3 + 3, none⟩) (m - k - 1) (cx - k - 1)) := nb.cell 2
            have hcg : Chg [w2.heap.size] wr (wr.setCell ⟨w2.heap.size, 2, none⟩ (.slice (some ⟨b, off + k * 3 + 3, none⟩) (m - k - 1) (cx - k - 1))) := (Chg.refl _ wr).set (Or.inl (by simp)) _ _
            refine ⟨⟨k + 1, by omega, HF2, hid ⟨HGG.out.1.trans (hcg.below (fun k hk => by simp at hk; omega) HGG.out.1.size), ?_⟩⟩, ?_⟩
            · rw [show off + (k + 1) * 3 = off + k * 3 + 3 by omega, show m - (k + 1) = m - k - 1 by omega, show cx - (k + 1) = cx - k - 1 by omega]
              exact nb
            · unfold lenAt
              rw [n2, g2]
              show m - k - 1 < m - k
              omega
          · have d8 : decide ((ptAt l (k + 1)).first ≤ a) = false := by simpa using e2
            have HC := hid (HEND.out (fun _ => by omega))
            clear e2 HEND
            generalize (ptAt l (k + 1)).first = yk at ry d8
            go_wp2_with fail
            have m0 := ((HZR.set 0 (.int .i64 o)).set 1 (.int .i64 a)).set 2 (.slice (some ⟨b, off + k * 3, none⟩) (m - k) (cx - k))
            have s0 : (((wr.setCell ⟨w.heap.size + 1, 0, none⟩ (.int .i64 o)).setCell ⟨w.heap.size + 1, 1, none⟩ (.int .i64 a)).setCell ⟨w.heap.size + 1, 2, none⟩ (.slice (some ⟨b, off + k * 3, none⟩) (m - k) (cx - k))).cell? ⟨w.heap.size + 1, 0, none⟩ = some (.int .i64 o) := m0.cell 0
            have s1 : (((wr.setCell ⟨w.heap.size + 1, 0, none⟩ (.int .i64 o)).setCell ⟨w.heap.size + 1, 1, none⟩ (.int .i64 a)).setCell ⟨w.heap.size + 1, 2, none⟩ (.slice (some ⟨b, off + k * 3, none⟩) (m - k) (cx - k))).cell? ⟨w.heap.size + 1, 1, none⟩ = some (.int .i64 a) := m0.cell 1
            have s2 : (((wr.setCell ⟨w.heap.size + 1, 0, none⟩ (.int .i64 o)).setCell ⟨w.heap.size + 1, 1, none⟩ (.int .i64 a)).setCell ⟨w.heap.size + 1, 2, none⟩ (.slice (some ⟨b, off + k * 3, none⟩) (m - k) (cx - k))).cell? ⟨w.heap.size + 1, 2, none⟩ = some (.slice (some ⟨b, off + k * 3, none⟩) (m - k) (cx - k)) := m0.cell 2
            have hcg : Chg [w.heap.size + 1] wr (((wr.setCell ⟨w.heap.size + 1, 0, none⟩ (.int .i64 o)).setCell ⟨w.heap.size + 1, 1, none⟩ (.int .i64 a)).setCell ⟨w.heap.size + 1, 2, none⟩ (.slice (some ⟨b, off + k * 3, none⟩) (m - k) (cx - k))) := (((Chg.refl _ wr).set (Or.inl (by simp)) _ _).set (Or.inl (by simp)) _ _).set (Or.inl (by simp)) _ _
            refine bodyPost_ret (v := .tuple #[.agg #[.int .i64 o, .int .i64 a, .slice (some ⟨b, off + k * 3, none⟩) (m - k) (cx - k)], .int .i64 0]) (by simp [results, Try.results25, go_sem, s0, s1, s2]) rfl ⟨some ⟨b, off + k * 3, none⟩, m - k, cx - k, by rw [HC.out, HE.out], hid ?_, ?_⟩
            · rw [HC.out]
              exact (HA3.out.chg hcg (fun g hg => by simp at hg; have := HB1.out.size; have := HS2.out; omega)).down (by have := HB1.out.size; have := HS2.out; omega)
            · exact HBR.out.trans (hcg.below (fun k hk => by simp at hk; omega) HBR.out.size)
        · have d7 : decide (1 < m - k) = false := by simpa using e1
          have HC := hid (HEND.out (fun _ => by omega))
          clear HEND
          go_wp2_with fail
          have m0 := ((HZR.set 0 (.int .i64 o)).set 1 (.int .i64 a)).set 2 (.slice (some ⟨b, off + k * 3, none⟩) (m - k) (cx - k))
          have s0 : (((wr.setCell ⟨w.heap.size + 1, 0, none⟩ (.int .i64 o)).setCell ⟨w.heap.size + 1, 1, none⟩ (.int .i64 a)).setCell ⟨w.heap.size + 1, 2, none⟩ (.slice (some ⟨b, off + k * 3, none⟩) (m - k) (cx - k))).cell? ⟨w.heap.size + 1, 0, none⟩ = some (.int .i64 o) := m0.cell 0
          have s1 : (((wr.setCell ⟨w.heap.size + 1, 0, none⟩ (.int .i64 o)).setCell ⟨w.heap.size + 1, 1, none⟩ (.int .i64 a)).setCell ⟨w.heap.size + 1, 2, none⟩ (.slice (some ⟨b, off + k * 3, none⟩) (m - k) (cx - k))).cell? ⟨w.heap.size + 1, 1, none⟩ = some (.int .i64 a) := m0.cell 1
          have s2 : (((wr.setCell ⟨w.heap.size + 1, 0, none⟩ (.int .i64 o)).setCell ⟨w.heap.size + 1, 1, none⟩ (.int .i64 a)).setCell ⟨w.heap.size + 1, 2, none⟩ (.slice (some ⟨b, off + k * 3, none⟩) (m - k) (cx - k))).cell? ⟨w.heap.size + 1, 2, none⟩ = some (.slice (some ⟨b, off + k * 3, none⟩) (m - k) (cx - k)) := m0.cell 2
          have hcg : Chg [w.heap.size + 1] wr (((wr.setCell ⟨w.heap.size + 1, 0, none⟩ (.int .i64 o)).setCell ⟨w.heap.size + 1, 1, none⟩ (.int .i64 a)).setCell ⟨w.heap.size + 1, 2, none⟩ (.slice (some ⟨b, off + k * 3, none⟩) (m - k) (cx - k))) := (((Chg.refl _ wr).set (Or.inl (by simp)) _ _).set (Or.inl (by simp)) _ _).set (Or.inl (by simp)) _ _
          refine bodyPost_ret (v := .tuple #[.agg #[.int .i64 o, .int .i64 a, .slice (some ⟨b, off + k * 3, none⟩) (m - k) (cx - k)], .int .i64 0]) (by simp [results, Try.results25, go_sem, s0, s1, s2]) rfl ⟨some ⟨b, off + k * 3, none⟩, m - k, cx - k, by rw [HC.out, HE.out], hid ?_, ?_⟩
          · rw [HC.out]
            exact (HA3.out.chg hcg (fun g hg => by simp at hg; have := HB1.out.size; have := HS2.out; omega)).down (by have := HB1.out.size; have := HS2.out; omega)
          · exact HBR.out.trans (hcg.below (fun k hk => by simp at hk; omega) HBR.out.size)
end Go.Proofs.Ythadagpfmacemaa.Rf
