/- Extend of the document's package: its errors (by genrext.py). -/
import Derived.Test.YthadagpfmacemaaRExt0
namespace Go.Proofs.Ythadagpfmacemaa.Rf
open Go.RowKit
variable {w w' : World} {l : List Pt} {A : Nat → Sl} {ad ad1 : Option Addr} {m c m1 c1 : Nat} {ns : List Int}

set_option maxRecDepth 100000 in
set_option maxHeartbeats 4000000 in
theorem err_none {o t n e ow id : Int} (h : CArg w l A ad m c) (hx : Ints w ns ad1 m1 c1) (p1 : mayC o t l n) (hE : extE o t l n ow e id ns = 1) (p3 : m = 0) (p4 : e ≠ 0) : Calls Try.prog 23 #[.agg #[.int .i64 o, .int .i64 t, .slice ad m c], .int .i64 n, .int .i64 ow, .int .i64 e, .agg #[.int .i64 id, .slice ad1 m1 c1]] w fun x w' =>
      ∃ ad' m' c', x = .returned (.tuple #[.agg #[.int .i64 (extC o t l n ow e id ns).owner, .int .i64 (extC o t l n ow e id ns).trim, .slice ad' m' c'], .int .i64 (extE o t l n ow e id ns)]) ∧ Hid (CAns w' w.heap.size (extC o t l n ow e id ns).parts ad' m' c') ∧ Below w.heap.size w w' := by
  have hl := h.len
  have hm : m ≤ 9223372036854775807 := by have := h.cap; have := h.room; unfold maxLen at this; omega
  have HB2 : Hid (Below w.heap.size w (((w.alloc (.cells #[.int .i64 o, .int .i64 t, .slice ad m c] 24)).alloc (.cells #[.int .i64 id, .slice ad1 m1 c1] 49)).alloc (.cells #[.int .i64 0, .int .i64 0, .slice none 0 0] 24))) := hid ((((Below.refl _ w).alloc (Nat.le_refl _) _).alloc (by simp) _).alloc (by simp; omega) _)
  have HS2 : Hid ((((w.alloc (.cells #[.int .i64 o, .int .i64 t, .slice ad m c] 24)).alloc (.cells #[.int .i64 id, .slice ad1 m1 c1] 49)).alloc (.cells #[.int .i64 0, .int .i64 0, .slice none 0 0] 24)).heap.size = w.heap.size + 3) := hid (by simp)
  have HZ : Hid (∀ X, Below (((w.alloc (.cells #[.int .i64 o, .int .i64 t, .slice ad m c] 24)).alloc (.cells #[.int .i64 id, .slice ad1 m1 c1] 49)).alloc (.cells #[.int .i64 0, .int .i64 0, .slice none 0 0] 24)).heap.size (((w.alloc (.cells #[.int .i64 o, .int .i64 t, .slice ad m c] 24)).alloc (.cells #[.int .i64 id, .slice ad1 m1 c1] 49)).alloc (.cells #[.int .i64 0, .int .i64 0, .slice none 0 0] 24)) X → Blk X (w.heap.size + 2) #[.int .i64 0, .int .i64 0, .slice none 0 0] 24) := hid (fun X hX => (heap_alloc_new' _ (w.heap.size + 2) #[.int .i64 0, .int .i64 0, .slice none 0 0] (by simp)).later hX)
  have HW : Hid (∀ X, Below (((w.alloc (.cells #[.int .i64 o, .int .i64 t, .slice ad m c] 24)).alloc (.cells #[.int .i64 id, .slice ad1 m1 c1] 49)).alloc (.cells #[.int .i64 0, .int .i64 0, .slice none 0 0] 24)).heap.size (((w.alloc (.cells #[.int .i64 o, .int .i64 t, .slice ad m c] 24)).alloc (.cells #[.int .i64 id, .slice ad1 m1 c1] 49)).alloc (.cells #[.int .i64 0, .int .i64 0, .slice none 0 0] 24)) X → X.cell? ⟨w.heap.size, 0, none⟩ = some (.int .i64 o) ∧ X.cell? ⟨w.heap.size, 1, none⟩ = some (.int .i64 t) ∧ X.cell? ⟨w.heap.size, 2, none⟩ = some (.slice ad m c) ∧ X.cell? ⟨w.heap.size + 1 + 1, 0, none⟩ = some (.int .i64 0) ∧ X.cell? ⟨w.heap.size + 1 + 1, 1, none⟩ = some (.int .i64 0) ∧ X.cell? ⟨w.heap.size + 1 + 1, 2, none⟩ = some (.slice none 0 0) ∧ X.frozen? ⟨w.heap.size + 1 + 1, 0, none⟩ = false ∧ X.frozen? ⟨w.heap.size + 1 + 1, 1, none⟩ = false ∧ X.frozen? ⟨w.heap.size + 1 + 1, 2, none⟩ = false) := hid (fun X hX => by
    have q0 := (((show Blk _ w.heap.size #[.int .i64 o, .int .i64 t, .slice ad m c] 24 from heap_alloc_new w _).later ((Below.refl _ _).alloc (Nat.le_refl _) (.cells #[.int .i64 id, .slice ad1 m1 c1] 49))).later ((Below.refl _ _).alloc (Nat.le_refl _) (.cells #[.int .i64 0, .int .i64 0, .slice none 0 0] 24))).later hX
    have q1 := HZ.out X hX
    exact ⟨q0.cell 0, q0.cell 1, q0.cell 2, q1.cell 0, q1.cell 1, q1.cell 2, q1.free 0, q1.free 1, q1.free 2⟩)
  have HS0 : Hid (∀ X, Below (((w.alloc (.cells #[.int .i64 o, .int .i64 t, .slice ad m c] 24)).alloc (.cells #[.int .i64 id, .slice ad1 m1 c1] 49)).alloc (.cells #[.int .i64 0, .int .i64 0, .slice none 0 0] 24)).heap.size (((w.alloc (.cells #[.int .i64 o, .int .i64 t, .slice ad m c] 24)).alloc (.cells #[.int .i64 id, .slice ad1 m1 c1] 49)).alloc (.cells #[.int .i64 0, .int .i64 0, .slice none 0 0] 24)) X → X.cell? ⟨w.heap.size + 1, 0, none⟩ = some (.int .i64 id) ∧ X.cell? ⟨w.heap.size + 1, 1, none⟩ = some (.slice ad1 m1 c1)) := hid (fun X hX => by
    have q0 := ((heap_alloc_new' (w.alloc (.cells #[.int .i64 o, .int .i64 t, .slice ad m c] 24)) (w.heap.size + 1) #[.int .i64 id, .slice ad1 m1 c1] (T := 49) (by simp)).later ((Below.refl _ _).alloc (Nat.le_refl _) (.cells #[.int .i64 0, .int .i64 0, .slice none 0 0] 24))).later hX
    exact ⟨q0.cell 0, q0.cell 1⟩)
  have HIX : Hid (∀ X, Below (((w.alloc (.cells #[.int .i64 o, .int .i64 t, .slice ad m c] 24)).alloc (.cells #[.int .i64 id, .slice ad1 m1 c1] 49)).alloc (.cells #[.int .i64 0, .int .i64 0, .slice none 0 0] 24)).heap.size (((w.alloc (.cells #[.int .i64 o, .int .i64 t, .slice ad m c] 24)).alloc (.cells #[.int .i64 id, .slice ad1 m1 c1] 49)).alloc (.cells #[.int .i64 0, .int .i64 0, .slice none 0 0] 24)) X → Ints X ns ad1 m1 c1) := hid (fun X hX => (hx.later HB2.out).later hX)
  have HXR := hid hx.rng
  have HXL := hid hx.len
  have HK := hid (refChk_any (h.later HB2.out) o t n)
  have H := hid h
  have HL := hid hl
  clear h hl hx
  rw [mayN_ok p1] at HK
  have h64 : m ≤ 64 := by have := p1.2.1.2; rwa [HL.out] at this
  have HE := hid hE
  have HC := hid (extC_no (by rw [HE.out]; decide : extE o t l n ow e id ns ≠ 0))
  clear hE
  have d4 : (e == 0) = false := by simpa using p4
  clear p1
  subst p3
  go_enter Try.func23, Try.ntmps23
  go_wp2_with (go_at_call 15; refine HK.out.mono ?_; rintro x w1 ⟨rfl, hb1⟩; obtain ⟨k0, k1, k2, z0, z1, z2, f0, f1, f2⟩ := HW.out w1 hb1; have HB1 := hid hb1; clear hb1)
  have HZW := HZ.out w1 HB1.out
  have hbw : Below w.heap.size w w1 := HB2.out.trans (HB1.out.mono HB2.out.size)
  have m0 := ((HZW.set 0 (.int .i64 0)).set 1 (.int .i64 0)).set 2 (.slice none 0 0)
  have s0 : (((w1.setCell ⟨w.heap.size + 1 + 1, 0, none⟩ (.int .i64 0)).setCell ⟨w.heap.size + 1 + 1, 1, none⟩ (.int .i64 0)).setCell ⟨w.heap.size + 1 + 1, 2, none⟩ (.slice none 0 0)).cell? ⟨w.heap.size + 1 + 1, 0, none⟩ = some (.int .i64 0) := m0.cell 0
  have s1 : (((w1.setCell ⟨w.heap.size + 1 + 1, 0, none⟩ (.int .i64 0)).setCell ⟨w.heap.size + 1 + 1, 1, none⟩ (.int .i64 0)).setCell ⟨w.heap.size + 1 + 1, 2, none⟩ (.slice none 0 0)).cell? ⟨w.heap.size + 1 + 1, 1, none⟩ = some (.int .i64 0) := m0.cell 1
  have s2 : (((w1.setCell ⟨w.heap.size + 1 + 1, 0, none⟩ (.int .i64 0)).setCell ⟨w.heap.size + 1 + 1, 1, none⟩ (.int .i64 0)).setCell ⟨w.heap.size + 1 + 1, 2, none⟩ (.slice none 0 0)).cell? ⟨w.heap.size + 1 + 1, 2, none⟩ = some (.slice none 0 0) := m0.cell 2
  have hcg : Chg [w.heap.size + 2] w1 (((w1.setCell ⟨w.heap.size + 1 + 1, 0, none⟩ (.int .i64 0)).setCell ⟨w.heap.size + 1 + 1, 1, none⟩ (.int .i64 0)).setCell ⟨w.heap.size + 1 + 1, 2, none⟩ (.slice none 0 0)) := (((Chg.refl _ w1).set (Or.inl (by simp)) _ _).set (Or.inl (by simp)) _ _).set (Or.inl (by simp)) _ _
  refine bodyPost_ret (v := .tuple #[.agg #[.int .i64 0, .int .i64 0, .slice none 0 0], .int .i64 1]) (by simp [results, Try.results23, go_sem, s0, s1, s2]) rfl ⟨none, 0, 0, by rw [HC.out, HE.out], hid (by rw [HC.out]; exact CAns.none _ _), hbw.trans (hcg.below (fun k hk => by simp at hk; omega) hbw.size)⟩
set_option maxRecDepth 100000 in
set_option maxHeartbeats 4000000 in
theorem err_full {o t n e ow id : Int} (h : CArg w l A ad m c) (hx : Ints w ns ad1 m1 c1) (p1 : mayC o t l n) (hE : extE o t l n ow e id ns = 7) (hmp : 0 < m) (p5 : m = 64) (p6 : e ≠ (ptAt l (m - 1)).first) : Calls Try.prog 23 #[.agg #[.int .i64 o, .int .i64 t, .slice ad m c], .int .i64 n, .int .i64 ow, .int .i64 e, .agg #[.int .i64 id, .slice ad1 m1 c1]] w fun x w' =>
      ∃ ad' m' c', x = .returned (.tuple #[.agg #[.int .i64 (extC o t l n ow e id ns).owner, .int .i64 (extC o t l n ow e id ns).trim, .slice ad' m' c'], .int .i64 (extE o t l n ow e id ns)]) ∧ Hid (CAns w' w.heap.size (extC o t l n ow e id ns).parts ad' m' c') ∧ Below w.heap.size w w' := by
  have hl := h.len
  have hm : m ≤ 9223372036854775807 := by have := h.cap; have := h.room; unfold maxLen at this; omega
  have HB2 : Hid (Below w.heap.size w (((w.alloc (.cells #[.int .i64 o, .int .i64 t, .slice ad m c] 24)).alloc (.cells #[.int .i64 id, .slice ad1 m1 c1] 49)).alloc (.cells #[.int .i64 0, .int .i64 0, .slice none 0 0] 24))) := hid ((((Below.refl _ w).alloc (Nat.le_refl _) _).alloc (by simp) _).alloc (by simp; omega) _)
  have HS2 : Hid ((((w.alloc (.cells #[.int .i64 o, .int .i64 t, .slice ad m c] 24)).alloc (.cells #[.int .i64 id, .slice ad1 m1 c1] 49)).alloc (.cells #[.int .i64 0, .int .i64 0, .slice none 0 0] 24)).heap.size = w.heap.size + 3) := hid (by simp)
  have HZ : Hid (∀ X, Below (((w.alloc (.cells #[.int .i64 o, .int .i64 t, .slice ad m c] 24)).alloc (.cells #[.int .i64 id, .slice ad1 m1 c1] 49)).alloc (.cells #[.int .i64 0, .int .i64 0, .slice none 0 0] 24)).heap.size (((w.alloc (.cells #[.int .i64 o, .int .i64 t, .slice ad m c] 24)).alloc (.cells #[.int .i64 id, .slice ad1 m1 c1] 49)).alloc (.cells #[.int .i64 0, .int .i64 0, .slice none 0 0] 24)) X → Blk X (w.heap.size + 2) #[.int .i64 0, .int .i64 0, .slice none 0 0] 24) := hid (fun X hX => (heap_alloc_new' _ (w.heap.size + 2) #[.int .i64 0, .int .i64 0, .slice none 0 0] (by simp)).later hX)
  have HW : Hid (∀ X, Below (((w.alloc (.cells #[.int .i64 o, .int .i64 t, .slice ad m c] 24)).alloc (.cells #[.int .i64 id, .slice ad1 m1 c1] 49)).alloc (.cells #[.int .i64 0, .int .i64 0, .slice none 0 0] 24)).heap.size (((w.alloc (.cells #[.int .i64 o, .int .i64 t, .slice ad m c] 24)).alloc (.cells #[.int .i64 id, .slice ad1 m1 c1] 49)).alloc (.cells #[.int .i64 0, .int .i64 0, .slice none 0 0] 24)) X → X.cell? ⟨w.heap.size, 0, none⟩ = some (.int .i64 o) ∧ X.cell? ⟨w.heap.size, 1, none⟩ = some (.int .i64 t) ∧ X.cell? ⟨w.heap.size, 2, none⟩ = some (.slice ad m c) ∧ X.cell? ⟨w.heap.size + 1 + 1, 0, none⟩ = some (.int .i64 0) ∧ X.cell? ⟨w.heap.size + 1 + 1, 1, none⟩ = some (.int .i64 0) ∧ X.cell? ⟨w.heap.size + 1 + 1, 2, none⟩ = some (.slice none 0 0) ∧ X.frozen? ⟨w.heap.size + 1 + 1, 0, none⟩ = false ∧ X.frozen? ⟨w.heap.size + 1 + 1, 1, none⟩ = false ∧ X.frozen? ⟨w.heap.size + 1 + 1, 2, none⟩ = false) := hid (fun X hX => by
    have q0 := (((show Blk _ w.heap.size #[.int .i64 o, .int .i64 t, .slice ad m c] 24 from heap_alloc_new w _).later ((Below.refl _ _).alloc (Nat.le_refl _) (.cells #[.int .i64 id, .slice ad1 m1 c1] 49))).later ((Below.refl _ _).alloc (Nat.le_refl _) (.cells #[.int .i64 0, .int .i64 0, .slice none 0 0] 24))).later hX
    have q1 := HZ.out X hX
    exact ⟨q0.cell 0, q0.cell 1, q0.cell 2, q1.cell 0, q1.cell 1, q1.cell 2, q1.free 0, q1.free 1, q1.free 2⟩)
  have HS0 : Hid (∀ X, Below (((w.alloc (.cells #[.int .i64 o, .int .i64 t, .slice ad m c] 24)).alloc (.cells #[.int .i64 id, .slice ad1 m1 c1] 49)).alloc (.cells #[.int .i64 0, .int .i64 0, .slice none 0 0] 24)).heap.size (((w.alloc (.cells #[.int .i64 o, .int .i64 t, .slice ad m c] 24)).alloc (.cells #[.int .i64 id, .slice ad1 m1 c1] 49)).alloc (.cells #[.int .i64 0, .int .i64 0, .slice none 0 0] 24)) X → X.cell? ⟨w.heap.size + 1, 0, none⟩ = some (.int .i64 id) ∧ X.cell? ⟨w.heap.size + 1, 1, none⟩ = some (.slice ad1 m1 c1)) := hid (fun X hX => by
    have q0 := ((heap_alloc_new' (w.alloc (.cells #[.int .i64 o, .int .i64 t, .slice ad m c] 24)) (w.heap.size + 1) #[.int .i64 id, .slice ad1 m1 c1] (T := 49) (by simp)).later ((Below.refl _ _).alloc (Nat.le_refl _) (.cells #[.int .i64 0, .int .i64 0, .slice none 0 0] 24))).later hX
    exact ⟨q0.cell 0, q0.cell 1⟩)
  have HIX : Hid (∀ X, Below (((w.alloc (.cells #[.int .i64 o, .int .i64 t, .slice ad m c] 24)).alloc (.cells #[.int .i64 id, .slice ad1 m1 c1] 49)).alloc (.cells #[.int .i64 0, .int .i64 0, .slice none 0 0] 24)).heap.size (((w.alloc (.cells #[.int .i64 o, .int .i64 t, .slice ad m c] 24)).alloc (.cells #[.int .i64 id, .slice ad1 m1 c1] 49)).alloc (.cells #[.int .i64 0, .int .i64 0, .slice none 0 0] 24)) X → Ints X ns ad1 m1 c1) := hid (fun X hX => (hx.later HB2.out).later hX)
  have HXR := hid hx.rng
  have HXL := hid hx.len
  have HK := hid (refChk_any (h.later HB2.out) o t n)
  have H := hid h
  have HL := hid hl
  clear h hl hx
  rw [mayN_ok p1] at HK
  have h64 : m ≤ 64 := by have := p1.2.1.2; rwa [HL.out] at this
  have HE := hid hE
  have HC := hid (extC_no (by rw [HE.out]; decide : extE o t l n ow e id ns ≠ 0))
  clear hE
  have p3 : m ≠ 0 := by omega
  have q3 : ((m : Int) == 0) = false := by simp; omega
  have hix : ((m : Int) - 1).toNat = m - 1 := by omega
  obtain ⟨hy0, hy1⟩ := (p1.2.2.1 (m - 1) (by rw [HL.out]; omega)).1
  obtain ⟨b0, off0, rfl, hs0, -⟩ := H.out.cells hmp
  have HRY : Hid (∀ X, Below (((w.alloc (.cells #[.int .i64 o, .int .i64 t, .slice (some ⟨b0, off0, none⟩) m c] 24)).alloc (.cells #[.int .i64 id, .slice ad1 m1 c1] 49)).alloc (.cells #[.int .i64 0, .int .i64 0, .slice none 0 0] 24)).heap.size (((w.alloc (.cells #[.int .i64 o, .int .i64 t, .slice (some ⟨b0, off0, none⟩) m c] 24)).alloc (.cells #[.int .i64 id, .slice ad1 m1 c1] 49)).alloc (.cells #[.int .i64 0, .int .i64 0, .slice none 0 0] 24)) X → X.cell? ⟨b0, off0 + (m - 1) * 3, none⟩ = some (.int .i64 (ptAt l (m - 1)).first)) := hid (fun X hX => by
    obtain ⟨b', off', e, -, hc⟩ := (H.out.later (HB2.out.trans (hX.mono HB2.out.size))).cells hmp
    cases e
    exact (hc (m - 1) (by omega)).1)
  generalize (ptAt l (m - 1)).first = y at *
  have a1 : (e == y) = false := by simpa using p6
  clear p1
  subst p5
  replace HRY : Hid (∀ X, Below (((w.alloc (.cells #[.int .i64 o, .int .i64 t, .slice (some ⟨b0, off0, none⟩) 64 c] 24)).alloc (.cells #[.int .i64 id, .slice ad1 m1 c1] 49)).alloc (.cells #[.int .i64 0, .int .i64 0, .slice none 0 0] 24)).heap.size (((w.alloc (.cells #[.int .i64 o, .int .i64 t, .slice (some ⟨b0, off0, none⟩) 64 c] 24)).alloc (.cells #[.int .i64 id, .slice ad1 m1 c1] 49)).alloc (.cells #[.int .i64 0, .int .i64 0, .slice none 0 0] 24)) X → X.cell? ⟨b0, off0 + 189, none⟩ = some (.int .i64 y)) := hid (fun X hX => by have := HRY.out X hX; simpa using this)
  go_enter Try.func23, Try.ntmps23
  go_wp2_with (go_at_call 15; refine HK.out.mono ?_; rintro x w1 ⟨rfl, hb1⟩; obtain ⟨k0, k1, k2, z0, z1, z2, f0, f1, f2⟩ := HW.out w1 hb1; have ry := HRY.out w1 hb1; have HB1 := hid hb1; clear hb1)
  have HZW := HZ.out w1 HB1.out
  have hbw : Below w.heap.size w w1 := HB2.out.trans (HB1.out.mono HB2.out.size)
  have m0 := ((HZW.set 0 (.int .i64 0)).set 1 (.int .i64 0)).set 2 (.slice none 0 0)
  have s0 : (((w1.setCell ⟨w.heap.size + 1 + 1, 0, none⟩ (.int .i64 0)).setCell ⟨w.heap.size + 1 + 1, 1, none⟩ (.int .i64 0)).setCell ⟨w.heap.size + 1 + 1, 2, none⟩ (.slice none 0 0)).cell? ⟨w.heap.size + 1 + 1, 0, none⟩ = some (.int .i64 0) := m0.cell 0
  have s1 : (((w1.setCell ⟨w.heap.size + 1 + 1, 0, none⟩ (.int .i64 0)).setCell ⟨w.heap.size + 1 + 1, 1, none⟩ (.int .i64 0)).setCell ⟨w.heap.size + 1 + 1, 2, none⟩ (.slice none 0 0)).cell? ⟨w.heap.size + 1 + 1, 1, none⟩ = some (.int .i64 0) := m0.cell 1
  have s2 : (((w1.setCell ⟨w.heap.size + 1 + 1, 0, none⟩ (.int .i64 0)).setCell ⟨w.heap.size + 1 + 1, 1, none⟩ (.int .i64 0)).setCell ⟨w.heap.size + 1 + 1, 2, none⟩ (.slice none 0 0)).cell? ⟨w.heap.size + 1 + 1, 2, none⟩ = some (.slice none 0 0) := m0.cell 2
  have hcg : Chg [w.heap.size + 2] w1 (((w1.setCell ⟨w.heap.size + 1 + 1, 0, none⟩ (.int .i64 0)).setCell ⟨w.heap.size + 1 + 1, 1, none⟩ (.int .i64 0)).setCell ⟨w.heap.size + 1 + 1, 2, none⟩ (.slice none 0 0)) := (((Chg.refl _ w1).set (Or.inl (by simp)) _ _).set (Or.inl (by simp)) _ _).set (Or.inl (by simp)) _ _
  refine bodyPost_ret (v := .tuple #[.agg #[.int .i64 0, .int .i64 0, .slice none 0 0], .int .i64 7]) (by simp [results, Try.results23, go_sem, s0, s1, s2]) rfl ⟨none, 0, 0, by rw [HC.out, HE.out], hid (by rw [HC.out]; exact CAns.none _ _), hbw.trans (hcg.below (fun k hk => by simp at hk; omega) hbw.size)⟩
set_option maxRecDepth 100000 in
set_option maxHeartbeats 4000000 in
theorem err_low {o t n e ow id : Int} (h : CArg w l A ad m c) (hx : Ints w ns ad1 m1 c1) (p1 : mayC o t l n) (hE : extE o t l n ow e id ns = 1) (hmp : 0 < m) (p5 : m ≠ 64) (p6 : e < (ptAt l (m - 1)).first) : Calls Try.prog 23 #[.agg #[.int .i64 o, .int .i64 t, .slice ad m c], .int .i64 n, .int .i64 ow, .int .i64 e, .agg #[.int .i64 id, .slice ad1 m1 c1]] w fun x w' =>
      ∃ ad' m' c', x = .returned (.tuple #[.agg #[.int .i64 (extC o t l n ow e id ns).owner, .int .i64 (extC o t l n ow e id ns).trim, .slice ad' m' c'], .int .i64 (extE o t l n ow e id ns)]) ∧ Hid (CAns w' w.heap.size (extC o t l n ow e id ns).parts ad' m' c') ∧ Below w.heap.size w w' := by
  have hl := h.len
  have hm : m ≤ 9223372036854775807 := by have := h.cap; have := h.room; unfold maxLen at this; omega
  have HB2 : Hid (Below w.heap.size w (((w.alloc (.cells #[.int .i64 o, .int .i64 t, .slice ad m c] 24)).alloc (.cells #[.int .i64 id, .slice ad1 m1 c1] 49)).alloc (.cells #[.int .i64 0, .int .i64 0, .slice none 0 0] 24))) := hid ((((Below.refl _ w).alloc (Nat.le_refl _) _).alloc (by simp) _).alloc (by simp; omega) _)
  have HS2 : Hid ((((w.alloc (.cells #[.int .i64 o, .int .i64 t, .slice ad m c] 24)).alloc (.cells #[.int .i64 id, .slice ad1 m1 c1] 49)).alloc (.cells #[.int .i64 0, .int .i64 0, .slice none 0 0] 24)).heap.size = w.heap.size + 3) := hid (by simp)
  have HZ : Hid (∀ X, Below (((w.alloc (.cells #[.int .i64 o, .int .i64 t, .slice ad m c] 24)).alloc (.cells #[.int .i64 id, .slice ad1 m1 c1] 49)).alloc (.cells #[.int .i64 0, .int .i64 0, .slice none 0 0] 24)).heap.size (((w.alloc (.cells #[.int .i64 o, .int .i64 t, .slice ad m c] 24)).alloc (.cells #[.int .i64 id, .slice ad1 m1 c1] 49)).alloc (.cells #[.int .i64 0, .int .i64 0, .slice none 0 0] 24)) X → Blk X (w.heap.size + 2) #[.int .i64 0, .int .i64 0, .slice none 0 0] 24) := hid (fun X hX => (heap_alloc_new' _ (w.heap.size + 2) #[.int .i64 0, .int .i64 0, .slice none 0 0] (by simp)).later hX)
  have HW : Hid (∀ X, Below (((w.alloc (.cells #[.int .i64 o, .int .i64 t, .slice ad m c] 24)).alloc (.cells #[.int .i64 id, .slice ad1 m1 c1] 49)).alloc (.cells #[.int .i64 0, .int .i64 0, .slice none 0 0] 24)).heap.size (((w.alloc (.cells #[.int .i64 o, .int .i64 t, .slice ad m c] 24)).alloc (.cells #[.int .i64 id, .slice ad1 m1 c1] 49)).alloc (.cells #[.int .i64 0, .int .i64 0, .slice none 0 0] 24)) X → X.cell? ⟨w.heap.size, 0, none⟩ = some (.int .i64 o) ∧ X.cell? ⟨w.heap.size, 1, none⟩ = some (.int .i64 t) ∧ X.cell? ⟨w.heap.size, 2, none⟩ = some (.slice ad m c) ∧ X.cell? ⟨w.heap.size + 1 + 1, 0, none⟩ = some (.int .i64 0) ∧ X.cell? ⟨w.heap.size + 1 + 1, 1, none⟩ = some (.int .i64 0) ∧ X.cell? ⟨w.heap.size + 1 + 1, 2, none⟩ = some (.slice none 0 0) ∧ X.frozen? ⟨w.heap.size + 1 + 1, 0, none⟩ = false ∧ X.frozen? ⟨w.heap.size + 1 + 1, 1, none⟩ = false ∧ X.frozen? ⟨w.heap.size + 1 + 1, 2, none⟩ = false) := hid (fun X hX => by
    have q0 := (((show Blk _ w.heap.size #[.int .i64 o, .int .i64 t, .slice ad m c] 24 from heap_alloc_new w _).later ((Below.refl _ _).alloc (Nat.le_refl _) (.cells #[.int .i64 id, .slice ad1 m1 c1] 49))).later ((Below.refl _ _).alloc (Nat.le_refl _) (.cells #[.int .i64 0, .int .i64 0, .slice none 0 0] 24))).later hX
    have q1 := HZ.out X hX
    exact ⟨q0.cell 0, q0.cell 1, q0.cell 2, q1.cell 0, q1.cell 1, q1.cell 2, q1.free 0, q1.free 1, q1.free 2⟩)
  have HS0 : Hid (∀ X, Below (((w.alloc (.cells #[.int .i64 o, .int .i64 t, .slice ad m c] 24)).alloc (.cells #[.int .i64 id, .slice ad1 m1 c1] 49)).alloc (.cells #[.int .i64 0, .int .i64 0, .slice none 0 0] 24)).heap.size (((w.alloc (.cells #[.int .i64 o, .int .i64 t, .slice ad m c] 24)).alloc (.cells #[.int .i64 id, .slice ad1 m1 c1] 49)).alloc (.cells #[.int .i64 0, .int .i64 0, .slice none 0 0] 24)) X → X.cell? ⟨w.heap.size + 1, 0, none⟩ = some (.int .i64 id) ∧ X.cell? ⟨w.heap.size + 1, 1, none⟩ = some (.slice ad1 m1 c1)) := hid (fun X hX => by
    have q0 := ((heap_alloc_new' (w.alloc (.cells #[.int .i64 o, .int .i64 t, .slice ad m c] 24)) (w.heap.size + 1) #[.int .i64 id, .slice ad1 m1 c1] (T := 49) (by simp)).later ((Below.refl _ _).alloc (Nat.le_refl _) (.cells #[.int .i64 0, .int .i64 0, .slice none 0 0] 24))).later hX
    exact ⟨q0.cell 0, q0.cell 1⟩)
  have HIX : Hid (∀ X, Below (((w.alloc (.cells #[.int .i64 o, .int .i64 t, .slice ad m c] 24)).alloc (.cells #[.int .i64 id, .slice ad1 m1 c1] 49)).alloc (.cells #[.int .i64 0, .int .i64 0, .slice none 0 0] 24)).heap.size (((w.alloc (.cells #[.int .i64 o, .int .i64 t, .slice ad m c] 24)).alloc (.cells #[.int .i64 id, .slice ad1 m1 c1] 49)).alloc (.cells #[.int .i64 0, .int .i64 0, .slice none 0 0] 24)) X → Ints X ns ad1 m1 c1) := hid (fun X hX => (hx.later HB2.out).later hX)
  have HXR := hid hx.rng
  have HXL := hid hx.len
  have HK := hid (refChk_any (h.later HB2.out) o t n)
  have H := hid h
  have HL := hid hl
  clear h hl hx
  rw [mayN_ok p1] at HK
  have h64 : m ≤ 64 := by have := p1.2.1.2; rwa [HL.out] at this
  have HE := hid hE
  have HC := hid (extC_no (by rw [HE.out]; decide : extE o t l n ow e id ns ≠ 0))
  clear hE
  have p3 : m ≠ 0 := by omega
  have q3 : ((m : Int) == 0) = false := by simp; omega
  have hix : ((m : Int) - 1).toNat = m - 1 := by omega
  obtain ⟨hy0, hy1⟩ := (p1.2.2.1 (m - 1) (by rw [HL.out]; omega)).1
  obtain ⟨b0, off0, rfl, hs0, -⟩ := H.out.cells hmp
  have HRY : Hid (∀ X, Below (((w.alloc (.cells #[.int .i64 o, .int .i64 t, .slice (some ⟨b0, off0, none⟩) m c] 24)).alloc (.cells #[.int .i64 id, .slice ad1 m1 c1] 49)).alloc (.cells #[.int .i64 0, .int .i64 0, .slice none 0 0] 24)).heap.size (((w.alloc (.cells #[.int .i64 o, .int .i64 t, .slice (some ⟨b0, off0, none⟩) m c] 24)).alloc (.cells #[.int .i64 id, .slice ad1 m1 c1] 49)).alloc (.cells #[.int .i64 0, .int .i64 0, .slice none 0 0] 24)) X → X.cell? ⟨b0, off0 + (m - 1) * 3, none⟩ = some (.int .i64 (ptAt l (m - 1)).first)) := hid (fun X hX => by
    obtain ⟨b', off', e, -, hc⟩ := (H.out.later (HB2.out.trans (hX.mono HB2.out.size))).cells hmp
    cases e
    exact (hc (m - 1) (by omega)).1)
  generalize (ptAt l (m - 1)).first = y at *
  have d64 : ((m : Int) == 64) = false := by simp; omega
  have a3 : decide (e < y) = true := by simpa using p6
  clear p1 p6
  go_enter Try.func23, Try.ntmps23
  go_wp2_with (go_at_call 15; refine HK.out.mono ?_; rintro x w1 ⟨rfl, hb1⟩; obtain ⟨k0, k1, k2, z0, z1, z2, f0, f1, f2⟩ := HW.out w1 hb1; have ry := HRY.out w1 hb1; have HB1 := hid hb1; clear hb1)
  have HZW := HZ.out w1 HB1.out
  have hbw : Below w.heap.size w w1 := HB2.out.trans (HB1.out.mono HB2.out.size)
  have m0 := ((HZW.set 0 (.int .i64 0)).set 1 (.int .i64 0)).set 2 (.slice none 0 0)
  have s0 : (((w1.setCell ⟨w.heap.size + 1 + 1, 0, none⟩ (.int .i64 0)).setCell ⟨w.heap.size + 1 + 1, 1, none⟩ (.int .i64 0)).setCell ⟨w.heap.size + 1 + 1, 2, none⟩ (.slice none 0 0)).cell? ⟨w.heap.size + 1 + 1, 0, none⟩ = some (.int .i64 0) := m0.cell 0
  have s1 : (((w1.setCell ⟨w.heap.size + 1 + 1, 0, none⟩ (.int .i64 0)).setCell ⟨w.heap.size + 1 + 1, 1, none⟩ (.int .i64 0)).setCell ⟨w.heap.size + 1 + 1, 2, none⟩ (.slice none 0 0)).cell? ⟨w.heap.size + 1 + 1, 1, none⟩ = some (.int .i64 0) := m0.cell 1
  have s2 : (((w1.setCell ⟨w.heap.size + 1 + 1, 0, none⟩ (.int .i64 0)).setCell ⟨w.heap.size + 1 + 1, 1, none⟩ (.int .i64 0)).setCell ⟨w.heap.size + 1 + 1, 2, none⟩ (.slice none 0 0)).cell? ⟨w.heap.size + 1 + 1, 2, none⟩ = some (.slice none 0 0) := m0.cell 2
  have hcg : Chg [w.heap.size + 2] w1 (((w1.setCell ⟨w.heap.size + 1 + 1, 0, none⟩ (.int .i64 0)).setCell ⟨w.heap.size + 1 + 1, 1, none⟩ (.int .i64 0)).setCell ⟨w.heap.size + 1 + 1, 2, none⟩ (.slice none 0 0)) := (((Chg.refl _ w1).set (Or.inl (by simp)) _ _).set (Or.inl (by simp)) _ _).set (Or.inl (by simp)) _ _
  refine bodyPost_ret (v := .tuple #[.agg #[.int .i64 0, .int .i64 0, .slice none 0 0], .int .i64 1]) (by simp [results, Try.results23, go_sem, s0, s1, s2]) rfl ⟨none, 0, 0, by rw [HC.out, HE.out], hid (by rw [HC.out]; exact CAns.none _ _), hbw.trans (hcg.below (fun k hk => by simp at hk; omega) hbw.size)⟩
set_option maxRecDepth 100000 in
set_option maxHeartbeats 4000000 in
theorem err_far {o t n e ow id : Int} (h : CArg w l A ad m c) (hx : Ints w ns ad1 m1 c1) (p1 : mayC o t l n) (hE : extE o t l n ow e id ns = 1) (hmp : 0 < m) (p5 : m ≠ 64) (p6 : ¬ e < (ptAt l (m - 1)).first) (p7 : (ptAt l (m - 1)).first + 4096 < e) : Calls Try.prog 23 #[.agg #[.int .i64 o, .int .i64 t, .slice ad m c], .int .i64 n, .int .i64 ow, .int .i64 e, .agg #[.int .i64 id, .slice ad1 m1 c1]] w fun x w' =>
      ∃ ad' m' c', x = .returned (.tuple #[.agg #[.int .i64 (extC o t l n ow e id ns).owner, .int .i64 (extC o t l n ow e id ns).trim, .slice ad' m' c'], .int .i64 (extE o t l n ow e id ns)]) ∧ Hid (CAns w' w.heap.size (extC o t l n ow e id ns).parts ad' m' c') ∧ Below w.heap.size w w' := by
  have hl := h.len
  have hm : m ≤ 9223372036854775807 := by have := h.cap; have := h.room; unfold maxLen at this; omega
  have HB2 : Hid (Below w.heap.size w (((w.alloc (.cells #[.int .i64 o, .int .i64 t, .slice ad m c] 24)).alloc (.cells #[.int .i64 id, .slice ad1 m1 c1] 49)).alloc (.cells #[.int .i64 0, .int .i64 0, .slice none 0 0] 24))) := hid ((((Below.refl _ w).alloc (Nat.le_refl _) _).alloc (by simp) _).alloc (by simp; omega) _)
  have HS2 : Hid ((((w.alloc (.cells #[.int .i64 o, .int .i64 t, .slice ad m c] 24)).alloc (.cells #[.int .i64 id, .slice ad1 m1 c1] 49)).alloc (.cells #[.int .i64 0, .int .i64 0, .slice none 0 0] 24)).heap.size = w.heap.size + 3) := hid (by simp)
  have HZ : Hid (∀ X, Below (((w.alloc (.cells #[.int .i64 o, .int .i64 t, .slice ad m c] 24)).alloc (.cells #[.int .i64 id, .slice ad1 m1 c1] 49)).alloc (.cells #[.int .i64 0, .int .i64 0, .slice none 0 0] 24)).heap.size (((w.alloc (.cells #[.int .i64 o, .int .i64 t, .slice ad m c] 24)).alloc (.cells #[.int .i64 id, .slice ad1 m1 c1] 49)).alloc (.cells #[.int .i64 0, .int .i64 0, .slice none 0 0] 24)) X → Blk X (w.heap.size + 2) #[.int .i64 0, .int .i64 0, .slice none 0 0] 24) := hid (fun X hX => (heap_alloc_new' _ (w.heap.size + 2) #[.int .i64 0, .int .i64 0, .slice none 0 0] (by simp)).later hX)
  have HW : Hid (∀ X, Below (((w.alloc (.cells #[.int .i64 o, .int .i64 t, .slice ad m c] 24)).alloc (.cells #[.int .i64 id, .slice ad1 m1 c1] 49)).alloc (.cells #[.int .i64 0, .int .i64 0, .slice none 0 0] 24)).heap.size (((w.alloc (.cells #[.int .i64 o, .int .i64 t, .slice ad m c] 24)).alloc (.cells #[.int .i64 id, .slice ad1 m1 c1] 49)).alloc (.cells #[.int .i64 0, .int .i64 0, .slice none 0 0] 24)) X → X.cell? ⟨w.heap.size, 0, none⟩ = some (.int .i64 o) ∧ X.cell? ⟨w.heap.size, 1, none⟩ = some (.int .i64 t) ∧ X.cell? ⟨w.heap.size, 2, none⟩ = some (.slice ad m c) ∧ X.cell? ⟨w.heap.size + 1 + 1, 0, none⟩ = some (.int .i64 0) ∧ X.cell? ⟨w.heap.size + 1 + 1, 1, none⟩ = some (.int .i64 0) ∧ X.cell? ⟨w.heap.size + 1 + 1, 2, none⟩ = some (.slice none 0 0) ∧ X.frozen? ⟨w.heap.size + 1 + 1, 0, none⟩ = false ∧ X.frozen? ⟨w.heap.size + 1 + 1, 1, none⟩ = false ∧ X.frozen? ⟨w.heap.size + 1 + 1, 2, none⟩ = false) := hid (fun X hX => by
    have q0 := (((show Blk _ w.heap.size #[.int .i64 o, .int .i64 t, .slice ad m c] 24 from heap_alloc_new w _).later ((Below.refl _ _).alloc (Nat.le_refl _) (.cells #[.int .i64 id, .slice ad1 m1 c1] 49))).later ((Below.refl _ _).alloc (Nat.le_refl _) (.cells #[.int .i64 0, .int .i64 0, .slice none 0 0] 24))).later hX
    have q1 := HZ.out X hX
    exact ⟨q0.cell 0, q0.cell 1, q0.cell 2, q1.cell 0, q1.cell 1, q1.cell 2, q1.free 0, q1.free 1, q1.free 2⟩)
  have HS0 : Hid (∀ X, Below (((w.alloc (.cells #[.int .i64 o, .int .i64 t, .slice ad m c] 24)).alloc (.cells #[.int .i64 id, .slice ad1 m1 c1] 49)).alloc (.cells #[.int .i64 0, .int .i64 0, .slice none 0 0] 24)).heap.size (((w.alloc (.cells #[.int .i64 o, .int .i64 t, .slice ad m c] 24)).alloc (.cells #[.int .i64 id, .slice ad1 m1 c1] 49)).alloc (.cells #[.int .i64 0, .int .i64 0, .slice none 0 0] 24)) X → X.cell? ⟨w.heap.size + 1, 0, none⟩ = some (.int .i64 id) ∧ X.cell? ⟨w.heap.size + 1, 1, none⟩ = some (.slice ad1 m1 c1)) := hid (fun X hX => by
    have q0 := ((heap_alloc_new' (w.alloc (.cells #[.int .i64 o, .int .i64 t, .slice ad m c] 24)) (w.heap.size + 1) #[.int .i64 id, .slice ad1 m1 c1] (T := 49) (by simp)).later ((Below.refl _ _).alloc (Nat.le_refl _) (.cells #[.int .i64 0, .int .i64 0, .slice none 0 0] 24))).later hX
    exact ⟨q0.cell 0, q0.cell 1⟩)
  have HIX : Hid (∀ X, Below (((w.alloc (.cells #[.int .i64 o, .int .i64 t, .slice ad m c] 24)).alloc (.cells #[.int .i64 id, .slice ad1 m1 c1] 49)).alloc (.cells #[.int .i64 0, .int .i64 0, .slice none 0 0] 24)).heap.size (((w.alloc (.cells #[.int .i64 o, .int .i64 t, .slice ad m c] 24)).alloc (.cells #[.int .i64 id, .slice ad1 m1 c1] 49)).alloc (.cells #[.int .i64 0, .int .i64 0, .slice none 0 0] 24)) X → Ints X ns ad1 m1 c1) := hid (fun X hX => (hx.later HB2.out).later hX)
  have HXR := hid hx.rng
  have HXL := hid hx.len
  have HK := hid (refChk_any (h.later HB2.out) o t n)
  have H := hid h
  have HL := hid hl
  clear h hl hx
  rw [mayN_ok p1] at HK
  have h64 : m ≤ 64 := by have := p1.2.1.2; rwa [HL.out] at this
  have HE := hid hE
  have HC := hid (extC_no (by rw [HE.out]; decide : extE o t l n ow e id ns ≠ 0))
  clear hE
  have p3 : m ≠ 0 := by omega
  have q3 : ((m : Int) == 0) = false := by simp; omega
  have hix : ((m : Int) - 1).toNat = m - 1 := by omega
  obtain ⟨hy0, hy1⟩ := (p1.2.2.1 (m - 1) (by rw [HL.out]; omega)).1
  obtain ⟨b0, off0, rfl, hs0, -⟩ := H.out.cells hmp
  have HRY : Hid (∀ X, Below (((w.alloc (.cells #[.int .i64 o, .int .i64 t, .slice (some ⟨b0, off0, none⟩) m c] 24)).alloc (.cells #[.int .i64 id, .slice ad1 m1 c1] 49)).alloc (.cells #[.int .i64 0, .int .i64 0, .slice none 0 0] 24)).heap.size (((w.alloc (.cells #[.int .i64 o, .int .i64 t, .slice (some ⟨b0, off0, none⟩) m c] 24)).alloc (.cells #[.int .i64 id, .slice ad1 m1 c1] 49)).alloc (.cells #[.int .i64 0, .int .i64 0, .slice none 0 0] 24)) X → X.cell? ⟨b0, off0 + (m - 1) * 3, none⟩ = some (.int .i64 (ptAt l (m - 1)).first)) := hid (fun X hX => by
    obtain ⟨b', off', e, -, hc⟩ := (H.out.later (HB2.out.trans (hX.mono HB2.out.size))).cells hmp
    cases e
    exact (hc (m - 1) (by omega)).1)
  generalize (ptAt l (m - 1)).first = y at *
  have d64 : ((m : Int) == 64) = false := by simp; omega
  have a3 : decide (e < y) = false := by simpa using p6
  have a4 : decide (y + 4096 < e) = true := by simpa using p7
  clear p1 p6 p7
  go_enter Try.func23, Try.ntmps23
  go_wp2_with (go_at_call 15; refine HK.out.mono ?_; rintro x w1 ⟨rfl, hb1⟩; obtain ⟨k0, k1, k2, z0, z1, z2, f0, f1, f2⟩ := HW.out w1 hb1; have ry := HRY.out w1 hb1; have HB1 := hid hb1; clear hb1)
  have HZW := HZ.out w1 HB1.out
  have hbw : Below w.heap.size w w1 := HB2.out.trans (HB1.out.mono HB2.out.size)
  have m0 := ((HZW.set 0 (.int .i64 0)).set 1 (.int .i64 0)).set 2 (.slice none 0 0)
  have s0 : (((w1.setCell ⟨w.heap.size + 1 + 1, 0, none⟩ (.int .i64 0)).setCell ⟨w.heap.size + 1 + 1, 1, none⟩ (.int .i64 0)).setCell ⟨w.heap.size + 1 + 1, 2, none⟩ (.slice none 0 0)).cell? ⟨w.heap.size + 1 + 1, 0, none⟩ = some (.int .i64 0) := m0.cell 0
  have s1 : (((w1.setCell ⟨w.heap.size + 1 + 1, 0, none⟩ (.int .i64 0)).setCell ⟨w.heap.size + 1 + 1, 1, none⟩ (.int .i64 0)).setCell ⟨w.heap.size + 1 + 1, 2, none⟩ (.slice none 0 0)).cell? ⟨w.heap.size + 1 + 1, 1, none⟩ = some (.int .i64 0) := m0.cell 1
  have s2 : (((w1.setCell ⟨w.heap.size + 1 + 1, 0, none⟩ (.int .i64 0)).setCell ⟨w.heap.size + 1 + 1, 1, none⟩ (.int .i64 0)).setCell ⟨w.heap.size + 1 + 1, 2, none⟩ (.slice none 0 0)).cell? ⟨w.heap.size + 1 + 1, 2, none⟩ = some (.slice none 0 0) := m0.cell 2
  have hcg : Chg [w.heap.size + 2] w1 (((w1.setCell ⟨w.heap.size + 1 + 1, 0, none⟩ (.int .i64 0)).setCell ⟨w.heap.size + 1 + 1, 1, none⟩ (.int .i64 0)).setCell ⟨w.heap.size + 1 + 1, 2, none⟩ (.slice none 0 0)) := (((Chg.refl _ w1).set (Or.inl (by simp)) _ _).set (Or.inl (by simp)) _ _).set (Or.inl (by simp)) _ _
  refine bodyPost_ret (v := .tuple #[.agg #[.int .i64 0, .int .i64 0, .slice none 0 0], .int .i64 1]) (by simp [results, Try.results23, go_sem, s0, s1, s2]) rfl ⟨none, 0, 0, by rw [HC.out, HE.out], hid (by rw [HC.out]; exact CAns.none _ _), hbw.trans (hcg.below (fun k hk => by simp at hk; omega) hbw.size)⟩
set_option maxRecDepth 100000 in
set_option maxHeartbeats 4000000 in
theorem err_trim {o t n e ow id : Int} (h : CArg w l A ad m c) (hx : Ints w ns ad1 m1 c1) (p1 : mayC o t l n) (hE : extE o t l n ow e id ns = 1) (hmp : 0 < m) (p5 : m ≠ 64) (p6 : ¬ e < (ptAt l (m - 1)).first) (p7 : ¬ (ptAt l (m - 1)).first + 4096 < e) (p8 : e < t) : Calls Try.prog 23 #[.agg #[.int .i64 o, .int .i64 t, .slice ad m c], .int .i64 n, .int .i64 ow, .int .i64 e, .agg #[.int .i64 id, .slice ad1 m1 c1]] w fun x w' =>
      ∃ ad' m' c', x = .returned (.tuple #[.agg #[.int .i64 (extC o t l n ow e id ns).owner, .int .i64 (extC o t l n ow e id ns).trim, .slice ad' m' c'], .int .i64 (extE o t l n ow e id ns)]) ∧ Hid (CAns w' w.heap.size (extC o t l n ow e id ns).parts ad' m' c') ∧ Below w.heap.size w w' := by
  have hl := h.len
  have hm : m ≤ 9223372036854775807 := by have := h.cap; have := h.room; unfold maxLen at this; omega
  have HB2 : Hid (Below w.heap.size w (((w.alloc (.cells #[.int .i64 o, .int .i64 t, .slice ad m c] 24)).alloc (.cells #[.int .i64 id, .slice ad1 m1 c1] 49)).alloc (.cells #[.int .i64 0, .int .i64 0, .slice none 0 0] 24))) := hid ((((Below.refl _ w).alloc (Nat.le_refl _) _).alloc (by simp) _).alloc (by simp; omega) _)
  have HS2 : Hid ((((w.alloc (.cells #[.int .i64 o, .int .i64 t, .slice ad m c] 24)).alloc (.cells #[.int .i64 id, .slice ad1 m1 c1] 49)).alloc (.cells #[.int .i64 0, .int .i64 0, .slice none 0 0] 24)).heap.size = w.heap.size + 3) := hid (by simp)
  have HZ : Hid (∀ X, Below (((w.alloc (.cells #[.int .i64 o, .int .i64 t, .slice ad m c] 24)).alloc (.cells #[.int .i64 id, .slice ad1 m1 c1] 49)).alloc (.cells #[.int .i64 0, .int .i64 0, .slice none 0 0] 24)).heap.size (((w.alloc (.cells #[.int .i64 o, .int .i64 t, .slice ad m c] 24)).alloc (.cells #[.int .i64 id, .slice ad1 m1 c1] 49)).alloc (.cells #[.int .i64 0, .int .i64 0, .slice none 0 0] 24)) X → Blk X (w.heap.size + 2) #[.int .i64 0, .int .i64 0, .slice none 0 0] 24) := hid (fun X hX => (heap_alloc_new' _ (w.heap.size + 2) #[.int .i64 0, .int .i64 0, .slice none 0 0] (by simp)).later hX)
  have HW : Hid (∀ X, Below (((w.alloc (.cells #[.int .i64 o, .int .i64 t, .slice ad m c] 24)).alloc (.cells #[.int .i64 id, .slice ad1 m1 c1] 49)).alloc (.cells #[.int .i64 0, .int .i64 0, .slice none 0 0] 24)).heap.size (((w.alloc (.cells #[.int .i64 o, .int .i64 t, .slice ad m c] 24)).alloc (.cells #[.int .i64 id, .slice ad1 m1 c1] 49)).alloc (.cells #[.int .i64 0, .int .i64 0, .slice none 0 0] 24)) X → X.cell? ⟨w.heap.size, 0, none⟩ = some (.int .i64 o) ∧ X.cell? ⟨w.heap.size, 1, none⟩ = some (.int .i64 t) ∧ X.cell? ⟨w.heap.size, 2, none⟩ = some (.slice ad m c) ∧ X.cell? ⟨w.heap.size + 1 + 1, 0, none⟩ = some (.int .i64 0) ∧ X.cell? ⟨w.heap.size + 1 + 1, 1, none⟩ = some (.int .i64 0) ∧ X.cell? ⟨w.heap.size + 1 + 1, 2, none⟩ = some (.slice none 0 0) ∧ X.frozen? ⟨w.heap.size + 1 + 1, 0, none⟩ = false ∧ X.frozen? ⟨w.heap.size + 1 + 1, 1, none⟩ = false ∧ X.frozen? ⟨w.heap.size + 1 + 1, 2, none⟩ = false) := hid (fun X hX => by
    have q0 := (((show Blk _ w.heap.size #[.int .i64 o, .int .i64 t, .slice ad m c] 24 from heap_alloc_new w _).later ((Below.refl _ _).alloc (Nat.le_refl _) (.cells #[.int .i64 id, .slice ad1 m1 c1] 49))).later ((Below.refl _ _).alloc (Nat.le_refl _) (.cells #[.int .i64 0, .int .i64 0, .slice none 0 0] 24))).later hX
    have q1 := HZ.out X hX
    exact ⟨q0.cell 0, q0.cell 1, q0.cell 2, q1.cell 0, q1.cell 1, q1.cell 2, q1.free 0, q1.free 1, q1.free 2⟩)
  have HS0 : Hid (∀ X, Below (((w.alloc (.cells #[.int .i64 o, .int .i64 t, .slice ad m c] 24)).alloc (.cells #[.int .i64 id, .slice ad1 m1 c1] 49)).alloc (.cells #[.int .i64 0, .int .i64 0, .slice none 0 0] 24)).heap.size (((w.alloc (.cells #[.int .i64 o, .int .i64 t, .slice ad m c] 24)).alloc (.cells #[.int .i64 id, .slice ad1 m1 c1] 49)).alloc (.cells #[.int .i64 0, .int .i64 0, .slice none 0 0] 24)) X → X.cell? ⟨w.heap.size + 1, 0, none⟩ = some (.int .i64 id) ∧ X.cell? ⟨w.heap.size + 1, 1, none⟩ = some (.slice ad1 m1 c1)) := hid (fun X hX => by
    have q0 := ((heap_alloc_new' (w.alloc (.cells #[.int .i64 o, .int .i64 t, .slice ad m c] 24)) (w.heap.size + 1) #[.int .i64 id, .slice ad1 m1 c1] (T := 49) (by simp)).later ((Below.refl _ _).alloc (Nat.le_refl _) (.cells #[.int .i64 0, .int .i64 0, .slice none 0 0] 24))).later hX
    exact ⟨q0.cell 0, q0.cell 1⟩)
  have HIX : Hid (∀ X, Below (((w.alloc (.cells #[.int .i64 o, .int .i64 t, .slice ad m c] 24)).alloc (.cells #[.int .i64 id, .slice ad1 m1 c1] 49)).alloc (.cells #[.int .i64 0, .int .i64 0, .slice none 0 0] 24)).heap.size (((w.alloc (.cells #[.int .i64 o, .int .i64 t, .slice ad m c] 24)).alloc (.cells #[.int .i64 id, .slice ad1 m1 c1] 49)).alloc (.cells #[.int .i64 0, .int .i64 0, .slice none 0 0] 24)) X → Ints X ns ad1 m1 c1) := hid (fun X hX => (hx.later HB2.out).later hX)
  have HXR := hid hx.rng
  have HXL := hid hx.len
  have HK := hid (refChk_any (h.later HB2.out) o t n)
  have H := hid h
  have HL := hid hl
  clear h hl hx
  rw [mayN_ok p1] at HK
  have h64 : m ≤ 64 := by have := p1.2.1.2; rwa [HL.out] at this
  have HE := hid hE
  have HC := hid (extC_no (by rw [HE.out]; decide : extE o t l n ow e id ns ≠ 0))
  clear hE
  have p3 : m ≠ 0 := by omega
  have q3 : ((m : Int) == 0) = false := by simp; omega
  have hix : ((m : Int) - 1).toNat = m - 1 := by omega
  obtain ⟨hy0, hy1⟩ := (p1.2.2.1 (m - 1) (by rw [HL.out]; omega)).1
  obtain ⟨b0, off0, rfl, hs0, -⟩ := H.out.cells hmp
  have HRY : Hid (∀ X, Below (((w.alloc (.cells #[.int .i64 o, .int .i64 t, .slice (some ⟨b0, off0, none⟩) m c] 24)).alloc (.cells #[.int .i64 id, .slice ad1 m1 c1] 49)).alloc (.cells #[.int .i64 0, .int .i64 0, .slice none 0 0] 24)).heap.size (((w.alloc (.cells #[.int .i64 o, .int .i64 t, .slice (some ⟨b0, off0, none⟩) m c] 24)).alloc (.cells #[.int .i64 id, .slice ad1 m1 c1] 49)).alloc (.cells #[.int .i64 0, .int .i64 0, .slice none 0 0] 24)) X → X.cell? ⟨b0, off0 + (m - 1) * 3, none⟩ = some (.int .i64 (ptAt l (m - 1)).first)) := hid (fun X hX => by
    obtain ⟨b', off', e, -, hc⟩ := (H.out.later (HB2.out.trans (hX.mono HB2.out.size))).cells hmp
    cases e
    exact (hc (m - 1) (by omega)).1)
  generalize (ptAt l (m - 1)).first = y at *
  have d64 : ((m : Int) == 64) = false := by simp; omega
  have a3 : decide (e < y) = false := by simpa using p6
  have a4 : decide (y + 4096 < e) = false := by simpa using p7
  have a5 : decide (e < t) = true := by simpa using p8
  clear p1 p6 p7 p8
  go_enter Try.func23, Try.ntmps23
  go_wp2_with (go_at_call 15; refine HK.out.mono ?_; rintro x w1 ⟨rfl, hb1⟩; obtain ⟨k0, k1, k2, z0, z1, z2, f0, f1, f2⟩ := HW.out w1 hb1; have ry := HRY.out w1 hb1; have HB1 := hid hb1; clear hb1)
  have HZW := HZ.out w1 HB1.out
  have hbw : Below w.heap.size w w1 := HB2.out.trans (HB1.out.mono HB2.out.size)
  have m0 := ((HZW.set 0 (.int .i64 0)).set 1 (.int .i64 0)).set 2 (.slice none 0 0)
  have s0 : (((w1.setCell ⟨w.heap.size + 1 + 1, 0, none⟩ (.int .i64 0)).setCell ⟨w.heap.size + 1 + 1, 1, none⟩ (.int .i64 0)).setCell ⟨w.heap.size + 1 + 1, 2, none⟩ (.slice none 0 0)).cell? ⟨w.heap.size + 1 + 1, 0, none⟩ = some (.int .i64 0) := m0.cell 0
  have s1 : (((w1.setCell ⟨w.heap.size + 1 + 1, 0, none⟩ (.int .i64 0)).setCell ⟨w.heap.size + 1 + 1, 1, none⟩ (.int .i64 0)).setCell ⟨w.heap.size + 1 + 1, 2, none⟩ (.slice none 0 0)).cell? ⟨w.heap.size + 1 + 1, 1, none⟩ = some (.int .i64 0) := m0.cell 1
  have s2 : (((w1.setCell ⟨w.heap.size + 1 + 1, 0, none⟩ (.int .i64 0)).setCell ⟨w.heap.size + 1 + 1, 1, none⟩ (.int .i64 0)).setCell ⟨w.heap.size + 1 + 1, 2, none⟩ (.slice none 0 0)).cell? ⟨w.heap.size + 1 + 1, 2, none⟩ = some (.slice none 0 0) := m0.cell 2
  have hcg : Chg [w.heap.size + 2] w1 (((w1.setCell ⟨w.heap.size + 1 + 1, 0, none⟩ (.int .i64 0)).setCell ⟨w.heap.size + 1 + 1, 1, none⟩ (.int .i64 0)).setCell ⟨w.heap.size + 1 + 1, 2, none⟩ (.slice none 0 0)) := (((Chg.refl _ w1).set (Or.inl (by simp)) _ _).set (Or.inl (by simp)) _ _).set (Or.inl (by simp)) _ _
  refine bodyPost_ret (v := .tuple #[.agg #[.int .i64 0, .int .i64 0, .slice none 0 0], .int .i64 1]) (by simp [results, Try.results23, go_sem, s0, s1, s2]) rfl ⟨none, 0, 0, by rw [HC.out, HE.out], hid (by rw [HC.out]; exact CAns.none _ _), hbw.trans (hcg.below (fun k hk => by simp at hk; omega) hbw.size)⟩
set_option maxRecDepth 100000 in
set_option maxHeartbeats 4000000 in
theorem err_trim2 {o t n e ow id : Int} (h : CArg w l A ad m c) (hx : Ints w ns ad1 m1 c1) (p1 : mayC o t l n) (hE : extE o t l n ow e id ns = 1) (hmp : 0 < m) (p5 : m = 64) (p6 : e = (ptAt l (m - 1)).first) (p8 : e < t) : Calls Try.prog 23 #[.agg #[.int .i64 o, .int .i64 t, .slice ad m c], .int .i64 n, .int .i64 ow, .int .i64 e, .agg #[.int .i64 id, .slice ad1 m1 c1]] w fun x w' =>
      ∃ ad' m' c', x = .returned (.tuple #[.agg #[.int .i64 (extC o t l n ow e id ns).owner, .int .i64 (extC o t l n ow e id ns).trim, .slice ad' m' c'], .int .i64 (extE o t l n ow e id ns)]) ∧ Hid (CAns w' w.heap.size (extC o t l n ow e id ns).parts ad' m' c') ∧ Below w.heap.size w w' := by
  have hl := h.len
  have hm : m ≤ 9223372036854775807 := by have := h.cap; have := h.room; unfold maxLen at this; omega
  have HB2 : Hid (Below w.heap.size w (((w.alloc (.cells #[.int .i64 o, .int .i64 t, .slice ad m c] 24)).alloc (.cells #[.int .i64 id, .slice ad1 m1 c1] 49)).alloc (.cells #[.int .i64 0, .int .i64 0, .slice none 0 0] 24))) := hid ((((Below.refl _ w).alloc (Nat.le_refl _) _).alloc (by simp) _).alloc (by simp; omega) _)
  have HS2 : Hid ((((w.alloc (.cells #[.int .i64 o, .int .i64 t, .slice ad m c] 24)).alloc (.cells #[.int .i64 id, .slice ad1 m1 c1] 49)).alloc (.cells #[.int .i64 0, .int .i64 0, .slice none 0 0] 24)).heap.size = w.heap.size + 3) := hid (by simp)
  have HZ : Hid (∀ X, Below (((w.alloc (.cells #[.int .i64 o, .int .i64 t, .slice ad m c] 24)).alloc (.cells #[.int .i64 id, .slice ad1 m1 c1] 49)).alloc (.cells #[.int .i64 0, .int .i64 0, .slice none 0 0] 24)).heap.size (((w.alloc (.cells #[.int .i64 o, .int .i64 t, .slice ad m c] 24)).alloc (.cells #[.int .i64 id, .slice ad1 m1 c1] 49)).alloc (.cells #[.int .i64 0, .int .i64 0, .slice none 0 0] 24)) X → Blk X (w.heap.size + 2) #[.int .i64 0, .int .i64 0, .slice none 0 0] 24) := hid (fun X hX => (heap_alloc_new' _ (w.heap.size + 2) #[.int .i64 0, .int .i64 0, .slice none 0 0] (by simp)).later hX)
  have HW : Hid (∀ X, Below (((w.alloc (.cells #[.int .i64 o, .int .i64 t, .slice ad m c] 24)).alloc (.cells #[.int .i64 id, .slice ad1 m1 c1] 49)).alloc (.cells #[.int .i64 0, .int .i64 0, .slice none 0 0] 24)).heap.size (((w.alloc (.cells #[.int .i64 o, .int .i64 t, .slice ad m c] 24)).alloc (.cells #[.int .i64 id, .slice ad1 m1 c1] 49)).alloc (.cells #[.int .i64 0, .int .i64 0, .slice none 0 0] 24)) X → X.cell? ⟨w.heap.size, 0, none⟩ = some (.int .i64 o) ∧ X.cell? ⟨w.heap.size, 1, none⟩ = some (.int .i64 t) ∧ X.cell? ⟨w.heap.size, 2, none⟩ = some (.slice ad m c) ∧ X.cell? ⟨w.heap.size + 1 + 1, 0, none⟩ = some (.int .i64 0) ∧ X.cell? ⟨w.heap.size + 1 + 1, 1, none⟩ = some (.int .i64 0) ∧ X.cell? ⟨w.heap.size + 1 + 1, 2, none⟩ = some (.slice none 0 0) ∧ X.frozen? ⟨w.heap.size + 1 + 1, 0, none⟩ = false ∧ X.frozen? ⟨w.heap.size + 1 + 1, 1, none⟩ = false ∧ X.frozen? ⟨w.heap.size + 1 + 1, 2, none⟩ = false) := hid (fun X hX => by
    have q0 := (((show Blk _ w.heap.size #[.int .i64 o, .int .i64 t, .slice ad m c] 24 from heap_alloc_new w _).later ((Below.refl _ _).alloc (Nat.le_refl _) (.cells #[.int .i64 id, .slice ad1 m1 c1] 49))).later ((Below.refl _ _).alloc (Nat.le_refl _) (.cells #[.int .i64 0, .int .i64 0, .slice none 0 0] 24))).later hX
    have q1 := HZ.out X hX
    exact ⟨q0.cell 0, q0.cell 1, q0.cell 2, q1.cell 0, q1.cell 1, q1.cell 2, q1.free 0, q1.free 1, q1.free 2⟩)
  have HS0 : Hid (∀ X, Below (((w.alloc (.cells #[.int .i64 o, .int .i64 t, .slice ad m c] 24)).alloc (.cells #[.int .i64 id, .slice ad1 m1 c1] 49)).alloc (.cells #[.int .i64 0, .int .i64 0, .slice none 0 0] 24)).heap.size (((w.alloc (.cells #[.int .i64 o, .int .i64 t, .slice ad m c] 24)).alloc (.cells #[.int .i64 id, .slice ad1 m1 c1] 49)).alloc (.cells #[.int .i64 0, .int .i64 0, .slice none 0 0] 24)) X → X.cell? ⟨w.heap.size + 1, 0, none⟩ = some (.int .i64 id) ∧ X.cell? ⟨w.heap.size + 1, 1, none⟩ = some (.slice ad1 m1 c1)) := hid (fun X hX => by
    have q0 := ((heap_alloc_new' (w.alloc (.cells #[.int .i64 o, .int .i64 t, .slice ad m c] 24)) (w.heap.size + 1) #[.int .i64 id, .slice ad1 m1 c1] (T := 49) (by simp)).later ((Below.refl _ _).alloc (Nat.le_refl _) (.cells #[.int .i64 0, .int .i64 0, .slice none 0 0] 24))).later hX
    exact ⟨q0.cell 0, q0.cell 1⟩)
  have HIX : Hid (∀ X, Below (((w.alloc (.cells #[.int .i64 o, .int .i64 t, .slice ad m c] 24)).alloc (.cells #[.int .i64 id, .slice ad1 m1 c1] 49)).alloc (.cells #[.int .i64 0, .int .i64 0, .slice none 0 0] 24)).heap.size (((w.alloc (.cells #[.int .i64 o, .int .i64 t, .slice ad m c] 24)).alloc (.cells #[.int .i64 id, .slice ad1 m1 c1] 49)).alloc (.cells #[.int .i64 0, .int .i64 0, .slice none 0 0] 24)) X → Ints X ns ad1 m1 c1) := hid (fun X hX => (hx.later HB2.out).later hX)
  have HXR := hid hx.rng
  have HXL := hid hx.len
  have HK := hid (refChk_any (h.later HB2.out) o t n)
  have H := hid h
  have HL := hid hl
  clear h hl hx
  rw [mayN_ok p1] at HK
  have h64 : m ≤ 64 := by have := p1.2.1.2; rwa [HL.out] at this
  have HE := hid hE
  have HC := hid (extC_no (by rw [HE.out]; decide : extE o t l n ow e id ns ≠ 0))
  clear hE
  have p3 : m ≠ 0 := by omega
  have q3 : ((m : Int) == 0) = false := by simp; omega
  have hix : ((m : Int) - 1).toNat = m - 1 := by omega
  obtain ⟨hy0, hy1⟩ := (p1.2.2.1 (m - 1) (by rw [HL.out]; omega)).1
  obtain ⟨b0, off0, rfl, hs0, -⟩ := H.out.cells hmp
  have HRY : Hid (∀ X, Below (((w.alloc (.cells #[.int .i64 o, .int .i64 t, .slice (some ⟨b0, off0, none⟩) m c] 24)).alloc (.cells #[.int .i64 id, .slice ad1 m1 c1] 49)).alloc (.cells #[.int .i64 0, .int .i64 0, .slice none 0 0] 24)).heap.size (((w.alloc (.cells #[.int .i64 o, .int .i64 t, .slice (some ⟨b0, off0, none⟩) m c] 24)).alloc (.cells #[.int .i64 id, .slice ad1 m1 c1] 49)).alloc (.cells #[.int .i64 0, .int .i64 0, .slice none 0 0] 24)) X → X.cell? ⟨b0, off0 + (m - 1) * 3, none⟩ = some (.int .i64 (ptAt l (m - 1)).first)) := hid (fun X hX => by
    obtain ⟨b', off', e, -, hc⟩ := (H.out.later (HB2.out.trans (hX.mono HB2.out.size))).cells hmp
    cases e
    exact (hc (m - 1) (by omega)).1)
  generalize (ptAt l (m - 1)).first = y at *
  have a5 : decide (e < t) = true := by simpa using p8
  clear p1 p8
  subst p6
  subst p5
  replace HRY : Hid (∀ X, Below (((w.alloc (.cells #[.int .i64 o, .int .i64 t, .slice (some ⟨b0, off0, none⟩) 64 c] 24)).alloc (.cells #[.int .i64 id, .slice ad1 m1 c1] 49)).alloc (.cells #[.int .i64 0, .int .i64 0, .slice none 0 0] 24)).heap.size (((w.alloc (.cells #[.int .i64 o, .int .i64 t, .slice (some ⟨b0, off0, none⟩) 64 c] 24)).alloc (.cells #[.int .i64 id, .slice ad1 m1 c1] 49)).alloc (.cells #[.int .i64 0, .int .i64 0, .slice none 0 0] 24)) X → X.cell? ⟨b0, off0 + 189, none⟩ = some (.int .i64 e)) := hid (fun X hX => by have := HRY.out X hX; simpa using this)
  go_enter Try.func23, Try.ntmps23
  go_wp2_with (go_at_call 15; refine HK.out.mono ?_; rintro x w1 ⟨rfl, hb1⟩; obtain ⟨k0, k1, k2, z0, z1, z2, f0, f1, f2⟩ := HW.out w1 hb1; have ry := HRY.out w1 hb1; have HB1 := hid hb1; clear hb1)
  have HZW := HZ.out w1 HB1.out
  have hbw : Below w.heap.size w w1 := HB2.out.trans (HB1.out.mono HB2.out.size)
  have m0 := ((HZW.set 0 (.int .i64 0)).set 1 (.int .i64 0)).set 2 (.slice none 0 0)
  have s0 : (((w1.setCell ⟨w.heap.size + 1 + 1, 0, none⟩ (.int .i64 0)).setCell ⟨w.heap.size + 1 + 1, 1, none⟩ (.int .i64 0)).setCell ⟨w.heap.size + 1 + 1, 2, none⟩ (.slice none 0 0)).cell? ⟨w.heap.size + 1 + 1, 0, none⟩ = some (.int .i64 0) := m0.cell 0
  have s1 : (((w1.setCell ⟨w.heap.size + 1 + 1, 0, none⟩ (.int .i64 0)).setCell ⟨w.heap.size + 1 + 1, 1, none⟩ (.int .i64 0)).setCell ⟨w.heap.size + 1 + 1, 2, none⟩ (.slice none 0 0)).cell? ⟨w.heap.size + 1 + 1, 1, none⟩ = some (.int .i64 0) := m0.cell 1
  have s2 : (((w1.setCell ⟨w.heap.size + 1 + 1, 0, none⟩ (.int .i64 0)).setCell ⟨w.heap.size + 1 + 1, 1, none⟩ (.int .i64 0)).setCell ⟨w.heap.size + 1 + 1, 2, none⟩ (.slice none 0 0)).cell? ⟨w.heap.size + 1 + 1, 2, none⟩ = some (.slice none 0 0) := m0.cell 2
  have hcg : Chg [w.heap.size + 2] w1 (((w1.setCell ⟨w.heap.size + 1 + 1, 0, none⟩ (.int .i64 0)).setCell ⟨w.heap.size + 1 + 1, 1, none⟩ (.int .i64 0)).setCell ⟨w.heap.size + 1 + 1, 2, none⟩ (.slice none 0 0)) := (((Chg.refl _ w1).set (Or.inl (by simp)) _ _).set (Or.inl (by simp)) _ _).set (Or.inl (by simp)) _ _
  refine bodyPost_ret (v := .tuple #[.agg #[.int .i64 0, .int .i64 0, .slice none 0 0], .int .i64 1]) (by simp [results, Try.results23, go_sem, s0, s1, s2]) rfl ⟨none, 0, 0, by rw [HC.out, HE.out], hid (by rw [HC.out]; exact CAns.none _ _), hbw.trans (hcg.below (fun k hk => by simp at hk; omega) hbw.size)⟩
end Go.Proofs.Ythadagpfmacemaa.Rf
