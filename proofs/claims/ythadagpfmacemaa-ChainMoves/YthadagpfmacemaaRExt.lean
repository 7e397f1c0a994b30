/- Extend of the document's package (by genrext.py). -/
import Derived.Test.YthadagpfmacemaaRExt1
import Derived.Test.YthadagpfmacemaaRExt2
import Derived.Test.YthadagpfmacemaaRExt3
import Derived.Test.YthadagpfmacemaaRExt4
import Derived.Test.YthadagpfmacemaaRExt5
import Derived.Test.YthadagpfmacemaaRExt6
import Derived.Test.YthadagpfmacemaaRExt7
namespace Go.Proofs.Ythadagpfmacemaa.Rf
open Go.RowKit
variable {w w' : World} {l : List Pt} {A : Nat → Sl} {ad ad1 : Option Addr} {m c m1 c1 : Nat} {ns : List Int}

set_option maxRecDepth 100000 in
set_option maxHeartbeats 4000000 in
theorem extend_any {o t n e ow id : Int} (h : CArg w l A ad m c) (hx : Ints w ns ad1 m1 c1) (hx0 : ad1 = none → m1 = 0 ∧ c1 = 0) (hm1 : m1 * 8 ≤ 140737488355328) (hid' : -9223372036854775808 ≤ id ∧ id ≤ 9223372036854775807) (he' : -9223372036854775808 ≤ e ∧ e ≤ 9223372036854775807) : Calls Try.prog 23 #[.agg #[.int .i64 o, .int .i64 t, .slice ad m c], .int .i64 n, .int .i64 ow, .int .i64 e, .agg #[.int .i64 id, .slice ad1 m1 c1]] w fun x w' =>
      ∃ ad' m' c', x = .returned (.tuple #[.agg #[.int .i64 (extC o t l n ow e id ns).owner, .int .i64 (extC o t l n ow e id ns).trim, .slice ad' m' c'], .int .i64 (extE o t l n ow e id ns)]) ∧ Hid (CAns w' w.heap.size (extC o t l n ow e id ns).parts ad' m' c') ∧ Below w.heap.size w w' := by
  have hh := h
  have hhx := hx
  have hl := h.len
  have hm : m ≤ 9223372036854775807 := by have := h.cap; have := h.room; unfold maxLen at this; omega
  have HB2 : Hid (Below w.heap.size w (((w.alloc (.cells #[.int .i64 o, .int .i64 t, .slice ad m c] 24)).alloc (.cells #[.int .i64 id, .slice ad1 m1 c1] 49)).alloc (.cells #[.int .i64 0, .int .i64 0, .slice none 0 0] 24))) := hid ((((Below.refl _ w).alloc (Nat.le_refl _) _).alloc (by simp) _).alloc (by simp; omega) _)
  have HS2 : Hid ((((w.alloc (.cells #[.int .i64 o, .int .i64 t, .slice ad m c] 24)).alloc (.cells #[.int .i64 id, .slice ad1 m1 c1] 49)).alloc (.cells #[.int .i64 0, .int .i64 0, .slice none 0 0] 24)).heap.size = w.heap.size + 3) := hid (by simp)
  have HZ : Hid (∀ X, Below (((w.alloc (.cells #[.int .i64 o, .int .i64 t, .slice ad m c] 24)).alloc (.cells #[.int .i64 id, .slice ad1 m1 c1] 49)).alloc (.cells #[.int .i64 0, .int .i64 0, .slice none 0 0] 24)).heap.size (((w.alloc (.cells #[.int .i64 o, .int .i64 t, .slice ad m c] 24)).alloc (.cells #[.int .i64 id, .slice ad1 m1 c1] 49)).alloc (.cells #[.int .i64 0, .int .i64 0, .slice none 0 0] 24)) X → Blk X (w.heap.size + 2) #[.int .i64 0, .int .i64 0, .slice none 0 0] 24) := hid (fun X hX => (heap_alloc_new' _ (w.heap.size + 2) #[.int .i64 0, .int .i64 0, .slice none 0 0] (by simp)).later hX)
  have HW : Hid (∀ X, Below (((w.alloc (.cells #[.int .i64 o, .int .i64 t, .slice ad m c] 24)).alloc (.cells #[.int .i64 id, .slice ad1 m1 c1] 49)).alloc (.cells #[.int .i64 0, .int .i64 0, .slice none 0 0] 24)).heap.size (((w.alloc (.cells #[.int .i64 o, .int .i64 t, .slice ad m c] 24)).alloc (.cells #[.int .i64 id, .slice ad1 m1 c1] 49)).alloc (.cells #[.int .i64 0, .int .i64 0, .slice none 0 0] 24)) X → X.cell? ⟨w.heap.size, 0, none⟩ = some (.int .i64 o) ∧ X.cell? ⟨w.heap.size, 1, none⟩ = some (.int .i64 t) ∧ X.cell? ⟨w.heap.size, 2, none⟩ = some (.slice ad m c) ∧ X.cell? ⟨w.heap.size + 1 + 1, 0, none⟩ = some (.int .i64 0) ∧ X.cell? ⟨w.heap.size + 1 + 1, 1, none⟩ = some (.int .i64 0) ∧ X.cell? ⟨w.heap.size + 1 + 1, 2, none⟩ = some (.slice none 0 0) ∧ X.frozen? ⟨w.heap.size + 1 + 1, 0, none⟩ = false ∧ X.frozen? ⟨w.heap.size + 1 + 1, 1, none⟩ = false ∧ X.frozen? ⟨w.heap.size + 1 + 1, 2, none⟩ = false) := hid (fun X hX => by
    have q0 := (((show Blk _ w.heap.size #[.int .i64 o, .int .i64 t, .slice ad m c] 24 from heap_alloc_new w _).later ((Below.refl _ _).alloc (Nat.le_refl _) (.cells #[.int .i64 id, .slice ad1 m1 c1] 49))).later ((Below.refl _ _).alloc (Nat.le_refl _) (.cells #[.int .i64 0, .int .i64 0, .slice none 0 0] 24))).later hX
    have q1 := HZ.out X hX
    exact ⟨q0.cell 0, q0.cell 1, q0.cell 2, q1.cell 0, q1.cell 1, q1.cell 2, q1.free 0, q1.free 1, q1.free 2⟩)
  have HS0 : Hid (∀ X, Below (((w.alloc (.cells #[.int .i64 o, .int .i64 t, .slice ad m c] 24)).alloc (.cells #[.int .i64 id, .slice ad1 m1 c1] 49)).alloc (.cells #[.int .i64 0, .int .i64 0, .slice none 0 0] 24)).heap.size (((w.alloc (.cells #[.int .i64 o, .int .i64 t, .slice ad m c] 24)).alloc (.cells #[.int .i64 id, .slice ad1 m1 c1] 49)).alloc (.cells #[.int .i64 0, .int .i64 0, .slice none 0 0] 24)) X → X.cell? ⟨w.heap.size + 1, 0, none⟩ = some (.int .i64 id) ∧ X.cell? ⟨w.heap.size + 1, 1, none⟩ = some (.slice ad1 m1 c1)) := hid (fun X hX => by
    have q0 := ((heap_alloc_new' (w.alloc (.cells #[.int .i64 o, .int .i64 t, .slice ad m c] 24)) (w.heap.size + 1) #[.int .i64 id, .slice ad1 m1 c1] (T := 49) (by simp)).later ((Below.refl _ _).alloc (Nat.le_refl _) (.cells #[.int .i64 0, .int .i64 0, .slice none 0 0] 24))).later hX
    exact ⟨q0.cell 0, q0.cell 1⟩)
  have HIX : Hid (∀ X, Below (((w.alloc (.cells #[.int .i64 o, .int .i64 t, .slice ad m c] 24)).alloc (.cells #[.int .i64 id, .slice ad1 m1 c1] 49)).alloc (.cells #[.int .i64 0, .int .i64 0, .slice none 0 0] 24)).heap.size (((w.alloc (.cells #[.int .i64 o, .int .i64 t, .slice ad m c] 24)).alloc (.cells #[.int .i64 id, .slice ad1 m1 c1] 49)).alloc (.cells #[.int .i64 0, .int .i64 0, .slice none 0 0] 24)) X → Ints X ns ad1 m1 c1) := hid (fun X hX => (hx.later HB2.out).later hX)
  have HXR := hid hx.rng
  have HXL := hid hx.len
  have HK := hid (refChk_any (h.later HB2.out) o t n)
  have H := hid h
  have HL := hid hl
  clear h hl hx
  by_cases p1 : mayC o t l n
  case neg =>
    have HE := hid (extE_1 (ow := ow) (e := e) (id := id) (ns := ns) p1)
    have HC := hid (extC_no (by rw [HE.out]; decide : extE o t l n ow e id ns ≠ 0))
    rw [mayN_no p1] at HK
    clear p1 hh hhx
    go_enter Try.func23, Try.ntmps23
    go_wp2_with (go_at_call 15; refine HK.out.mono ?_; rintro x w1 ⟨rfl, hb1⟩; obtain ⟨k0, k1, k2, z0, z1, z2, f0, f1, f2⟩ := HW.out w1 hb1; have HB1 := hid hb1; clear hb1)
    have HZW := HZ.out w1 HB1.out
    have hbw : Below w.heap.size w w1 := HB2.out.trans (HB1.out.mono HB2.out.size)
    have m0 := ((HZW.set 0 (.int .i64 0)).set 1 (.int .i64 0)).set 2 (.slice none 0 0)
    have s0 : (((w1.setCell ⟨w.heap.size + 1 + 1, 0, none⟩ (.int .i64 0)).setCell ⟨w.heap.size + 1 + 1, 1, none⟩ (.int .i64 0)).setCell ⟨w.heap.size + 1 + 1, 2, none⟩ (.slice none 0 0)).cell? ⟨w.heap.size + 1 + 1, 0, none⟩ = some (.int .i64 0) := m0.cell 0
    have s1 : (((w1.setCell ⟨w.heap.size + 1 + 1, 0, none⟩ (.int .i64 0)).setCell ⟨w.heap.size + 1 + 1, 1, none⟩ (.int .i64 0)).setCell ⟨w.heap.size + 1 + 1, 2, none⟩ (.slice none 0 0)).cell? ⟨w.heap.size + 1 + 1, 1, none⟩ = some (.int .i64 0) := m0.cell 1
    have s2 : (((w1.setCell ⟨w.heap.size + 1 + 1, 0, none⟩ (.int .i64 0)).setCell ⟨w.heap.size + 1 + 1, 1, none⟩ (.int .i64 0)).setCell ⟨w.heap.size + 1 + 1, 2, none⟩ (.slice none 0 0)).cell? ⟨w.heap.size + 1 + 1, 2, none⟩ = some (.slice none 0 0) := m0.cell 2
    have hcg : Chg [w.heap.size + 2] w1 (((w1.setCell ⟨w.heap.size + 1 + 1, 0, none⟩ (.int .i64 0)).setCell ⟨w.heap.size + 1 + 1, 1, none⟩ (.int .i64 0)).setCell ⟨w.heap.size + 1 + 1, 2, none⟩ (.slice none 0 0)) := (((Chg.refl _ w1).set (Or.inl (by simp)) _ _).set (Or.inl (by simp)) _ _).set (Or.inl (by simp)) _ _
    refine bodyPost_ret (v := .tuple #[.agg #[.int .i64 0, .int .i64 0, .slice none 0 0], .int .i64 1]) (by simp [results, Try.results23, go_sem, s0, s1, s2]) rfl ⟨none, 0, 0, by rw [HC.out, HE.out], hid (by rw [HC.out]; exact CAns.none _ _), hbw.trans (hcg.below (fun k hk => by simp at hk; omega) hbw.size)⟩
  have h64 : m ≤ 64 := by have := p1.2.1.2; rwa [HL.out] at this
  by_cases p3 : m = 0
  · have hl0 : l.length = 0 := by rw [HL.out, p3]
    have ht : t = 0 := by have := p1.2.2.2; unfold trimOk at this; rwa [if_pos hl0] at this
    have hlf := lastF_nil hl0
    have hff : farF l = 0 := by unfold farF; rw [if_pos hl0]
    have h2 : (l.length < 64 ∨ e = lastF l) := Or.inl (by omega)
    by_cases p4 : e = 0
    · exact ext_none hh hhx hx0 hm1 hid' he' p1 h2 ⟨by rw [hlf, ht, p4]; decide, by rw [hff, p4]; exact Int.le_refl _⟩ p3 p4
    · exact err_none hh hhx p1 (extE_2 (ow := ow) (e := e) (id := id) (ns := ns) p1 h2 (fun q => by rw [hlf, hff, ht] at q; have := q.1; have := q.2; omega)) p3 p4
  · have hmp : 0 < m := by omega
    have hlf : lastF l = (ptAt l (m - 1)).first := by rw [lastF_eq (by rw [HL.out]; omega), HL.out]
    have hff : farF l = (ptAt l (m - 1)).first + 4096 := by unfold farF; rw [if_neg (by rw [HL.out]; omega), hlf]
    by_cases p2 : m = 64 ∧ e ≠ (ptAt l (m - 1)).first
    · exact err_full hh hhx p1 (extE_7 (ow := ow) (e := e) (id := id) (ns := ns) p1 (fun q => by rw [hlf, HL.out] at q; omega)) hmp p2.1 p2.2
    have h2 : (l.length < 64 ∨ e = lastF l) := by rw [hlf, HL.out]; omega
    by_cases p8 : max (lastF l) t ≤ e ∧ e ≤ farF l
    · have e1 : ¬ e < (ptAt l (m - 1)).first := by have := p8.1; omega
      have e2 : ¬ (ptAt l (m - 1)).first + 4096 < e := by have := p8.2; omega
      have e3 : ¬ e < t := by have := p8.1; omega
      by_cases p5 : m = 64
      · exact ext_full hh hhx hx0 hm1 hid' he' p1 h2 p8 hmp e1 e2 e3 p5 (by by_cases q : e = (ptAt l (m - 1)).first; exact q; exact absurd ⟨p5, q⟩ p2)
      by_cases p9 : (ptAt l (m - 1)).first = e
      · exact ext_same hh hhx hx0 hm1 hid' he' p1 h2 p8 hmp e1 e2 e3 p5 p9.symm
      by_cases p10 : m = 1
      · by_cases p11 : t = e
        · exact ext_trim hh hhx hx0 hm1 hid' he' p1 h2 p8 hmp e1 e2 e3 p5 p9 p10 p11.symm
        · exact ext_one hh hhx hx0 hm1 hid' he' p1 h2 p8 hmp e1 e2 e3 p5 p9 p10 p11
      · exact ext_more hh hhx hx0 hm1 hid' he' p1 h2 p8 hmp e1 e2 e3 p5 p9 p10
    · have hE := extE_2 (ow := ow) (e := e) (id := id) (ns := ns) p1 h2 p8
      have p8' : e < (ptAt l (m - 1)).first ∨ (ptAt l (m - 1)).first + 4096 < e ∨ e < t := by rw [hlf, hff] at p8; omega
      by_cases p5 : m = 64
      · have p6 : e = (ptAt l (m - 1)).first := by by_cases q : e = (ptAt l (m - 1)).first; exact q; exact absurd ⟨p5, q⟩ p2
        exact err_trim2 hh hhx p1 hE hmp p5 p6 (by omega)
      by_cases p6 : e < (ptAt l (m - 1)).first
      · exact err_low hh hhx p1 hE hmp p5 p6
      by_cases p7 : (ptAt l (m - 1)).first + 4096 < e
      · exact err_far hh hhx p1 hE hmp p5 p6 p7
      · exact err_trim hh hhx p1 hE hmp p5 p6 p7 (by omega)
end Go.Proofs.Ythadagpfmacemaa.Rf
