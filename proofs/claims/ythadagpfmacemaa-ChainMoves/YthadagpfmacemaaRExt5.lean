/- Extend of the document's package: behind a single part (by genrext.py). -/
import Derived.Test.YthadagpfmacemaaRExt0
namespace Go.Proofs.Ythadagpfmacemaa.Rf
open Go.RowKit
variable {w w' : World} {l : List Pt} {A : Nat → Sl} {ad ad1 : Option Addr} {m c m1 c1 : Nat} {ns : List Int}

set_option maxRecDepth 100000 in
set_option maxHeartbeats 4000000 in
theorem ext_one {o t n e ow id : Int} (h : CArg w l A ad m c) (hx : Ints w ns ad1 m1 c1) (hx0 : ad1 = none → m1 = 0 ∧ c1 = 0) (hm1 : m1 * 8 ≤ 140737488355328) (hid' : -9223372036854775808 ≤ id ∧ id ≤ 9223372036854775807) (he' : -9223372036854775808 ≤ e ∧ e ≤ 9223372036854775807) (p1 : mayC o t l n) (h2 : l.length < 64 ∨ e = lastF l) (h3 : max (lastF l) t ≤ e ∧ e ≤ farF l) (hmp : 0 < m) (hy2 : ¬ e < (ptAt l (m - 1)).first) (hy3 : ¬ (ptAt l (m - 1)).first + 4096 < e) (hy4 : ¬ e < t) (p5 : m ≠ 64) (p9 : ¬ (ptAt l (m - 1)).first = e) (p10 : m = 1) (p11 : ¬ t = e) : Calls Try.prog 23 #[.agg #[.int .i64 o, .int .i64 t, .slice ad m c], .int .i64 n, .int .i64 ow, .int .i64 e, .agg #[.int .i64 id, .slice ad1 m1 c1]] w fun x w' =>
      ∃ ad' m' c', x = .returned (.tuple #[.agg #[.int .i64 (extC o t l n ow e id ns).owner, .int .i64 (extC o t l n ow e id ns).trim, .slice ad' m' c'], .int .i64 (extE o t l n ow e id ns)]) ∧ Hid (CAns w' w.heap.size (extC o t l n ow e id ns).parts ad' m' c') ∧ Below w.heap.size w w' := by
  have hl := h.len
  have hm : m ≤ 9223372036854775807 := by have := h.cap; have := h.room; unfold maxLen at this; omega
  have HB2 : Hid (Below w.heap.size w (((w.alloc (.cells #[.int .i64 o, .int .i64 t, .slice ad m c] 24)).alloc (.cells #[.int .i64 id, .slice ad1 m1 c1] 49)).alloc (.cells #[.int .i64 0, .int .i64 0, .slice none 0 0] 24))) := hid ((((Below.refl _ w).alloc (Nat.le_refl _) _).alloc (by simp) _).alloc (by simp; omega) _)
  have HS2 : Hid ((((w.alloc (.cells #[.int .i64 o, .int .i64 t, .slice ad m c] 24)).alloc (.cells #[.int .i64 id, .slice ad1 m1 c1] 49)).alloc (.cells #[.int .i64 0, .int .i64 0, .slice none 0 0] 24)).heap.size = w.heap.size + 3) := hid (by simp)
  have HZ : Hid (∀ X, Below (((w.alloc (.cells #[.int .i64 o, .int .i64 t, .slice ad m c] 24)).alloc (.cells #[.int .i64 id, .slice ad1 m1 c1] 49)).alloc (.cells #[.int .i64 0, .int .i64 0, .slice none 0 0] 24)).heap.size (((w.alloc (.cells #[.int .i64 o, .int .i64 t, .slice ad m c] 24)).alloc (.cells #[.int .i64 id, .slice ad1 m1 c1] 49)).alloc (.cells #[.int .i64 0, .int .i64 0, .slice none 0 0] 24)) X → Blk X (w.heap.size + 2) #[.int .i64 0, .int .i64 0, .slice none 0 0] 24) := hid (fun X hX => (heap_alloc_new' _ (w.heap.size + 2) #[.int .i64 0, .int .i64 0, .slice none 0 0] (by simp)).later hX)
  have HW : Hid (∀ X, Below (((w.alloc (.cells #[.int .i64 o, .int .i64 t, .slice ad m c] 24)).alloc (.cells #[.int .i64 id, .slice ad1 m1 c1] 49)).alloc (.cells #[.int .i64 0, .int .i64 0, .slice none 0 0] 24)).heap.size (((w.alloc (.cells #[.int .i64 o, .int .i64 t, .slice ad m c] 24)).alloc (.cells #[.int .i64 id, .slice ad1 m1 c1] 49)).alloc (.cells #[.int .i64 0, .int .i64 0, .slice none 0 0] 24)) X → X.cell? ⟨w.heap.size, 0, none⟩ = some (.int .i64 o) ∧ X.cell? ⟨w.heap.size, 1, none⟩ = some (.int .i64 t) ∧ X.cell? ⟨w.heap.size, 2, none⟩ = some (.slice ad m c) ∧ X.cell? ⟨w.heap.size + 1 + 1, 0, none⟩ = some (.int .i64 0) ∧ X.cell? ⟨w.heap.size + 1 + 1, 1, none⟩ = some (.int .i64 0) ∧ X.cell? ⟨w.heap.size + 1 + 1, 2, none⟩ = some (.slice none 0 0) ∧ X.frozen? ⟨w.heap.size + 1 + 1, 0, none⟩ = false ∧ X.frozen? ⟨w.heap.size + 1 + 1, 1, none⟩ = false ∧ X.frozen? ⟨w.heap.size + 1 + 1, 2, none⟩ = false) := hid (fun X hX => by
    have q0 := (((show Blk _ w.heap.size #[.int .i64 o, .int .i64 t, .slice ad m c] 24 from heap_alloc_new w _).later ((Below.refl _ _).alloc (Nat.le_refl _) (.cells #[.int .i64 id, .slice ad1 m1 c1] 49))).later ((Below.refl _ _).alloc (Nat.le_refl _) (.cells #[.int .i64 0, .int .i64 0, .slice none 0 0] 24))).later hX
    have q1 := HZ.out X hX
    exact ⟨q0.cell 0, q0.cell 1, q0.cell 2, q1.cell 0, q1.cell 1, q1.cell 2, q1.free 0, q1.free 1, q1.free 2⟩)
  have HS0 : Hid (∀ X, Below (((w.alloc (.cells #[.int .i64 o, .int .i64 t, .slice ad m c] 24)).alloc (.cells #[.int .i64 id, .slice ad1 m1 c1] 49)).alloc (.cells #[.int .i64 0, .int .i64 0, .slice none 0 0] 24)).heap.size (((w.alloc (.cells #[.int .i64 o, .int .i64 t, .slice ad m c] 24)).alloc (.cells #[.int .i64 id, .slice ad1 m1 c1] 49)).alloc (.cells #[.int .i64 0, .int .i64 0, .slice none 0 0] 24)) X → X.cell? ⟨w.heap.size + 1, 0, none⟩ = some (.int .i64 id) ∧ X.cell? ⟨w.heap.size + 1, 1, none⟩ = some (.slice ad1 m1 c1)) := hid (fun X hX => by
    have q0 := ((heap_alloc_new' (w.alloc (.cells #[.int .i64 o, .int .i64 t, .slice ad m c] 24)) (w.heap.size + 1) #[.int .i64 id, .slice ad1 m1 c1] (T := 49) (by simp)).later ((Below.refl _ _).alloc (Nat.le_refl _) (.cells #[.int .i64 0, .int .i64 0, .slice none 0 0] 24))).later hX
    exact ⟨q0.cell 0, q0.cell 1⟩)
  have HIX : Hid (∀ X, Below (((w.alloc (.cells #[.int .i64 o, .int .i64 t, .slice ad m c] 24)).alloc (.cells #[.int .i64 id, .slice ad1 m1 c1] 49)).alloc (.cells #[.int .i64 0, .int .i64 0, .slice none 0 0] 24)).heap.size (((w.alloc (.cells #[.int .i64 o, .int .i64 t, .slice ad m c] 24)).alloc (.cells #[.int .i64 id, .slice ad1 m1 c1] 49)).alloc (.cells #[.int .i64 0, .int .i64 0, .slice none 0 0] 24)) X → Ints X ns ad1 m1 c1) := hid (fun X hX => (hx.later HB2.out).later hX)
  have HXR := hid hx.rng
  have HXL := hid hx.len
  have HK := hid (refChk_any (h.later HB2.out) o t n)
  have H := hid h
  have HL := hid hl
  clear h hl hx
  have H2 := hid h2
  have H3 := hid h3
  clear h2 h3
  rw [mayN_ok p1] at HK
  have h64 : m ≤ 64 := by have := p1.2.1.2; rwa [HL.out] at this
  have HO : Hid (∀ X, Below (((w.alloc (.cells #[.int .i64 o, .int .i64 t, .slice ad m c] 24)).alloc (.cells #[.int .i64 id, .slice ad1 m1 c1] 49)).alloc (.cells #[.int .i64 0, .int .i64 0, .slice none 0 0] 24)).heap.size (((w.alloc (.cells #[.int .i64 o, .int .i64 t, .slice ad m c] 24)).alloc (.cells #[.int .i64 id, .slice ad1 m1 c1] 49)).alloc (.cells #[.int .i64 0, .int .i64 0, .slice none 0 0] 24)) X → Calls Try.prog 48 #[.agg #[.int .i64 o, .int .i64 t, .slice ad m c]] X fun x w' => ∃ ad' c', x = .returned (.agg #[.int .i64 o, .int .i64 t, .slice ad' m c']) ∧ Hid (CAns w' X.heap.size l ad' m c' ∧ OwnN w' X.heap.size l (.slice ad' m c')) ∧ Below X.heap.size X w') := hid (fun X hX => own2_any (H.out.later (HB2.out.trans (hX.mono HB2.out.size))) o t (by omega) (fun i hi => by
    have e1 := (H.out.ints i hi).1.len
    have e2 := (p1.2.2.1 i (by rw [HL.out]; exact hi)).2.1
    have e3 : (ptAt l i).nodes.length ≤ 9 := by
      unfold checkL at e2
      by_cases hq : 0 ≤ (ptAt l i).id ∧ (ptAt l i).id < 281474976710656 ∧ 1 ≤ (ptAt l i).nodes.length ∧ (ptAt l i).nodes.length ≤ 9 ∧ goodN n (ptAt l i).nodes (ptAt l i).nodes.length
      · exact hq.2.2.2.1
      · rw [if_neg hq] at e2; omega
    omega))
  have HE3 : Hid (¬ mayC ow t (extL t l e ⟨e, id, ns⟩) n → extE o t l n ow e id ns = 1) := hid (fun hh => extE_3 p1 H2.out H3.out hh)
  have HE0 : Hid (mayC ow t (extL t l e ⟨e, id, ns⟩) n → extE o t l n ow e id ns = 0) := hid (fun hh => extE_0 p1 H2.out H3.out hh)
  have p3 : m ≠ 0 := by omega
  have q3 : ((m : Int) == 0) = false := by simp; omega
  have hix : ((m : Int) - 1).toNat = m - 1 := by omega
  have hkn : needN t l e = if (ptAt l (m - 1)).first = e ∨ (m = 1 ∧ t = e) then m - 1 else m := by unfold needN; rw [HL.out, if_neg p3]
  obtain ⟨hy0, hy1⟩ := (p1.2.2.1 (m - 1) (by rw [HL.out]; omega)).1
  obtain ⟨b0, off0, rfl, hs0, -⟩ := H.out.cells hmp
  have HRY : Hid (∀ X, Below (((w.alloc (.cells #[.int .i64 o, .int .i64 t, .slice (some ⟨b0, off0, none⟩) m c] 24)).alloc (.cells #[.int .i64 id, .slice ad1 m1 c1] 49)).alloc (.cells #[.int .i64 0, .int .i64 0, .slice none 0 0] 24)).heap.size (((w.alloc (.cells #[.int .i64 o, .int .i64 t, .slice (some ⟨b0, off0, none⟩) m c] 24)).alloc (.cells #[.int .i64 id, .slice ad1 m1 c1] 49)).alloc (.cells #[.int .i64 0, .int .i64 0, .slice none 0 0] 24)) X → X.cell? ⟨b0, off0 + (m - 1) * 3, none⟩ = some (.int .i64 (ptAt l (m - 1)).first)) := hid (fun X hX => by
    obtain ⟨b', off', e, -, hc⟩ := (H.out.later (HB2.out.trans (hX.mono HB2.out.size))).cells hmp
    cases e
    exact (hc (m - 1) (by omega)).1)
  generalize (ptAt l (m - 1)).first = y at *
  have a3 : decide (e < y) = false := by simpa using hy2
  have a4 : decide (y + 4096 < e) = false := by simpa using hy3
  have a5 : decide (e < t) = false := by simpa using hy4
  have a2 : (y == e) = false := by simpa using p9
  have a6 : (t == e) = false := by simpa using p11
  subst p10
  replace HRY : Hid (∀ X, Below (((w.alloc (.cells #[.int .i64 o, .int .i64 t, .slice (some ⟨b0, off0, none⟩) 1 c] 24)).alloc (.cells #[.int .i64 id, .slice ad1 m1 c1] 49)).alloc (.cells #[.int .i64 0, .int .i64 0, .slice none 0 0] 24)).heap.size (((w.alloc (.cells #[.int .i64 o, .int .i64 t, .slice (some ⟨b0, off0, none⟩) 1 c] 24)).alloc (.cells #[.int .i64 id, .slice ad1 m1 c1] 49)).alloc (.cells #[.int .i64 0, .int .i64 0, .slice none 0 0] 24)) X → X.cell? ⟨b0, off0, none⟩ = some (.int .i64 y)) := hid (fun X hX => by have := HRY.out X hX; simpa using this)
  have HKN : Hid (needN t l e = 1) := hid (by rw [hkn, if_neg (fun q => by rcases q with q | q; exact p9 q; exact p11 q.2)])
  have HKM : Hid (1 ≤ 1) := hid (by omega)
  clear p1 p9 p11 hkn hy2 hy3 hy4
  go_enter Try.func23, Try.ntmps23
  go_upto_region 12 with (first
    | (go_at_call 15; refine HK.out.mono ?_; rintro x w1 ⟨rfl, hb1⟩; obtain ⟨k0, k1, k2, z0, z1, z2, f0, f1, f2⟩ := HW.out w1 hb1; have ry := HRY.out w1 hb1; have HB1 := hid hb1; clear hb1)
    | (go_at_call 48; refine (HO.out w1 HB1.out).mono ?_; rintro x w2 ⟨adx, cx, rfl, hans, hb2⟩; have HBB := hid (HB1.out.trans (hb2.mono HB1.out.size)); have HB12 := hid hb2; have ry2 := HRY.out w2 HBB.out; have hl2 : w.heap.size < w2.heap.size := (by have e1 := HBB.out.size; have e2 := HS2.out; omega); have hb0 : b0 < w2.heap.size := (by omega); have hcx := (cap_of hans.out.1); clear hb2 ry k0 k1 k2 z0 z1 z2 f0 f1 f2; obtain ⟨q0, q1, q2, -⟩ := HW.out w2 HBB.out))
  obtain ⟨X, hX⟩ : ∃ X, w2.alloc (.cells #[.int .i64 ow, .int .i64 t, .slice adx 1 cx] 24) = X := ⟨_, rfl⟩
  rw [hX]
  obtain ⟨A0, HOW, HNW⟩ : ∃ A0, Hid (OwnP 65 w2 w1.heap.size (.slice adx 1 cx) (l.take 1) A0) ∧ Hid (∀ i, i < (l.take 1).length → NewI w2 w1.heap.size (ptAt (l.take 1) i).nodes (A0 i)) := own_cut hans.out.2 HL.out (by omega) (by omega)
  have hlen : Hid ((l.take 1).length = 1) := hid (by have := HL.out; rw [List.length_take]; omega)
  have HB0X : Hid (Below w2.heap.size w2 X) := hid (by rw [← hX]; exact (Below.refl _ _).alloc (Nat.le_refl _) _)
  have HBX : Hid (∀ W, Below X.heap.size X W → Below w1.heap.size w1 W) := hid (fun W hW => (HB12.out.trans (HB0X.out.mono HB12.out.size)).trans (hW.mono (by have := HB12.out.size; have := HB0X.out.size; omega)))
  have HS : Hid (∀ W, Below w1.heap.size w1 W → W.cell? ⟨w.heap.size + 1, 0, none⟩ = some (.int .i64 id) ∧ W.cell? ⟨w.heap.size + 1, 1, none⟩ = some (.slice ad1 m1 c1)) := hid (fun W hW => HS0.out W (HB1.out.trans (hW.mono HB1.out.size)))
  have HV : Hid (∀ W, Below X.heap.size X W → W.cell? ⟨w2.heap.size, 2, none⟩ = some (.slice adx 1 cx)) := hid (fun W hW => ((show Blk X w2.heap.size #[.int .i64 ow, .int .i64 t, .slice adx 1 cx] 24 by rw [← hX]; exact heap_alloc_new w2 _).later hW).cell 2)
  have HI : Hid (∀ W, Below X.heap.size X W → Ints W ns ad1 m1 c1) := hid (fun W hW => HIX.out W (HB1.out.trans ((HBX.out W hW).mono HB1.out.size)))
  have HAP : Hid (∀ (v1 : Value) (w3 : World), w3.ownsRow X.heap.size 3 1 v1 (0 + m1) (intsV ([] ++ ns)) → (X.drew.alloc (.cells #[] 3)).grownBy w3 (Value.slice (some ⟨X.heap.size, 0, none⟩) 0 0).ownBlock → ∃ s : Sl, v1 = .slice s.ad s.m s.c ∧ Hid (NewI w3 X.heap.size ns s) ∧ Hid (Below X.heap.size X w3)) := hid (fun v1 w3 r1 r2 => app_new HXL.out HXR.out r1 r2)
  have HOWN : Hid (∀ W, Below X.heap.size X W → OwnP 65 W w1.heap.size (.slice adx 1 cx) (l.take 1) A0) := hid (fun W hW => (HOW.out.later HB0X.out).later hW)
  have HLT : Hid (∀ (w3 : World) (s : Sl), Blk (w3.alloc (.cells #[.int .i64 e, .int .i64 id, .slice s.ad s.m s.c] 65)) w3.heap.size #[.int .i64 e, .int .i64 id, .slice s.ad s.m s.c] 65) := hid (fun w3 s => heap_alloc_new w3 _)
  have hsz : Hid (∀ W, Below X.heap.size X W → w1.heap.size ≤ W.heap.size) := hid (fun W hW => (HBX.out W hW).size)
  have HST : Hid (∀ (w3 w6 : World) (s : Sl) (v' : Value), Below X.heap.size X w3 → NewI w3 X.heap.size ns s → OwnP 65 w6 w1.heap.size v' (l.take 1 ++ [⟨e, id, ns⟩]) (fun i => if i < (l.take 1).length then A0 i else s) → (w3.alloc (.cells #[.int .i64 e, .int .i64 id, .slice s.ad s.m s.c] 65)).grownBy w6 (Value.slice adx 1 cx).ownBlock →
    w6.cell? ⟨w2.heap.size, 2, none⟩ = some (.slice adx 1 cx) ∧ w6.frozen? ⟨w2.heap.size, 2, none⟩ = false ∧ (w6.cell? ⟨w.heap.size + 1, 0, none⟩ = some (.int .i64 id) ∧ w6.cell? ⟨w.heap.size + 1, 1, none⟩ = some (.slice ad1 m1 c1)) ∧ ((w6.setCell ⟨w2.heap.size, 2, none⟩ v').cell? ⟨w.heap.size + 1, 0, none⟩ = some (.int .i64 id) ∧ (w6.setCell ⟨w2.heap.size, 2, none⟩ v').cell? ⟨w.heap.size + 1, 1, none⟩ = some (.slice ad1 m1 c1)) ∧ ∃ adv cv, v' = .slice adv 2 cv ∧ Hid (Blk (w6.setCell ⟨w2.heap.size, 2, none⟩ v') w2.heap.size #[.int .i64 ow, .int .i64 t, v'] 24 ∧ CAns (w6.setCell ⟨w2.heap.size, 2, none⟩ v') w1.heap.size (extL t l e ⟨e, id, ns⟩) adv 2 cv ∧ Below w1.heap.size w1 (w6.setCell ⟨w2.heap.size, 2, none⟩ v'))) := hid (fun w3 w6 s v' a1 a2 a3 a4 => by
    obtain ⟨k6, b6, adv, cv, hv, kb, ka, bb⟩ := ext_step hX HB12.out HOW.out HNW.out (fun i hi => by rw [ptAt_take' _ _ _ hi]; exact H.out.rng i (by rw [hlen.out] at hi; omega)) ⟨he', hid'⟩ a1 a2 a3 a4
    rw [hlen.out] at hv ka
    refine ⟨k6.cell 2, k6.free 2, HS.out _ b6, HS.out _ bb, adv, cv, hv, hid ⟨kb, ?_, bb⟩⟩
    unfold extL
    rw [HKN.out]
    exact ka)
  have HCH : Hid (∀ (Y : World) (adv : Option Addr) (cv : Nat), CAns Y w1.heap.size (extL t l e ⟨e, id, ns⟩) adv 2 cv → Calls Try.prog 15 #[.agg #[.int .i64 ow, .int .i64 t, .slice adv 2 cv], .int .i64 n] Y fun x w' => x = .returned (.int .i64 (mayN ow t (extL t l e ⟨e, id, ns⟩) n)) ∧ Below Y.heap.size Y w') := hid (fun Y adv cv hY => by obtain ⟨A', hA, -⟩ := hY.arg; exact refChk_any hA ow t n)
  clear hans hX
  refine wp_region_held_drew (S := fun W => W.cell? ⟨w.heap.size + 1, 0, none⟩ = some (.int .i64 id) ∧ W.cell? ⟨w.heap.size + 1, 1, none⟩ = some (.slice ad1 m1 c1)) (by kernel_rfl) (HS.out _ (HBX.out _ (Below.refl _ _).drew)) (fun hHeld => ?_)
  refine wpAnyH_take (i := 0) (oi := { dst := some 109, op := Op.fieldAddr 24 (Operand.tmp 13) 2, type := 0, pos := "ref.go:185", after := #[], guard := none }) (v := ?_) rfl (by kernel_rfl) (by kernel_rfl) (by kernel_rfl) (fun _ _ _ h => h) (Or.inl ⟨by rfl, ?_⟩) hHeld ?_
  rotate_left
  · intro w hSw; (try dsimp only at hSw); go_simp; try with_reducible rfl
  try simp only [Act.put, List.setIfInBounds_toArray, List.set_cons_zero, List.set_cons_succ]
  refine wpAnyH_take (i := 2) (oi := { dst := some 111, op := Op.move (Operand.tmp 3), type := 3, pos := "ref.go:185", after := #[], guard := none }) (v := ?_) rfl (by kernel_rfl) (by kernel_rfl) (by kernel_rfl) (fun _ _ _ h => h) (Or.inl ⟨by rfl, ?_⟩) hHeld ?_
  rotate_left
  · intro w hSw; (try dsimp only at hSw); go_simp; try with_reducible rfl
  try simp only [Act.put, List.setIfInBounds_toArray, List.set_cons_zero, List.set_cons_succ]
  refine wpAnyH_take (i := 3) (oi := { dst := some 112, op := Op.fieldAddr 49 (Operand.tmp 9) 0, type := 0, pos := "ref.go:185", after := #[], guard := none }) (v := ?_) rfl (by kernel_rfl) (by kernel_rfl) (by kernel_rfl) (fun _ _ _ h => h) (Or.inl ⟨by rfl, ?_⟩) hHeld ?_
  rotate_left
  · intro w hSw; (try dsimp only at hSw); go_simp; try with_reducible rfl
  try simp only [Act.put, List.setIfInBounds_toArray, List.set_cons_zero, List.set_cons_succ]
  refine wpAnyH_take (i := 4) (oi := { dst := some 113, op := Op.load 3 (Operand.tmp 112), type := 3, pos := "ref.go:185", after := #[{ on := 3, ground := Ground.data }], guard := none }) (v := ?_) rfl (by kernel_rfl) (by kernel_rfl) (by kernel_rfl) (fun _ _ _ h => h) (Or.inl ⟨by rfl, ?_⟩) hHeld ?_
  rotate_left
  · intro w hSw; (try dsimp only at hSw); go_simp; try with_reducible rfl
  try simp only [Act.put, List.setIfInBounds_toArray, List.set_cons_zero, List.set_cons_succ]
  refine wpAnyH_take (i := 6) (oi := { dst := some 115, op := Op.fieldAddr 49 (Operand.tmp 9) 1, type := 0, pos := "ref.go:185", after := #[], guard := none }) (v := ?_) rfl (by kernel_rfl) (by kernel_rfl) (by kernel_rfl) (fun _ _ _ h => h) (Or.inl ⟨by rfl, ?_⟩) hHeld ?_
  rotate_left
  · intro w hSw; (try dsimp only at hSw); go_simp; try with_reducible rfl
  try simp only [Act.put, List.setIfInBounds_toArray, List.set_cons_zero, List.set_cons_succ]
  refine wpAnyH_take (i := 7) (oi := { dst := some 116, op := Op.load 47 (Operand.tmp 115), type := 47, pos := "ref.go:185", after := #[{ on := 6, ground := Ground.data }], guard := none }) (v := ?_) rfl (by kernel_rfl) (by kernel_rfl) (by kernel_rfl) (fun _ _ _ h => h) (Or.inl ⟨by rfl, ?_⟩) hHeld ?_
  rotate_left
  · intro w hSw; (try dsimp only at hSw); go_simp; try with_reducible rfl
  try simp only [Act.put, List.setIfInBounds_toArray, List.set_cons_zero, List.set_cons_succ]
  refine wpAnyH_ready (rs := [1, 5]) (by kernel_rfl) (by simp) ?_
  refine AllReadyH.cons rfl (fun K hK => ?_) (AllReadyH.cons rfl (fun K hK => ?_) (AllReadyH.nil))
  · skip
    have k2 := HV.out X.drew (Below.refl _ X).drew
    go_simp
    refine hK.out _ _ (HS.out _ (HBX.out _ ((Below.refl _ X).drew))) (fun hHeld => ?_)
    clear hK K
    try simp only [Act.put, List.setIfInBounds_toArray, List.set_cons_zero, List.set_cons_succ]
    refine wpAnyH_ready (rs := [5]) (by kernel_rfl) (by simp) ?_
    refine AllReadyH.cons rfl (fun K hK => ?_) (AllReadyH.nil)
    have HBe : Hid (Below X.heap.size X (X.drew.alloc (.cells #[] 3))) := hid (((Below.refl _ X).drew).alloc (by simp) _)
    go_simp
    refine hK.out _ _ (HS.out _ (HBX.out _ HBe.out)) (fun hHeld => ?_)
    clear hK K
    try simp only [Act.put, List.setIfInBounds_toArray, List.set_cons_zero, List.set_cons_succ]
    refine wpAnyH_ready (rs := [8]) (by kernel_rfl) (by simp) ?_
    refine AllReadyH.cons rfl (fun K hK => ?_) (AllReadyH.nil)
    refine step_app_ints rfl _ _ rfl X.heap.size 0 (.slice (some ⟨X.heap.size, 0, none⟩) 0 0) [] rfl (emptyI_own' X.drew X.heap.size (by simp)) ad1 m1 c1 ns rfl (HI.out _ HBe.out) hx0 (by omega) (by simp) ?_
    intro v1 w3 r1 r2
    obtain ⟨s, rfl, HN, HB3⟩ := HAP.out v1 w3 r1 r2
    clear r1 r2
    refine hK.out _ _ (HS.out _ (HBX.out _ HB3.out)) (fun hHeld => ?_)
    clear hK K
    refine wpAnyH_take (i := 9) (oi := { dst := some 118, op := Op.build 49 #[(0, Operand.tmp 113), (1, Operand.tmp 117)], type := 49, pos := "ref.go:185", after := #[{ on := 4, ground := Ground.data }, { on := 8, ground := Ground.data }], guard := none }) (v := ?_) rfl (by kernel_rfl) (by kernel_rfl) (by kernel_rfl) (fun _ _ _ h => h) (Or.inl ⟨by rfl, ?_⟩) hHeld ?_
    rotate_left
    · intro w hSw; (try dsimp only at hSw); go_simp; try with_reducible rfl
    refine wpAnyH_take (i := 10) (oi := { dst := some 119, op := Op.build 65 #[(0, Operand.tmp 111), (1, Operand.tmp 118)], type := 65, pos := "ref.go:185", after := #[{ on := 2, ground := Ground.data }, { on := 9, ground := Ground.data }], guard := none }) (v := ?_) rfl (by kernel_rfl) (by kernel_rfl) (by kernel_rfl) (fun _ _ _ h => h) (Or.inl ⟨by rfl, ?_⟩) hHeld ?_
    rotate_left
    · intro w hSw; (try dsimp only at hSw); go_simp; try with_reducible rfl
    refine wpAnyH_ready (rs := [11]) (by kernel_rfl) (by simp) ?_
    refine AllReadyH.cons rfl (fun K hK => ?_) (AllReadyH.nil)
    have HB4 : Hid (Below X.heap.size X (w3.alloc (.cells #[.int .i64 e, .int .i64 id, .slice s.ad s.m s.c] 65))) := hid (HB3.out.alloc HB3.out.size _)
    go_simp
    refine hK.out _ _ (HS.out _ (HBX.out _ HB4.out)) (fun hHeld => ?_)
    clear hK K
    try simp only [Act.put, List.setIfInBounds_toArray, List.set_cons_zero, List.set_cons_succ]
    refine wpAnyH_ready (rs := [12]) (by kernel_rfl) (by simp) ?_
    refine AllReadyH.cons rfl (fun K hK => ?_) (AllReadyH.nil)
    refine step_app_part ptypeR rfl _ _ rfl w1.heap.size (.slice adx 1 cx) (l.take 1) A0 rfl (HOWN.out _ HB4.out) w3.heap.size ⟨e, id, ns⟩ s rfl (HLT.out w3 s) (by rw [hlen.out]; omega) (hsz.out _ HB4.out) ?_
    intro v' w6 r1 r2 r3
    obtain ⟨y2, fy, kS, kS2, adv, cv, rfl, HFIN⟩ := HST.out w3 w6 s v' HB3.out HN.out r1 r2
    clear r1 r2 r3
    refine hK.out _ _ (kS) (fun hHeld => ?_)
    clear hK K
    refine wpAnyH_take (i := 13) (oi := { dst := some 122, op := Op.fieldAddr 24 (Operand.tmp 13) 2, type := 0, pos := "ref.go:185", after := #[{ on := 0, ground := Ground.phase }, { on := 1, ground := Ground.phase }, { on := 2, ground := Ground.phase }, { on := 3, ground := Ground.phase }, { on := 4, ground := Ground.phase }, { on := 5, ground := Ground.phase }, { on := 6, ground := Ground.phase }, { on := 7, ground := Ground.phase }, { on := 8, ground := Ground.phase }, { on := 9, ground := Ground.phase }, { on := 10, ground := Ground.phase }, { on := 11, ground := Ground.phase }, { on := 12, ground := Ground.phase }], guard := none }) (v := ?_) rfl (by kernel_rfl) (by kernel_rfl) (by kernel_rfl) (fun _ _ _ h => h) (Or.inl ⟨by rfl, ?_⟩) hHeld ?_
    rotate_left
    · intro w hSw; (try dsimp only at hSw); go_simp; try with_reducible rfl
    refine wpAnyH_ready (rs := [14]) (by kernel_rfl) (by simp) ?_
    refine AllReadyH.cons rfl (fun K hK => ?_) (AllReadyH.nil)
    go_simp
    refine hK.out _ _ (kS2) (fun hHeld => ?_)
    clear hK K
    refine wpAnyH_done (by kernel_rfl) ?_ _
    have g0 : (w6.setCell ⟨w2.heap.size, 2, none⟩ (.slice adv 2 cv)).cell? ⟨w2.heap.size, 0, none⟩ = some (.int .i64 ow) := HFIN.out.1.cell 0
    have g1 : (w6.setCell ⟨w2.heap.size, 2, none⟩ (.slice adv 2 cv)).cell? ⟨w2.heap.size, 1, none⟩ = some (.int .i64 t) := HFIN.out.1.cell 1
    have g2 : (w6.setCell ⟨w2.heap.size, 2, none⟩ (.slice adv 2 cv)).cell? ⟨w2.heap.size, 2, none⟩ = some (.slice adv 2 cv) := HFIN.out.1.cell 2
    have HCK := hid (HCH.out _ adv cv HFIN.out.2.1)
    have HBY := hid HFIN.out.2.2
    have HAY := hid HFIN.out.2.1
    have HGY := hid HFIN.out.1
    clear HFIN y2 fy kS kS2
    by_cases hq : mayC ow t (extL t l e ⟨e, id, ns⟩) n
    · skip
      have HE := hid (HE0.out hq)
      rw [mayN_ok hq] at HCK
      clear hq
      go_wp2_with (go_at_call 15; refine HCK.out.mono ?_; rintro x w7 ⟨rfl, hb7⟩; have HB7 := hid (HBY.out.trans (hb7.mono HBY.out.size)); have h0 := (HGY.out.later hb7).cell 0; have h1 := (HGY.out.later hb7).cell 1; have h2 := (HGY.out.later hb7).cell 2; obtain ⟨-, -, -, z0, z1, z2, f0, f1, f2⟩ := HW.out w7 (HB1.out.trans (HB7.out.mono HB1.out.size)); have HAZ := hid (HAY.out.later hb7); clear hb7)
      have HZW := HZ.out w7 (HB1.out.trans (HB7.out.mono HB1.out.size))
      have hbw : Below w.heap.size w w7 := HB2.out.trans ((HB1.out.trans (HB7.out.mono HB1.out.size)).mono HB2.out.size)
      have HC := hid (extC_ok HE.out)
      have m0 := ((HZW.set 0 (.int .i64 ow)).set 1 (.int .i64 t)).set 2 (.slice adv 2 cv)
      have s0 : (((w7.setCell ⟨w.heap.size + 1 + 1, 0, none⟩ (.int .i64 ow)).setCell ⟨w.heap.size + 1 + 1, 1, none⟩ (.int .i64 t)).setCell ⟨w.heap.size + 1 + 1, 2, none⟩ (.slice adv 2 cv)).cell? ⟨w.heap.size + 1 + 1, 0, none⟩ = some (.int .i64 ow) := m0.cell 0
      have s1 : (((w7.setCell ⟨w.heap.size + 1 + 1, 0, none⟩ (.int .i64 ow)).setCell ⟨w.heap.size + 1 + 1, 1, none⟩ (.int .i64 t)).setCell ⟨w.heap.size + 1 + 1, 2, none⟩ (.slice adv 2 cv)).cell? ⟨w.heap.size + 1 + 1, 1, none⟩ = some (.int .i64 t) := m0.cell 1
      have s2 : (((w7.setCell ⟨w.heap.size + 1 + 1, 0, none⟩ (.int .i64 ow)).setCell ⟨w.heap.size + 1 + 1, 1, none⟩ (.int .i64 t)).setCell ⟨w.heap.size + 1 + 1, 2, none⟩ (.slice adv 2 cv)).cell? ⟨w.heap.size + 1 + 1, 2, none⟩ = some (.slice adv 2 cv) := m0.cell 2
      have hcg : Chg [w.heap.size + 2] w7 (((w7.setCell ⟨w.heap.size + 1 + 1, 0, none⟩ (.int .i64 ow)).setCell ⟨w.heap.size + 1 + 1, 1, none⟩ (.int .i64 t)).setCell ⟨w.heap.size + 1 + 1, 2, none⟩ (.slice adv 2 cv)) := (((Chg.refl _ w7).set (Or.inl (by simp)) _ _).set (Or.inl (by simp)) _ _).set (Or.inl (by simp)) _ _
      refine bodyPost_ret (v := .tuple #[.agg #[.int .i64 ow, .int .i64 t, .slice adv 2 cv], .int .i64 0]) (by simp [results, Try.results23, go_sem, s0, s1, s2]) rfl ⟨adv, 2, cv, by rw [HC.out, HE.out], hid ?_, hbw.trans (hcg.below (fun k hk => by simp at hk; omega) hbw.size)⟩
      rw [HC.out]
      show CAns _ _ (extL t l e ⟨e, id, ns⟩) _ _ _
      exact (HAZ.out.chg hcg (fun g hg => by simp at hg; have := HB1.out.size; have := HS2.out; omega)).down (by have := HB1.out.size; have := HS2.out; omega)
    · skip
      have HE := hid (HE3.out hq)
      rw [mayN_no hq] at HCK
      clear hq
      go_wp2_with (go_at_call 15; refine HCK.out.mono ?_; rintro x w7 ⟨rfl, hb7⟩; have HB7 := hid (HBY.out.trans (hb7.mono HBY.out.size)); have h0 := (HGY.out.later hb7).cell 0; have h1 := (HGY.out.later hb7).cell 1; have h2 := (HGY.out.later hb7).cell 2; obtain ⟨-, -, -, z0, z1, z2, f0, f1, f2⟩ := HW.out w7 (HB1.out.trans (HB7.out.mono HB1.out.size)); have HAZ := hid (HAY.out.later hb7); clear hb7)
      have HZW := HZ.out w7 (HB1.out.trans (HB7.out.mono HB1.out.size))
      have hbw : Below w.heap.size w w7 := HB2.out.trans ((HB1.out.trans (HB7.out.mono HB1.out.size)).mono HB2.out.size)
      have HC := hid (extC_no (by rw [HE.out]; decide))
      have m0 := ((HZW.set 0 (.int .i64 0)).set 1 (.int .i64 0)).set 2 (.slice none 0 0)
      have s0 : (((w7.setCell ⟨w.heap.size + 1 + 1, 0, none⟩ (.int .i64 0)).setCell ⟨w.heap.size + 1 + 1, 1, none⟩ (.int .i64 0)).setCell ⟨w.heap.size + 1 + 1, 2, none⟩ (.slice none 0 0)).cell? ⟨w.heap.size + 1 + 1, 0, none⟩ = some (.int .i64 0) := m0.cell 0
      have s1 : (((w7.setCell ⟨w.heap.size + 1 + 1, 0, none⟩ (.int .i64 0)).setCell ⟨w.heap.size + 1 + 1, 1, none⟩ (.int .i64 0)).setCell ⟨w.heap.size + 1 + 1, 2, none⟩ (.slice none 0 0)).cell? ⟨w.heap.size + 1 + 1, 1, none⟩ = some (.int .i64 0) := m0.cell 1
      have s2 : (((w7.setCell ⟨w.heap.size + 1 + 1, 0, none⟩ (.int .i64 0)).setCell ⟨w.heap.size + 1 + 1, 1, none⟩ (.int .i64 0)).setCell ⟨w.heap.size + 1 + 1, 2, none⟩ (.slice none 0 0)).cell? ⟨w.heap.size + 1 + 1, 2, none⟩ = some (.slice none 0 0) := m0.cell 2
      have hcg : Chg [w.heap.size + 2] w7 (((w7.setCell ⟨w.heap.size + 1 + 1, 0, none⟩ (.int .i64 0)).setCell ⟨w.heap.size + 1 + 1, 1, none⟩ (.int .i64 0)).setCell ⟨w.heap.size + 1 + 1, 2, none⟩ (.slice none 0 0)) := (((Chg.refl _ w7).set (Or.inl (by simp)) _ _).set (Or.inl (by simp)) _ _).set (Or.inl (by simp)) _ _
      refine bodyPost_ret (v := .tuple #[.agg #[.int .i64 0, .int .i64 0, .slice none 0 0], .int .i64 1]) (by simp [results, Try.results23, go_sem, s0, s1, s2]) rfl ⟨none, 0, 0, by rw [HC.out, HE.out], hid (by rw [HC.out]; exact CAns.none _ _), hbw.trans (hcg.below (fun k hk => by simp at hk; omega) hbw.size)⟩
  · skip
    have HBe : Hid (Below X.heap.size X (X.drew.alloc (.cells #[] 3))) := hid (((Below.refl _ X).drew).alloc (by simp) _)
    go_simp
    refine hK.out _ _ (HS.out _ (HBX.out _ HBe.out)) (fun hHeld => ?_)
    clear hK K
    try simp only [Act.put, List.setIfInBounds_toArray, List.set_cons_zero, List.set_cons_succ]
    refine wpAnyH_ready (rs := [1, 8]) (by kernel_rfl) (by simp) ?_
    refine AllReadyH.cons rfl (fun K hK => ?_) (AllReadyH.cons rfl (fun K hK => ?_) (AllReadyH.nil))
    · skip
      have k2 := HV.out (X.alloc (.cells #[] 3)) ((Below.refl _ X).alloc (Nat.le_refl _) _)
      go_simp
      refine hK.out _ _ (HS.out _ (HBX.out _ (HBe.out))) (fun hHeld => ?_)
      clear hK K
      try simp only [Act.put, List.setIfInBounds_toArray, List.set_cons_zero, List.set_cons_succ]
      refine wpAnyH_ready (rs := [8]) (by kernel_rfl) (by simp) ?_
      refine AllReadyH.cons rfl (fun K hK => ?_) (AllReadyH.nil)
      refine step_app_ints rfl _ _ rfl X.heap.size 0 (.slice (some ⟨X.heap.size, 0, none⟩) 0 0) [] rfl (emptyI_own' X.drew X.heap.size (by simp)) ad1 m1 c1 ns rfl (HI.out _ HBe.out) hx0 (by omega) (by simp) ?_
      intro v1 w3 r1 r2
      obtain ⟨s, rfl, HN, HB3⟩ := HAP.out v1 w3 r1 r2
      clear r1 r2
      refine hK.out _ _ (HS.out _ (HBX.out _ HB3.out)) (fun hHeld => ?_)
      clear hK K
      refine wpAnyH_take (i := 9) (oi := { dst := some 118, op := Op.build 49 #[(0, Operand.tmp 113), (1, Operand.tmp 117)], type := 49, pos := "ref.go:185", after := #[{ on := 4, ground := Ground.data }, { on := 8, ground := Ground.data }], guard := none }) (v := ?_) rfl (by kernel_rfl) (by kernel_rfl) (by kernel_rfl) (fun _ _ _ h => h) (Or.inl ⟨by rfl, ?_⟩) hHeld ?_
      rotate_left
      · intro w hSw; (try dsimp only at hSw); go_simp; try with_reducible rfl
      refine wpAnyH_take (i := 10) (oi := { dst := some 119, op := Op.build 65 #[(0, Operand.tmp 111), (1, Operand.tmp 118)], type := 65, pos := "ref.go:185", after := #[{ on := 2, ground := Ground.data }, { on := 9, ground := Ground.data }], guard := none }) (v := ?_) rfl (by kernel_rfl) (by kernel_rfl) (by kernel_rfl) (fun _ _ _ h => h) (Or.inl ⟨by rfl, ?_⟩) hHeld ?_
      rotate_left
      · intro w hSw; (try dsimp only at hSw); go_simp; try with_reducible rfl
      refine wpAnyH_ready (rs := [11]) (by kernel_rfl) (by simp) ?_
      refine AllReadyH.cons rfl (fun K hK => ?_) (AllReadyH.nil)
      have HB4 : Hid (Below X.heap.size X (w3.alloc (.cells #[.int .i64 e, .int .i64 id, .slice s.ad s.m s.c] 65))) := hid (HB3.out.alloc HB3.out.size _)
      go_simp
      refine hK.out _ _ (HS.out _ (HBX.out _ HB4.out)) (fun hHeld => ?_)
      clear hK K
      try simp only [Act.put, List.setIfInBounds_toArray, List.set_cons_zero, List.set_cons_succ]
      refine wpAnyH_ready (rs := [12]) (by kernel_rfl) (by simp) ?_
      refine AllReadyH.cons rfl (fun K hK => ?_) (AllReadyH.nil)
      refine step_app_part ptypeR rfl _ _ rfl w1.heap.size (.slice adx 1 cx) (l.take 1) A0 rfl (HOWN.out _ HB4.out) w3.heap.size ⟨e, id, ns⟩ s rfl (HLT.out w3 s) (by rw [hlen.out]; omega) (hsz.out _ HB4.out) ?_
      intro v' w6 r1 r2 r3
      obtain ⟨y2, fy, kS, kS2, adv, cv, rfl, HFIN⟩ := HST.out w3 w6 s v' HB3.out HN.out r1 r2
      clear r1 r2 r3
      refine hK.out _ _ (kS) (fun hHeld => ?_)
      clear hK K
      refine wpAnyH_take (i := 13) (oi := { dst := some 122, op := Op.fieldAddr 24 (Operand.tmp 13) 2, type := 0, pos := "ref.go:185", after := #[{ on := 0, ground := Ground.phase }, { on := 1, ground := Ground.phase }, { on := 2, ground := Ground.phase }, { on := 3, ground := Ground.phase }, { on := 4, ground := Ground.phase }, { on := 5, ground := Ground.phase }, { on := 6, ground := Ground.phase }, { on := 7, ground := Ground.phase }, { on := 8, ground := Ground.phase }, { on := 9, ground := Ground.phase }, { on := 10, ground := Ground.phase }, { on := 11, ground := Ground.phase }, { on := 12, ground := Ground.phase }], guard := none }) (v := ?_) rfl (by kernel_rfl) (by kernel_rfl) (by kernel_rfl) (fun _ _ _ h => h) (Or.inl ⟨by rfl, ?_⟩) hHeld ?_
      rotate_left
      · intro w hSw; (try dsimp only at hSw); go_simp; try with_reducible rfl
      refine wpAnyH_ready (rs := [14]) (by kernel_rfl) (by simp) ?_
      refine AllReadyH.cons rfl (fun K hK => ?_) (AllReadyH.nil)
      go_simp
      refine hK.out _ _ (kS2) (fun hHeld => ?_)
      clear hK K
      refine wpAnyH_done (by kernel_rfl) ?_ _
      have g0 : (w6.setCell ⟨w2.heap.size, 2, none⟩ (.slice adv 2 cv)).cell? ⟨w2.heap.size, 0, none⟩ = some (.int .i64 ow) := HFIN.out.1.cell 0
      have g1 : (w6.setCell ⟨w2.heap.size, 2, none⟩ (.slice adv 2 cv)).cell? ⟨w2.heap.size, 1, none⟩ = some (.int .i64 t) := HFIN.out.1.cell 1
      have g2 : (w6.setCell ⟨w2.heap.size, 2, none⟩ (.slice adv 2 cv)).cell? ⟨w2.heap.size, 2, none⟩ = some (.slice adv 2 cv) := HFIN.out.1.cell 2
      have HCK := hid (HCH.out _ adv cv HFIN.out.2.1)
      have HBY := hid HFIN.out.2.2
      have HAY := hid HFIN.out.2.1
      have HGY := hid HFIN.out.1
      clear HFIN y2 fy kS kS2
      by_cases hq : mayC ow t (extL t l e ⟨e, id, ns⟩) n
      · skip
        have HE := hid (HE0.out hq)
        rw [mayN_ok hq] at HCK
        clear hq
        go_wp2_with (go_at_call 15; refine HCK.out.mono ?_; rintro x w7 ⟨rfl, hb7⟩; have HB7 := hid (HBY.out.trans (hb7.mono HBY.out.size)); have h0 := (HGY.out.later hb7).cell 0; have h1 := (HGY.out.later hb7).cell 1; have h2 := (HGY.out.later hb7).cell 2; obtain ⟨-, -, -, z0, z1, z2, f0, f1, f2⟩ := HW.out w7 (HB1.out.trans (HB7.out.mono HB1.out.size)); have HAZ := hid (HAY.out.later hb7); clear hb7)
        have HZW := HZ.out w7 (HB1.out.trans (HB7.out.mono HB1.out.size))
        have hbw : Below w.heap.size w w7 := HB2.out.trans ((HB1.out.trans (HB7.out.mono HB1.out.size)).mono HB2.out.size)
        have HC := hid (extC_ok HE.out)
        have m0 := ((HZW.set 0 (.int .i64 ow)).set 1 (.int .i64 t)).set 2 (.slice adv 2 cv)
        have s0 : (((w7.setCell ⟨w.heap.size + 1 + 1, 0, none⟩ (.int .i64 ow)).setCell ⟨w.heap.size + 1 + 1, 1, none⟩ (.int .i64 t)).setCell ⟨w.heap.size + 1 + 1, 2, none⟩ (.slice adv 2 cv)).cell? ⟨w.heap.size + 1 + 1, 0, none⟩ = some (.int .i64 ow) := m0.cell 0
        have s1 : (((w7.setCell ⟨w.heap.size + 1 + 1, 0, none⟩ (.int .i64 ow)).setCell ⟨w.heap.size + 1 + 1, 1, none⟩ (.int .i64 t)).setCell ⟨w.heap.size + 1 + 1, 2, none⟩ (.slice adv 2 cv)).cell? ⟨w.heap.size + 1 + 1, 1, none⟩ = some (.int .i64 t) := m0.cell 1
        have s2 : (((w7.setCell ⟨w.heap.size + 1 + 1, 0, none⟩ (.int .i64 ow)).setCell ⟨w.heap.size + 1 + 1, 1, none⟩ (.int .i64 t)).setCell ⟨w.heap.size + 1 + 1, 2, none⟩ (.slice adv 2 cv)).cell? ⟨w.heap.size + 1 + 1, 2, none⟩ = some (.slice adv 2 cv) := m0.cell 2
        have hcg : Chg [w.heap.size + 2] w7 (((w7.setCell ⟨w.heap.size + 1 + 1, 0, none⟩ (.int .i64 ow)).setCell ⟨w.heap.size + 1 + 1, 1, none⟩ (.int .i64 t)).setCell ⟨w.heap.size + 1 + 1, 2, none⟩ (.slice adv 2 cv)) := (((Chg.refl _ w7).set (Or.inl (by simp)) _ _).set (Or.inl (by simp)) _ _).set (Or.inl (by simp)) _ _
        refine bodyPost_ret (v := .tuple #[.agg #[.int .i64 ow, .int .i64 t, .slice adv 2 cv], .int .i64 0]) (by simp [results, Try.results23, go_sem, s0, s1, s2]) rfl ⟨adv, 2, cv, by rw [HC.out, HE.out], hid ?_, hbw.trans (hcg.below (fun k hk => by simp at hk; omega) hbw.size)⟩
        rw [HC.out]
        show CAns _ _ (extL t l e ⟨e, id, ns⟩) _ _ _
        exact (HAZ.out.chg hcg (fun g hg => by simp at hg; have := HB1.out.size; have := HS2.out; omega)).down (by have := HB1.out.size; have := HS2.out; omega)
      · skip
        have HE := hid (HE3.out hq)
        rw [mayN_no hq] at HCK
        clear hq
        go_wp2_with (go_at_call 15; refine HCK.out.mono ?_; rintro x w7 ⟨rfl, hb7⟩; have HB7 := hid (HBY.out.trans (hb7.mono HBY.out.size)); have h0 := (HGY.out.later hb7).cell 0; have h1 := (HGY.out.later hb7).cell 1; have h2 := (HGY.out.later hb7).cell 2; obtain ⟨-, -, -, z0, z1, z2, f0, f1, f2⟩ := HW.out w7 (HB1.out.trans (HB7.out.mono HB1.out.size)); have HAZ := hid (HAY.out.later hb7); clear hb7)
        have HZW := HZ.out w7 (HB1.out.trans (HB7.out.mono HB1.out.size))
        have hbw : Below w.heap.size w w7 := HB2.out.trans ((HB1.out.trans (HB7.out.mono HB1.out.size)).mono HB2.out.size)
        have HC := hid (extC_no (by rw [HE.out]; decide))
        have m0 := ((HZW.set 0 (.int .i64 0)).set 1 (.int .i64 0)).set 2 (.slice none 0 0)
        have s0 : (((w7.setCell ⟨w.heap.size + 1 + 1, 0, none⟩ (.int .i64 0)).setCell ⟨w.heap.size + 1 + 1, 1, none⟩ (.int .i64 0)).setCell ⟨w.heap.size + 1 + 1, 2, none⟩ (.slice none 0 0)).cell? ⟨w.heap.size + 1 + 1, 0, none⟩ = some (.int .i64 0) := m0.cell 0
        have s1 : (((w7.setCell ⟨w.heap.size + 1 + 1, 0, none⟩ (.int .i64 0)).setCell ⟨w.heap.size + 1 + 1, 1, none⟩ (.int .i64 0)).setCell ⟨w.heap.size + 1 + 1, 2, none⟩ (.slice none 0 0)).cell? ⟨w.heap.size + 1 + 1, 1, none⟩ = some (.int .i64 0) := m0.cell 1
        have s2 : (((w7.setCell ⟨w.heap.size + 1 + 1, 0, none⟩ (.int .i64 0)).setCell ⟨w.heap.size + 1 + 1, 1, none⟩ (.int .i64 0)).setCell ⟨w.heap.size + 1 + 1, 2, none⟩ (.slice none 0 0)).cell? ⟨w.heap.size + 1 + 1, 2, none⟩ = some (.slice none 0 0) := m0.cell 2
        have hcg : Chg [w.heap.size + 2] w7 (((w7.setCell ⟨w.heap.size + 1 + 1, 0, none⟩ (.int .i64 0)).setCell ⟨w.heap.size + 1 + 1, 1, none⟩ (.int .i64 0)).setCell ⟨w.heap.size + 1 + 1, 2, none⟩ (.slice none 0 0)) := (((Chg.refl _ w7).set (Or.inl (by simp)) _ _).set (Or.inl (by simp)) _ _).set (Or.inl (by simp)) _ _
        refine bodyPost_ret (v := .tuple #[.agg #[.int .i64 0, .int .i64 0, .slice none 0 0], .int .i64 1]) (by simp [results, Try.results23, go_sem, s0, s1, s2]) rfl ⟨none, 0, 0, by rw [HC.out, HE.out], hid (by rw [HC.out]; exact CAns.none _ _), hbw.trans (hcg.below (fun k hk => by simp at hk; omega) hbw.size)⟩
    · skip
      refine step_app_ints rfl _ _ rfl X.heap.size 0 (.slice (some ⟨X.heap.size, 0, none⟩) 0 0) [] rfl (emptyI_own' X.drew X.heap.size (by simp)) ad1 m1 c1 ns rfl (HI.out _ HBe.out) hx0 (by omega) (by simp) ?_
      intro v1 w3 r1 r2
      obtain ⟨s, rfl, HN, HB3⟩ := HAP.out v1 w3 r1 r2
      clear r1 r2
      refine hK.out _ _ (HS.out _ (HBX.out _ HB3.out)) (fun hHeld => ?_)
      clear hK K
      refine wpAnyH_take (i := 9) (oi := { dst := some 118, op := Op.build 49 #[(0, Operand.tmp 113), (1, Operand.tmp 117)], type := 49, pos := "ref.go:185", after := #[{ on := 4, ground := Ground.data }, { on := 8, ground := Ground.data }], guard := none }) (v := ?_) rfl (by kernel_rfl) (by kernel_rfl) (by kernel_rfl) (fun _ _ _ h => h) (Or.inl ⟨by rfl, ?_⟩) hHeld ?_
      rotate_left
      · intro w hSw; (try dsimp only at hSw); go_simp; try with_reducible rfl
      refine wpAnyH_take (i := 10) (oi := { dst := some 119, op := Op.build 65 #[(0, Operand.tmp 111), (1, Operand.tmp 118)], type := 65, pos := "ref.go:185", after := #[{ on := 2, ground := Ground.data }, { on := 9, ground := Ground.data }], guard := none }) (v := ?_) rfl (by kernel_rfl) (by kernel_rfl) (by kernel_rfl) (fun _ _ _ h => h) (Or.inl ⟨by rfl, ?_⟩) hHeld ?_
      rotate_left
      · intro w hSw; (try dsimp only at hSw); go_simp; try with_reducible rfl
      refine wpAnyH_ready (rs := [1, 11]) (by kernel_rfl) (by simp) ?_
      refine AllReadyH.cons rfl (fun K hK => ?_) (AllReadyH.cons rfl (fun K hK => ?_) (AllReadyH.nil))
      · skip
        have k2 := HV.out w3 HB3.out
        go_simp
        refine hK.out _ _ (HS.out _ (HBX.out _ (HB3.out))) (fun hHeld => ?_)
        clear hK K
        try simp only [Act.put, List.setIfInBounds_toArray, List.set_cons_zero, List.set_cons_succ]
        refine wpAnyH_ready (rs := [11]) (by kernel_rfl) (by simp) ?_
        refine AllReadyH.cons rfl (fun K hK => ?_) (AllReadyH.nil)
        have HB4 : Hid (Below X.heap.size X (w3.alloc (.cells #[.int .i64 e, .int .i64 id, .slice s.ad s.m s.c] 65))) := hid (HB3.out.alloc HB3.out.size _)
        go_simp
        refine hK.out _ _ (HS.out _ (HBX.out _ HB4.out)) (fun hHeld => ?_)
        clear hK K
        try simp only [Act.put, List.setIfInBounds_toArray, List.set_cons_zero, List.set_cons_succ]
        refine wpAnyH_ready (rs := [12]) (by kernel_rfl) (by simp) ?_
        refine AllReadyH.cons rfl (fun K hK => ?_) (AllReadyH.nil)
        refine step_app_part ptypeR rfl _ _ rfl w1.heap.size (.slice adx 1 cx) (l.take 1) A0 rfl (HOWN.out _ HB4.out) w3.heap.size ⟨e, id, ns⟩ s rfl (HLT.out w3 s) (by rw [hlen.out]; omega) (hsz.out _ HB4.out) ?_
        intro v' w6 r1 r2 r3
        obtain ⟨y2, fy, kS, kS2, adv, cv, rfl, HFIN⟩ := HST.out w3 w6 s v' HB3.out HN.out r1 r2
        clear r1 r2 r3
        refine hK.out _ _ (kS) (fun hHeld => ?_)
        clear hK K
        refine wpAnyH_take (i := 13) (oi := { dst := some 122, op := Op.fieldAddr 24 (Operand.tmp 13) 2, type := 0, pos := "ref.go:185", after := #[{ on := 0, ground := Ground.phase }, { on := 1, ground := Ground.phase }, { on := 2, ground := Ground.phase }, { on := 3, ground := Ground.phase }, { on := 4, ground := Ground.phase }, { on := 5, ground := Ground.phase }, { on := 6, ground := Ground.phase }, { on := 7, ground := Ground.phase }, { on := 8, ground := Ground.phase }, { on := 9, ground := Ground.phase }, { on := 10, ground := Ground.phase }, { on := 11, ground := Ground.phase }, { on := 12, ground := Ground.phase }], guard := none }) (v := ?_) rfl (by kernel_rfl) (by kernel_rfl) (by kernel_rfl) (fun _ _ _ h => h) (Or.inl ⟨by rfl, ?_⟩) hHeld ?_
        rotate_left
        · intro w hSw; (try dsimp only at hSw); go_simp; try with_reducible rfl
        refine wpAnyH_ready (rs := [14]) (by kernel_rfl) (by simp) ?_
        refine AllReadyH.cons rfl (fun K hK => ?_) (AllReadyH.nil)
        go_simp
        refine hK.out _ _ (kS2) (fun hHeld => ?_)
        clear hK K
        refine wpAnyH_done (by kernel_rfl) ?_ _
        have g0 : (w6.setCell ⟨w2.heap.size, 2, none⟩ (.slice adv 2 cv)).cell? ⟨w2.heap.size, 0, none⟩ = some (.int .i64 ow) := HFIN.out.1.cell 0
        have g1 : (w6.setCell ⟨w2.heap.size, 2, none⟩ (.slice adv 2 cv)).cell? ⟨w2.heap.size, 1, none⟩ = some (.int .i64 t) := HFIN.out.1.cell 1
        have g2 : (w6.setCell ⟨w2.heap.size, 2, none⟩ (.slice adv 2 cv)).cell? ⟨w2.heap.size, 2, none⟩ = some (.slice adv 2 cv) := HFIN.out.1.cell 2
        have HCK := hid (HCH.out _ adv cv HFIN.out.2.1)
        have HBY := hid HFIN.out.2.2
        have HAY := hid HFIN.out.2.1
        have HGY := hid HFIN.out.1
        clear HFIN y2 fy kS kS2
        by_cases hq : mayC ow t (extL t l e ⟨e, id, ns⟩) n
        · skip
          have HE := hid (HE0.out hq)
          rw [mayN_ok hq] at HCK
          clear hq
          go_wp2_with (go_at_call 15; refine HCK.out.mono ?_; rintro x w7 ⟨rfl, hb7⟩; have HB7 := hid (HBY.out.trans (hb7.mono HBY.out.size)); have h0 := (HGY.out.later hb7).cell 0; have h1 := (HGY.out.later hb7).cell 1; have h2 := (HGY.out.later hb7).cell 2; obtain ⟨-, -, -, z0, z1, z2, f0, f1, f2⟩ := HW.out w7 (HB1.out.trans (HB7.out.mono HB1.out.size)); have HAZ := hid (HAY.out.later hb7); clear hb7)
          have HZW := HZ.out w7 (HB1.out.trans (HB7.out.mono HB1.out.size))
          have hbw : Below w.heap.size w w7 := HB2.out.trans ((HB1.out.trans (HB7.out.mono HB1.out.size)).mono HB2.out.size)
          have HC := hid (extC_ok HE.out)
          have m0 := ((HZW.set 0 (.int .i64 ow)).set 1 (.int .i64 t)).set 2 (.slice adv 2 cv)
          have s0 : (((w7.setCell ⟨w.heap.size + 1 + 1, 0, none⟩ (.int .i64 ow)).setCell ⟨w.heap.size + 1 + 1, 1, none⟩ (.int .i64 t)).setCell ⟨w.heap.size + 1 + 1, 2, none⟩ (.slice adv 2 cv)).cell? ⟨w.heap.size + 1 + 1, 0, none⟩ = some (.int .i64 ow) := m0.cell 0
          have s1 : (((w7.setCell ⟨w.heap.size + 1 + 1, 0, none⟩ (.int .i64 ow)).setCell ⟨w.heap.size + 1 + 1, 1, none⟩ (.int .i64 t)).setCell ⟨w.heap.size + 1 + 1, 2, none⟩ (.slice adv 2 cv)).cell? ⟨w.heap.size + 1 + 1, 1, none⟩ = some (.int .i64 t) := m0.cell 1
          have s2 : (((w7.setCell ⟨w.heap.size + 1 + 1, 0, none⟩ (.int .i64 ow)).setCell ⟨w.heap.size + 1 + 1, 1, none⟩ (.int .i64 t)).setCell ⟨w.heap.size + 1 + 1, 2, none⟩ (.slice adv 2 cv)).cell? ⟨w.heap.size + 1 + 1, 2, none⟩ = some (.slice adv 2 cv) := m0.cell 2
          have hcg : Chg [w.heap.size + 2] w7 (((w7.setCell ⟨w.heap.size + 1 + 1, 0, none⟩ (.int .i64 ow)).setCell ⟨w.heap.size + 1 + 1, 1, none⟩ (.int .i64 t)).setCell ⟨w.heap.size + 1 + 1, 2, none⟩ (.slice adv 2 cv)) := (((Chg.refl _ w7).set (Or.inl (by simp)) _ _).set (Or.inl (by simp)) _ _).set (Or.inl (by simp)) _ _
          refine bodyPost_ret (v := .tuple #[.agg #[.int .i64 ow, .int .i64 t, .slice adv 2 cv], .int .i64 0]) (by simp [results, Try.results23, go_sem, s0, s1, s2]) rfl ⟨adv, 2, cv, by rw [HC.out, HE.out], hid ?_, hbw.trans (hcg.below (fun k hk => by simp at hk; omega) hbw.size)⟩
          rw [HC.out]
          show CAns _ _ (extL t l e ⟨e, id, ns⟩) _ _ _
          exact (HAZ.out.chg hcg (fun g hg => by simp at hg; have := HB1.out.size; have := HS2.out; omega)).down (by have := HB1.out.size; have := HS2.out; omega)
        · skip
          have HE := hid (HE3.out hq)
          rw [mayN_no hq] at HCK
          clear hq
          go_wp2_with (go_at_call 15; refine HCK.out.mono ?_; rintro x w7 ⟨rfl, hb7⟩; have HB7 := hid (HBY.out.trans (hb7.mono HBY.out.size)); have h0 := (HGY.out.later hb7).cell 0; have h1 := (HGY.out.later hb7).cell 1; have h2 := (HGY.out.later hb7).cell 2; obtain ⟨-, -, -, z0, z1, z2, f0, f1, f2⟩ := HW.out w7 (HB1.out.trans (HB7.out.mono HB1.out.size)); have HAZ := hid (HAY.out.later hb7); clear hb7)
          have HZW := HZ.out w7 (HB1.out.trans (HB7.out.mono HB1.out.size))
          have hbw : Below w.heap.size w w7 := HB2.out.trans ((HB1.out.trans (HB7.out.mono HB1.out.size)).mono HB2.out.size)
          have HC := hid (extC_no (by rw [HE.out]; decide))
          have m0 := ((HZW.set 0 (.int .i64 0)).set 1 (.int .i64 0)).set 2 (.slice none 0 0)
          have s0 : (((w7.setCell ⟨w.heap.size + 1 + 1, 0, none⟩ (.int .i64 0)).setCell ⟨w.heap.size + 1 + 1, 1, none⟩ (.int .i64 0)).setCell ⟨w.heap.size + 1 + 1, 2, none⟩ (.slice none 0 0)).cell? ⟨w.heap.size + 1 + 1, 0, none⟩ = some (.int .i64 0) := m0.cell 0
          have s1 : (((w7.setCell ⟨w.heap.size + 1 + 1, 0, none⟩ (.int .i64 0)).setCell ⟨w.heap.size + 1 + 1, 1, none⟩ (.int .i64 0)).setCell ⟨w.heap.size + 1 + 1, 2, none⟩ (.slice none 0 0)).cell? ⟨w.heap.size + 1 + 1, 1, none⟩ = some (.int .i64 0) := m0.cell 1
          have s2 : (((w7.setCell ⟨w.heap.size + 1 + 1, 0, none⟩ (.int .i64 0)).setCell ⟨w.heap.size + 1 + 1, 1, none⟩ (.int .i64 0)).setCell ⟨w.heap.size + 1 + 1, 2, none⟩ (.slice none 0 0)).cell? ⟨w.heap.size + 1 + 1, 2, none⟩ = some (.slice none 0 0) := m0.cell 2
          have hcg : Chg [w.heap.size + 2] w7 (((w7.setCell ⟨w.heap.size + 1 + 1, 0, none⟩ (.int .i64 0)).setCell ⟨w.heap.size + 1 + 1, 1, none⟩ (.int .i64 0)).setCell ⟨w.heap.size + 1 + 1, 2, none⟩ (.slice none 0 0)) := (((Chg.refl _ w7).set (Or.inl (by simp)) _ _).set (Or.inl (by simp)) _ _).set (Or.inl (by simp)) _ _
          refine bodyPost_ret (v := .tuple #[.agg #[.int .i64 0, .int .i64 0, .slice none 0 0], .int .i64 1]) (by simp [results, Try.results23, go_sem, s0, s1, s2]) rfl ⟨none, 0, 0, by rw [HC.out, HE.out], hid (by rw [HC.out]; exact CAns.none _ _), hbw.trans (hcg.below (fun k hk => by simp at hk; omega) hbw.size)⟩
      · skip
        have HB4 : Hid (Below X.heap.size X (w3.alloc (.cells #[.int .i64 e, .int .i64 id, .slice s.ad s.m s.c] 65))) := hid (HB3.out.alloc HB3.out.size _)
        go_simp
        refine hK.out _ _ (HS.out _ (HBX.out _ HB4.out)) (fun hHeld => ?_)
        clear hK K
        try simp only [Act.put, List.setIfInBounds_toArray, List.set_cons_zero, List.set_cons_succ]
        refine wpAnyH_ready (rs := [1]) (by kernel_rfl) (by simp) ?_
        refine AllReadyH.cons rfl (fun K hK => ?_) (AllReadyH.nil)
        have k2 := HV.out (w3.alloc (.cells #[.int .i64 e, .int .i64 id, .slice s.ad s.m s.c] 65)) HB4.out
        go_simp
        refine hK.out _ _ (HS.out _ (HBX.out _ (HB4.out))) (fun hHeld => ?_)
        clear hK K
        try simp only [Act.put, List.setIfInBounds_toArray, List.set_cons_zero, List.set_cons_succ]
        refine wpAnyH_ready (rs := [12]) (by kernel_rfl) (by simp) ?_
        refine AllReadyH.cons rfl (fun K hK => ?_) (AllReadyH.nil)
        refine step_app_part ptypeR rfl _ _ rfl w1.heap.size (.slice adx 1 cx) (l.take 1) A0 rfl (HOWN.out _ HB4.out) w3.heap.size ⟨e, id, ns⟩ s rfl (HLT.out w3 s) (by rw [hlen.out]; omega) (hsz.out _ HB4.out) ?_
        intro v' w6 r1 r2 r3
        obtain ⟨y2, fy, kS, kS2, adv, cv, rfl, HFIN⟩ := HST.out w3 w6 s v' HB3.out HN.out r1 r2
        clear r1 r2 r3
        refine hK.out _ _ (kS) (fun hHeld => ?_)
        clear hK K
        refine wpAnyH_take (i := 13) (oi := { dst := some 122, op := Op.fieldAddr 24 (Operand.tmp 13) 2, type := 0, pos := "ref.go:185", after := #[{ on := 0, ground := Ground.phase }, { on := 1, ground := Ground.phase }, { on := 2, ground := Ground.phase }, { on := 3, ground := Ground.phase }, { on := 4, ground := Ground.phase }, { on := 5, ground := Ground.phase }, { on := 6, ground := Ground.phase }, { on := 7, ground := Ground.phase }, { on := 8, ground := Ground.phase }, { on := 9, ground := Ground.phase }, { on := 10, ground := Ground.phase }, { on := 11, ground := Ground.phase }, { on := 12, ground := Ground.phase }], guard := none }) (v := ?_) rfl (by kernel_rfl) (by kernel_rfl) (by kernel_rfl) (fun _ _ _ h => h) (Or.inl ⟨by rfl, ?_⟩) hHeld ?_
        rotate_left
        · intro w hSw; (try dsimp only at hSw); go_simp; try with_reducible rfl
        refine wpAnyH_ready (rs := [14]) (by kernel_rfl) (by simp) ?_
        refine AllReadyH.cons rfl (fun K hK => ?_) (AllReadyH.nil)
        go_simp
        refine hK.out _ _ (kS2) (fun hHeld => ?_)
        clear hK K
        refine wpAnyH_done (by kernel_rfl) ?_ _
        have g0 : (w6.setCell ⟨w2.heap.size, 2, none⟩ (.slice adv 2 cv)).cell? ⟨w2.heap.size, 0, none⟩ = some (.int .i64 ow) := HFIN.out.1.cell 0
        have g1 : (w6.setCell ⟨w2.heap.size, 2, none⟩ (.slice adv 2 cv)).cell? ⟨w2.heap.size, 1, none⟩ = some (.int .i64 t) := HFIN.out.1.cell 1
        have g2 : (w6.setCell ⟨w2.heap.size, 2, none⟩ (.slice adv 2 cv)).cell? ⟨w2.heap.size, 2, none⟩ = some (.slice adv 2 cv) := HFIN.out.1.cell 2
        have HCK := hid (HCH.out _ adv cv HFIN.out.2.1)
        have HBY := hid HFIN.out.2.2
        have HAY := hid HFIN.out.2.1
        have HGY := hid HFIN.out.1
        clear HFIN y2 fy kS kS2
        by_cases hq : mayC ow t (extL t l e ⟨e, id, ns⟩) n
        · skip
          have HE := hid (HE0.out hq)
          rw [mayN_ok hq] at HCK
          clear hq
          go_wp2_with (go_at_call 15; refine HCK.out.mono ?_; rintro x w7 ⟨rfl, hb7⟩; have HB7 := hid (HBY.out.trans (hb7.mono HBY.out.size)); have h0 := (HGY.out.later hb7).cell 0; have h1 := (HGY.out.later hb7).cell 1; have h2 := (HGY.out.later hb7).cell 2; obtain ⟨-, -, -, z0, z1, z2, f0, f1, f2⟩ := HW.out w7 (HB1.out.trans (HB7.out.mono HB1.out.size)); have HAZ := hid (HAY.out.later hb7); clear hb7)
          have HZW := HZ.out w7 (HB1.out.trans (HB7.out.mono HB1.out.size))
          have hbw : Below w.heap.size w w7 := HB2.out.trans ((HB1.out.trans (HB7.out.mono HB1.out.size)).mono HB2.out.size)
          have HC := hid (extC_ok HE.out)
          have m0 := ((HZW.set 0 (.int .i64 ow)).set 1 (.int .i64 t)).set 2 (.slice adv 2 cv)
          have s0 : (((w7.setCell ⟨w.heap.size + 1 + 1, 0, none⟩ (.int .i64 ow)).setCell ⟨w.heap.size + 1 + 1, 1, none⟩ (.int .i64 t)).setCell ⟨w.heap.size + 1 + 1, 2, none⟩ (.slice adv 2 cv)).cell? ⟨w.heap.size + 1 + 1, 0, none⟩ = some (.int .i64 ow) := m0.cell 0
          have s1 : (((w7.setCell ⟨w.heap.size + 1 + 1, 0, none⟩ (.int .i64 ow)).setCell ⟨w.heap.size + 1 + 1, 1, none⟩ (.int .i64 t)).setCell ⟨w.heap.size + 1 + 1, 2, none⟩ (.slice adv 2 cv)).cell? ⟨w.heap.size + 1 + 1, 1, none⟩ = some (.int .i64 t) := m0.cell 1
          have s2 : (((w7.setCell ⟨w.heap.size + 1 + 1, 0, none⟩ (.int .i64 ow)).setCell ⟨w.heap.size + 1 + 1, 1, none⟩ (.int .i64 t)).setCell ⟨w.heap.size + 1 + 1, 2, none⟩ (.slice adv 2 cv)).cell? ⟨w.heap.size + 1 + 1, 2, none⟩ = some (.slice adv 2 cv) := m0.cell 2
          have hcg : Chg [w.heap.size + 2] w7 (((w7.setCell ⟨w.heap.size + 1 + 1, 0, none⟩ (.int .i64 ow)).setCell ⟨w.heap.size + 1 + 1, 1, none⟩ (.int .i64 t)).setCell ⟨w.heap.size + 1 + 1, 2, none⟩ (.slice adv 2 cv)) := (((Chg.refl _ w7).set (Or.inl (by simp)) _ _).set (Or.inl (by simp)) _ _).set (Or.inl (by simp)) _ _
          refine bodyPost_ret (v := .tuple #[.agg #[.int .i64 ow, .int .i64 t, .slice adv 2 cv], .int .i64 0]) (by simp [results, Try.results23, go_sem, s0, s1, s2]) rfl ⟨adv, 2, cv, by rw [HC.out, HE.out], hid ?_, hbw.trans (hcg.below (fun k hk => by simp at hk; omega) hbw.size)⟩
          rw [HC.out]
          show CAns _ _ (extL t l e ⟨e, id, ns⟩) _ _ _
          exact (HAZ.out.chg hcg (fun g hg => by simp at hg; have := HB1.out.size; have := HS2.out; omega)).down (by have := HB1.out.size; have := HS2.out; omega)
        · skip
          have HE := hid (HE3.out hq)
          rw [mayN_no hq] at HCK
          clear hq
          go_wp2_with (go_at_call 15; refine HCK.out.mono ?_; rintro x w7 ⟨rfl, hb7⟩; have HB7 := hid (HBY.out.trans (hb7.mono HBY.out.size)); have h0 := (HGY.out.later hb7).cell 0; have h1 := (HGY.out.later hb7).cell 1; have h2 := (HGY.out.later hb7).cell 2; obtain ⟨-, -, -, z0, z1, z2, f0, f1, f2⟩ := HW.out w7 (HB1.out.trans (HB7.out.mono HB1.out.size)); have HAZ := hid (HAY.out.later hb7); clear hb7)
          have HZW := HZ.out w7 (HB1.out.trans (HB7.out.mono HB1.out.size))
          have hbw : Below w.heap.size w w7 := HB2.out.trans ((HB1.out.trans (HB7.out.mono HB1.out.size)).mono HB2.out.size)
          have HC := hid (extC_no (by rw [HE.out]; decide))
          have m0 := ((HZW.set 0 (.int .i64 0)).set 1 (.int .i64 0)).set 2 (.slice none 0 0)
          have s0 : (((w7.setCell ⟨w.heap.size + 1 + 1, 0, none⟩ (.int .i64 0)).setCell ⟨w.heap.size + 1 + 1, 1, none⟩ (.int .i64 0)).setCell ⟨w.heap.size + 1 + 1, 2, none⟩ (.slice none 0 0)).cell? ⟨w.heap.size + 1 + 1, 0, none⟩ = some (.int .i64 0) := m0.cell 0
          have s1 : (((w7.setCell ⟨w.heap.size + 1 + 1, 0, none⟩ (.int .i64 0)).setCell ⟨w.heap.size + 1 + 1, 1, none⟩ (.int .i64 0)).setCell ⟨w.heap.size + 1 + 1, 2, none⟩ (.slice none 0 0)).cell? ⟨w.heap.size + 1 + 1, 1, none⟩ = some (.int .i64 0) := m0.cell 1
          have s2 : (((w7.setCell ⟨w.heap.size + 1 + 1, 0, none⟩ (.int .i64 0)).setCell ⟨w.heap.size + 1 + 1, 1, none⟩ (.int .i64 0)).setCell ⟨w.heap.size + 1 + 1, 2, none⟩ (.slice none 0 0)).cell? ⟨w.heap.size + 1 + 1, 2, none⟩ = some (.slice none 0 0) := m0.cell 2
          have hcg : Chg [w.heap.size + 2] w7 (((w7.setCell ⟨w.heap.size + 1 + 1, 0, none⟩ (.int .i64 0)).setCell ⟨w.heap.size + 1 + 1, 1, none⟩ (.int .i64 0)).setCell ⟨w.heap.size + 1 + 1, 2, none⟩ (.slice none 0 0)) := (((Chg.refl _ w7).set (Or.inl (by simp)) _ _).set (Or.inl (by simp)) _ _).set (Or.inl (by simp)) _ _
          refine bodyPost_ret (v := .tuple #[.agg #[.int .i64 0, .int .i64 0, .slice none 0 0], .int .i64 1]) (by simp [results, Try.results23, go_sem, s0, s1, s2]) rfl ⟨none, 0, 0, by rw [HC.out, HE.out], hid (by rw [HC.out]; exact CAns.none _ _), hbw.trans (hcg.below (fun k hk => by simp at hk; omega) hbw.size)⟩
end Go.Proofs.Ythadagpfmacemaa.Rf
