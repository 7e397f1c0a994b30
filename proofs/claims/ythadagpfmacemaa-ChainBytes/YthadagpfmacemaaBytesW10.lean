/- The walk of ChainBytes (by genbytes10.py). -/
import Derived.Test.YthadagpfmacemaaREnc
import Derived.Test.YthadagpfmacemaaRDec
import Derived.Test.YthadagpfmacemaaCDecF
import Derived.Test.YthadagpfmacemaaLSmallC
import Derived.Test.YthadagpfmacemaaLKnow
import Derived.Test.YthadagpfmacemaaCChk
import Derived.Test.YthadagpfmacemaaStays
namespace Go.Proofs.Ythadagpfmacemaa
open Go.RowKit
variable {w : World} {l : List Pt} {A : Nat → Sl} {ad ad1 : Option Addr} {m c len1 cap1 : Nat} {l1 : List Nat}

theorem dec_small' (l : List Nat) (n : Int) : SmallC (decC l n).parts := by
  unfold decC
  by_cases h : decE l n = 0
  · rw [if_pos h]
    unfold decE at h
    split at h
    · split at h
      · rename_i h1 h2; exact may_small h2.2
      · cases h
    · cases h
  · rw [if_neg h]; exact small_nil
set_option maxRecDepth 100000 in
set_option maxHeartbeats 8000000 in
theorem bytes_walk10 (h : CArg w l A ad m c) (o t n : Int) (hm40 : m * 40 ≤ 140737488351232) (hni : ∀ i, i < m → (A i).m * 8 ≤ 140737488355328) (hp : Part.ok w ⟨ad1, len1, cap1, l1⟩) (hlc : len1 ≤ cap1) (hm : len1 ≤ 140737488351232) :
    Calls Try.prog 3 #[.agg #[.int .i64 o, .int .i64 t, .slice ad m c], .slice ad1 len1 cap1, .int .i64 n] w fun x w' => x = .returned (.bool true) ∧ Below w.heap.size w w' := by
  have HB1 : Hid (Below w.heap.size w (w.alloc (.cells #[.int .i64 o, .int .i64 t, .slice ad m c] 24))) := hid ((Below.refl _ _).alloc (Nat.le_refl _) _)
  have HX : Hid (∀ X, Below (w.alloc (.cells #[.int .i64 o, .int .i64 t, .slice ad m c] 24)).heap.size (w.alloc (.cells #[.int .i64 o, .int .i64 t, .slice ad m c] 24)) X → CArg X l A ad m c ∧ Blk X w.heap.size #[.int .i64 o, .int .i64 t, .slice ad m c] 24 ∧ Below w.heap.size w X ∧ Part.ok X ⟨ad1, len1, cap1, l1⟩) := hid (fun X hX => by
    have hw := HB1.out.trans (hX.mono HB1.out.size)
    exact ⟨(h.later HB1.out).later hX, (show Blk (w.alloc (.cells #[.int .i64 o, .int .i64 t, .slice ad m c] 24)) w.heap.size #[.int .i64 o, .int .i64 t, .slice ad m c] 24 from heap_alloc_new w _).later hX, hw, hp.later hw⟩)
  have HOc : Hid (∀ X, Below (w.alloc (.cells #[.int .i64 o, .int .i64 t, .slice ad m c] 24)).heap.size (w.alloc (.cells #[.int .i64 o, .int .i64 t, .slice ad m c] 24)) X → Calls Try.prog 7 #[.agg #[.int .i64 o, .int .i64 t, .slice ad m c]] X fun x w' => ∃ ad' c', x = .returned (.agg #[.int .i64 o, .int .i64 t, .slice ad' m c']) ∧ Hid (CAns w' X.heap.size l ad' m c') ∧ Below X.heap.size X w') := hid (fun X hX => own_any (HX.out X hX).1 o t hm40 hni)
  have HO1 := hid (HOc.out _ (Below.refl _ _))
  obtain ⟨E, hE⟩ : ∃ E, encE o t l n = E := ⟨_, rfl⟩
  obtain ⟨EB, hEB⟩ : ∃ EB, encB o t l n = EB := ⟨_, rfl⟩
  obtain ⟨G, hG⟩ : ∃ G, decE l1 n = G := ⟨_, rfl⟩
  obtain ⟨D, hD⟩ : ∃ D, decC l1 n = D := ⟨_, rfl⟩
  obtain ⟨M, hM⟩ : ∃ M, mayN o t l n = M := ⟨_, rfl⟩
  have HSC : Hid (SmallC D.parts) := hid (by rw [← hD]; exact dec_small' l1 n)
  have HEN : Hid (∀ (X : World) (A9 : Nat → Sl) (adx : Option Addr) (cx : Nat), CArg X l A9 adx m cx → Calls Try.prog 9 #[.agg #[.int .i64 o, .int .i64 t, .slice adx m cx], .int .i64 n] X fun x w' => ∃ ad' m' c', x = .returned (.tuple #[.slice ad' m' c', .int .i64 E]) ∧ Hid (Own w' X.heap.size (.slice ad' m' c') EB) ∧ Below X.heap.size X w') := hid (fun X A9 adx cx hA => by
    have := encode_any hA o t n
    rw [hE, hEB] at this
    exact this)
  have HRE : Hid (∀ X, Below (w.alloc (.cells #[.int .i64 o, .int .i64 t, .slice ad m c] 24)).heap.size (w.alloc (.cells #[.int .i64 o, .int .i64 t, .slice ad m c] 24)) X → Calls Try.prog 10 #[.agg #[.int .i64 o, .int .i64 t, .slice ad m c], .int .i64 n] X fun x w' => ∃ ad' m' c', x = .returned (.tuple #[.slice ad' m' c', .int .i64 E]) ∧ Hid (Own w' X.heap.size (.slice ad' m' c') EB) ∧ Below X.heap.size X w') := hid (fun X hX => by
    have := Rf.encode_any (HX.out X hX).1 o t n
    rw [hE, hEB] at this
    exact this)
  have HDE : Hid (∀ (X : World) (g cg : Nat), Part.ok X ⟨some ⟨g, 0, none⟩, len1, cg, l1⟩ → len1 + 2 ≤ cg → Calls Try.prog 11 #[.slice (some ⟨g, 0, none⟩) len1 cg, .int .i64 n] X fun x w' => ∃ ad' m' c', x = .returned (.tuple #[.agg #[.int .i64 D.owner, .int .i64 D.trim, .slice ad' m' c'], .int .i64 G]) ∧ Hid (CAns w' X.heap.size D.parts ad' m' c') ∧ Below X.heap.size X w') := hid (fun X g cg hk hc => by
    have := decode_any hk (by omega) (by omega) n
    rw [hG, hD] at this
    exact this)
  have HRD : Hid (∀ X, Below (w.alloc (.cells #[.int .i64 o, .int .i64 t, .slice ad m c] 24)).heap.size (w.alloc (.cells #[.int .i64 o, .int .i64 t, .slice ad m c] 24)) X → Calls Try.prog 12 #[.slice ad1 len1 cap1, .int .i64 n] X fun x w' => ∃ ad' m' c', x = .returned (.tuple #[.agg #[.int .i64 D.owner, .int .i64 D.trim, .slice ad' m' c'], .int .i64 G]) ∧ Hid (CAns w' X.heap.size D.parts ad' m' c') ∧ Below X.heap.size X w') := hid (fun X hX => by
    have := Rf.decode_any (HX.out X hX).2.2.2 hlc (by omega) n
    rw [hG, hD] at this
    exact this)
  have HC1 : Hid (∀ (X : World) (A9 : Nat → Sl) (adx : Option Addr) (cx : Nat), CArg X l A9 adx m cx → Calls Try.prog 14 #[.agg #[.int .i64 o, .int .i64 t, .slice adx m cx], .int .i64 n] X fun x w' => x = .returned (.int .i64 M) ∧ Below X.heap.size X w') := hid (fun X A9 adx cx hA => by
    have := chk_any hA o t n
    unfold mayN at hM
    rw [hM] at this
    exact this)
  have HC2 : Hid (∀ X, Below (w.alloc (.cells #[.int .i64 o, .int .i64 t, .slice ad m c] 24)).heap.size (w.alloc (.cells #[.int .i64 o, .int .i64 t, .slice ad m c] 24)) X → Calls Try.prog 15 #[.agg #[.int .i64 o, .int .i64 t, .slice ad m c], .int .i64 n] X fun x w' => x = .returned (.int .i64 M) ∧ Below X.heap.size X w') := hid (fun X hX => by
    have := refChk_any (HX.out X hX).1 o t n
    rw [hM] at this
    exact this)
  have LENT : Hid (∀ (g cg : Nat) (X Y : World) {b : Nat}, Own X b (.slice (some ⟨g, 0, none⟩) (len1 + 2) cg) (l1 ++ [201, 202]) → Below X.heap.size X Y → Part.ok Y ⟨some ⟨g, 0, none⟩, len1, cg, l1⟩) := hid (fun g cg X Y b ho hb => ((ho.later hb).cut (n := len1) hp.1 (by simp [show l1.length = len1 from hp.1])))
  clear h hp hE hEB hG hD hM hni
  go_enter Try.func3, Try.ntmps3
  go_upto_region 7 with (first
    | (go_at_call 7; refine HO1.out.mono ?_; rintro x w2 ⟨adx, cx, rfl, hh, hb⟩; obtain ⟨A2, hA2, -⟩ := hh.out.arg; have HA2 := hid hA2; have L2 := hid (hb.alloc hb.size (.cells #[.int .i64 o, .int .i64 t, .slice adx m cx] 28)); have T2 := hid (hA2.later ((Below.refl _ w2).alloc (Nat.le_refl _) (.cells #[.int .i64 o, .int .i64 t, .slice adx m cx] 28))); have HBX2 : Hid (Blk (w2.alloc (.cells #[.int .i64 o, .int .i64 t, .slice adx m cx] 28)) w2.heap.size #[.int .i64 o, .int .i64 t, .slice adx m cx] 28) := hid (heap_alloc_new w2 _); clear hb hh hA2)
    | (go_at_call 8; refine (lent_any ad1 len1 cap1 l1 _ (HX.out _ L2.out).2.2.2 hm).mono ?_; rintro x w3 ⟨g, cg, rfl, hcg, -, hown, hb⟩; have HOW3 := hid hown; have B3 := hid hb; have L3 := hid (L2.out.trans (hb.mono L2.out.size)); have kx := (HBX2.out.later hb); have kx0 : w3.cell? ⟨w2.heap.size, 0, none⟩ = some (.int .i64 o) := kx.cell 0; have kx1 : w3.cell? ⟨w2.heap.size, 1, none⟩ = some (.int .i64 t) := kx.cell 1; have kx2 : w3.cell? ⟨w2.heap.size, 2, none⟩ = some (.slice adx m cx) := kx.cell 2; clear hown hb kx)
    | (go_at_call 9; refine (HEN.out _ A2 adx cx (T2.out.later B3.out)).mono ?_; rintro x w4 ⟨ad5, m5, c5, rfl, hh, hb⟩; have HOW4 := hid hh.out; have B4 := hid (B3.out.trans (hb.mono B3.out.size)); have B34 := hid hb; have L4 := hid (L3.out.trans (hb.mono L3.out.size)); have kc := (HX.out w4 L4.out).2.1; have kc0 : w4.cell? ⟨w.heap.size, 0, none⟩ = some (.int .i64 o) := kc.cell 0; have kc1 : w4.cell? ⟨w.heap.size, 1, none⟩ = some (.int .i64 t) := kc.cell 1; have kc2 : w4.cell? ⟨w.heap.size, 2, none⟩ = some (.slice ad m c) := kc.cell 2; clear hb hh kx0 kx1 kx2 kc)
    | (go_at_call 10; refine (HRE.out _ L4.out).mono ?_; rintro x w5 ⟨ad6, m6, c6, rfl, hh, hb⟩; have HOW5 := hid hh.out; have B5 := hid (B4.out.trans (hb.mono B4.out.size)); have B45 := hid hb; have L5 := hid (L4.out.trans (hb.mono L4.out.size)); have HDE5 := hid (HDE.out w5 g cg (LENT.out g cg w3 w5 HOW3.out (B34.out.trans (hb.mono B34.out.size))) hcg); clear hb hh kc0 kc1 kc2)
    | (go_at_call 11; refine HDE5.out.mono ?_; rintro x w6 ⟨ad7, m7, c7, rfl, hh, hb⟩; have HA7 := hid hh.out; have B56 := hid hb; have L6 := hid ((L5.out.trans (hb.mono L5.out.size)).alloc (Nat.le_trans L5.out.size hb.size) (.cells #[.int .i64 D.owner, .int .i64 D.trim, .slice ad7 m7 c7] 28)); clear hb hh)
    | (go_at_call 12; refine (HRD.out _ L6.out).mono ?_; rintro x w8 ⟨ad8, m8, c8, rfl, hh, hb⟩; have HA8 := hid hh.out; have B78 := hid hb; have L8 := hid (L6.out.trans (hb.mono L6.out.size)); clear hb hh))
  obtain ⟨w9, hw9⟩ : ∃ w9, w8.alloc (.cells #[.int .i64 D.owner, .int .i64 D.trim, .slice ad8 m8 c8] 24) = w9 := ⟨_, rfl⟩
  rw [hw9]
  have n8 : Below w8.heap.size w8 w9 := by rw [← hw9]; exact (Below.refl _ _).alloc (Nat.le_refl _) _
  have n6 : Below w6.heap.size w6 (w6.alloc (.cells #[.int .i64 D.owner, .int .i64 D.trim, .slice ad7 m7 c7] 28)) := (Below.refl _ _).alloc (Nat.le_refl _) _
  have t7 : Below (w6.alloc (.cells #[.int .i64 D.owner, .int .i64 D.trim, .slice ad7 m7 c7] 28)).heap.size (w6.alloc (.cells #[.int .i64 D.owner, .int .i64 D.trim, .slice ad7 m7 c7] 28)) w9 := B78.out.trans (n8.mono B78.out.size)
  have t6 : Below w6.heap.size w6 w9 := n6.trans (t7.mono n6.size)
  have t5 : Below w5.heap.size w5 w9 := B56.out.trans (t6.mono B56.out.size)
  have t4 : Below w4.heap.size w4 w9 := B45.out.trans (t5.mono B45.out.size)
  have t3 : Below w3.heap.size w3 w9 := B34.out.trans (t4.mono B34.out.size)
  have t2 : Below (w2.alloc (.cells #[.int .i64 o, .int .i64 t, .slice adx m cx] 28)).heap.size (w2.alloc (.cells #[.int .i64 o, .int .i64 t, .slice adx m cx] 28)) w9 := B3.out.trans (t3.mono B3.out.size)
  have HL9 : Hid (Below (w.alloc (.cells #[.int .i64 o, .int .i64 t, .slice ad m c] 24)).heap.size (w.alloc (.cells #[.int .i64 o, .int .i64 t, .slice ad m c] 24)) w9) := hid (L8.out.trans (n8.mono L8.out.size))
  have HB9 : Hid (Below w.heap.size w w9) := hid (HX.out w9 HL9.out).2.2.1
  have HLL : Hid (∀ W, Below w9.heap.size w9 W → Below (w.alloc (.cells #[.int .i64 o, .int .i64 t, .slice ad m c] 24)).heap.size (w.alloc (.cells #[.int .i64 o, .int .i64 t, .slice ad m c] 24)) W) := hid (fun W hW => HL9.out.trans (hW.mono HL9.out.size))
  have HAX := hid (T2.out.later t2)
  have HA79 := hid (HA7.out.later t6)
  have HA89 := hid (HA8.out.later n8)
  have HKX := hid (HBX2.out.later t2)
  have HK7 : Hid (Blk w9 w6.heap.size #[.int .i64 D.owner, .int .i64 D.trim, .slice ad7 m7 c7] 28) := hid ((show Blk (w6.alloc (.cells #[.int .i64 D.owner, .int .i64 D.trim, .slice ad7 m7 c7] 28)) w6.heap.size _ _ from heap_alloc_new w6 _).later t7)
  have HK8 : Hid (Blk w9 w8.heap.size #[.int .i64 D.owner, .int .i64 D.trim, .slice ad8 m8 c8] 24) := hid (by rw [← hw9]; exact heap_alloc_new w8 _)
  have HCV : Hid (∀ W, Below w9.heap.size w9 W → (convert 25 9 (.slice ad5 m5 c5)).run Try.prog W = .ok (.string (bstr EB)) W ∧ (convert 25 9 (.slice ad6 m6 c6)).run Try.prog W = .ok (.string (bstr EB)) W) := hid (fun W hW => by
    obtain ⟨a5, b5, e5, k5, -⟩ := (HOW4.out.later (t4.trans (hW.mono t4.size))).slice EB.length rfl
    obtain ⟨a6, b6, e6, k6, -⟩ := (HOW5.out.later (t5.trans (hW.mono t5.size))).slice EB.length rfl
    rw [e5, e6]
    exact ⟨conv_any k5.2.2 EB.length b5 rfl, conv_any k6.2.2 EB.length b6 rfl⟩)
  have HST : Hid (∀ W, Below w9.heap.size w9 W → Calls Try.prog 17 #[.slice (some ⟨g, 0, none⟩) len1 cg, .slice ad1 len1 cap1] W fun e w' => e = .returned (.bool true) ∧ Below W.heap.size W w') := hid (fun W hW => stays_any g cg ad1 len1 cap1 _ l1 W hcg hm (HOW3.out.later (t3.trans (hW.mono t3.size))) (HX.out W (HLL.out W hW)).2.2.2)
  clear n8 n6 t7 t6 t5 t4 t3 t2 hw9 HA7 HA8 T2 HBX2 L2 L3 L4 L5 L6 L8 B3 B4 B34 B45 B5 B56 B78 HOW3 HOW4 HOW5 HDE5 HEN HRE HDE HRD LENT HO1
  generalize w2.heap.size = gx at *
  generalize w6.heap.size = g7 at *
  generalize w8.heap.size = g8 at *
  have HS : Hid (∀ W, Below w9.heap.size w9 W → (W.cell? ⟨gx, 0, none⟩ = some (.int .i64 o) ∧ W.cell? ⟨gx, 1, none⟩ = some (.int .i64 t) ∧ W.cell? ⟨gx, 2, none⟩ = some (.slice adx m cx)) ∧ (W.cell? ⟨w.heap.size, 0, none⟩ = some (.int .i64 o) ∧ W.cell? ⟨w.heap.size, 1, none⟩ = some (.int .i64 t) ∧ W.cell? ⟨w.heap.size, 2, none⟩ = some (.slice ad m c)) ∧ (W.cell? ⟨g7, 0, none⟩ = some (.int .i64 D.owner) ∧ W.cell? ⟨g7, 1, none⟩ = some (.int .i64 D.trim) ∧ W.cell? ⟨g7, 2, none⟩ = some (.slice ad7 m7 c7)) ∧ (W.cell? ⟨g8, 0, none⟩ = some (.int .i64 D.owner) ∧ W.cell? ⟨g8, 1, none⟩ = some (.int .i64 D.trim) ∧ W.cell? ⟨g8, 2, none⟩ = some (.slice ad8 m8 c8))) := hid (fun W hW => by
    have kx := HKX.out.later hW
    have kc := (HX.out W (HLL.out W hW)).2.1
    have k7 := HK7.out.later hW
    have k8 := HK8.out.later hW
    exact ⟨⟨kx.cell 0, kx.cell 1, kx.cell 2⟩, ⟨kc.cell 0, kc.cell 1, kc.cell 2⟩, ⟨k7.cell 0, k7.cell 1, k7.cell 2⟩, ⟨k8.cell 0, k8.cell 1, k8.cell 2⟩⟩)
  have HK1 := hid (fun W (hW : Below w9.heap.size w9 W) => HC1.out W A2 adx cx (HAX.out.later hW))
  have HK2 := hid (fun W (hW : Below w9.heap.size w9 W) => HC2.out W (HLL.out W hW))
  have HO8 : Hid (∀ X, Below w9.heap.size w9 X → Calls Try.prog 7 #[.agg #[.int .i64 D.owner, .int .i64 D.trim, .slice ad8 m8 c8]] X fun x w' => ∃ ad' c', x = .returned (.agg #[.int .i64 D.owner, .int .i64 D.trim, .slice ad' m8 c']) ∧ Hid (CAns w' X.heap.size D.parts ad' m8 c') ∧ Below X.heap.size X w') := hid (fun X hX => own_small (HA89.out.later hX) HSC.out _ _)
  have HSM : Hid (∀ (X : World) (adp : Option Addr) (cp : Nat) {N : Nat}, Below w9.heap.size w9 X → CAns X N D.parts adp m8 cp → Calls Try.prog 16 #[.agg #[.int .i64 D.owner, .int .i64 D.trim, .slice ad7 m7 c7], .agg #[.int .i64 D.owner, .int .i64 D.trim, .slice adp m8 cp]] X fun x w' => x = .returned (.bool true) ∧ Below X.heap.size X w') := hid (fun X adp cp N hX hp => same_ans (HA79.out.later hX) hp _ _)
  have HOcc := HOc
  replace HOc : Hid (∀ X, Below w9.heap.size w9 X → Calls Try.prog 7 #[.agg #[.int .i64 o, .int .i64 t, .slice ad m c]] X fun x w' => ∃ ad' c', x = .returned (.agg #[.int .i64 o, .int .i64 t, .slice ad' m c']) ∧ Hid (CAns w' X.heap.size l ad' m c') ∧ Below X.heap.size X w') := hid (fun X hX => HOcc.out X (HLL.out X hX))
  have HSMc : Hid (∀ (X : World) (adp : Option Addr) (cp : Nat) {N : Nat}, Below w9.heap.size w9 X → CAns X N l adp m cp → Calls Try.prog 16 #[.agg #[.int .i64 o, .int .i64 t, .slice adx m cx], .agg #[.int .i64 o, .int .i64 t, .slice adp m cp]] X fun x w' => x = .returned (.bool true) ∧ Below X.heap.size X w') := hid (fun X adp cp N hX hp => by obtain ⟨A9, hA9, -⟩ := hp.arg; exact same_any (HAX.out.later hX) hA9 o t)
  clear HOcc
  refine wp_region_held_drew (S := fun W => (W.cell? ⟨gx, 0, none⟩ = some (.int .i64 o) ∧ W.cell? ⟨gx, 1, none⟩ = some (.int .i64 t) ∧ W.cell? ⟨gx, 2, none⟩ = some (.slice adx m cx)) ∧ (W.cell? ⟨w.heap.size, 0, none⟩ = some (.int .i64 o) ∧ W.cell? ⟨w.heap.size, 1, none⟩ = some (.int .i64 t) ∧ W.cell? ⟨w.heap.size, 2, none⟩ = some (.slice ad m c)) ∧ (W.cell? ⟨g7, 0, none⟩ = some (.int .i64 D.owner) ∧ W.cell? ⟨g7, 1, none⟩ = some (.int .i64 D.trim) ∧ W.cell? ⟨g7, 2, none⟩ = some (.slice ad7 m7 c7)) ∧ (W.cell? ⟨g8, 0, none⟩ = some (.int .i64 D.owner) ∧ W.cell? ⟨g8, 1, none⟩ = some (.int .i64 D.trim) ∧ W.cell? ⟨g8, 2, none⟩ = some (.slice ad8 m8 c8))) (by kernel_rfl) (HS.out _ (Below.refl w9.heap.size w9).drew) (fun hHeld => ?_)
  refine wpAnyH_take (i := 0) (oi := { dst := some 45, op := Op.load 28 (Operand.tmp 7), type := 28, pos := "law.go:72", after := #[], guard := none }) (v := ?_) rfl (by kernel_rfl) (by kernel_rfl) (by kernel_rfl) (fun _ _ _ h => h) (Or.inl ⟨by rfl, ?_⟩) hHeld ?_
  rotate_left
  · intro w hSw; (try dsimp only at hSw); go_simp; try with_reducible rfl
  try simp only [Act.put, List.setIfInBounds_toArray, List.set_cons_zero, List.set_cons_succ]
  refine wpAnyH_take (i := 1) (oi := { dst := some 46, op := Op.move (Operand.tmp 2), type := 3, pos := "law.go:72", after := #[], guard := none }) (v := ?_) rfl (by kernel_rfl) (by kernel_rfl) (by kernel_rfl) (fun _ _ _ h => h) (Or.inl ⟨by rfl, ?_⟩) hHeld ?_
  rotate_left
  · intro w hSw; (try dsimp only at hSw); go_simp; try with_reducible rfl
  try simp only [Act.put, List.setIfInBounds_toArray, List.set_cons_zero, List.set_cons_succ]
  refine wpAnyH_take (i := 4) (oi := { dst := some 49, op := Op.load 24 (Operand.tmp 3), type := 24, pos := "law.go:72", after := #[], guard := none }) (v := ?_) rfl (by kernel_rfl) (by kernel_rfl) (by kernel_rfl) (fun _ _ _ h => h) (Or.inl ⟨by rfl, ?_⟩) hHeld ?_
  rotate_left
  · intro w hSw; (try dsimp only at hSw); go_simp; try with_reducible rfl
  try simp only [Act.put, List.setIfInBounds_toArray, List.set_cons_zero, List.set_cons_succ]
  refine wpAnyH_take (i := 5) (oi := { dst := some 50, op := Op.move (Operand.tmp 2), type := 3, pos := "law.go:72", after := #[], guard := none }) (v := ?_) rfl (by kernel_rfl) (by kernel_rfl) (by kernel_rfl) (fun _ _ _ h => h) (Or.inl ⟨by rfl, ?_⟩) hHeld ?_
  rotate_left
  · intro w hSw; (try dsimp only at hSw); go_simp; try with_reducible rfl
  try simp only [Act.put, List.setIfInBounds_toArray, List.set_cons_zero, List.set_cons_succ]
  refine wpAnyH_ready (rs := [2]) (by kernel_rfl) (by simp) ?_
  refine AllReadyH.cons rfl (fun K hK => ?_) (AllReadyH.nil)
  go_simp
  go_wp2_with (go_at_call 14; refine (HK1.out _ (Below.refl w9.heap.size w9).drew).mono ?_; rintro x x1 ⟨rfl, hb⟩; have Hx1 := hid (((Below.refl w9.heap.size w9).drew).trans (hb.mono ((Below.refl w9.heap.size w9).drew).size)); clear hb)
  refine hK.out _ _ (HS.out _ Hx1.out) (fun hHeld => ?_)
  clear hK K
  try simp only [Act.put, List.setIfInBounds_toArray, List.set_cons_zero, List.set_cons_succ]
  refine wpAnyH_ready (rs := [3]) (by kernel_rfl) (by simp) ?_
  refine AllReadyH.cons rfl (fun K hK => ?_) (AllReadyH.nil)
  go_simp
  go_wp2_with (go_at_call 13; refine (num10_any _ _).mono ?_; rintro x wn ⟨rfl, hwn⟩; obtain rfl := hwn.symm)
  refine hK.out _ _ (HS.out _ Hx1.out) (fun hHeld => ?_)
  clear hK K
  try simp only [Act.put, List.setIfInBounds_toArray, List.set_cons_zero, List.set_cons_succ]
  refine wpAnyH_ready (rs := [6]) (by kernel_rfl) (by simp) ?_
  refine AllReadyH.cons rfl (fun K hK => ?_) (AllReadyH.nil)
  go_simp
  go_wp2_with (go_at_call 15; refine (HK2.out _ Hx1.out).mono ?_; rintro x x2 ⟨rfl, hb⟩; have Hx2 := hid ((Hx1.out).trans (hb.mono (Hx1.out).size)); clear hb)
  refine hK.out _ _ (HS.out _ Hx2.out) (fun hHeld => ?_)
  clear hK K
  try simp only [Act.put, List.setIfInBounds_toArray, List.set_cons_zero, List.set_cons_succ]
  refine wpAnyH_take (i := 7) (oi := { dst := some 52, op := Op.binOp BinOp.eql 3 (Operand.tmp 48) (Operand.tmp 51) 3, type := 4, pos := "law.go:72", after := #[{ on := 3, ground := Ground.data }, { on := 6, ground := Ground.data }], guard := none }) (v := ?_) rfl (by kernel_rfl) (by kernel_rfl) (by kernel_rfl) (fun _ _ _ h => h) (Or.inl ⟨by rfl, ?_⟩) hHeld ?_
  rotate_left
  · intro w hSw; (try dsimp only at hSw); go_simp; try with_reducible rfl
  try simp only [Act.put, List.setIfInBounds_toArray, List.set_cons_zero, List.set_cons_succ]
  refine wpAnyH_take (i := 8) (oi := { dst := some 53, op := Op.move (Operand.tmp 52), type := 4, pos := "law.go:72", after := #[{ on := 7, ground := Ground.data }, { on := 6, ground := Ground.chain }], guard := none }) (v := ?_) rfl (by kernel_rfl) (by kernel_rfl) (by kernel_rfl) (fun _ _ _ h => h) (Or.inl ⟨by rfl, ?_⟩) hHeld ?_
  rotate_left
  · intro w hSw; (try dsimp only at hSw); go_simp; try with_reducible rfl
  try simp only [Act.put, List.setIfInBounds_toArray, List.set_cons_zero, List.set_cons_succ]
  refine wpAnyH_take (i := 9) (oi := { dst := some 54, op := Op.move (Operand.tmp 9), type := 25, pos := "law.go:72", after := #[{ on := 8, ground := Ground.guard }], guard := some (8, true) }) (v := ?_) rfl (by kernel_rfl) (by kernel_rfl) (by kernel_rfl) (fun _ _ _ h => h) (Or.inl ⟨by rfl, ?_⟩) hHeld ?_
  rotate_left
  · intro w hSw; (try dsimp only at hSw); go_simp; try with_reducible rfl
  try simp only [Act.put, List.setIfInBounds_toArray, List.set_cons_zero, List.set_cons_succ]
  refine wpAnyH_take (i := 11) (oi := { dst := some 56, op := Op.move (Operand.tmp 11), type := 25, pos := "law.go:72", after := #[{ on := 8, ground := Ground.guard }], guard := some (8, true) }) (v := ?_) rfl (by kernel_rfl) (by kernel_rfl) (by kernel_rfl) (fun _ _ _ h => h) (Or.inl ⟨by rfl, ?_⟩) hHeld ?_
  rotate_left
  · intro w hSw; (try dsimp only at hSw); go_simp; try with_reducible rfl
  try simp only [Act.put, List.setIfInBounds_toArray, List.set_cons_zero, List.set_cons_succ]
  refine wpAnyH_ready (rs := [10, 12]) (by kernel_rfl) (by simp) ?_
  refine AllReadyH.cons rfl (fun K hK => ?_) (AllReadyH.cons rfl (fun K hK => ?_) (AllReadyH.nil))
  · skip
    have cv1 := (HCV.out _ Hx2.out).1
    go_simp
    refine hK.out _ _ (HS.out _ Hx2.out) (fun hHeld => ?_)
    clear hK K
    try simp only [Act.put, List.setIfInBounds_toArray, List.set_cons_zero, List.set_cons_succ]
    refine wpAnyH_ready (rs := [12]) (by kernel_rfl) (by simp) ?_
    refine AllReadyH.cons rfl (fun K hK => ?_) (AllReadyH.nil)
    have cv2 := (HCV.out _ Hx2.out).2
    go_simp
    refine hK.out _ _ (HS.out _ Hx2.out) (fun hHeld => ?_)
    clear hK K
    try simp only [Act.put, List.setIfInBounds_toArray, List.set_cons_zero, List.set_cons_succ]
    refine wpAnyH_take (i := 13) (oi := { dst := some 58, op := Op.binOp BinOp.eql 9 (Operand.tmp 55) (Operand.tmp 57) 9, type := 4, pos := "law.go:72", after := #[{ on := 10, ground := Ground.data }, { on := 12, ground := Ground.data }, { on := 8, ground := Ground.guard }], guard := some (8, true) }) (v := ?_) rfl (by kernel_rfl) (by kernel_rfl) (by kernel_rfl) (fun _ _ _ h => h) (Or.inl ⟨by rfl, ?_⟩) hHeld ?_
    rotate_left
    · intro w hSw; (try dsimp only at hSw); go_simp; try with_reducible rfl
    try simp only [Act.put, List.setIfInBounds_toArray, List.set_cons_zero, List.set_cons_succ]
    refine wpAnyH_take (i := 14) (oi := { dst := some 59, op := Op.pick (Operand.tmp 53) (Operand.tmp 58) (Operand.const (Value.bool false)), type := 4, pos := "law.go:72", after := #[{ on := 8, ground := Ground.data }, { on := 13, ground := Ground.data }], guard := none }) (v := ?_) rfl (by kernel_rfl) (by kernel_rfl) (by kernel_rfl) (fun _ _ _ h => h) (Or.inl ⟨by rfl, ?_⟩) hHeld ?_
    rotate_left
    · intro w hSw; (try dsimp only at hSw); go_simp; try with_reducible rfl
    try simp only [Act.put, List.setIfInBounds_toArray, List.set_cons_zero, List.set_cons_succ]
    refine wpAnyH_take (i := 15) (oi := { dst := some 60, op := Op.move (Operand.tmp 59), type := 4, pos := "law.go:72", after := #[{ on := 14, ground := Ground.data }, { on := 8, ground := Ground.chain }], guard := none }) (v := ?_) rfl (by kernel_rfl) (by kernel_rfl) (by kernel_rfl) (fun _ _ _ h => h) (Or.inl ⟨by rfl, ?_⟩) hHeld ?_
    rotate_left
    · intro w hSw; (try dsimp only at hSw); go_simp; try with_reducible rfl
    try simp only [Act.put, List.setIfInBounds_toArray, List.set_cons_zero, List.set_cons_succ]
    refine wpAnyH_take (i := 16) (oi := { dst := some 61, op := Op.move (Operand.tmp 10), type := 31, pos := "law.go:72", after := #[{ on := 15, ground := Ground.guard }], guard := some (15, true) }) (v := ?_) rfl (by kernel_rfl) (by kernel_rfl) (by kernel_rfl) (fun _ _ _ h => h) (Or.inl ⟨by rfl, ?_⟩) hHeld ?_
    rotate_left
    · intro w hSw; (try dsimp only at hSw); go_simp; try with_reducible rfl
    try simp only [Act.put, List.setIfInBounds_toArray, List.set_cons_zero, List.set_cons_succ]
    refine wpAnyH_take (i := 18) (oi := { dst := some 63, op := Op.move (Operand.tmp 12), type := 3, pos := "law.go:72", after := #[{ on := 15, ground := Ground.guard }], guard := some (15, true) }) (v := ?_) rfl (by kernel_rfl) (by kernel_rfl) (by kernel_rfl) (fun _ _ _ h => h) (Or.inl ⟨by rfl, ?_⟩) hHeld ?_
    rotate_left
    · intro w hSw; (try dsimp only at hSw); go_simp; try with_reducible rfl
    try simp only [Act.put, List.setIfInBounds_toArray, List.set_cons_zero, List.set_cons_succ]
    refine wpAnyH_ready (rs := [17]) (by kernel_rfl) (by simp) ?_
    refine AllReadyH.cons rfl (fun K hK => ?_) (AllReadyH.nil)
    go_simp
    go_wp2_with (go_at_call 13; refine (num10_any _ _).mono ?_; rintro x wn ⟨rfl, hwn⟩; obtain rfl := hwn.symm)
    refine hK.out _ _ (HS.out _ Hx2.out) (fun hHeld => ?_)
    clear hK K
    try simp only [Act.put, List.setIfInBounds_toArray, List.set_cons_zero, List.set_cons_succ]
    refine wpAnyH_take (i := 19) (oi := { dst := some 64, op := Op.binOp BinOp.eql 3 (Operand.tmp 62) (Operand.tmp 63) 3, type := 4, pos := "law.go:72", after := #[{ on := 17, ground := Ground.data }, { on := 18, ground := Ground.data }, { on := 15, ground := Ground.guard }], guard := some (15, true) }) (v := ?_) rfl (by kernel_rfl) (by kernel_rfl) (by kernel_rfl) (fun _ _ _ h => h) (Or.inl ⟨by rfl, ?_⟩) hHeld ?_
    rotate_left
    · intro w hSw; (try dsimp only at hSw); go_simp; try with_reducible rfl
    try simp only [Act.put, List.setIfInBounds_toArray, List.set_cons_zero, List.set_cons_succ]
    refine wpAnyH_take (i := 20) (oi := { dst := some 65, op := Op.pick (Operand.tmp 60) (Operand.tmp 64) (Operand.const (Value.bool false)), type := 4, pos := "law.go:72", after := #[{ on := 15, ground := Ground.data }, { on := 19, ground := Ground.data }], guard := none }) (v := ?_) rfl (by kernel_rfl) (by kernel_rfl) (by kernel_rfl) (fun _ _ _ h => h) (Or.inl ⟨by rfl, ?_⟩) hHeld ?_
    rotate_left
    · intro w hSw; (try dsimp only at hSw); go_simp; try with_reducible rfl
    try simp only [Act.put, List.setIfInBounds_toArray, List.set_cons_zero, List.set_cons_succ]
    refine wpAnyH_take (i := 21) (oi := { dst := some 66, op := Op.move (Operand.tmp 65), type := 4, pos := "law.go:72", after := #[{ on := 20, ground := Ground.data }, { on := 17, ground := Ground.chain }], guard := none }) (v := ?_) rfl (by kernel_rfl) (by kernel_rfl) (by kernel_rfl) (fun _ _ _ h => h) (Or.inl ⟨by rfl, ?_⟩) hHeld ?_
    rotate_left
    · intro w hSw; (try dsimp only at hSw); go_simp; try with_reducible rfl
    try simp only [Act.put, List.setIfInBounds_toArray, List.set_cons_zero, List.set_cons_succ]
    refine wpAnyH_take (i := 22) (oi := { dst := some 67, op := Op.load 28 (Operand.tmp 13), type := 28, pos := "law.go:72", after := #[{ on := 21, ground := Ground.guard }], guard := some (21, true) }) (v := ?_) rfl (by kernel_rfl) (by kernel_rfl) (by kernel_rfl) (fun _ _ _ h => h) (Or.inl ⟨by rfl, ?_⟩) hHeld ?_
    rotate_left
    · intro w hSw; (try dsimp only at hSw); go_simp; try with_reducible rfl
    try simp only [Act.put, List.setIfInBounds_toArray, List.set_cons_zero, List.set_cons_succ]
    refine wpAnyH_take (i := 23) (oi := { dst := some 68, op := Op.load 24 (Operand.tmp 15), type := 24, pos := "law.go:72", after := #[{ on := 21, ground := Ground.guard }], guard := some (21, true) }) (v := ?_) rfl (by kernel_rfl) (by kernel_rfl) (by kernel_rfl) (fun _ _ _ h => h) (Or.inl ⟨by rfl, ?_⟩) hHeld ?_
    rotate_left
    · intro w hSw; (try dsimp only at hSw); go_simp; try with_reducible rfl
    try simp only [Act.put, List.setIfInBounds_toArray, List.set_cons_zero, List.set_cons_succ]
    refine wpAnyH_ready (rs := [24]) (by kernel_rfl) (by simp) ?_
    refine AllReadyH.cons rfl (fun K hK => ?_) (AllReadyH.nil)
    go_simp
    go_wp2_with (go_at_call 7; refine (HO8.out _ Hx2.out).mono ?_; rintro x x3 ⟨adp, cp, rfl, hp, hb⟩; have Hx3 := hid ((Hx2.out).trans (hb.mono (Hx2.out).size)); clear hb)
    refine hK.out _ _ (HS.out _ Hx3.out) (fun hHeld => ?_)
    clear hK K
    try simp only [Act.put, List.setIfInBounds_toArray, List.set_cons_zero, List.set_cons_succ]
    refine wpAnyH_ready (rs := [25]) (by kernel_rfl) (by simp) ?_
    refine AllReadyH.cons rfl (fun K hK => ?_) (AllReadyH.nil)
    go_simp
    go_wp2_with (go_at_call 16; refine (HSM.out _ _ _ Hx3.out hp.out).mono ?_; rintro x x4 ⟨rfl, hb⟩; have Hx4 := hid ((Hx3.out).trans (hb.mono (Hx3.out).size)); clear hb hp)
    refine hK.out _ _ (HS.out _ Hx4.out) (fun hHeld => ?_)
    clear hK K
    try simp only [Act.put, List.setIfInBounds_toArray, List.set_cons_zero, List.set_cons_succ]
    refine wpAnyH_take (i := 26) (oi := { dst := some 71, op := Op.pick (Operand.tmp 66) (Operand.tmp 70) (Operand.const (Value.bool false)), type := 4, pos := "law.go:72", after := #[{ on := 21, ground := Ground.data }, { on := 25, ground := Ground.data }], guard := none }) (v := ?_) rfl (by kernel_rfl) (by kernel_rfl) (by kernel_rfl) (fun _ _ _ h => h) (Or.inl ⟨by rfl, ?_⟩) hHeld ?_
    rotate_left
    · intro w hSw; (try dsimp only at hSw); go_simp; try with_reducible rfl
    try simp only [Act.put, List.setIfInBounds_toArray, List.set_cons_zero, List.set_cons_succ]
    refine wpAnyH_take (i := 27) (oi := { dst := some 72, op := Op.move (Operand.tmp 71), type := 4, pos := "law.go:72", after := #[{ on := 26, ground := Ground.data }, { on := 25, ground := Ground.chain }], guard := none }) (v := ?_) rfl (by kernel_rfl) (by kernel_rfl) (by kernel_rfl) (fun _ _ _ h => h) (Or.inl ⟨by rfl, ?_⟩) hHeld ?_
    rotate_left
    · intro w hSw; (try dsimp only at hSw); go_simp; try with_reducible rfl
    try simp only [Act.put, List.setIfInBounds_toArray, List.set_cons_zero, List.set_cons_succ]
    refine wpAnyH_take (i := 28) (oi := { dst := some 73, op := Op.move (Operand.tmp 14), type := 31, pos := "law.go:72", after := #[{ on := 27, ground := Ground.guard }], guard := some (27, true) }) (v := ?_) rfl (by kernel_rfl) (by kernel_rfl) (by kernel_rfl) (fun _ _ _ h => h) (Or.inl ⟨by rfl, ?_⟩) hHeld ?_
    rotate_left
    · intro w hSw; (try dsimp only at hSw); go_simp; try with_reducible rfl
    try simp only [Act.put, List.setIfInBounds_toArray, List.set_cons_zero, List.set_cons_succ]
    refine wpAnyH_take (i := 30) (oi := { dst := some 75, op := Op.move (Operand.tmp 16), type := 3, pos := "law.go:72", after := #[{ on := 27, ground := Ground.guard }], guard := some (27, true) }) (v := ?_) rfl (by kernel_rfl) (by kernel_rfl) (by kernel_rfl) (fun _ _ _ h => h) (Or.inl ⟨by rfl, ?_⟩) hHeld ?_
    rotate_left
    · intro w hSw; (try dsimp only at hSw); go_simp; try with_reducible rfl
    try simp only [Act.put, List.setIfInBounds_toArray, List.set_cons_zero, List.set_cons_succ]
    refine wpAnyH_ready (rs := [29]) (by kernel_rfl) (by simp) ?_
    refine AllReadyH.cons rfl (fun K hK => ?_) (AllReadyH.nil)
    go_simp
    go_wp2_with (go_at_call 13; refine (num10_any _ _).mono ?_; rintro x wn ⟨rfl, hwn⟩; obtain rfl := hwn.symm)
    refine hK.out _ _ (HS.out _ Hx4.out) (fun hHeld => ?_)
    clear hK K
    try simp only [Act.put, List.setIfInBounds_toArray, List.set_cons_zero, List.set_cons_succ]
    refine wpAnyH_take (i := 31) (oi := { dst := some 76, op := Op.binOp BinOp.eql 3 (Operand.tmp 74) (Operand.tmp 75) 3, type := 4, pos := "law.go:72", after := #[{ on := 29, ground := Ground.data }, { on := 30, ground := Ground.data }, { on := 27, ground := Ground.guard }], guard := some (27, true) }) (v := ?_) rfl (by kernel_rfl) (by kernel_rfl) (by kernel_rfl) (fun _ _ _ h => h) (Or.inl ⟨by rfl, ?_⟩) hHeld ?_
    rotate_left
    · intro w hSw; (try dsimp only at hSw); go_simp; try with_reducible rfl
    try simp only [Act.put, List.setIfInBounds_toArray, List.set_cons_zero, List.set_cons_succ]
    refine wpAnyH_take (i := 32) (oi := { dst := some 77, op := Op.pick (Operand.tmp 72) (Operand.tmp 76) (Operand.const (Value.bool false)), type := 4, pos := "law.go:72", after := #[{ on := 27, ground := Ground.data }, { on := 31, ground := Ground.data }], guard := none }) (v := ?_) rfl (by kernel_rfl) (by kernel_rfl) (by kernel_rfl) (fun _ _ _ h => h) (Or.inl ⟨by rfl, ?_⟩) hHeld ?_
    rotate_left
    · intro w hSw; (try dsimp only at hSw); go_simp; try with_reducible rfl
    try simp only [Act.put, List.setIfInBounds_toArray, List.set_cons_zero, List.set_cons_succ]
    refine wpAnyH_take (i := 33) (oi := { dst := some 78, op := Op.move (Operand.tmp 77), type := 4, pos := "law.go:72", after := #[{ on := 32, ground := Ground.data }, { on := 29, ground := Ground.chain }], guard := none }) (v := ?_) rfl (by kernel_rfl) (by kernel_rfl) (by kernel_rfl) (fun _ _ _ h => h) (Or.inl ⟨by rfl, ?_⟩) hHeld ?_
    rotate_left
    · intro w hSw; (try dsimp only at hSw); go_simp; try with_reducible rfl
    try simp only [Act.put, List.setIfInBounds_toArray, List.set_cons_zero, List.set_cons_succ]
    refine wpAnyH_take (i := 34) (oi := { dst := some 79, op := Op.load 28 (Operand.tmp 7), type := 28, pos := "law.go:72", after := #[{ on := 33, ground := Ground.guard }], guard := some (33, true) }) (v := ?_) rfl (by kernel_rfl) (by kernel_rfl) (by kernel_rfl) (fun _ _ _ h => h) (Or.inl ⟨by rfl, ?_⟩) hHeld ?_
    rotate_left
    · intro w hSw; (try dsimp only at hSw); go_simp; try with_reducible rfl
    try simp only [Act.put, List.setIfInBounds_toArray, List.set_cons_zero, List.set_cons_succ]
    refine wpAnyH_take (i := 35) (oi := { dst := some 80, op := Op.load 24 (Operand.tmp 3), type := 24, pos := "law.go:72", after := #[{ on := 33, ground := Ground.guard }], guard := some (33, true) }) (v := ?_) rfl (by kernel_rfl) (by kernel_rfl) (by kernel_rfl) (fun _ _ _ h => h) (Or.inl ⟨by rfl, ?_⟩) hHeld ?_
    rotate_left
    · intro w hSw; (try dsimp only at hSw); go_simp; try with_reducible rfl
    try simp only [Act.put, List.setIfInBounds_toArray, List.set_cons_zero, List.set_cons_succ]
    refine wpAnyH_ready (rs := [36]) (by kernel_rfl) (by simp) ?_
    refine AllReadyH.cons rfl (fun K hK => ?_) (AllReadyH.nil)
    go_simp
    go_wp2_with (go_at_call 7; refine (HOc.out _ Hx4.out).mono ?_; rintro x x5 ⟨adp, cp, rfl, hp, hb⟩; have Hx5 := hid ((Hx4.out).trans (hb.mono (Hx4.out).size)); clear hb)
    refine hK.out _ _ (HS.out _ Hx5.out) (fun hHeld => ?_)
    clear hK K
    try simp only [Act.put, List.setIfInBounds_toArray, List.set_cons_zero, List.set_cons_succ]
    refine wpAnyH_ready (rs := [37]) (by kernel_rfl) (by simp) ?_
    refine AllReadyH.cons rfl (fun K hK => ?_) (AllReadyH.nil)
    go_simp
    go_wp2_with (go_at_call 16; refine (HSMc.out _ _ _ Hx5.out hp.out).mono ?_; rintro x x6 ⟨rfl, hb⟩; have Hx6 := hid ((Hx5.out).trans (hb.mono (Hx5.out).size)); clear hb hp)
    refine hK.out _ _ (HS.out _ Hx6.out) (fun hHeld => ?_)
    clear hK K
    try simp only [Act.put, List.setIfInBounds_toArray, List.set_cons_zero, List.set_cons_succ]
    refine wpAnyH_take (i := 38) (oi := { dst := some 83, op := Op.pick (Operand.tmp 78) (Operand.tmp 82) (Operand.const (Value.bool false)), type := 4, pos := "law.go:72", after := #[{ on := 33, ground := Ground.data }, { on := 37, ground := Ground.data }], guard := none }) (v := ?_) rfl (by kernel_rfl) (by kernel_rfl) (by kernel_rfl) (fun _ _ _ h => h) (Or.inl ⟨by rfl, ?_⟩) hHeld ?_
    rotate_left
    · intro w hSw; (try dsimp only at hSw); go_simp; try with_reducible rfl
    try simp only [Act.put, List.setIfInBounds_toArray, List.set_cons_zero, List.set_cons_succ]
    refine wpAnyH_take (i := 39) (oi := { dst := some 84, op := Op.move (Operand.tmp 83), type := 4, pos := "law.go:72", after := #[{ on := 38, ground := Ground.data }, { on := 37, ground := Ground.chain }], guard := none }) (v := ?_) rfl (by kernel_rfl) (by kernel_rfl) (by kernel_rfl) (fun _ _ _ h => h) (Or.inl ⟨by rfl, ?_⟩) hHeld ?_
    rotate_left
    · intro w hSw; (try dsimp only at hSw); go_simp; try with_reducible rfl
    try simp only [Act.put, List.setIfInBounds_toArray, List.set_cons_zero, List.set_cons_succ]
    refine wpAnyH_take (i := 40) (oi := { dst := some 85, op := Op.move (Operand.tmp 8), type := 25, pos := "law.go:72", after := #[{ on := 39, ground := Ground.guard }], guard := some (39, true) }) (v := ?_) rfl (by kernel_rfl) (by kernel_rfl) (by kernel_rfl) (fun _ _ _ h => h) (Or.inl ⟨by rfl, ?_⟩) hHeld ?_
    rotate_left
    · intro w hSw; (try dsimp only at hSw); go_simp; try with_reducible rfl
    try simp only [Act.put, List.setIfInBounds_toArray, List.set_cons_zero, List.set_cons_succ]
    refine wpAnyH_take (i := 41) (oi := { dst := some 86, op := Op.move (Operand.tmp 1), type := 25, pos := "law.go:72", after := #[{ on := 39, ground := Ground.guard }], guard := some (39, true) }) (v := ?_) rfl (by kernel_rfl) (by kernel_rfl) (by kernel_rfl) (fun _ _ _ h => h) (Or.inl ⟨by rfl, ?_⟩) hHeld ?_
    rotate_left
    · intro w hSw; (try dsimp only at hSw); go_simp; try with_reducible rfl
    try simp only [Act.put, List.setIfInBounds_toArray, List.set_cons_zero, List.set_cons_succ]
    refine wpAnyH_ready (rs := [42]) (by kernel_rfl) (by simp) ?_
    refine AllReadyH.cons rfl (fun K hK => ?_) (AllReadyH.nil)
    go_simp
    go_wp2_with (go_at_call 17; refine (HST.out _ Hx6.out).mono ?_; rintro x x7 ⟨rfl, hb⟩; have Hx7 := hid ((Hx6.out).trans (hb.mono (Hx6.out).size)); clear hb)
    refine hK.out _ _ (HS.out _ Hx7.out) (fun hHeld => ?_)
    clear hK K
    try simp only [Act.put, List.setIfInBounds_toArray, List.set_cons_zero, List.set_cons_succ]
    refine wpAnyH_take (i := 43) (oi := { dst := some 88, op := Op.pick (Operand.tmp 84) (Operand.tmp 87) (Operand.const (Value.bool false)), type := 4, pos := "law.go:72", after := #[{ on := 39, ground := Ground.data }, { on := 42, ground := Ground.data }], guard := none }) (v := ?_) rfl (by kernel_rfl) (by kernel_rfl) (by kernel_rfl) (fun _ _ _ h => h) (Or.inl ⟨by rfl, ?_⟩) hHeld ?_
    rotate_left
    · intro w hSw; (try dsimp only at hSw); go_simp; try with_reducible rfl
    try simp only [Act.put, List.setIfInBounds_toArray, List.set_cons_zero, List.set_cons_succ]
    refine wpAnyH_take (i := 44) (oi := { dst := some 89, op := Op.move (Operand.tmp 88), type := 4, pos := "law.go:72", after := #[{ on := 43, ground := Ground.data }, { on := 42, ground := Ground.chain }], guard := none }) (v := ?_) rfl (by kernel_rfl) (by kernel_rfl) (by kernel_rfl) (fun _ _ _ h => h) (Or.inl ⟨by rfl, ?_⟩) hHeld ?_
    rotate_left
    · intro w hSw; (try dsimp only at hSw); go_simp; try with_reducible rfl
    try simp only [Act.put, List.setIfInBounds_toArray, List.set_cons_zero, List.set_cons_succ]
    refine wpAnyH_ready (rs := [45]) (by kernel_rfl) (by simp) ?_
    refine AllReadyH.cons rfl (fun K hK => ?_) (AllReadyH.nil)
    go_simp
    go_wp2_with (go_at_call 18; refine (knows10 _).mono ?_; rintro x x8 ⟨rfl, hb⟩; have Hx8 := hid ((Hx7.out).trans (hb.mono (Hx7.out).size)); clear hb)
    refine hK.out _ _ (HS.out _ Hx8.out) (fun hHeld => ?_)
    clear hK K
    try simp only [Act.put, List.setIfInBounds_toArray, List.set_cons_zero, List.set_cons_succ]
    refine wpAnyH_take (i := 46) (oi := { dst := some 91, op := Op.pick (Operand.tmp 89) (Operand.tmp 90) (Operand.const (Value.bool false)), type := 4, pos := "law.go:72", after := #[{ on := 44, ground := Ground.data }, { on := 45, ground := Ground.data }], guard := none }) (v := ?_) rfl (by kernel_rfl) (by kernel_rfl) (by kernel_rfl) (fun _ _ _ h => h) (Or.inl ⟨by rfl, ?_⟩) hHeld ?_
    rotate_left
    · intro w hSw; (try dsimp only at hSw); go_simp; try with_reducible rfl
    try simp only [Act.put, List.setIfInBounds_toArray, List.set_cons_zero, List.set_cons_succ]
    refine wpAnyH_take (i := 47) (oi := { dst := some 6, op := Op.assign (Operand.tmp 91), type := 4, pos := "law.go:72", after := #[{ on := 46, ground := Ground.data }, { on := 45, ground := Ground.chain }, { on := 0, ground := Ground.phase }, { on := 1, ground := Ground.phase }, { on := 2, ground := Ground.phase }, { on := 3, ground := Ground.phase }, { on := 4, ground := Ground.phase }, { on := 5, ground := Ground.phase }, { on := 6, ground := Ground.phase }, { on := 7, ground := Ground.phase }, { on := 8, ground := Ground.phase }, { on := 9, ground := Ground.phase }, { on := 10, ground := Ground.phase }, { on := 11, ground := Ground.phase }, { on := 12, ground := Ground.phase }, { on := 13, ground := Ground.phase }, { on := 14, ground := Ground.phase }, { on := 15, ground := Ground.phase }, { on := 16, ground := Ground.phase }, { on := 17, ground := Ground.phase }, { on := 18, ground := Ground.phase }, { on := 19, ground := Ground.phase }, { on := 20, ground := Ground.phase }, { on := 21, ground := Ground.phase }, { on := 22, ground := Ground.phase }, { on := 23, ground := Ground.phase }, { on := 24, ground := Ground.phase }, { on := 25, ground := Ground.phase }, { on := 26, ground := Ground.phase }, { on := 27, ground := Ground.phase }, { on := 28, ground := Ground.phase }, { on := 29, ground := Ground.phase }, { on := 30, ground := Ground.phase }, { on := 31, ground := Ground.phase }, { on := 32, ground := Ground.phase }, { on := 33, ground := Ground.phase }, { on := 34, ground := Ground.phase }, { on := 35, ground := Ground.phase }, { on := 36, ground := Ground.phase }, { on := 37, ground := Ground.phase }, { on := 38, ground := Ground.phase }, { on := 39, ground := Ground.phase }, { on := 40, ground := Ground.phase }, { on := 41, ground := Ground.phase }, { on := 42, ground := Ground.phase }, { on := 43, ground := Ground.phase }, { on := 44, ground := Ground.phase }, { on := 45, ground := Ground.phase }, { on := 46, ground := Ground.phase }], guard := none }) (v := ?_) rfl (by kernel_rfl) (by kernel_rfl) (by kernel_rfl) (fun _ _ _ h => h) (Or.inl ⟨by rfl, ?_⟩) hHeld ?_
    rotate_left
    · intro w hSw; (try dsimp only at hSw); go_simp; try with_reducible rfl
    try simp only [Act.put, List.setIfInBounds_toArray, List.set_cons_zero, List.set_cons_succ]
    refine wpAnyH_done (by kernel_rfl) ?_ _
    go_wp2_with fail
    go_ret
    exact ⟨rfl, HB9.out.trans (Hx8.out.mono HB9.out.size)⟩
  · skip
    have cv2 := (HCV.out _ Hx2.out).2
    go_simp
    refine hK.out _ _ (HS.out _ Hx2.out) (fun hHeld => ?_)
    clear hK K
    try simp only [Act.put, List.setIfInBounds_toArray, List.set_cons_zero, List.set_cons_succ]
    refine wpAnyH_ready (rs := [10]) (by kernel_rfl) (by simp) ?_
    refine AllReadyH.cons rfl (fun K hK => ?_) (AllReadyH.nil)
    have cv1 := (HCV.out _ Hx2.out).1
    go_simp
    refine hK.out _ _ (HS.out _ Hx2.out) (fun hHeld => ?_)
    clear hK K
    try simp only [Act.put, List.setIfInBounds_toArray, List.set_cons_zero, List.set_cons_succ]
    refine wpAnyH_take (i := 13) (oi := { dst := some 58, op := Op.binOp BinOp.eql 9 (Operand.tmp 55) (Operand.tmp 57) 9, type := 4, pos := "law.go:72", after := #[{ on := 10, ground := Ground.data }, { on := 12, ground := Ground.data }, { on := 8, ground := Ground.guard }], guard := some (8, true) }) (v := ?_) rfl (by kernel_rfl) (by kernel_rfl) (by kernel_rfl) (fun _ _ _ h => h) (Or.inl ⟨by rfl, ?_⟩) hHeld ?_
    rotate_left
    · intro w hSw; (try dsimp only at hSw); go_simp; try with_reducible rfl
    try simp only [Act.put, List.setIfInBounds_toArray, List.set_cons_zero, List.set_cons_succ]
    refine wpAnyH_take (i := 14) (oi := { dst := some 59, op := Op.pick (Operand.tmp 53) (Operand.tmp 58) (Operand.const (Value.bool false)), type := 4, pos := "law.go:72", after := #[{ on := 8, ground := Ground.data }, { on := 13, ground := Ground.data }], guard := none }) (v := ?_) rfl (by kernel_rfl) (by kernel_rfl) (by kernel_rfl) (fun _ _ _ h => h) (Or.inl ⟨by rfl, ?_⟩) hHeld ?_
    rotate_left
    · intro w hSw; (try dsimp only at hSw); go_simp; try with_reducible rfl
    try simp only [Act.put, List.setIfInBounds_toArray, List.set_cons_zero, List.set_cons_succ]
    refine wpAnyH_take (i := 15) (oi := { dst := some 60, op := Op.move (Operand.tmp 59), type := 4, pos := "law.go:72", after := #[{ on := 14, ground := Ground.data }, { on := 8, ground := Ground.chain }], guard := none }) (v := ?_) rfl (by kernel_rfl) (by kernel_rfl) (by kernel_rfl) (fun _ _ _ h => h) (Or.inl ⟨by rfl, ?_⟩) hHeld ?_
    rotate_left
    · intro w hSw; (try dsimp only at hSw); go_simp; try with_reducible rfl
    try simp only [Act.put, List.setIfInBounds_toArray, List.set_cons_zero, List.set_cons_succ]
    refine wpAnyH_take (i := 16) (oi := { dst := some 61, op := Op.move (Operand.tmp 10), type := 31, pos := "law.go:72", after := #[{ on := 15, ground := Ground.guard }], guard := some (15, true) }) (v := ?_) rfl (by kernel_rfl) (by kernel_rfl) (by kernel_rfl) (fun _ _ _ h => h) (Or.inl ⟨by rfl, ?_⟩) hHeld ?_
    rotate_left
    · intro w hSw; (try dsimp only at hSw); go_simp; try with_reducible rfl
    try simp only [Act.put, List.setIfInBounds_toArray, List.set_cons_zero, List.set_cons_succ]
    refine wpAnyH_take (i := 18) (oi := { dst := some 63, op := Op.move (Operand.tmp 12), type := 3, pos := "law.go:72", after := #[{ on := 15, ground := Ground.guard }], guard := some (15, true) }) (v := ?_) rfl (by kernel_rfl) (by kernel_rfl) (by kernel_rfl) (fun _ _ _ h => h) (Or.inl ⟨by rfl, ?_⟩) hHeld ?_
    rotate_left
    · intro w hSw; (try dsimp only at hSw); go_simp; try with_reducible rfl
    try simp only [Act.put, List.setIfInBounds_toArray, List.set_cons_zero, List.set_cons_succ]
    refine wpAnyH_ready (rs := [17]) (by kernel_rfl) (by simp) ?_
    refine AllReadyH.cons rfl (fun K hK => ?_) (AllReadyH.nil)
    go_simp
    go_wp2_with (go_at_call 13; refine (num10_any _ _).mono ?_; rintro x wn ⟨rfl, hwn⟩; obtain rfl := hwn.symm)
    refine hK.out _ _ (HS.out _ Hx2.out) (fun hHeld => ?_)
    clear hK K
    try simp only [Act.put, List.setIfInBounds_toArray, List.set_cons_zero, List.set_cons_succ]
    refine wpAnyH_take (i := 19) (oi := { dst := some 64, op := Op.binOp BinOp.eql 3 (Operand.tmp 62) (Operand.tmp 63) 3, type := 4, pos := "law.go:72", after := #[{ on := 17, ground := Ground.data }, { on := 18, ground := Ground.data }, { on := 15, ground := Ground.guard }], guard := some (15, true) }) (v := ?_) rfl (by kernel_rfl) (by kernel_rfl) (by kernel_rfl) (fun _ _ _ h => h) (Or.inl ⟨by rfl, ?_⟩) hHeld ?_
    rotate_left
    · intro w hSw; (try dsimp only at hSw); go_simp; try with_reducible rfl
    try simp only [Act.put, List.setIfInBounds_toArray, List.set_cons_zero, List.set_cons_succ]
    refine wpAnyH_take (i := 20) (oi := { dst := some 65, op := Op.pick (Operand.tmp 60) (Operand.tmp 64) (Operand.const (Value.bool false)), type := 4, pos := "law.go:72", after := #[{ on := 15, ground := Ground.data }, { on := 19, ground := Ground.data }], guard := none }) (v := ?_) rfl (by kernel_rfl) (by kernel_rfl) (by kernel_rfl) (fun _ _ _ h => h) (Or.inl ⟨by rfl, ?_⟩) hHeld ?_
    rotate_left
    · intro w hSw; (try dsimp only at hSw); go_simp; try with_reducible rfl
    try simp only [Act.put, List.setIfInBounds_toArray, List.set_cons_zero, List.set_cons_succ]
    refine wpAnyH_take (i := 21) (oi := { dst := some 66, op := Op.move (Operand.tmp 65), type := 4, pos := "law.go:72", after := #[{ on := 20, ground := Ground.data }, { on := 17, ground := Ground.chain }], guard := none }) (v := ?_) rfl (by kernel_rfl) (by kernel_rfl) (by kernel_rfl) (fun _ _ _ h => h) (Or.inl ⟨by rfl, ?_⟩) hHeld ?_
    rotate_left
    · intro w hSw; (try dsimp only at hSw); go_simp; try with_reducible rfl
    try simp only [Act.put, List.setIfInBounds_toArray, List.set_cons_zero, List.set_cons_succ]
    refine wpAnyH_take (i := 22) (oi := { dst := some 67, op := Op.load 28 (Operand.tmp 13), type := 28, pos := "law.go:72", after := #[{ on := 21, ground := Ground.guard }], guard := some (21, true) }) (v := ?_) rfl (by kernel_rfl) (by kernel_rfl) (by kernel_rfl) (fun _ _ _ h => h) (Or.inl ⟨by rfl, ?_⟩) hHeld ?_
    rotate_left
    · intro w hSw; (try dsimp only at hSw); go_simp; try with_reducible rfl
    try simp only [Act.put, List.setIfInBounds_toArray, List.set_cons_zero, List.set_cons_succ]
    refine wpAnyH_take (i := 23) (oi := { dst := some 68, op := Op.load 24 (Operand.tmp 15), type := 24, pos := "law.go:72", after := #[{ on := 21, ground := Ground.guard }], guard := some (21, true) }) (v := ?_) rfl (by kernel_rfl) (by kernel_rfl) (by kernel_rfl) (fun _ _ _ h => h) (Or.inl ⟨by rfl, ?_⟩) hHeld ?_
    rotate_left
    · intro w hSw; (try dsimp only at hSw); go_simp; try with_reducible rfl
    try simp only [Act.put, List.setIfInBounds_toArray, List.set_cons_zero, List.set_cons_succ]
    refine wpAnyH_ready (rs := [24]) (by kernel_rfl) (by simp) ?_
    refine AllReadyH.cons rfl (fun K hK => ?_) (AllReadyH.nil)
    go_simp
    go_wp2_with (go_at_call 7; refine (HO8.out _ Hx2.out).mono ?_; rintro x x3 ⟨adp, cp, rfl, hp, hb⟩; have Hx3 := hid ((Hx2.out).trans (hb.mono (Hx2.out).size)); clear hb)
    refine hK.out _ _ (HS.out _ Hx3.out) (fun hHeld => ?_)
    clear hK K
    try simp only [Act.put, List.setIfInBounds_toArray, List.set_cons_zero, List.set_cons_succ]
    refine wpAnyH_ready (rs := [25]) (by kernel_rfl) (by simp) ?_
    refine AllReadyH.cons rfl (fun K hK => ?_) (AllReadyH.nil)
    go_simp
    go_wp2_with (go_at_call 16; refine (HSM.out _ _ _ Hx3.out hp.out).mono ?_; rintro x x4 ⟨rfl, hb⟩; have Hx4 := hid ((Hx3.out).trans (hb.mono (Hx3.out).size)); clear hb hp)
    refine hK.out _ _ (HS.out _ Hx4.out) (fun hHeld => ?_)
    clear hK K
    try simp only [Act.put, List.setIfInBounds_toArray, List.set_cons_zero, List.set_cons_succ]
    refine wpAnyH_take (i := 26) (oi := { dst := some 71, op := Op.pick (Operand.tmp 66) (Operand.tmp 70) (Operand.const (Value.bool false)), type := 4, pos := "law.go:72", after := #[{ on := 21, ground := Ground.data }, { on := 25, ground := Ground.data }], guard := none }) (v := ?_) rfl (by kernel_rfl) (by kernel_rfl) (by kernel_rfl) (fun _ _ _ h => h) (Or.inl ⟨by rfl, ?_⟩) hHeld ?_
    rotate_left
    · intro w hSw; (try dsimp only at hSw); go_simp; try with_reducible rfl
    try simp only [Act.put, List.setIfInBounds_toArray, List.set_cons_zero, List.set_cons_succ]
    refine wpAnyH_take (i := 27) (oi := { dst := some 72, op := Op.move (Operand.tmp 71), type := 4, pos := "law.go:72", after := #[{ on := 26, ground := Ground.data }, { on := 25, ground := Ground.chain }], guard := none }) (v := ?_) rfl (by kernel_rfl) (by kernel_rfl) (by kernel_rfl) (fun _ _ _ h => h) (Or.inl ⟨by rfl, ?_⟩) hHeld ?_
    rotate_left
    · intro w hSw; (try dsimp only at hSw); go_simp; try with_reducible rfl
    try simp only [Act.put, List.setIfInBounds_toArray, List.set_cons_zero, List.set_cons_succ]
    refine wpAnyH_take (i := 28) (oi := { dst := some 73, op := Op.move (Operand.tmp 14), type := 31, pos := "law.go:72", after := #[{ on := 27, ground := Ground.guard }], guard := some (27, true) }) (v := ?_) rfl (by kernel_rfl) (by kernel_rfl) (by kernel_rfl) (fun _ _ _ h => h) (Or.inl ⟨by rfl, ?_⟩) hHeld ?_
    rotate_left
    · intro w hSw; (try dsimp only at hSw); go_simp; try with_reducible rfl
    try simp only [Act.put, List.setIfInBounds_toArray, List.set_cons_zero, List.set_cons_succ]
    refine wpAnyH_take (i := 30) (oi := { dst := some 75, op := Op.move (Operand.tmp 16), type := 3, pos := "law.go:72", after := #[{ on := 27, ground := Ground.guard }], guard := some (27, true) }) (v := ?_) rfl (by kernel_rfl) (by kernel_rfl) (by kernel_rfl) (fun _ _ _ h => h) (Or.inl ⟨by rfl, ?_⟩) hHeld ?_
    rotate_left
    · intro w hSw; (try dsimp only at hSw); go_simp; try with_reducible rfl
    try simp only [Act.put, List.setIfInBounds_toArray, List.set_cons_zero, List.set_cons_succ]
    refine wpAnyH_ready (rs := [29]) (by kernel_rfl) (by simp) ?_
    refine AllReadyH.cons rfl (fun K hK => ?_) (AllReadyH.nil)
    go_simp
    go_wp2_with (go_at_call 13; refine (num10_any _ _).mono ?_; rintro x wn ⟨rfl, hwn⟩; obtain rfl := hwn.symm)
    refine hK.out _ _ (HS.out _ Hx4.out) (fun hHeld => ?_)
    clear hK K
    try simp only [Act.put, List.setIfInBounds_toArray, List.set_cons_zero, List.set_cons_succ]
    refine wpAnyH_take (i := 31) (oi := { dst := some 76, op := Op.binOp BinOp.eql 3 (Operand.tmp 74) (Operand.tmp 75) 3, type := 4, pos := "law.go:72", after := #[{ on := 29, ground := Ground.data }, { on := 30, ground := Ground.data }, { on := 27, ground := Ground.guard }], guard := some (27, true) }) (v := ?_) rfl (by kernel_rfl) (by kernel_rfl) (by kernel_rfl) (fun _ _ _ h => h) (Or.inl ⟨by rfl, ?_⟩) hHeld ?_
    rotate_left
    · intro w hSw; (try dsimp only at hSw); go_simp; try with_reducible rfl
    try simp only [Act.put, List.setIfInBounds_toArray, List.set_cons_zero, List.set_cons_succ]
    refine wpAnyH_take (i := 32) (oi := { dst := some 77, op := Op.pick (Operand.tmp 72) (Operand.tmp 76) (Operand.const (Value.bool false)), type := 4, pos := "law.go:72", after := #[{ on := 27, ground := Ground.data }, { on := 31, ground := Ground.data }], guard := none }) (v := ?_) rfl (by kernel_rfl) (by kernel_rfl) (by kernel_rfl) (fun _ _ _ h => h) (Or.inl ⟨by rfl, ?_⟩) hHeld ?_
    rotate_left
    · intro w hSw; (try dsimp only at hSw); go_simp; try with_reducible rfl
    try simp only [Act.put, List.setIfInBounds_toArray, List.set_cons_zero, List.set_cons_succ]
    refine wpAnyH_take (i := 33) (oi := { dst := some 78, op := Op.move (Operand.tmp 77), type := 4, pos := "law.go:72", after := #[{ on := 32, ground := Ground.data }, { on := 29, ground := Ground.chain }], guard := none }) (v := ?_) rfl (by kernel_rfl) (by kernel_rfl) (by kernel_rfl) (fun _ _ _ h => h) (Or.inl ⟨by rfl, ?_⟩) hHeld ?_
    rotate_left
    · intro w hSw; (try dsimp only at hSw); go_simp; try with_reducible rfl
    try simp only [Act.put, List.setIfInBounds_toArray, List.set_cons_zero, List.set_cons_succ]
    refine wpAnyH_take (i := 34) (oi := { dst := some 79, op := Op.load 28 (Operand.tmp 7), type := 28, pos := "law.go:72", after := #[{ on := 33, ground := Ground.guard }], guard := some (33, true) }) (v := ?_) rfl (by kernel_rfl) (by kernel_rfl) (by kernel_rfl) (fun _ _ _ h => h) (Or.inl ⟨by rfl, ?_⟩) hHeld ?_
    rotate_left
    · intro w hSw; (try dsimp only at hSw); go_simp; try with_reducible rfl
    try simp only [Act.put, List.setIfInBounds_toArray, List.set_cons_zero, List.set_cons_succ]
    refine wpAnyH_take (i := 35) (oi := { dst := some 80, op := Op.load 24 (Operand.tmp 3), type := 24, pos := "law.go:72", after := #[{ on := 33, ground := Ground.guard }], guard := some (33, true) }) (v := ?_) rfl (by kernel_rfl) (by kernel_rfl) (by kernel_rfl) (fun _ _ _ h => h) (Or.inl ⟨by rfl, ?_⟩) hHeld ?_
    rotate_left
    · intro w hSw; (try dsimp only at hSw); go_simp; try with_reducible rfl
    try simp only [Act.put, List.setIfInBounds_toArray, List.set_cons_zero, List.set_cons_succ]
    refine wpAnyH_ready (rs := [36]) (by kernel_rfl) (by simp) ?_
    refine AllReadyH.cons rfl (fun K hK => ?_) (AllReadyH.nil)
    go_simp
    go_wp2_with (go_at_call 7; refine (HOc.out _ Hx4.out).mono ?_; rintro x x5 ⟨adp, cp, rfl, hp, hb⟩; have Hx5 := hid ((Hx4.out).trans (hb.mono (Hx4.out).size)); clear hb)
    refine hK.out _ _ (HS.out _ Hx5.out) (fun hHeld => ?_)
    clear hK K
    try simp only [Act.put, List.setIfInBounds_toArray, List.set_cons_zero, List.set_cons_succ]
    refine wpAnyH_ready (rs := [37]) (by kernel_rfl) (by simp) ?_
    refine AllReadyH.cons rfl (fun K hK => ?_) (AllReadyH.nil)
    go_simp
    go_wp2_with (go_at_call 16; refine (HSMc.out _ _ _ Hx5.out hp.out).mono ?_; rintro x x6 ⟨rfl, hb⟩; have Hx6 := hid ((Hx5.out).trans (hb.mono (Hx5.out).size)); clear hb hp)
    refine hK.out _ _ (HS.out _ Hx6.out) (fun hHeld => ?_)
    clear hK K
    try simp only [Act.put, List.setIfInBounds_toArray, List.set_cons_zero, List.set_cons_succ]
    refine wpAnyH_take (i := 38) (oi := { dst := some 83, op := Op.pick (Operand.tmp 78) (Operand.tmp 82) (Operand.const (Value.bool false)), type := 4, pos := "law.go:72", after := #[{ on := 33, ground := Ground.data }, { on := 37, ground := Ground.data }], guard := none }) (v := ?_) rfl (by kernel_rfl) (by kernel_rfl) (by kernel_rfl) (fun _ _ _ h => h) (Or.inl ⟨by rfl, ?_⟩) hHeld ?_
    rotate_left
    · intro w hSw; (try dsimp only at hSw); go_simp; try with_reducible rfl
    try simp only [Act.put, List.setIfInBounds_toArray, List.set_cons_zero, List.set_cons_succ]
    refine wpAnyH_take (i := 39) (oi := { dst := some 84, op := Op.move (Operand.tmp 83), type := 4, pos := "law.go:72", after := #[{ on := 38, ground := Ground.data }, { on := 37, ground := Ground.chain }], guard := none }) (v := ?_) rfl (by kernel_rfl) (by kernel_rfl) (by kernel_rfl) (fun _ _ _ h => h) (Or.inl ⟨by rfl, ?_⟩) hHeld ?_
    rotate_left
    · intro w hSw; (try dsimp only at hSw); go_simp; try with_reducible rfl
    try simp only [Act.put, List.setIfInBounds_toArray, List.set_cons_zero, List.set_cons_succ]
    refine wpAnyH_take (i := 40) (oi := { dst := some 85, op := Op.move (Operand.tmp 8), type := 25, pos := "law.go:72", after := #[{ on := 39, ground := Ground.guard }], guard := some (39, true) }) (v := ?_) rfl (by kernel_rfl) (by kernel_rfl) (by kernel_rfl) (fun _ _ _ h => h) (Or.inl ⟨by rfl, ?_⟩) hHeld ?_
    rotate_left
    · intro w hSw; (try dsimp only at hSw); go_simp; try with_reducible rfl
    try simp only [Act.put, List.setIfInBounds_toArray, List.set_cons_zero, List.set_cons_succ]
    refine wpAnyH_take (i := 41) (oi := { dst := some 86, op := Op.move (Operand.tmp 1), type := 25, pos := "law.go:72", after := #[{ on := 39, ground := Ground.guard }], guard := some (39, true) }) (v := ?_) rfl (by kernel_rfl) (by kernel_rfl) (by kernel_rfl) (fun _ _ _ h => h) (Or.inl ⟨by rfl, ?_⟩) hHeld ?_
    rotate_left
    · intro w hSw; (try dsimp only at hSw); go_simp; try with_reducible rfl
    try simp only [Act.put, List.setIfInBounds_toArray, List.set_cons_zero, List.set_cons_succ]
    refine wpAnyH_ready (rs := [42]) (by kernel_rfl) (by simp) ?_
    refine AllReadyH.cons rfl (fun K hK => ?_) (AllReadyH.nil)
    go_simp
    go_wp2_with (go_at_call 17; refine (HST.out _ Hx6.out).mono ?_; rintro x x7 ⟨rfl, hb⟩; have Hx7 := hid ((Hx6.out).trans (hb.mono (Hx6.out).size)); clear hb)
    refine hK.out _ _ (HS.out _ Hx7.out) (fun hHeld => ?_)
    clear hK K
    try simp only [Act.put, List.setIfInBounds_toArray, List.set_cons_zero, List.set_cons_succ]
    refine wpAnyH_take (i := 43) (oi := { dst := some 88, op := Op.pick (Operand.tmp 84) (Operand.tmp 87) (Operand.const (Value.bool false)), type := 4, pos := "law.go:72", after := #[{ on := 39, ground := Ground.data }, { on := 42, ground := Ground.data }], guard := none }) (v := ?_) rfl (by kernel_rfl) (by kernel_rfl) (by kernel_rfl) (fun _ _ _ h => h) (Or.inl ⟨by rfl, ?_⟩) hHeld ?_
    rotate_left
    · intro w hSw; (try dsimp only at hSw); go_simp; try with_reducible rfl
    try simp only [Act.put, List.setIfInBounds_toArray, List.set_cons_zero, List.set_cons_succ]
    refine wpAnyH_take (i := 44) (oi := { dst := some 89, op := Op.move (Operand.tmp 88), type := 4, pos := "law.go:72", after := #[{ on := 43, ground := Ground.data }, { on := 42, ground := Ground.chain }], guard := none }) (v := ?_) rfl (by kernel_rfl) (by kernel_rfl) (by kernel_rfl) (fun _ _ _ h => h) (Or.inl ⟨by rfl, ?_⟩) hHeld ?_
    rotate_left
    · intro w hSw; (try dsimp only at hSw); go_simp; try with_reducible rfl
    try simp only [Act.put, List.setIfInBounds_toArray, List.set_cons_zero, List.set_cons_succ]
    refine wpAnyH_ready (rs := [45]) (by kernel_rfl) (by simp) ?_
    refine AllReadyH.cons rfl (fun K hK => ?_) (AllReadyH.nil)
    go_simp
    go_wp2_with (go_at_call 18; refine (knows10 _).mono ?_; rintro x x8 ⟨rfl, hb⟩; have Hx8 := hid ((Hx7.out).trans (hb.mono (Hx7.out).size)); clear hb)
    refine hK.out _ _ (HS.out _ Hx8.out) (fun hHeld => ?_)
    clear hK K
    try simp only [Act.put, List.setIfInBounds_toArray, List.set_cons_zero, List.set_cons_succ]
    refine wpAnyH_take (i := 46) (oi := { dst := some 91, op := Op.pick (Operand.tmp 89) (Operand.tmp 90) (Operand.const (Value.bool false)), type := 4, pos := "law.go:72", after := #[{ on := 44, ground := Ground.data }, { on := 45, ground := Ground.data }], guard := none }) (v := ?_) rfl (by kernel_rfl) (by kernel_rfl) (by kernel_rfl) (fun _ _ _ h => h) (Or.inl ⟨by rfl, ?_⟩) hHeld ?_
    rotate_left
    · intro w hSw; (try dsimp only at hSw); go_simp; try with_reducible rfl
    try simp only [Act.put, List.setIfInBounds_toArray, List.set_cons_zero, List.set_cons_succ]
    refine wpAnyH_take (i := 47) (oi := { dst := some 6, op := Op.assign (Operand.tmp 91), type := 4, pos := "law.go:72", after := #[{ on := 46, ground := Ground.data }, { on := 45, ground := Ground.chain }, { on := 0, ground := Ground.phase }, { on := 1, ground := Ground.phase }, { on := 2, ground := Ground.phase }, { on := 3, ground := Ground.phase }, { on := 4, ground := Ground.phase }, { on := 5, ground := Ground.phase }, { on := 6, ground := Ground.phase }, { on := 7, ground := Ground.phase }, { on := 8, ground := Ground.phase }, { on := 9, ground := Ground.phase }, { on := 10, ground := Ground.phase }, { on := 11, ground := Ground.phase }, { on := 12, ground := Ground.phase }, { on := 13, ground := Ground.phase }, { on := 14, ground := Ground.phase }, { on := 15, ground := Ground.phase }, { on := 16, ground := Ground.phase }, { on := 17, ground := Ground.phase }, { on := 18, ground := Ground.phase }, { on := 19, ground := Ground.phase }, { on := 20, ground := Ground.phase }, { on := 21, ground := Ground.phase }, { on := 22, ground := Ground.phase }, { on := 23, ground := Ground.phase }, { on := 24, ground := Ground.phase }, { on := 25, ground := Ground.phase }, { on := 26, ground := Ground.phase }, { on := 27, ground := Ground.phase }, { on := 28, ground := Ground.phase }, { on := 29, ground := Ground.phase }, { on := 30, ground := Ground.phase }, { on := 31, ground := Ground.phase }, { on := 32, ground := Ground.phase }, { on := 33, ground := Ground.phase }, { on := 34, ground := Ground.phase }, { on := 35, ground := Ground.phase }, { on := 36, ground := Ground.phase }, { on := 37, ground := Ground.phase }, { on := 38, ground := Ground.phase }, { on := 39, ground := Ground.phase }, { on := 40, ground := Ground.phase }, { on := 41, ground := Ground.phase }, { on := 42, ground := Ground.phase }, { on := 43, ground := Ground.phase }, { on := 44, ground := Ground.phase }, { on := 45, ground := Ground.phase }, { on := 46, ground := Ground.phase }], guard := none }) (v := ?_) rfl (by kernel_rfl) (by kernel_rfl) (by kernel_rfl) (fun _ _ _ h => h) (Or.inl ⟨by rfl, ?_⟩) hHeld ?_
    rotate_left
    · intro w hSw; (try dsimp only at hSw); go_simp; try with_reducible rfl
    try simp only [Act.put, List.setIfInBounds_toArray, List.set_cons_zero, List.set_cons_succ]
    refine wpAnyH_done (by kernel_rfl) ?_ _
    go_wp2_with fail
    go_ret
    exact ⟨rfl, HB9.out.trans (Hx8.out.mono HB9.out.size)⟩
end Go.Proofs.Ythadagpfmacemaa
