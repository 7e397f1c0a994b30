/- Decode of package chain. -/
import Derived.Test.YthadagpfmacemaaCRead
import Derived.Test.YthadagpfmacemaaCChk
namespace Go.Proofs.Ythadagpfmacemaa
open Go.RowKit
variable {w W : World} {ad : Option Addr} {len cap gn gb : Nat} {l : List Nat}

set_option maxRecDepth 100000 in
set_option maxHeartbeats 4000000 in
theorem dec1_any {n : Int} (hgn : Blk W gn #[.int .i64 n] 3) (hgb : Blk W gb #[.slice ad len cap] 25) (hp : Part.ok W ⟨ad, len, cap, l⟩) (hlc : len ≤ cap) (hm : len ≤ 1000000000000000) :
    Calls Try.prog 35 #[.pointer (some ⟨gn, 0, none⟩), .pointer (some ⟨gb, 0, none⟩)] W fun x W' =>
      ((∃ (o' t' : Int) (ad' : Option Addr) (m' c' : Nat), x = .returned (.agg #[.int .i64 o', .int .i64 t', .slice ad' m' c']) ∧ (decE l n = 0 ∧ o' = (readC l).owner ∧ t' = (readC l).trim ∧ CAns W' W.heap.size (readC l).parts ad' m' c')) ∨ (∃ y : Int, x = .panicked (refusal y) ∧ (y = decE l n ∧ y ≠ 0))) ∧ Below W.heap.size W W' := by
  obtain ⟨W0, hW0⟩ : ∃ W0, W.alloc (.cells #[.int .i64 0, .int .i64 0, .slice none 0 0] 28) = W0 := ⟨_, rfl⟩
  have b0 : Below W.heap.size W W0 := by rw [← hW0]; exact (Below.refl _ _).alloc (Nat.le_refl _) _
  have s0 : W0.heap.size = W.heap.size + 1 := by rw [← hW0]; simp
  have kz : Blk W0 W.heap.size #[.int .i64 0, .int .i64 0, .slice none 0 0] 28 := by rw [← hW0]; exact heap_alloc_new W _
  have g0 : W.cell? ⟨gn, 0, none⟩ = some (.int .i64 n) := hgn.cell 0
  have g1 : W.cell? ⟨gb, 0, none⟩ = some (.slice ad len cap) := hgb.cell 0
  have l0 := hgn.lt
  have l1 := hgb.lt
  by_cases a1 : n ≤ 256
  case neg =>
    have d1 : decide (n ≤ 256) = false := by simpa using a1
    have HE := hid (decE_6 (l := l) a1)
    have HB0 := hid b0
    clear hgn hgb hp b0 kz a1
    subst hW0
    go_enter Try.func35, Try.ntmps35
    go_wp2_with (go_at_call 31; refine (insist_no 6 _).mono ?_; rintro e w1 ⟨rfl, hw1⟩; obtain rfl := hw1.symm)
    exact ⟨rfl, Or.inr ⟨6, rfl, HE.out.symm, by decide⟩, HB0.out⟩
  have d1 : decide (n ≤ 256) = true := by simpa using a1
  obtain ⟨W1, hW1⟩ : ∃ W1, W0.alloc (.cells #[.slice ad len cap, .int .i64 0] 74) = W1 := ⟨_, rfl⟩
  have b1 : Below W0.heap.size W0 W1 := by rw [← hW1]; exact (Below.refl _ _).alloc (Nat.le_refl _) _
  have s1 : W1.heap.size = W0.heap.size + 1 := by rw [← hW1]; simp
  have hR : RdC W1 W0.heap.size 0 ad len cap := by rw [← hW1]; exact heap_alloc_new W0 _
  have b01 : Below W.heap.size W W1 := b0.trans (b1.mono b0.size)
  have hB : Bts W1 ad len cap l W0.heap.size := ⟨hp.later b01, hlc, hm, fun b off e hl hb => by
    obtain ⟨b', off', e', hs, -⟩ := hp.2.2.2.resolve_left hl
    simp only at e'
    rw [e] at e'
    cases e'
    omega⟩
  have kr : ∀ X, Chg [W0.heap.size] W1 X → Blk X W.heap.size #[.int .i64 0, .int .i64 0, .slice none 0 0] 28 ∧ X.cell? ⟨gn, 0, none⟩ = some (.int .i64 n) ∧ X.cell? ⟨gb, 0, none⟩ = some (.slice ad len cap) ∧ Below W.heap.size W X := fun X hX => by
    have hln := hgn.lt
    have hlb := hgb.lt
    refine ⟨(kz.later b1).chg hX (by simp; omega), ((hgn.later b01).chg hX (by simp; omega)).cell 0, ((hgb.later b01).chg hX (by simp; omega)).cell 0, ?_⟩
    exact b01.trans (hX.below (fun k hk => by simp at hk; omega) (by omega))
  have HCH := hid (chain_any hR hB)
  have HKR := hid kr
  have HS := hid (⟨s0, s1⟩ : W0.heap.size = W.heap.size + 1 ∧ W1.heap.size = W0.heap.size + 1)
  have HLN : Hid (l.length = len) := hid hp.1
  clear hgn hgb hp b0 b1 b01 kz kr hR hB s0 s1
  have HAF : Hid (∀ (X : World) (ad' : Option Addr) (c' : Nat), Chg [W0.heap.size] W1 X → CAns X W1.heap.size (partsAt l (cntAt l)) ad' (cntAt l) c' → RdC X W0.heap.size (posAt l (cntAt l)) ad len cap → ∀ Y, Below (X.alloc (.cells #[.int .i64 ((nAt l 0 1 : Nat) : Int), .int .i64 ((nAt l 1 6 : Nat) : Int), .slice ad' (cntAt l) c'] 28)).heap.size (X.alloc (.cells #[.int .i64 ((nAt l 0 1 : Nat) : Int), .int .i64 ((nAt l 1 6 : Nat) : Int), .slice ad' (cntAt l) c'] 28)) Y → (Y.cell? ⟨W0.heap.size, 1, none⟩ = some (.int .i64 ((posAt l (cntAt l) : Nat) : Int)) ∧ Y.cell? ⟨gn, 0, none⟩ = some (.int .i64 n) ∧ Y.cell? ⟨gb, 0, none⟩ = some (.slice ad len cap)) ∧ (Y.cell? ⟨X.heap.size, 0, none⟩ = some (.int .i64 ((nAt l 0 1 : Nat) : Int)) ∧ Y.cell? ⟨X.heap.size, 1, none⟩ = some (.int .i64 ((nAt l 1 6 : Nat) : Int)) ∧ Y.cell? ⟨X.heap.size, 2, none⟩ = some (.slice ad' (cntAt l) c')) ∧ Hid (CAns Y W1.heap.size (partsAt l (cntAt l)) ad' (cntAt l) c' ∧ Below W.heap.size W Y ∧ Blk Y W.heap.size #[.int .i64 0, .int .i64 0, .slice none 0 0] 28)) := hid (fun X ad' c' hX hA hr Y hY => by
    have nb := (Below.refl X.heap.size X).alloc (Nat.le_refl _) (.cells #[.int .i64 ((nAt l 0 1 : Nat) : Int), .int .i64 ((nAt l 1 6 : Nat) : Int), .slice ad' (cntAt l) c'] 28)
    have nY : Below X.heap.size X Y := nb.trans (hY.mono nb.size)
    have cY : Chg [W0.heap.size] W1 Y := hX.trans (Chg.of nY) (fun k hk => Or.inl hk)
    obtain ⟨q0, q1, q2, q3⟩ := HKR.out Y cY
    have qb := (show Blk (X.alloc (.cells #[.int .i64 ((nAt l 0 1 : Nat) : Int), .int .i64 ((nAt l 1 6 : Nat) : Int), .slice ad' (cntAt l) c'] 28)) X.heap.size _ _ from heap_alloc_new X _).later hY
    exact ⟨⟨(Blk.later hr nY).cell 1, q1, q2⟩, ⟨qb.cell 0, qb.cell 1, qb.cell 2⟩, hid ⟨hA.later nY, q3, q0⟩⟩)
  by_cases a2 : posAt l (cntAt l) ≤ len
  case neg =>
    have HE : Hid (decE l n = 22) := hid (decE_22 a1 (fun q => a2 (by rw [q.1, HLN.out]; exact Nat.le_refl _)))
    have HC2 : Hid (Calls Try.prog 36 #[.pointer (some ⟨W0.heap.size, 0, none⟩)] W1 fun e w' => e = .panicked (refusal 22) ∧ Below W.heap.size W w') := hid (HCH.out.mono (fun e w' h => by
      obtain ⟨⟨a, c, -, hh⟩ | ⟨-, rfl⟩, hc⟩ := h
      · exact absurd hh.out.1 a2
      · exact ⟨rfl, (HKR.out w' hc).2.2.2⟩))
    clear HCH HAF a1 a2
    rw [HS.out.1] at HC2
    subst hW1
    subst hW0
    go_enter Try.func35, Try.ntmps35
    go_wp2_with first
      | (go_at_call 31; refine (insist_ok 6 _).mono ?_; rintro e w1 ⟨rfl, hw1⟩; obtain rfl := hw1.symm)
      | (go_at_call 36; refine HC2.out.mono ?_; rintro e w2 ⟨rfl, hb2⟩)
    exact ⟨rfl, Or.inr ⟨22, rfl, HE.out.symm, by decide⟩, hb2⟩
  have HC2 : Hid (Calls Try.prog 36 #[.pointer (some ⟨W0.heap.size, 0, none⟩)] W1 fun e w' => ∃ ad' c', e = .returned (.agg #[.int .i64 ((nAt l 0 1 : Nat) : Int), .int .i64 ((nAt l 1 6 : Nat) : Int), .slice ad' (cntAt l) c']) ∧ Hid (Chg [W0.heap.size] W1 w' ∧ CAns w' W1.heap.size (partsAt l (cntAt l)) ad' (cntAt l) c' ∧ RdC w' W0.heap.size (posAt l (cntAt l)) ad len cap)) := hid (HCH.out.mono (fun e w' h => by
    obtain ⟨⟨a, c, rfl, hh⟩ | ⟨hn, -⟩, hc⟩ := h
    · exact ⟨a, c, rfl, hid ⟨hc, hh.out.2.1, hh.out.2.2⟩⟩
    · exact absurd a2 hn))
  clear HCH
  by_cases a3 : posAt l (cntAt l) = len
  case neg =>
    have d3 : (((posAt l (cntAt l) : Nat) : Int) == (len : Int)) = false := by simp; omega
    have HE : Hid (decE l n = 22) := hid (decE_22 a1 (fun q => a3 (by rw [q.1, HLN.out])))
    clear a1 a2
    rw [HS.out.1] at HC2 HAF
    subst hW1
    subst hW0
    go_enter Try.func35, Try.ntmps35
    go_wp2_with first
      | (go_at_call 31; (with_reducible_and_instances (refine (insist_ok 6 _).mono ?_)); rintro e w1 ⟨rfl, hw1⟩; obtain rfl := hw1.symm)
      | (go_at_call 36; refine HC2.out.mono ?_; rintro e w2 ⟨ad', c', rfl, hh⟩; obtain ⟨⟨r0, r1, r2⟩, ⟨r3, r4, r5⟩, HY⟩ := HAF.out w2 ad' c' hh.out.1 hh.out.2.1 hh.out.2.2 _ (Below.refl _ _))
      | (go_at_call 31; (with_reducible_and_instances (refine (insist_no 22 _).mono ?_)); rintro e w3 ⟨rfl, hw3⟩; obtain rfl := hw3.symm)
    exact ⟨rfl, Or.inr ⟨22, rfl, HE.out.symm, by decide⟩, HY.out.2.1⟩
  have d3 : (((posAt l (cntAt l) : Nat) : Int) == (len : Int)) = true := by simp; omega
  by_cases a4 : mayC (readC l).owner (readC l).trim (readC l).parts n
  case neg =>
    have HE : Hid (decE l n = 22) := hid (decE_22 a1 (fun q => a4 q.2))
    have HI : Hid (∀ (Y : World) (ad' : Option Addr) (c' : Nat), CAns Y W1.heap.size (partsAt l (cntAt l)) ad' (cntAt l) c' → Calls Try.prog 30 #[.agg #[.int .i64 ((nAt l 0 1 : Nat) : Int), .int .i64 ((nAt l 1 6 : Nat) : Int), .slice ad' (cntAt l) c'], .int .i64 n, .int .i64 22] Y fun e w' => e = .panicked (refusal 22) ∧ Below Y.heap.size Y w') := hid (fun Y ad' c' hY => by
      obtain ⟨A9, hA9, -⟩ := hY.arg
      have := insistChain_any hA9 (readC l).owner (readC l).trim n 22
      rw [insC_no (show ¬ mayC (readC l).owner (readC l).trim (partsAt l (cntAt l)) n from a4)] at this
      exact this)
    clear a1 a2 a4
    rw [HS.out.1] at HC2 HAF
    subst hW1
    subst hW0
    go_enter Try.func35, Try.ntmps35
    go_wp2_with first
      | (go_at_call 31; (with_reducible_and_instances (refine (insist_ok _ _).mono ?_)); rintro e w1 ⟨rfl, hw1⟩; obtain rfl := hw1.symm)
      | (go_at_call 36; refine HC2.out.mono ?_; rintro e w2 ⟨ad', c', rfl, hh⟩; obtain ⟨⟨r0, r1, r2⟩, ⟨r3, r4, r5⟩, HY⟩ := HAF.out w2 ad' c' hh.out.1 hh.out.2.1 hh.out.2.2 _ (Below.refl _ _))
      | (go_at_call 30; refine (HI.out _ _ _ HY.out.1).mono ?_; rintro e w4 ⟨rfl, hb4⟩)
    exact ⟨rfl, Or.inr ⟨22, rfl, HE.out.symm, by decide⟩, HY.out.2.1.trans (hb4.mono HY.out.2.1.size)⟩
  have HE : Hid (decE l n = 0) := hid (decE_0 a1 ⟨by rw [HLN.out]; exact a3, a4⟩)
  have HI : Hid (∀ (Y : World) (ad' : Option Addr) (c' : Nat), CAns Y W1.heap.size (partsAt l (cntAt l)) ad' (cntAt l) c' → Calls Try.prog 30 #[.agg #[.int .i64 ((nAt l 0 1 : Nat) : Int), .int .i64 ((nAt l 1 6 : Nat) : Int), .slice ad' (cntAt l) c'], .int .i64 n, .int .i64 22] Y fun e w' => e = .returned (.tuple #[]) ∧ Below Y.heap.size Y w') := hid (fun Y ad' c' hY => by
    obtain ⟨A9, hA9, -⟩ := hY.arg
    have := insistChain_any hA9 (readC l).owner (readC l).trim n 22
    rw [insC_ok (show mayC (readC l).owner (readC l).trim (partsAt l (cntAt l)) n from a4)] at this
    exact this)
  clear a1 a2 a4
  rw [HS.out.1] at HC2 HAF
  subst hW1
  subst hW0
  go_enter Try.func35, Try.ntmps35
  go_wp2_with first
    | (go_at_call 31; (with_reducible_and_instances (refine (insist_ok _ _).mono ?_)); rintro e w1 ⟨rfl, hw1⟩; obtain rfl := hw1.symm)
    | (go_at_call 36; refine HC2.out.mono ?_; rintro e w2 ⟨ad', c', rfl, hh⟩; obtain ⟨⟨r0, r1, r2⟩, ⟨r3, r4, r5⟩, HY⟩ := HAF.out w2 ad' c' hh.out.1 hh.out.2.1 hh.out.2.2 _ (Below.refl _ _))
    | (go_at_call 30; refine (HI.out _ _ _ HY.out.1).mono ?_; rintro e w4 ⟨rfl, hb4⟩; have HB4 := hid hb4; obtain ⟨-, ⟨t3, t4, t5⟩, HY4⟩ := HAF.out w2 ad' c' hh.out.1 hh.out.2.1 hh.out.2.2 w4 hb4; have z0 : w4.cell? ⟨W.heap.size, 0, none⟩ = some (.int .i64 0) := HY4.out.2.2.cell 0; have z1 : w4.cell? ⟨W.heap.size, 1, none⟩ = some (.int .i64 0) := HY4.out.2.2.cell 1; have z2 : w4.cell? ⟨W.heap.size, 2, none⟩ = some (.slice none 0 0) := HY4.out.2.2.cell 2; have f0 := HY4.out.2.2.free 0; have f1 := HY4.out.2.2.free 1; have f2 := HY4.out.2.2.free 2; clear hb4)
  have m0 := ((HY4.out.2.2.set 0 (.int .i64 ((nAt l 0 1 : Nat) : Int))).set 1 (.int .i64 ((nAt l 1 6 : Nat) : Int))).set 2 (.slice ad' (cntAt l) c')
  have v0 : (((w4.setCell ⟨W.heap.size, 0, none⟩ (.int .i64 ((nAt l 0 1 : Nat) : Int))).setCell ⟨W.heap.size, 1, none⟩ (.int .i64 ((nAt l 1 6 : Nat) : Int))).setCell ⟨W.heap.size, 2, none⟩ (.slice ad' (cntAt l) c')).cell? ⟨W.heap.size, 0, none⟩ = some (.int .i64 ((nAt l 0 1 : Nat) : Int)) := m0.cell 0
  have v1 : (((w4.setCell ⟨W.heap.size, 0, none⟩ (.int .i64 ((nAt l 0 1 : Nat) : Int))).setCell ⟨W.heap.size, 1, none⟩ (.int .i64 ((nAt l 1 6 : Nat) : Int))).setCell ⟨W.heap.size, 2, none⟩ (.slice ad' (cntAt l) c')).cell? ⟨W.heap.size, 1, none⟩ = some (.int .i64 ((nAt l 1 6 : Nat) : Int)) := m0.cell 1
  have v2 : (((w4.setCell ⟨W.heap.size, 0, none⟩ (.int .i64 ((nAt l 0 1 : Nat) : Int))).setCell ⟨W.heap.size, 1, none⟩ (.int .i64 ((nAt l 1 6 : Nat) : Int))).setCell ⟨W.heap.size, 2, none⟩ (.slice ad' (cntAt l) c')).cell? ⟨W.heap.size, 2, none⟩ = some (.slice ad' (cntAt l) c') := m0.cell 2
  have hcg : Chg [W.heap.size] w4 (((w4.setCell ⟨W.heap.size, 0, none⟩ (.int .i64 ((nAt l 0 1 : Nat) : Int))).setCell ⟨W.heap.size, 1, none⟩ (.int .i64 ((nAt l 1 6 : Nat) : Int))).setCell ⟨W.heap.size, 2, none⟩ (.slice ad' (cntAt l) c')) := (((Chg.refl _ w4).set (Or.inl (by simp)) _ _).set (Or.inl (by simp)) _ _).set (Or.inl (by simp)) _ _
  refine bodyPost_ret (v := .agg #[.int .i64 ((nAt l 0 1 : Nat) : Int), .int .i64 ((nAt l 1 6 : Nat) : Int), .slice ad' (cntAt l) c']) (by simp [results, Try.results35, go_sem, v0, v1, v2]) rfl ⟨Or.inl ⟨_, _, ad', cntAt l, c', rfl, HE.out, rfl, rfl, ?_⟩, ?_⟩
  · exact (HY4.out.1.chg hcg (fun g hg => by simp at hg; have := HS.out.1; have := HS.out.2; omega)).down (by have := HS.out.1; have := HS.out.2; omega)
  · exact HY4.out.2.1.trans (hcg.below (fun k hk => by simp at hk; omega) HY4.out.2.1.size)
end Go.Proofs.Ythadagpfmacemaa

/- Decode of package chain, of any bytes. -/
namespace Go.Proofs.Ythadagpfmacemaa
open Go.RowKit
variable {w : World} {ad : Option Addr} {len cap : Nat} {l : List Nat}

theorem enters_dec1 : ∀ args w, (callFunc 35 args).run Try.prog w = .ok (.enter 35 args) w := fun _ _ => by kernel_rfl
set_option maxRecDepth 100000 in
set_option maxHeartbeats 1000000 in
theorem decode_any (hp : Part.ok w ⟨ad, len, cap, l⟩) (hlc : len ≤ cap) (hm : len ≤ 1000000000000000) (n : Int) : Calls Try.prog 11 #[.slice ad len cap, .int .i64 n] w fun x w' =>
      ∃ ad' m' c', x = .returned (.tuple #[.agg #[.int .i64 (decC l n).owner, .int .i64 (decC l n).trim, .slice ad' m' c'], .int .i64 (decE l n)]) ∧ Hid (CAns w' w.heap.size (decC l n).parts ad' m' c') ∧ Below w.heap.size w w' := by
  obtain ⟨W4, hW4⟩ : ∃ W4, (((w.alloc (.cells #[.slice ad len cap] 25)).alloc (.cells #[.int .i64 n] 3)).alloc (.cells #[.int .i64 0, .int .i64 0, .slice none 0 0] 28)) = W4 := ⟨_, rfl⟩
  have hb4 : Below w.heap.size w W4 := by rw [← hW4]; exact (((Below.refl _ w).alloc (Nat.le_refl _) _).alloc (by simp) _).alloc (by simp; omega) _
  have hs4 : W4.heap.size = w.heap.size + 3 := by rw [← hW4]; simp
  have q0 : Blk W4 w.heap.size #[.slice ad len cap] 25 := by rw [← hW4]; exact blk_alloc _ _ (blk_alloc _ _ (heap_alloc_new w _))
  have q1 : Blk W4 (w.heap.size + 1) #[.int .i64 n] 3 := by rw [← hW4]; exact blk_alloc _ _ (heap_alloc_new' _ _ _ (by simp))
  have q3 : Blk W4 (w.heap.size + 2) #[.int .i64 0, .int .i64 0, .slice none 0 0] 28 := by rw [← hW4]; exact heap_alloc_new' _ _ _ (by simp)
  have n1 := (Below.refl W4.heap.size W4).alloc (Nat.le_refl _) (.cells #[.int .i64 0, .int .i64 0, .slice none 0 0] 28)
  have n2 : Below W4.heap.size W4 ((W4.alloc (.cells #[.int .i64 0, .int .i64 0, .slice none 0 0] 28)).alloc (.cells #[.int .i64 0] 31)) := n1.alloc n1.size _
  have hsz : ((W4.alloc (.cells #[.int .i64 0, .int .i64 0, .slice none 0 0] 28)).alloc (.cells #[.int .i64 0] 31)).heap.size = W4.heap.size + 2 := by simp
  have HX1 := dec1_any (q1.later n2) (q0.later n2) ((hp.later hb4).later n2) hlc hm
  rw [hsz] at HX1
  have HAT := hid (attemptChain 35 _ W4 enters_dec1 (fun o' t' ad' m' c' X => decE l n = 0 ∧ o' = (readC l).owner ∧ t' = (readC l).trim ∧ CAns X (W4.heap.size + 2) (readC l).parts ad' m' c') (fun y => y = decE l n ∧ y ≠ 0) HX1)
  have HB4 := hid hb4
  have HZ : Hid (∀ X, Below W4.heap.size W4 X → Blk X (w.heap.size + 2) #[.int .i64 0, .int .i64 0, .slice none 0 0] 28) := hid (fun X hX => q3.later hX)
  have HAT2 := hid (HAT.out.mono (R' := fun x w' => ∃ o' t' ad' m' c', x = .returned (.tuple #[.agg #[.int .i64 o', .int .i64 t', .slice ad' m' c'], .int .i64 (decE l n)]) ∧ (w'.cell? ⟨w.heap.size + 2, 0, none⟩ = some (.int .i64 0) ∧ w'.cell? ⟨w.heap.size + 2, 1, none⟩ = some (.int .i64 0) ∧ w'.cell? ⟨w.heap.size + 2, 2, none⟩ = some (.slice none 0 0) ∧ w'.frozen? ⟨w.heap.size + 2, 0, none⟩ = false ∧ w'.frozen? ⟨w.heap.size + 2, 1, none⟩ = false ∧ w'.frozen? ⟨w.heap.size + 2, 2, none⟩ = false) ∧ Hid ((decC l n).owner = o' ∧ (decC l n).trim = t' ∧ CAns w' (w.heap.size + 3) (decC l n).parts ad' m' c' ∧ Below W4.heap.size W4 w')) (by
    rintro x w' ⟨h1, hb⟩
    have hz := HZ.out w' hb
    have hc := (⟨hz.cell 0, hz.cell 1, hz.cell 2, hz.free 0, hz.free 1, hz.free 2⟩ : (w'.cell? ⟨w.heap.size + 2, 0, none⟩ = some (.int .i64 0) ∧ w'.cell? ⟨w.heap.size + 2, 1, none⟩ = some (.int .i64 0) ∧ w'.cell? ⟨w.heap.size + 2, 2, none⟩ = some (.slice none 0 0) ∧ w'.frozen? ⟨w.heap.size + 2, 0, none⟩ = false ∧ w'.frozen? ⟨w.heap.size + 2, 1, none⟩ = false ∧ w'.frozen? ⟨w.heap.size + 2, 2, none⟩ = false))
    rcases h1 with ⟨X, hch, -, o', t', ad', m', c', rfl, hE, rfl, rfl, hA⟩ | ⟨y, rfl, rfl, hy⟩
    · have hC := decC_ok hE
      refine ⟨_, _, ad', m', c', by rw [hE], hc, hid ⟨by rw [hC], by rw [hC], ?_, hb⟩⟩
      rw [hC]
      exact (hA.chg hch (fun g hg => by simp at hg; omega)).down (by omega)
    · have hC := decC_no hy
      exact ⟨0, 0, none, 0, 0, rfl, hc, hid ⟨by rw [hC], by rw [hC], by rw [hC]; exact CAns.none _ _, hb⟩⟩))
  have hmf : ∀ (fn : Fn) (first cap : Array Value) (w : World), (Instr.makeFunc fn first cap).run Try.prog w = .ok (.func fn first cap) w := fun _ _ _ _ => rfl
  clear hp HAT HX1 n1 n2 hsz q0 q1 q3 hb4
  go_enter Try.func11, Try.ntmps11
  go_wp2_with (go_at_call 34; refine HAT2.out.mono ?_; rintro x w' ⟨o', t', ad', m', c', rfl, ⟨z0, z1, z2, y0, y1, y2⟩, HR⟩)
  obtain ⟨e1, e2, hA, hb⟩ := HR.out
  have hz := HZ.out w' hb
  have m0 := ((hz.set 0 (.int .i64 o')).set 1 (.int .i64 t')).set 2 (.slice ad' m' c')
  have s0 : (((w'.setCell ⟨w.heap.size + 1 + 1, 0, none⟩ (.int .i64 o')).setCell ⟨w.heap.size + 1 + 1, 1, none⟩ (.int .i64 t')).setCell ⟨w.heap.size + 1 + 1, 2, none⟩ (.slice ad' m' c')).cell? ⟨w.heap.size + 1 + 1, 0, none⟩ = some (.int .i64 o') := m0.cell 0
  have s1 : (((w'.setCell ⟨w.heap.size + 1 + 1, 0, none⟩ (.int .i64 o')).setCell ⟨w.heap.size + 1 + 1, 1, none⟩ (.int .i64 t')).setCell ⟨w.heap.size + 1 + 1, 2, none⟩ (.slice ad' m' c')).cell? ⟨w.heap.size + 1 + 1, 1, none⟩ = some (.int .i64 t') := m0.cell 1
  have s2 : (((w'.setCell ⟨w.heap.size + 1 + 1, 0, none⟩ (.int .i64 o')).setCell ⟨w.heap.size + 1 + 1, 1, none⟩ (.int .i64 t')).setCell ⟨w.heap.size + 1 + 1, 2, none⟩ (.slice ad' m' c')).cell? ⟨w.heap.size + 1 + 1, 2, none⟩ = some (.slice ad' m' c') := m0.cell 2
  have hcg : Chg [w.heap.size + 2] w' (((w'.setCell ⟨w.heap.size + 1 + 1, 0, none⟩ (.int .i64 o')).setCell ⟨w.heap.size + 1 + 1, 1, none⟩ (.int .i64 t')).setCell ⟨w.heap.size + 1 + 1, 2, none⟩ (.slice ad' m' c')) := (((Chg.refl _ w').set (Or.inl (by simp)) _ _).set (Or.inl (by simp)) _ _).set (Or.inl (by simp)) _ _
  have hbw : Below w.heap.size w w' := HB4.out.trans (hb.mono HB4.out.size)
  refine bodyPost_ret (v := .tuple #[.agg #[.int .i64 o', .int .i64 t', .slice ad' m' c'], .int .i64 (decE l n)]) (by simp [results, Try.results11, go_sem, s0, s1, s2]) rfl ⟨ad', m', c', by rw [e1, e2], hid ?_, ?_⟩
  · exact (hA.chg hcg (fun g hg => by simp at hg; omega)).down (by omega)
  · exact hbw.trans (hcg.below (fun k hk => by simp at hk; omega) hbw.size)
end Go.Proofs.Ythadagpfmacemaa
