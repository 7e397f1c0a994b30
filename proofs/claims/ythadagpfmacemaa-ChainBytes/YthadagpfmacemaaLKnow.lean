/- knows of the law's package. -/
import Derived.Test.YthadagpfmacemaaCChk
import Derived.Test.YthadagpfmacemaaLSame
namespace Go.Proofs.Ythadagpfmacemaa
open Go.RowKit

theorem num10_any (n : Int) (w : World) : Calls Try.prog 13 #[.int .i64 n] w fun e w' => e = .returned (.int .i64 n) ∧ w' = w := by
  go_enter Try.func13, Try.ntmps13
  go_wp2_with fail
  go_ret
  exact ⟨rfl, rfl⟩
/-- What knows makes. -/
def kp1 : Pt := ⟨0, 5, [0, 1, 2]⟩
def kp2 : Pt := ⟨7, 6, [0, 1]⟩
theorem know_1 : extE 0 0 [] 3 1 0 5 [0, 1, 2] = 0 := by decide
theorem know_2 : extE 1 0 [kp1] 3 2 7 6 [0, 1] = 0 := by decide
theorem know_c1 : extC 0 0 [] 3 1 0 5 [0, 1, 2] = ⟨1, 0, [kp1]⟩ := by unfold extC; rw [if_pos know_1]; rfl
theorem know_c2 : extC 1 0 [kp1] 3 2 7 6 [0, 1] = ⟨2, 0, [kp1, kp2]⟩ := by unfold extC; rw [if_pos know_2]; rfl
theorem know_f1 : findN 0 [kp1, kp2] 6 = some (0, 6) := by decide
theorem know_f2 : findN 0 [kp1, kp2] 9 = some (1, 2) := by decide
theorem ints3 (w : World) : Ints (w.alloc (.cells #[.int .i64 0, .int .i64 1, .int .i64 2] 3)) [0, 1, 2] (some ⟨w.heap.size, 0, none⟩) 3 3 := by
  have hb : Blk (w.alloc (.cells #[.int .i64 0, .int .i64 1, .int .i64 2] 3)) w.heap.size _ _ := heap_alloc_new w _
  refine ⟨rfl, Nat.le_refl _, by unfold maxLen; omega, Or.inr ⟨w.heap.size, 0, rfl, by simp, fun i hi => ?_⟩, fun x hx => ?_⟩
  · rcases (show i = 0 ∨ i = 1 ∨ i = 2 by omega) with rfl | rfl | rfl
    · exact hb.cell 0
    · exact hb.cell 1
    · exact hb.cell 2
  · simp at hx; omega
theorem ints2 (w : World) : Ints (w.alloc (.cells #[.int .i64 0, .int .i64 1] 3)) [0, 1] (some ⟨w.heap.size, 0, none⟩) 2 2 := by
  have hb : Blk (w.alloc (.cells #[.int .i64 0, .int .i64 1] 3)) w.heap.size _ _ := heap_alloc_new w _
  refine ⟨rfl, Nat.le_refl _, by unfold maxLen; omega, Or.inr ⟨w.heap.size, 0, rfl, by simp, fun i hi => ?_⟩, fun x hx => ?_⟩
  · rcases (show i = 0 ∨ i = 1 by omega) with rfl | rfl
    · exact hb.cell 0
    · exact hb.cell 1
  · simp at hx; omega
set_option maxRecDepth 100000 in
set_option maxHeartbeats 1000000 in
theorem knows10 (w : World) : Calls Try.prog 18 #[] w fun e w' => e = .returned (.bool true) ∧ Below w.heap.size w w' := by
  have n1 := (Below.refl _ w).alloc (Nat.le_refl _) (.cells #[.int .i64 0, .int .i64 1, .int .i64 2] 3)
  have HX1 := extend_any (o := 0) (t := 0) (n := 3) (e := 0) (ow := 1) (id := 5) (CArg.none (w.alloc (.cells #[.int .i64 0, .int .i64 1, .int .i64 2] 3)) (fun _ => ⟨none, 0, 0⟩)) (ints3 w) (fun e => by cases e) (by omega) (by omega) (by omega)
  rw [know_c1, know_1] at HX1
  simp only at HX1
  have N1 := hid n1
  have HF : Hid (∀ (W : World) (A : Nat → Sl) (ad : Option Addr) (m c : Nat), CArg W [kp1, kp2] A ad m c → (Calls Try.prog 19 #[.agg #[.int .i64 2, .int .i64 0, .slice ad m c], .int .i64 6] W fun e w' => e = .returned (.tuple #[.int .i64 0, .int .i64 6, .bool true]) ∧ Below W.heap.size W w') ∧ (Calls Try.prog 19 #[.agg #[.int .i64 2, .int .i64 0, .slice ad m c], .int .i64 9] W fun e w' => e = .returned (.tuple #[.int .i64 1, .int .i64 2, .bool true]) ∧ Below W.heap.size W w')) := hid (fun W A ad m c h => by
    have h1 := find_any h 2 0 6 (by omega)
    have h2 := find_any h 2 0 9 (by omega)
    rw [know_f1] at h1
    rw [know_f2] at h2
    exact ⟨h1, h2⟩)
  have HX2 : Hid (∀ (W : World) (A : Nat → Sl) (ad : Option Addr) (m c g : Nat), W.heap.size = g → CArg W [kp1] A ad m c → Calls Try.prog 21 #[.agg #[.int .i64 1, .int .i64 0, .slice ad m c], .int .i64 3, .int .i64 2, .int .i64 7, .agg #[.int .i64 6, .slice (some ⟨g, 0, none⟩) 2 2]] (W.alloc (.cells #[.int .i64 0, .int .i64 1] 3)) fun x w' => ∃ ad' m' c', x = .returned (.tuple #[.agg #[.int .i64 2, .int .i64 0, .slice ad' m' c'], .int .i64 0]) ∧ Hid (CAns w' (W.alloc (.cells #[.int .i64 0, .int .i64 1] 3)).heap.size [kp1, kp2] ad' m' c') ∧ Below (W.alloc (.cells #[.int .i64 0, .int .i64 1] 3)).heap.size (W.alloc (.cells #[.int .i64 0, .int .i64 1] 3)) w') := hid (fun W A ad m c g hg h => by
    subst hg
    have h1 := extend_any (o := 1) (t := 0) (n := 3) (e := 7) (ow := 2) (id := 6) (h.later ((Below.refl _ W).alloc (Nat.le_refl _) _)) (ints2 W) (fun e => by cases e) (by omega) (by omega) (by omega)
    rw [know_c2, know_2] at h1
    exact h1)
  go_enter Try.func18, Try.ntmps18
  go_wp2_with first
    | (go_at_call 13; refine (num10_any _ _).mono ?_; rintro x wn ⟨rfl, hwn⟩; obtain rfl := hwn.symm)
    | (go_at_call 21; (with_reducible_and_instances (refine HX1.mono ?_)); rintro x w1 ⟨ad1, m1, c1, rfl, a1, b1⟩; have B1 : Hid (Below w.heap.size w w1) := hid (N1.out.trans (b1.mono N1.out.size)); obtain ⟨A1, hA1, -⟩ := a1.out.arg; have b1x := (Below.refl _ w1).alloc (Nat.le_refl _) (.cells #[.int .i64 1, .int .i64 0, .slice ad1 m1 c1] 28); have HY2 := HX2.out (w1.alloc (.cells #[.int .i64 1, .int .i64 0, .slice ad1 m1 c1] 28)) A1 ad1 m1 c1 (w1.heap.size + 1) (by simp) (hA1.later b1x); have B1x := hid b1x; clear b1 HX1 hA1 b1x a1)
    | (go_at_call 21; (with_reducible_and_instances (refine HY2.mono ?_)); rintro x w2 ⟨ad2, m2, c2, rfl, a2, b2⟩; have B2 : Hid (Below w.heap.size w w2) := hid (B1.out.trans ((B1x.out.trans (((Below.refl _ _).alloc (Nat.le_refl _) _).mono B1x.out.size)).trans (b2.mono (by simp; omega)) |>.mono B1.out.size)); obtain ⟨A2, hA2, -⟩ := a2.out.arg; have b2x := (Below.refl _ w2).alloc (Nat.le_refl _) (.cells #[.int .i64 2, .int .i64 0, .slice ad2 m2 c2] 28); have HA2 : Hid (∀ W, Below (w2.alloc (.cells #[.int .i64 2, .int .i64 0, .slice ad2 m2 c2] 28)).heap.size (w2.alloc (.cells #[.int .i64 2, .int .i64 0, .slice ad2 m2 c2] 28)) W → CArg W [kp1, kp2] A2 ad2 m2 c2 ∧ Blk W w2.heap.size #[.int .i64 2, .int .i64 0, .slice ad2 m2 c2] 28) := hid (fun W hW => ⟨(hA2.later b2x).later hW, (show Blk _ w2.heap.size _ _ from heap_alloc_new w2 _).later hW⟩); have HFa := (HF.out _ _ _ _ _ (HA2.out _ (Below.refl _ _)).1).1; have B2x := hid b2x; clear b2 HY2 hA2 b2x a2)
    | (go_at_call 19; (with_reducible_and_instances (refine HFa.mono ?_)); rintro x w3 ⟨rfl, b3⟩; have B3 := hid b3; have HFb := (HF.out _ _ _ _ _ (HA2.out _ b3).1).2; have k0 : w3.cell? ⟨w2.heap.size, 0, none⟩ = some (.int .i64 2) := (HA2.out _ b3).2.cell 0; have k1 : w3.cell? ⟨w2.heap.size, 1, none⟩ = some (.int .i64 0) := (HA2.out _ b3).2.cell 1; have k2 : w3.cell? ⟨w2.heap.size, 2, none⟩ = some (.slice ad2 m2 c2) := (HA2.out _ b3).2.cell 2; clear b3 HFa)
    | (go_at_call 19; (with_reducible_and_instances (refine HFb.mono ?_)); rintro x w4 ⟨rfl, b4⟩; have B4 : Hid (Below (w2.alloc (.cells #[.int .i64 2, .int .i64 0, .slice ad2 m2 c2] 28)).heap.size (w2.alloc (.cells #[.int .i64 2, .int .i64 0, .slice ad2 m2 c2] 28)) w4) := hid (B3.out.trans (b4.mono B3.out.size)); have k0 : w4.cell? ⟨w2.heap.size, 0, none⟩ = some (.int .i64 2) := (HA2.out _ B4.out).2.cell 0; clear b4 HFb)
  go_ret
  exact ⟨rfl, B2.out.trans ((B2x.out.trans (B4.out.mono B2x.out.size)).mono B2.out.size)⟩
end Go.Proofs.Ythadagpfmacemaa
