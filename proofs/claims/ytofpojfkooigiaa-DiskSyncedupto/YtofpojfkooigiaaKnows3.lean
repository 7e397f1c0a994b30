/- What knows of package law03 answers: true. -/
import Derived.Test.YtofpojfkooigiaaDiskAt
import Derived.Test.YtofpojfkooigiaaFull
import Derived.Test.YtofpojfkooigiaaDiskM
import Derived.Test.YtofpojfkooigiaaHand
namespace Go.Proofs.Ytofpojfkooigiaa
open Go.RowKit

set_option maxRecDepth 100000 in
theorem num3_any (n : Int) (w : World) : Calls Try.prog 11 #[.int .i64 n] w fun e w' => e = .returned (.int .i64 n) ∧ w' = w := by
  go_enter Try.func11, Try.ntmps11
  go_wp2
  go_ret
  exact ⟨rfl, rfl⟩
theorem fullN_len (c : Nat) : (fullN c).length = 256 := List.length_replicate
theorem own256 {w : World} {N g c : Nat} (h : Own w N (.slice (some ⟨g, 0, none⟩) 256 256) (fullN c)) : Part.ok w ⟨some ⟨g, 0, none⟩, 256, 256, fullN c⟩ := by
  obtain ⟨ad, cap, e, h1, -⟩ := h.slice 256 (fullN_len c)
  cases e
  exact h1
/-- A new slice of numbers. -/
theorem ints_new (w : World) (cs : List Int) (hr : ∀ c ∈ cs, -9223372036854775808 ≤ c ∧ c ≤ 9223372036854775807) (n : Nat) (hn : cs.length = n) : IArg (w.alloc (.cells (cs.map (fun c => Value.int .i64 c)).toArray 3)) cs (some ⟨w.heap.size, 0, none⟩) n := by
  subst hn
  refine ⟨rfl, Or.inr ⟨w.heap.size, 0, rfl, by simp, fun i hi => ?_⟩, hr⟩
  rw [cell_of_row _ _ _ _ _ _ (heap_alloc_last w _), List.getElem?_toArray, Nat.zero_add, List.getElem?_map, List.getElem?_eq_getElem hi, List.getD_eq_getElem?_getD, List.getElem?_eq_getElem hi]
  rfl
def kn1 : DSt := (writeD (newD 2) 0 (fullN 1)).2
def kn2 : DSt := (writeD kn1 1 (fullN 2)).2
def kn3 : DSt := crashD kn2 [0, 1]
theorem kn_w1 : (writeD (newD 2) 0 (fullN 1)).1 = 0 := by kernel_rfl
theorem kn_w2 : (writeD kn1 1 (fullN 2)).1 = 0 := by kernel_rfl
theorem kn_r0 : readD kn3 0 = (fullN 0, 0) := by kernel_rfl
theorem kn_r1 : readD kn3 1 = (fullN 2, 0) := by kernel_rfl
theorem kn_few : kn1.few := (writeD_upTo (newD_upTo 2) 0 (fullN 1)).few (by omega)
theorem bstr_beq3 (l : List Nat) : ((bstr l).toList == (bstr l).toList) = true := by simp
set_option maxRecDepth 100000 in
set_option maxHeartbeats 2000000 in
theorem knows3_any (w : World) : Calls Try.prog 12 #[] w fun e w' => e = .returned (.bool true) ∧ Below w.heap.size w w' := by
  go_enter Try.func12, Try.ntmps12
  go_wp2_with fail
  refine (At.new 2 w (by omega) (by omega)).mono ?_
  rintro x w1 ⟨D, rfl, hA1, hb1⟩
  have A1 : Hid (At w.heap.size w1 D (newD 2)) := hA1
  have B1 : Hid (Below w.heap.size w w1) := hb1
  clear hA1 hb1
  go_wp2_with (go_at_call 11; refine (num3_any _ _).mono ?_; rintro e w' ⟨rfl, hw'⟩; obtain rfl := hw'.symm)
  refine (full_any 1 (by omega) _).mono ?_
  rintro e w2 ⟨g2, rfl, o2, b2⟩
  have O2 : Hid (Part.ok w2 ⟨some ⟨g2, 0, none⟩, 256, 256, fullN 1⟩) := own256 o2
  have A2 : Hid (At w.heap.size w2 D (newD 2)) := A1.out.later b2
  have B2 : Hid (Below w.heap.size w w2) := B1.out.trans (b2.mono B1.out.size)
  clear o2 b2 A1 B1
  go_wp2_with fail
  refine (A2.out.write B2.out.size (newD_few 2) 0 _ 256 256 (fullN 1) O2.out).mono ?_
  rintro e w3 ⟨rfl, a3, b3⟩
  have A3 : Hid (At w.heap.size w3 D kn1) := a3
  have B3 : Hid (Below w.heap.size w w3) := B2.out.trans b3
  rw [kn_w1]
  clear a3 b3 A2 B2 O2
  go_wp2_with (go_at_call 11; refine (num3_any _ _).mono ?_; rintro e w' ⟨rfl, hw'⟩; obtain rfl := hw'.symm)
  refine (full_any 2 (by omega) _).mono ?_
  rintro e w4 ⟨g4, rfl, o4, b4⟩
  have O4 : Hid (Part.ok w4 ⟨some ⟨g4, 0, none⟩, 256, 256, fullN 2⟩) := own256 o4
  have A4 : Hid (At w.heap.size w4 D kn1) := A3.out.later b4
  have B4 : Hid (Below w.heap.size w w4) := B3.out.trans (b4.mono B3.out.size)
  clear o4 b4 A3 B3
  go_wp2_with fail
  refine (A4.out.write B4.out.size kn_few 1 _ 256 256 (fullN 2) O4.out).mono ?_
  rintro e w5 ⟨rfl, a5, b5⟩
  have A5 : Hid (At w.heap.size w5 D kn2) := a5
  have B5 : Hid (Below w.heap.size w w5) := B4.out.trans b5
  rw [kn_w2]
  clear a5 b5 A4 B4 O4
  go_wp2_with (go_at_call 11; refine (num3_any _ _).mono ?_; rintro e w' ⟨rfl, hw'⟩; obtain rfl := hw'.symm)
  refine (A5.out.crash ((Below.refl _ w5).alloc (Nat.le_refl _) _) B5.out.size (some ⟨w5.heap.size, 0, none⟩) 2 2 [0, 1] (ints_new w5 [0, 1] (by simp) 2 rfl) (fun b off e _ => by cases e; exact Or.inr (Nat.le_refl _))).mono ?_
  rintro e w6 ⟨rfl, a6, b6⟩
  have A6 : Hid (At w.heap.size w6 D kn3) := a6
  have B6 : Hid (Below w.heap.size w w6) := (B5.out.alloc B5.out.size _).trans b6
  clear a6 b6 A5 B5
  go_wp2_with fail
  refine (A6.out.read 0).mono ?_
  rintro e w7 ⟨va, rfl, o7, a7, b7⟩
  rw [kn_r0] at o7 ⊢
  obtain ⟨p7, c7, rfl, q7, -⟩ := o7.slice 256 (fullN_len 0)
  have A7 : Hid (At w.heap.size w7 D kn3) := a7
  have B7 : Hid (Below w.heap.size w w7) := B6.out.trans (b7.mono B6.out.size)
  have O7 : Hid (Part.ok w7 ⟨p7, 256, c7, fullN 0⟩) := q7
  clear a7 b7 o7 q7 A6 B6
  go_wp2_with fail
  refine (A7.out.read 1).mono ?_
  rintro e w8 ⟨vb, rfl, o8, a8, b8⟩
  rw [kn_r1] at o8 ⊢
  obtain ⟨p8, c8, rfl, q8, -⟩ := o8.slice 256 (fullN_len 2)
  have B8 : Hid (Below w.heap.size w w8) := B7.out.trans (b8.mono B7.out.size)
  have O8a : Hid (Part.ok w8 ⟨p7, 256, c7, fullN 0⟩) := O7.out.later b8
  have O8b : Hid (Part.ok w8 ⟨p8, 256, c8, fullN 2⟩) := q8
  clear a8 b8 o8 q8 A7 B7 O7
  have CV : Hid (∀ W, Below w8.heap.size w8 W → (convert 32 9 (.slice p7 256 c7)).run Try.prog W = .ok (.string (bstr (fullN 0))) W ∧ (convert 32 9 (.slice p8 256 c8)).run Try.prog W = .ok (.string (bstr (fullN 2))) W) :=
    (show Hid _ from fun W hW => ⟨conv_any (O8a.out.later hW).2.2 256 c7 (fullN_len 0), conv_any (O8b.out.later hW).2.2 256 c8 (fullN_len 2)⟩)
  obtain ⟨t0, ht0⟩ : ∃ t, bstr (fullN 0) = t := ⟨_, rfl⟩
  obtain ⟨t2, ht2⟩ : ∃ t, bstr (fullN 2) = t := ⟨_, rfl⟩
  rw [ht0, ht2] at CV
  have T0 : Hid (bstr (fullN 0) = t0) := ht0
  have T2 : Hid (bstr (fullN 2) = t2) := ht2
  clear ht0 ht2 O8a O8b
  go_wp2_with fail
  refine wp_region_held_drew (S := fun W => Below w8.heap.size w8 W) (by kernel_rfl) ((Below.refl _ w8).drew) (fun hS => ?_)
  refine takeG 0 (.int .i64 0) ⟨#[.bool false, .pointer (some ⟨D, 0, none⟩), .int .i64 0, .slice p7 256 c7, .int .i64 0, .slice p8 256 c8, .int .i64 0, .tuple #[.pointer (some ⟨D, 0, none⟩), .int .i64 0], .tuple #[.pointer (some ⟨D, 0, none⟩), .int .i64 0], .pointer (some ⟨D, 0, none⟩), .int .i64 0, .int .i64 0, .int .i64 0, .bool false, .bool false, .pointer (some ⟨D, 0, none⟩), .bool false, .bool false, .bool false, .pointer (some ⟨D, 0, none⟩), .slice (some ⟨g2, 0, none⟩) 256 256, .int .i64 0, .int .i64 0, .pointer (some ⟨D, 0, none⟩), .slice (some ⟨g4, 0, none⟩) 256 256, .int .i64 0, .int .i64 0, .int .i64 0, .bool false, .bool false, .pointer (some ⟨D, 0, none⟩), .slice (some ⟨w5.heap.size, 0, none⟩) 2 2, .tuple #[], .tuple #[.slice p7 256 c7, .int .i64 0], .pointer (some ⟨D, 0, none⟩), .tuple #[.slice p7 256 c7, .int .i64 0], .slice p7 256 c7, .int .i64 0, .tuple #[.slice p8 256 c8, .int .i64 0], .pointer (some ⟨D, 0, none⟩), .tuple #[.slice p8 256 c8, .int .i64 0], .slice p8 256 c8, .int .i64 0, .int .i64 0, undef, undef, undef, undef, undef, undef, undef, undef, undef, undef, undef, undef, undef, undef, undef, undef, undef, undef, undef], []⟩ rfl rfl (by kernel_rfl) (by kernel_rfl) (by kernel_rfl) (fun _ _ _ h => h) (by rfl) ?_ hS ?_
  · intro W hW
    go_simp
  refine takeG 2 (.int .i64 0) ⟨#[.bool false, .pointer (some ⟨D, 0, none⟩), .int .i64 0, .slice p7 256 c7, .int .i64 0, .slice p8 256 c8, .int .i64 0, .tuple #[.pointer (some ⟨D, 0, none⟩), .int .i64 0], .tuple #[.pointer (some ⟨D, 0, none⟩), .int .i64 0], .pointer (some ⟨D, 0, none⟩), .int .i64 0, .int .i64 0, .int .i64 0, .bool false, .bool false, .pointer (some ⟨D, 0, none⟩), .bool false, .bool false, .bool false, .pointer (some ⟨D, 0, none⟩), .slice (some ⟨g2, 0, none⟩) 256 256, .int .i64 0, .int .i64 0, .pointer (some ⟨D, 0, none⟩), .slice (some ⟨g4, 0, none⟩) 256 256, .int .i64 0, .int .i64 0, .int .i64 0, .bool false, .bool false, .pointer (some ⟨D, 0, none⟩), .slice (some ⟨w5.heap.size, 0, none⟩) 2 2, .tuple #[], .tuple #[.slice p7 256 c7, .int .i64 0], .pointer (some ⟨D, 0, none⟩), .tuple #[.slice p7 256 c7, .int .i64 0], .slice p7 256 c7, .int .i64 0, .tuple #[.slice p8 256 c8, .int .i64 0], .pointer (some ⟨D, 0, none⟩), .tuple #[.slice p8 256 c8, .int .i64 0], .slice p8 256 c8, .int .i64 0, .int .i64 0, undef, .int .i64 0, undef, undef, undef, undef, undef, undef, undef, undef, undef, undef, undef, undef, undef, undef, undef, undef, undef], []⟩ rfl rfl (by kernel_rfl) (by kernel_rfl) (by kernel_rfl) (fun _ _ _ h => h) (by rfl) ?_ hS ?_
  · intro W hW
    go_simp
  refine wpAnyH_ready (rs := [1]) (by kernel_rfl) (by simp) (callG (f := 11) (args := #[.int .i64 0]) rfl (by rfl) ?_ (num3_any 0 _) ?_ AllReadyH.nil)
  · exact exec_call1 11 _ _ rfl (.int .i64 0) rfl rfl (enters_of Try.func11 (by kernel_rfl) rfl)
  rintro e w' ⟨rfl, hw'⟩
  obtain rfl := hw'.symm
  refine ⟨.int .i64 0, rfl, hS, ?_⟩
  show wpAnyH _ _ _ _ _ _ _ ⟨#[.bool false, .pointer (some ⟨D, 0, none⟩), .int .i64 0, .slice p7 256 c7, .int .i64 0, .slice p8 256 c8, .int .i64 0, .tuple #[.pointer (some ⟨D, 0, none⟩), .int .i64 0], .tuple #[.pointer (some ⟨D, 0, none⟩), .int .i64 0], .pointer (some ⟨D, 0, none⟩), .int .i64 0, .int .i64 0, .int .i64 0, .bool false, .bool false, .pointer (some ⟨D, 0, none⟩), .bool false, .bool false, .bool false, .pointer (some ⟨D, 0, none⟩), .slice (some ⟨g2, 0, none⟩) 256 256, .int .i64 0, .int .i64 0, .pointer (some ⟨D, 0, none⟩), .slice (some ⟨g4, 0, none⟩) 256 256, .int .i64 0, .int .i64 0, .int .i64 0, .bool false, .bool false, .pointer (some ⟨D, 0, none⟩), .slice (some ⟨w5.heap.size, 0, none⟩) 2 2, .tuple #[], .tuple #[.slice p7 256 c7, .int .i64 0], .pointer (some ⟨D, 0, none⟩), .tuple #[.slice p7 256 c7, .int .i64 0], .slice p7 256 c7, .int .i64 0, .tuple #[.slice p8 256 c8, .int .i64 0], .pointer (some ⟨D, 0, none⟩), .tuple #[.slice p8 256 c8, .int .i64 0], .slice p8 256 c8, .int .i64 0, .int .i64 0, .int .i64 0, .int .i64 0, undef, undef, undef, undef, undef, undef, undef, undef, undef, undef, undef, undef, undef, undef, undef, undef, undef], []⟩ _
  refine wpAnyH_ready (rs := [3]) (by kernel_rfl) (by simp) (callG (f := 11) (args := #[.int .i64 0]) rfl (by rfl) ?_ (num3_any 0 _) ?_ AllReadyH.nil)
  · exact exec_call1 11 _ _ rfl (.int .i64 0) rfl rfl (enters_of Try.func11 (by kernel_rfl) rfl)
  rintro e w' ⟨rfl, hw'⟩
  obtain rfl := hw'.symm
  refine ⟨.int .i64 0, rfl, hS, ?_⟩
  show wpAnyH _ _ _ _ _ _ _ ⟨#[.bool false, .pointer (some ⟨D, 0, none⟩), .int .i64 0, .slice p7 256 c7, .int .i64 0, .slice p8 256 c8, .int .i64 0, .tuple #[.pointer (some ⟨D, 0, none⟩), .int .i64 0], .tuple #[.pointer (some ⟨D, 0, none⟩), .int .i64 0], .pointer (some ⟨D, 0, none⟩), .int .i64 0, .int .i64 0, .int .i64 0, .bool false, .bool false, .pointer (some ⟨D, 0, none⟩), .bool false, .bool false, .bool false, .pointer (some ⟨D, 0, none⟩), .slice (some ⟨g2, 0, none⟩) 256 256, .int .i64 0, .int .i64 0, .pointer (some ⟨D, 0, none⟩), .slice (some ⟨g4, 0, none⟩) 256 256, .int .i64 0, .int .i64 0, .int .i64 0, .bool false, .bool false, .pointer (some ⟨D, 0, none⟩), .slice (some ⟨w5.heap.size, 0, none⟩) 2 2, .tuple #[], .tuple #[.slice p7 256 c7, .int .i64 0], .pointer (some ⟨D, 0, none⟩), .tuple #[.slice p7 256 c7, .int .i64 0], .slice p7 256 c7, .int .i64 0, .tuple #[.slice p8 256 c8, .int .i64 0], .pointer (some ⟨D, 0, none⟩), .tuple #[.slice p8 256 c8, .int .i64 0], .slice p8 256 c8, .int .i64 0, .int .i64 0, .int .i64 0, .int .i64 0, .int .i64 0, undef, undef, undef, undef, undef, undef, undef, undef, undef, undef, undef, undef, undef, undef, undef, undef], []⟩ _
  refine takeG 4 (.int .i64 0) ⟨#[.bool false, .pointer (some ⟨D, 0, none⟩), .int .i64 0, .slice p7 256 c7, .int .i64 0, .slice p8 256 c8, .int .i64 0, .tuple #[.pointer (some ⟨D, 0, none⟩), .int .i64 0], .tuple #[.pointer (some ⟨D, 0, none⟩), .int .i64 0], .pointer (some ⟨D, 0, none⟩), .int .i64 0, .int .i64 0, .int .i64 0, .bool false, .bool false, .pointer (some ⟨D, 0, none⟩), .bool false, .bool false, .bool false, .pointer (some ⟨D, 0, none⟩), .slice (some ⟨g2, 0, none⟩) 256 256, .int .i64 0, .int .i64 0, .pointer (some ⟨D, 0, none⟩), .slice (some ⟨g4, 0, none⟩) 256 256, .int .i64 0, .int .i64 0, .int .i64 0, .bool false, .bool false, .pointer (some ⟨D, 0, none⟩), .slice (some ⟨w5.heap.size, 0, none⟩) 2 2, .tuple #[], .tuple #[.slice p7 256 c7, .int .i64 0], .pointer (some ⟨D, 0, none⟩), .tuple #[.slice p7 256 c7, .int .i64 0], .slice p7 256 c7, .int .i64 0, .tuple #[.slice p8 256 c8, .int .i64 0], .pointer (some ⟨D, 0, none⟩), .tuple #[.slice p8 256 c8, .int .i64 0], .slice p8 256 c8, .int .i64 0, .int .i64 0, .int .i64 0, .int .i64 0, .int .i64 0, .int .i64 0, undef, undef, undef, undef, undef, undef, undef, undef, undef, undef, undef, undef, undef, undef, undef], []⟩ rfl rfl (by kernel_rfl) (by kernel_rfl) (by kernel_rfl) (fun _ _ _ h => h) (by rfl) ?_ hS ?_
  · intro W hW
    go_simp
    rfl
  refine takeG 5 (.bool true) ⟨#[.bool false, .pointer (some ⟨D, 0, none⟩), .int .i64 0, .slice p7 256 c7, .int .i64 0, .slice p8 256 c8, .int .i64 0, .tuple #[.pointer (some ⟨D, 0, none⟩), .int .i64 0], .tuple #[.pointer (some ⟨D, 0, none⟩), .int .i64 0], .pointer (some ⟨D, 0, none⟩), .int .i64 0, .int .i64 0, .int .i64 0, .bool false, .bool false, .pointer (some ⟨D, 0, none⟩), .bool false, .bool false, .bool false, .pointer (some ⟨D, 0, none⟩), .slice (some ⟨g2, 0, none⟩) 256 256, .int .i64 0, .int .i64 0, .pointer (some ⟨D, 0, none⟩), .slice (some ⟨g4, 0, none⟩) 256 256, .int .i64 0, .int .i64 0, .int .i64 0, .bool false, .bool false, .pointer (some ⟨D, 0, none⟩), .slice (some ⟨w5.heap.size, 0, none⟩) 2 2, .tuple #[], .tuple #[.slice p7 256 c7, .int .i64 0], .pointer (some ⟨D, 0, none⟩), .tuple #[.slice p7 256 c7, .int .i64 0], .slice p7 256 c7, .int .i64 0, .tuple #[.slice p8 256 c8, .int .i64 0], .pointer (some ⟨D, 0, none⟩), .tuple #[.slice p8 256 c8, .int .i64 0], .slice p8 256 c8, .int .i64 0, .int .i64 0, .int .i64 0, .int .i64 0, .int .i64 0, .int .i64 0, .bool true, undef, undef, undef, undef, undef, undef, undef, undef, undef, undef, undef, undef, undef, undef], []⟩ rfl rfl (by kernel_rfl) (by kernel_rfl) (by kernel_rfl) (fun _ _ _ h => h) (by rfl) ?_ hS ?_
  · intro W hW
    go_simp
  refine takeG 6 (.bool true) ⟨#[.bool false, .pointer (some ⟨D, 0, none⟩), .int .i64 0, .slice p7 256 c7, .int .i64 0, .slice p8 256 c8, .int .i64 0, .tuple #[.pointer (some ⟨D, 0, none⟩), .int .i64 0], .tuple #[.pointer (some ⟨D, 0, none⟩), .int .i64 0], .pointer (some ⟨D, 0, none⟩), .int .i64 0, .int .i64 0, .int .i64 0, .bool false, .bool false, .pointer (some ⟨D, 0, none⟩), .bool false, .bool false, .bool false, .pointer (some ⟨D, 0, none⟩), .slice (some ⟨g2, 0, none⟩) 256 256, .int .i64 0, .int .i64 0, .pointer (some ⟨D, 0, none⟩), .slice (some ⟨g4, 0, none⟩) 256 256, .int .i64 0, .int .i64 0, .int .i64 0, .bool false, .bool false, .pointer (some ⟨D, 0, none⟩), .slice (some ⟨w5.heap.size, 0, none⟩) 2 2, .tuple #[], .tuple #[.slice p7 256 c7, .int .i64 0], .pointer (some ⟨D, 0, none⟩), .tuple #[.slice p7 256 c7, .int .i64 0], .slice p7 256 c7, .int .i64 0, .tuple #[.slice p8 256 c8, .int .i64 0], .pointer (some ⟨D, 0, none⟩), .tuple #[.slice p8 256 c8, .int .i64 0], .slice p8 256 c8, .int .i64 0, .int .i64 0, .int .i64 0, .int .i64 0, .int .i64 0, .int .i64 0, .bool true, .bool true, undef, undef, undef, undef, undef, undef, undef, undef, undef, undef, undef, undef, undef], []⟩ rfl rfl (by kernel_rfl) (by kernel_rfl) (by kernel_rfl) (fun _ _ _ h => h) (by rfl) ?_ hS ?_
  · intro W hW
    go_simp
  refine takeG 7 (.slice p7 256 c7) ⟨#[.bool false, .pointer (some ⟨D, 0, none⟩), .int .i64 0, .slice p7 256 c7, .int .i64 0, .slice p8 256 c8, .int .i64 0, .tuple #[.pointer (some ⟨D, 0, none⟩), .int .i64 0], .tuple #[.pointer (some ⟨D, 0, none⟩), .int .i64 0], .pointer (some ⟨D, 0, none⟩), .int .i64 0, .int .i64 0, .int .i64 0, .bool false, .bool false, .pointer (some ⟨D, 0, none⟩), .bool false, .bool false, .bool false, .pointer (some ⟨D, 0, none⟩), .slice (some ⟨g2, 0, none⟩) 256 256, .int .i64 0, .int .i64 0, .pointer (some ⟨D, 0, none⟩), .slice (some ⟨g4, 0, none⟩) 256 256, .int .i64 0, .int .i64 0, .int .i64 0, .bool false, .bool false, .pointer (some ⟨D, 0, none⟩), .slice (some ⟨w5.heap.size, 0, none⟩) 2 2, .tuple #[], .tuple #[.slice p7 256 c7, .int .i64 0], .pointer (some ⟨D, 0, none⟩), .tuple #[.slice p7 256 c7, .int .i64 0], .slice p7 256 c7, .int .i64 0, .tuple #[.slice p8 256 c8, .int .i64 0], .pointer (some ⟨D, 0, none⟩), .tuple #[.slice p8 256 c8, .int .i64 0], .slice p8 256 c8, .int .i64 0, .int .i64 0, .int .i64 0, .int .i64 0, .int .i64 0, .int .i64 0, .bool true, .bool true, .slice p7 256 c7, undef, undef, undef, undef, undef, undef, undef, undef, undef, undef, undef, undef], []⟩ rfl rfl (by kernel_rfl) (by kernel_rfl) (by kernel_rfl) (fun _ _ _ h => h) (by rfl) ?_ hS ?_
  · intro W hW
    go_simp
  refine takeG 8 (.string t0) ⟨#[.bool false, .pointer (some ⟨D, 0, none⟩), .int .i64 0, .slice p7 256 c7, .int .i64 0, .slice p8 256 c8, .int .i64 0, .tuple #[.pointer (some ⟨D, 0, none⟩), .int .i64 0], .tuple #[.pointer (some ⟨D, 0, none⟩), .int .i64 0], .pointer (some ⟨D, 0, none⟩), .int .i64 0, .int .i64 0, .int .i64 0, .bool false, .bool false, .pointer (some ⟨D, 0, none⟩), .bool false, .bool false, .bool false, .pointer (some ⟨D, 0, none⟩), .slice (some ⟨g2, 0, none⟩) 256 256, .int .i64 0, .int .i64 0, .pointer (some ⟨D, 0, none⟩), .slice (some ⟨g4, 0, none⟩) 256 256, .int .i64 0, .int .i64 0, .int .i64 0, .bool false, .bool false, .pointer (some ⟨D, 0, none⟩), .slice (some ⟨w5.heap.size, 0, none⟩) 2 2, .tuple #[], .tuple #[.slice p7 256 c7, .int .i64 0], .pointer (some ⟨D, 0, none⟩), .tuple #[.slice p7 256 c7, .int .i64 0], .slice p7 256 c7, .int .i64 0, .tuple #[.slice p8 256 c8, .int .i64 0], .pointer (some ⟨D, 0, none⟩), .tuple #[.slice p8 256 c8, .int .i64 0], .slice p8 256 c8, .int .i64 0, .int .i64 0, .int .i64 0, .int .i64 0, .int .i64 0, .int .i64 0, .bool true, .bool true, .slice p7 256 c7, .string t0, undef, undef, undef, undef, undef, undef, undef, undef, undef, undef, undef], []⟩ rfl rfl (by kernel_rfl) (by kernel_rfl) (by kernel_rfl) (fun _ _ _ h => h) (by rfl) ?_ hS ?_
  · intro W hW
    exact exec_conv (.tmp 50) rfl _ _ rfl (CV.out W hW).1
  refine wpAnyH_ready (rs := [9]) (by kernel_rfl) (by simp) (callG (f := 22) (args := #[.int .u8 0]) rfl (by rfl) ?_ (full_any 0 (by omega) _) ?_ AllReadyH.nil)
  · exact exec_call1 22 _ _ rfl (.int .u8 0) rfl rfl (enters_of Try.func22 (by kernel_rfl) rfl)
  rintro e w9 ⟨g9, rfl, o9, b9⟩
  have hS9 : Below w8.heap.size w8 w9 := hS.trans (b9.mono hS.size)
  have cn9 := conv_any (own256 o9).2.2 256 256 (fullN_len 0)
  rw [T0.out] at cn9
  refine ⟨.slice (some ⟨g9, 0, none⟩) 256 256, rfl, hS9, ?_⟩
  show wpAnyH _ _ _ _ _ _ _ ⟨#[.bool false, .pointer (some ⟨D, 0, none⟩), .int .i64 0, .slice p7 256 c7, .int .i64 0, .slice p8 256 c8, .int .i64 0, .tuple #[.pointer (some ⟨D, 0, none⟩), .int .i64 0], .tuple #[.pointer (some ⟨D, 0, none⟩), .int .i64 0], .pointer (some ⟨D, 0, none⟩), .int .i64 0, .int .i64 0, .int .i64 0, .bool false, .bool false, .pointer (some ⟨D, 0, none⟩), .bool false, .bool false, .bool false, .pointer (some ⟨D, 0, none⟩), .slice (some ⟨g2, 0, none⟩) 256 256, .int .i64 0, .int .i64 0, .pointer (some ⟨D, 0, none⟩), .slice (some ⟨g4, 0, none⟩) 256 256, .int .i64 0, .int .i64 0, .int .i64 0, .bool false, .bool false, .pointer (some ⟨D, 0, none⟩), .slice (some ⟨w5.heap.size, 0, none⟩) 2 2, .tuple #[], .tuple #[.slice p7 256 c7, .int .i64 0], .pointer (some ⟨D, 0, none⟩), .tuple #[.slice p7 256 c7, .int .i64 0], .slice p7 256 c7, .int .i64 0, .tuple #[.slice p8 256 c8, .int .i64 0], .pointer (some ⟨D, 0, none⟩), .tuple #[.slice p8 256 c8, .int .i64 0], .slice p8 256 c8, .int .i64 0, .int .i64 0, .int .i64 0, .int .i64 0, .int .i64 0, .int .i64 0, .bool true, .bool true, .slice p7 256 c7, .string t0, .slice (some ⟨g9, 0, none⟩) 256 256, undef, undef, undef, undef, undef, undef, undef, undef, undef, undef], []⟩ _
  refine wpAnyH_ready (rs := [10]) (by kernel_rfl) (by simp) (stepG (.string t0) w9 ⟨#[.bool false, .pointer (some ⟨D, 0, none⟩), .int .i64 0, .slice p7 256 c7, .int .i64 0, .slice p8 256 c8, .int .i64 0, .tuple #[.pointer (some ⟨D, 0, none⟩), .int .i64 0], .tuple #[.pointer (some ⟨D, 0, none⟩), .int .i64 0], .pointer (some ⟨D, 0, none⟩), .int .i64 0, .int .i64 0, .int .i64 0, .bool false, .bool false, .pointer (some ⟨D, 0, none⟩), .bool false, .bool false, .bool false, .pointer (some ⟨D, 0, none⟩), .slice (some ⟨g2, 0, none⟩) 256 256, .int .i64 0, .int .i64 0, .pointer (some ⟨D, 0, none⟩), .slice (some ⟨g4, 0, none⟩) 256 256, .int .i64 0, .int .i64 0, .int .i64 0, .bool false, .bool false, .pointer (some ⟨D, 0, none⟩), .slice (some ⟨w5.heap.size, 0, none⟩) 2 2, .tuple #[], .tuple #[.slice p7 256 c7, .int .i64 0], .pointer (some ⟨D, 0, none⟩), .tuple #[.slice p7 256 c7, .int .i64 0], .slice p7 256 c7, .int .i64 0, .tuple #[.slice p8 256 c8, .int .i64 0], .pointer (some ⟨D, 0, none⟩), .tuple #[.slice p8 256 c8, .int .i64 0], .slice p8 256 c8, .int .i64 0, .int .i64 0, .int .i64 0, .int .i64 0, .int .i64 0, .int .i64 0, .bool true, .bool true, .slice p7 256 c7, .string t0, .slice (some ⟨g9, 0, none⟩) 256 256, .string t0, undef, undef, undef, undef, undef, undef, undef, undef, undef], []⟩ rfl rfl (by rfl) ?_ hS9 ?_ AllReadyH.nil)
  · exact exec_conv (.tmp 52) rfl _ _ rfl cn9
  refine takeG 11 (.bool true) ⟨#[.bool false, .pointer (some ⟨D, 0, none⟩), .int .i64 0, .slice p7 256 c7, .int .i64 0, .slice p8 256 c8, .int .i64 0, .tuple #[.pointer (some ⟨D, 0, none⟩), .int .i64 0], .tuple #[.pointer (some ⟨D, 0, none⟩), .int .i64 0], .pointer (some ⟨D, 0, none⟩), .int .i64 0, .int .i64 0, .int .i64 0, .bool false, .bool false, .pointer (some ⟨D, 0, none⟩), .bool false, .bool false, .bool false, .pointer (some ⟨D, 0, none⟩), .slice (some ⟨g2, 0, none⟩) 256 256, .int .i64 0, .int .i64 0, .pointer (some ⟨D, 0, none⟩), .slice (some ⟨g4, 0, none⟩) 256 256, .int .i64 0, .int .i64 0, .int .i64 0, .bool false, .bool false, .pointer (some ⟨D, 0, none⟩), .slice (some ⟨w5.heap.size, 0, none⟩) 2 2, .tuple #[], .tuple #[.slice p7 256 c7, .int .i64 0], .pointer (some ⟨D, 0, none⟩), .tuple #[.slice p7 256 c7, .int .i64 0], .slice p7 256 c7, .int .i64 0, .tuple #[.slice p8 256 c8, .int .i64 0], .pointer (some ⟨D, 0, none⟩), .tuple #[.slice p8 256 c8, .int .i64 0], .slice p8 256 c8, .int .i64 0, .int .i64 0, .int .i64 0, .int .i64 0, .int .i64 0, .int .i64 0, .bool true, .bool true, .slice p7 256 c7, .string t0, .slice (some ⟨g9, 0, none⟩) 256 256, .string t0, .bool true, undef, undef, undef, undef, undef, undef, undef, undef], []⟩ rfl rfl (by kernel_rfl) (by kernel_rfl) (by kernel_rfl) (fun _ _ _ h => h) (by rfl) ?_ hS9 ?_
  · intro W hW
    go_simp
  refine takeG 12 (.bool true) ⟨#[.bool false, .pointer (some ⟨D, 0, none⟩), .int .i64 0, .slice p7 256 c7, .int .i64 0, .slice p8 256 c8, .int .i64 0, .tuple #[.pointer (some ⟨D, 0, none⟩), .int .i64 0], .tuple #[.pointer (some ⟨D, 0, none⟩), .int .i64 0], .pointer (some ⟨D, 0, none⟩), .int .i64 0, .int .i64 0, .int .i64 0, .bool false, .bool false, .pointer (some ⟨D, 0, none⟩), .bool false, .bool false, .bool false, .pointer (some ⟨D, 0, none⟩), .slice (some ⟨g2, 0, none⟩) 256 256, .int .i64 0, .int .i64 0, .pointer (some ⟨D, 0, none⟩), .slice (some ⟨g4, 0, none⟩) 256 256, .int .i64 0, .int .i64 0, .int .i64 0, .bool false, .bool false, .pointer (some ⟨D, 0, none⟩), .slice (some ⟨w5.heap.size, 0, none⟩) 2 2, .tuple #[], .tuple #[.slice p7 256 c7, .int .i64 0], .pointer (some ⟨D, 0, none⟩), .tuple #[.slice p7 256 c7, .int .i64 0], .slice p7 256 c7, .int .i64 0, .tuple #[.slice p8 256 c8, .int .i64 0], .pointer (some ⟨D, 0, none⟩), .tuple #[.slice p8 256 c8, .int .i64 0], .slice p8 256 c8, .int .i64 0, .int .i64 0, .int .i64 0, .int .i64 0, .int .i64 0, .int .i64 0, .bool true, .bool true, .slice p7 256 c7, .string t0, .slice (some ⟨g9, 0, none⟩) 256 256, .string t0, .bool true, .bool true, undef, undef, undef, undef, undef, undef, undef], []⟩ rfl rfl (by kernel_rfl) (by kernel_rfl) (by kernel_rfl) (fun _ _ _ h => h) (by rfl) ?_ hS9 ?_
  · intro W hW
    go_simp
  refine takeG 13 (.bool true) ⟨#[.bool false, .pointer (some ⟨D, 0, none⟩), .int .i64 0, .slice p7 256 c7, .int .i64 0, .slice p8 256 c8, .int .i64 0, .tuple #[.pointer (some ⟨D, 0, none⟩), .int .i64 0], .tuple #[.pointer (some ⟨D, 0, none⟩), .int .i64 0], .pointer (some ⟨D, 0, none⟩), .int .i64 0, .int .i64 0, .int .i64 0, .bool false, .bool false, .pointer (some ⟨D, 0, none⟩), .bool false, .bool false, .bool false, .pointer (some ⟨D, 0, none⟩), .slice (some ⟨g2, 0, none⟩) 256 256, .int .i64 0, .int .i64 0, .pointer (some ⟨D, 0, none⟩), .slice (some ⟨g4, 0, none⟩) 256 256, .int .i64 0, .int .i64 0, .int .i64 0, .bool false, .bool false, .pointer (some ⟨D, 0, none⟩), .slice (some ⟨w5.heap.size, 0, none⟩) 2 2, .tuple #[], .tuple #[.slice p7 256 c7, .int .i64 0], .pointer (some ⟨D, 0, none⟩), .tuple #[.slice p7 256 c7, .int .i64 0], .slice p7 256 c7, .int .i64 0, .tuple #[.slice p8 256 c8, .int .i64 0], .pointer (some ⟨D, 0, none⟩), .tuple #[.slice p8 256 c8, .int .i64 0], .slice p8 256 c8, .int .i64 0, .int .i64 0, .int .i64 0, .int .i64 0, .int .i64 0, .int .i64 0, .bool true, .bool true, .slice p7 256 c7, .string t0, .slice (some ⟨g9, 0, none⟩) 256 256, .string t0, .bool true, .bool true, .bool true, undef, undef, undef, undef, undef, undef], []⟩ rfl rfl (by kernel_rfl) (by kernel_rfl) (by kernel_rfl) (fun _ _ _ h => h) (by rfl) ?_ hS9 ?_
  · intro W hW
    go_simp
  refine takeG 14 (.slice p8 256 c8) ⟨#[.bool false, .pointer (some ⟨D, 0, none⟩), .int .i64 0, .slice p7 256 c7, .int .i64 0, .slice p8 256 c8, .int .i64 0, .tuple #[.pointer (some ⟨D, 0, none⟩), .int .i64 0], .tuple #[.pointer (some ⟨D, 0, none⟩), .int .i64 0], .pointer (some ⟨D, 0, none⟩), .int .i64 0, .int .i64 0, .int .i64 0, .bool false, .bool false, .pointer (some ⟨D, 0, none⟩), .bool false, .bool false, .bool false, .pointer (some ⟨D, 0, none⟩), .slice (some ⟨g2, 0, none⟩) 256 256, .int .i64 0, .int .i64 0, .pointer (some ⟨D, 0, none⟩), .slice (some ⟨g4, 0, none⟩) 256 256, .int .i64 0, .int .i64 0, .int .i64 0, .bool false, .bool false, .pointer (some ⟨D, 0, none⟩), .slice (some ⟨w5.heap.size, 0, none⟩) 2 2, .tuple #[], .tuple #[.slice p7 256 c7, .int .i64 0], .pointer (some ⟨D, 0, none⟩), .tuple #[.slice p7 256 c7, .int .i64 0], .slice p7 256 c7, .int .i64 0, .tuple #[.slice p8 256 c8, .int .i64 0], .pointer (some ⟨D, 0, none⟩), .tuple #[.slice p8 256 c8, .int .i64 0], .slice p8 256 c8, .int .i64 0, .int .i64 0, .int .i64 0, .int .i64 0, .int .i64 0, .int .i64 0, .bool true, .bool true, .slice p7 256 c7, .string t0, .slice (some ⟨g9, 0, none⟩) 256 256, .string t0, .bool true, .bool true, .bool true, .slice p8 256 c8, undef, undef, undef, undef, undef], []⟩ rfl rfl (by kernel_rfl) (by kernel_rfl) (by kernel_rfl) (fun _ _ _ h => h) (by rfl) ?_ hS9 ?_
  · intro W hW
    go_simp
  refine takeG 15 (.string t2) ⟨#[.bool false, .pointer (some ⟨D, 0, none⟩), .int .i64 0, .slice p7 256 c7, .int .i64 0, .slice p8 256 c8, .int .i64 0, .tuple #[.pointer (some ⟨D, 0, none⟩), .int .i64 0], .tuple #[.pointer (some ⟨D, 0, none⟩), .int .i64 0], .pointer (some ⟨D, 0, none⟩), .int .i64 0, .int .i64 0, .int .i64 0, .bool false, .bool false, .pointer (some ⟨D, 0, none⟩), .bool false, .bool false, .bool false, .pointer (some ⟨D, 0, none⟩), .slice (some ⟨g2, 0, none⟩) 256 256, .int .i64 0, .int .i64 0, .pointer (some ⟨D, 0, none⟩), .slice (some ⟨g4, 0, none⟩) 256 256, .int .i64 0, .int .i64 0, .int .i64 0, .bool false, .bool false, .pointer (some ⟨D, 0, none⟩), .slice (some ⟨w5.heap.size, 0, none⟩) 2 2, .tuple #[], .tuple #[.slice p7 256 c7, .int .i64 0], .pointer (some ⟨D, 0, none⟩), .tuple #[.slice p7 256 c7, .int .i64 0], .slice p7 256 c7, .int .i64 0, .tuple #[.slice p8 256 c8, .int .i64 0], .pointer (some ⟨D, 0, none⟩), .tuple #[.slice p8 256 c8, .int .i64 0], .slice p8 256 c8, .int .i64 0, .int .i64 0, .int .i64 0, .int .i64 0, .int .i64 0, .int .i64 0, .bool true, .bool true, .slice p7 256 c7, .string t0, .slice (some ⟨g9, 0, none⟩) 256 256, .string t0, .bool true, .bool true, .bool true, .slice p8 256 c8, .string t2, undef, undef, undef, undef], []⟩ rfl rfl (by kernel_rfl) (by kernel_rfl) (by kernel_rfl) (fun _ _ _ h => h) (by rfl) ?_ hS9 ?_
  · intro W hW
    exact exec_conv (.tmp 57) rfl _ _ rfl (CV.out W hW).2
  refine wpAnyH_ready (rs := [16]) (by kernel_rfl) (by simp) (callG (f := 22) (args := #[.int .u8 2]) rfl (by rfl) ?_ (full_any 2 (by omega) _) ?_ AllReadyH.nil)
  · exact exec_call1 22 _ _ rfl (.int .u8 2) rfl rfl (enters_of Try.func22 (by kernel_rfl) rfl)
  rintro e w10 ⟨g10, rfl, o10, b10⟩
  have hS10 : Below w8.heap.size w8 w10 := hS9.trans (b10.mono hS9.size)
  have cn10 := conv_any (own256 o10).2.2 256 256 (fullN_len 2)
  rw [T2.out] at cn10
  refine ⟨.slice (some ⟨g10, 0, none⟩) 256 256, rfl, hS10, ?_⟩
  show wpAnyH _ _ _ _ _ _ _ ⟨#[.bool false, .pointer (some ⟨D, 0, none⟩), .int .i64 0, .slice p7 256 c7, .int .i64 0, .slice p8 256 c8, .int .i64 0, .tuple #[.pointer (some ⟨D, 0, none⟩), .int .i64 0], .tuple #[.pointer (some ⟨D, 0, none⟩), .int .i64 0], .pointer (some ⟨D, 0, none⟩), .int .i64 0, .int .i64 0, .int .i64 0, .bool false, .bool false, .pointer (some ⟨D, 0, none⟩), .bool false, .bool false, .bool false, .pointer (some ⟨D, 0, none⟩), .slice (some ⟨g2, 0, none⟩) 256 256, .int .i64 0, .int .i64 0, .pointer (some ⟨D, 0, none⟩), .slice (some ⟨g4, 0, none⟩) 256 256, .int .i64 0, .int .i64 0, .int .i64 0, .bool false, .bool false, .pointer (some ⟨D, 0, none⟩), .slice (some ⟨w5.heap.size, 0, none⟩) 2 2, .tuple #[], .tuple #[.slice p7 256 c7, .int .i64 0], .pointer (some ⟨D, 0, none⟩), .tuple #[.slice p7 256 c7, .int .i64 0], .slice p7 256 c7, .int .i64 0, .tuple #[.slice p8 256 c8, .int .i64 0], .pointer (some ⟨D, 0, none⟩), .tuple #[.slice p8 256 c8, .int .i64 0], .slice p8 256 c8, .int .i64 0, .int .i64 0, .int .i64 0, .int .i64 0, .int .i64 0, .int .i64 0, .bool true, .bool true, .slice p7 256 c7, .string t0, .slice (some ⟨g9, 0, none⟩) 256 256, .string t0, .bool true, .bool true, .bool true, .slice p8 256 c8, .string t2, .slice (some ⟨g10, 0, none⟩) 256 256, undef, undef, undef], []⟩ _
  refine wpAnyH_ready (rs := [17]) (by kernel_rfl) (by simp) (stepG (.string t2) w10 ⟨#[.bool false, .pointer (some ⟨D, 0, none⟩), .int .i64 0, .slice p7 256 c7, .int .i64 0, .slice p8 256 c8, .int .i64 0, .tuple #[.pointer (some ⟨D, 0, none⟩), .int .i64 0], .tuple #[.pointer (some ⟨D, 0, none⟩), .int .i64 0], .pointer (some ⟨D, 0, none⟩), .int .i64 0, .int .i64 0, .int .i64 0, .bool false, .bool false, .pointer (some ⟨D, 0, none⟩), .bool false, .bool false, .bool false, .pointer (some ⟨D, 0, none⟩), .slice (some ⟨g2, 0, none⟩) 256 256, .int .i64 0, .int .i64 0, .pointer (some ⟨D, 0, none⟩), .slice (some ⟨g4, 0, none⟩) 256 256, .int .i64 0, .int .i64 0, .int .i64 0, .bool false, .bool false, .pointer (some ⟨D, 0, none⟩), .slice (some ⟨w5.heap.size, 0, none⟩) 2 2, .tuple #[], .tuple #[.slice p7 256 c7, .int .i64 0], .pointer (some ⟨D, 0, none⟩), .tuple #[.slice p7 256 c7, .int .i64 0], .slice p7 256 c7, .int .i64 0, .tuple #[.slice p8 256 c8, .int .i64 0], .pointer (some ⟨D, 0, none⟩), .tuple #[.slice p8 256 c8, .int .i64 0], .slice p8 256 c8, .int .i64 0, .int .i64 0, .int .i64 0, .int .i64 0, .int .i64 0, .int .i64 0, .bool true, .bool true, .slice p7 256 c7, .string t0, .slice (some ⟨g9, 0, none⟩) 256 256, .string t0, .bool true, .bool true, .bool true, .slice p8 256 c8, .string t2, .slice (some ⟨g10, 0, none⟩) 256 256, .string t2, undef, undef], []⟩ rfl rfl (by rfl) ?_ hS10 ?_ AllReadyH.nil)
  · exact exec_conv (.tmp 59) rfl _ _ rfl cn10
  refine takeG 18 (.bool true) ⟨#[.bool false, .pointer (some ⟨D, 0, none⟩), .int .i64 0, .slice p7 256 c7, .int .i64 0, .slice p8 256 c8, .int .i64 0, .tuple #[.pointer (some ⟨D, 0, none⟩), .int .i64 0], .tuple #[.pointer (some ⟨D, 0, none⟩), .int .i64 0], .pointer (some ⟨D, 0, none⟩), .int .i64 0, .int .i64 0, .int .i64 0, .bool false, .bool false, .pointer (some ⟨D, 0, none⟩), .bool false, .bool false, .bool false, .pointer (some ⟨D, 0, none⟩), .slice (some ⟨g2, 0, none⟩) 256 256, .int .i64 0, .int .i64 0, .pointer (some ⟨D, 0, none⟩), .slice (some ⟨g4, 0, none⟩) 256 256, .int .i64 0, .int .i64 0, .int .i64 0, .bool false, .bool false, .pointer (some ⟨D, 0, none⟩), .slice (some ⟨w5.heap.size, 0, none⟩) 2 2, .tuple #[], .tuple #[.slice p7 256 c7, .int .i64 0], .pointer (some ⟨D, 0, none⟩), .tuple #[.slice p7 256 c7, .int .i64 0], .slice p7 256 c7, .int .i64 0, .tuple #[.slice p8 256 c8, .int .i64 0], .pointer (some ⟨D, 0, none⟩), .tuple #[.slice p8 256 c8, .int .i64 0], .slice p8 256 c8, .int .i64 0, .int .i64 0, .int .i64 0, .int .i64 0, .int .i64 0, .int .i64 0, .bool true, .bool true, .slice p7 256 c7, .string t0, .slice (some ⟨g9, 0, none⟩) 256 256, .string t0, .bool true, .bool true, .bool true, .slice p8 256 c8, .string t2, .slice (some ⟨g10, 0, none⟩) 256 256, .string t2, .bool true, undef], []⟩ rfl rfl (by kernel_rfl) (by kernel_rfl) (by kernel_rfl) (fun _ _ _ h => h) (by rfl) ?_ hS10 ?_
  · intro W hW
    go_simp
  refine takeG 19 (.bool true) ⟨#[.bool false, .pointer (some ⟨D, 0, none⟩), .int .i64 0, .slice p7 256 c7, .int .i64 0, .slice p8 256 c8, .int .i64 0, .tuple #[.pointer (some ⟨D, 0, none⟩), .int .i64 0], .tuple #[.pointer (some ⟨D, 0, none⟩), .int .i64 0], .pointer (some ⟨D, 0, none⟩), .int .i64 0, .int .i64 0, .int .i64 0, .bool false, .bool false, .pointer (some ⟨D, 0, none⟩), .bool false, .bool false, .bool false, .pointer (some ⟨D, 0, none⟩), .slice (some ⟨g2, 0, none⟩) 256 256, .int .i64 0, .int .i64 0, .pointer (some ⟨D, 0, none⟩), .slice (some ⟨g4, 0, none⟩) 256 256, .int .i64 0, .int .i64 0, .int .i64 0, .bool false, .bool false, .pointer (some ⟨D, 0, none⟩), .slice (some ⟨w5.heap.size, 0, none⟩) 2 2, .tuple #[], .tuple #[.slice p7 256 c7, .int .i64 0], .pointer (some ⟨D, 0, none⟩), .tuple #[.slice p7 256 c7, .int .i64 0], .slice p7 256 c7, .int .i64 0, .tuple #[.slice p8 256 c8, .int .i64 0], .pointer (some ⟨D, 0, none⟩), .tuple #[.slice p8 256 c8, .int .i64 0], .slice p8 256 c8, .int .i64 0, .int .i64 0, .int .i64 0, .int .i64 0, .int .i64 0, .int .i64 0, .bool true, .bool true, .slice p7 256 c7, .string t0, .slice (some ⟨g9, 0, none⟩) 256 256, .string t0, .bool true, .bool true, .bool true, .slice p8 256 c8, .string t2, .slice (some ⟨g10, 0, none⟩) 256 256, .string t2, .bool true, .bool true], []⟩ rfl rfl (by kernel_rfl) (by kernel_rfl) (by kernel_rfl) (fun _ _ _ h => h) (by rfl) ?_ hS10 ?_
  · intro W hW
    go_simp
  refine takeG 20 (.bool true) ⟨#[.bool true, .pointer (some ⟨D, 0, none⟩), .int .i64 0, .slice p7 256 c7, .int .i64 0, .slice p8 256 c8, .int .i64 0, .tuple #[.pointer (some ⟨D, 0, none⟩), .int .i64 0], .tuple #[.pointer (some ⟨D, 0, none⟩), .int .i64 0], .pointer (some ⟨D, 0, none⟩), .int .i64 0, .int .i64 0, .int .i64 0, .bool false, .bool false, .pointer (some ⟨D, 0, none⟩), .bool false, .bool false, .bool false, .pointer (some ⟨D, 0, none⟩), .slice (some ⟨g2, 0, none⟩) 256 256, .int .i64 0, .int .i64 0, .pointer (some ⟨D, 0, none⟩), .slice (some ⟨g4, 0, none⟩) 256 256, .int .i64 0, .int .i64 0, .int .i64 0, .bool false, .bool false, .pointer (some ⟨D, 0, none⟩), .slice (some ⟨w5.heap.size, 0, none⟩) 2 2, .tuple #[], .tuple #[.slice p7 256 c7, .int .i64 0], .pointer (some ⟨D, 0, none⟩), .tuple #[.slice p7 256 c7, .int .i64 0], .slice p7 256 c7, .int .i64 0, .tuple #[.slice p8 256 c8, .int .i64 0], .pointer (some ⟨D, 0, none⟩), .tuple #[.slice p8 256 c8, .int .i64 0], .slice p8 256 c8, .int .i64 0, .int .i64 0, .int .i64 0, .int .i64 0, .int .i64 0, .int .i64 0, .bool true, .bool true, .slice p7 256 c7, .string t0, .slice (some ⟨g9, 0, none⟩) 256 256, .string t0, .bool true, .bool true, .bool true, .slice p8 256 c8, .string t2, .slice (some ⟨g10, 0, none⟩) 256 256, .string t2, .bool true, .bool true], []⟩ rfl rfl (by kernel_rfl) (by kernel_rfl) (by kernel_rfl) (fun _ _ _ h => h) (by rfl) ?_ hS10 ?_
  · intro W hW
    go_simp
  refine wpAnyH_done (by kernel_rfl) ?_ _
  go_wp2
  go_ret
  exact ⟨rfl, B8.out.trans (hS10.mono B8.out.size)⟩
end Go.Proofs.Ytofpojfkooigiaa
