/- AssignRanges: the program's Range beside the document's. -/
import Derived.Test.YtopbmopfahjhlaaARMath
import Derived.Test.YtopbmopfahjhlaaAKnows
namespace Go.Proofs.Ytopbmopfahjhlaa
open Go.RowKit Go.Sort Go.Lib
variable {w w' : World}

theorem nilV (K : Kd ShA) (w : World) : ShV K w [] [] none 0 0 := ⟨⟨rfl, fun _ => ⟨rfl, rfl⟩, Nat.le_refl _, by unfold maxLen; omega, Or.inl rfl⟩, rfl, fun i hi => by cases hi⟩
theorem AnsP.both {may : Bool} {names : List Nm} {P : List (List Int)} {e : Ending} (h : AnsP w may names P e w') : ∃ oa om oc A, e = .returned (.tuple #[.slice oa om oc, .int .i64 (if may then 0 else 1)]) ∧ ShV kSh w' A (if may then P else []) oa om oc ∧ A.map (·.1) = (if may then names else []) ∧ Below w.heap.size w w' := by
  obtain ⟨h1, h2⟩ := h
  cases may with
  | false => exact ⟨none, 0, 0, [], h1, nilV kSh w', rfl, h2⟩
  | true =>
    obtain ⟨v, A, rfl, hS, hN⟩ := h1
    obtain ⟨a, c, rfl, hv⟩ := hS.view
    exact ⟨a, A.length, c, A, rfl, hv, hN, h2⟩
theorem RAns.both {may : Bool} {names : List Nm} {P : List (List Int)} {e : Ending} (h : RAns w may names P e w') : ∃ oa om oc A, e = .returned (.tuple #[.slice oa om oc, .int .i64 (if may then 0 else 1)]) ∧ ShV kR w' A (if may then P else []) oa om oc ∧ A.map (·.1) = (if may then names else []) ∧ Below w.heap.size w w' := by
  obtain ⟨h1, h2⟩ := h
  cases may with
  | false => exact ⟨none, 0, 0, [], h1, nilV kR w', rfl, h2⟩
  | true =>
    obtain ⟨a, c, A, rfl, hS, hN⟩ := h1
    exact ⟨a, names.length, c, A, rfl, hS, hN, h2⟩
set_option maxRecDepth 20000 in
set_option maxHeartbeats 4000000 in
theorem ranges_walk {l : List Nm} {ad : Option Addr} {m c : Nat} (hA : ArgK kS w l ad m c) (hm16 : m * 16 ≤ 140737488351232) (p : Int) (hp : -9223372036854775808 ≤ p ∧ p ≤ 9223372036854775807) :
    Calls Try.prog 3 #[.slice ad m c, .int .i64 p] w fun e w' => e = .returned (.bool true) ∧ Below w.heap.size w w' := by
  have HA := hid hA
  have hcap := hA.cap
  have HLm : Hid (l.length = m) := hA.len
  have HNil : Hid (ad = none → m = 0 ∧ c = 0) := hA.nil
  have HE1 := hid (emptyS_own w)
  have HRow1 := hid (hA.row.later ((Below.refl _ w).alloc (Nat.le_refl _) (.cells #[] 9)))
  have hmx : m ≤ 8796093022208 := by omega
  have HMl : Hid (m ≤ maxLen) := by unfold maxLen; show m ≤ _; omega
  have HMb : Hid (m * 16 ≤ 140737488355328) := by show m * 16 ≤ _; omega
  obtain ⟨z, hz⟩ : ∃ z : Int, (if mayN l p then (0 : Int) else 1) = z := ⟨_, rfl⟩
  have HZ := hid hz
  clear hA hz
  go_enter Try.func3, Try.ntmps3
  go_wp2_with (first
    | (at_builtin; (with_reducible_and_instances (refine app_kd kS_ok rfl _ _ rfl w.heap.size (.slice (some ⟨w.heap.size, 0, none⟩) 0 0) [] rfl HE1.out ad m c l rfl HLm.out (fun e => ⟨by first | rfl | exact (HNil.out e).1, (HNil.out e).2⟩) HRow1.out (by rw [List.length_nil, Nat.zero_add]; exact HMl.out) (by rw [List.length_nil, Nat.zero_add]; exact HMb.out) (by simp) ?_)); intro v1 w1 hO1 hG1; obtain ⟨a1, c1, hv1, hA1⟩ := hO1.form kS_ok.tofit; rw [List.nil_append, HLm.out] at hv1 hA1; subst hv1; have hcap1 := hA1.cap; have HA1 := hid hA1; have HB1 := hid (copy_below HE1.out hG1); have HRg := hid (range_any hA1 p hp); clear hO1 hG1 hA1)
    | (go_at_call 8; (with_reducible_and_instances (refine HRg.out.mono ?_)); rintro e w2 hans; obtain ⟨oa, om, oc, A2, rfl, hV2, hN2, hb⟩ := hans.both; rw [HZ.out]; have HV2 := hid hV2; have HN2 := hid hN2; have HB2 := hid hb; have HB02 := hid (HB1.out.trans (hb.mono HB1.out.size)); have HRr := hid (refRange_any (HA.out.later HB02.out) p); clear hb hans hV2 hN2)
    | (go_at_call 9; (with_reducible_and_instances (refine HRr.out.mono ?_)); rintro e w3 hans; obtain ⟨ra, rm, rc, A3, rfl, hV3, hN3, hb⟩ := hans.both; rw [HZ.out]; have HV3 := hid hV3; have HN3 := hid hN3; have HB3 := hid hb; have HB03 := hid (HB02.out.trans (hb.mono HB02.out.size)); clear hb hans hV3 hN3))
  go_loopw [10] (fun iv wr => ∃ i : Nat, i ≤ m ∧ iv = .int .i64 (i : Int) ∧ Hid (∃ q, wr = w3.drewN q)) (fun iv _ => m - (intOf iv).toNat)
  case atStart => exact ⟨0, by omega, rfl, 0, rfl⟩
  case round =>
    obtain ⟨i, hi, rfl, HQ⟩ := hrel
    have HQ2 : Hid (∀ n, ∃ q, wr.drewN n = w3.drewN q) := fun n => by obtain ⟨q, hq⟩ := HQ.out; rw [hq]; exact drewN_drewN w3 q n
    obtain ⟨q, hq⟩ := HQ.out
    have hb3 : Below w3.heap.size w3 wr := by rw [hq]; exact below_drewN' (Below.refl _ _) q
    by_cases hlt : i < m
    · have hb1 : Below w1.heap.size w1 wr := HB2.out.trans ((HB3.out.trans (hb3.mono HB3.out.size)).mono HB2.out.size)
      have hb0 : Below w.heap.size w wr := HB1.out.trans (hb1.mono HB1.out.size)
      obtain ⟨b1, o1, rfl, -, hc1⟩ := (HA1.out.later hb1).cells (by omega)
      obtain ⟨b0, o0, rfl, -, hc0⟩ := (HA.out.later hb0).cells (by omega)
      have r1 : wr.cell? ⟨b1, o1 + i, none⟩ = some (.string (nmS (l.getD i []))) := by have h := hc1 i hlt 0 (by decide); rw [Nat.mul_one, Nat.add_zero] at h; exact h
      have r0 : wr.cell? ⟨b0, o0 + i, none⟩ = some (.string (nmS (l.getD i []))) := by have h := hc0 i hlt 0 (by decide); rw [Nat.mul_one, Nat.add_zero] at h; exact h
      clear hc1 hc0 hb1 hb0 hb3 hq HQ
      generalize nmS (l.getD i []) = xs at *
      go_wp2_with fail
      go_quiet (fail)
      all_goals go_wp2
      exact ⟨⟨i + 1, by omega, by go_num, HQ2.out _⟩, by simp [intOf]; omega⟩
    · obtain rfl : m = i := by omega
      have HB0w : Hid (Below w.heap.size w wr) := HB03.out.trans (hb3.mono HB03.out.size)
      have hSame : sameB A2 (if mayN l p then rangeP l p.toNat else []) A3 (if mayN l p then rgP p.toNat l.length l.length else []) = true := by
        rw [range_same]
        unfold sameB
        simp [HN2.out, HN3.out]
      have HSm := hid (same_any (HV2.out.later (HB3.out.trans (hb3.mono HB3.out.size))) (HV3.out.later hb3))
      rw [hSame] at HSm
      clear hSame hb3 hq HQ HQ2
      go_wp2_with (first
        | (go_at_call 10; (with_reducible_and_instances (refine HSm.out.mono ?_)); rintro e w4 ⟨rfl, hb⟩; have HB4 := hid hb; clear hb)
        | (go_at_call 11; refine (num14_any _ _).mono ?_; rintro e w6 ⟨rfl, hw6⟩; obtain rfl := hw6.symm)
        | (go_at_call 12; refine (knows14 _).mono ?_; rintro e w9 ⟨rfl, hb9⟩; have HB9 := hid hb9; clear hb9))
      go_ret
      have b4 := HB0w.out.trans (HB4.out.mono HB0w.out.size)
      exact ⟨rfl, b4.trans (HB9.out.mono b4.size)⟩
end Go.Proofs.Ytopbmopfahjhlaa
