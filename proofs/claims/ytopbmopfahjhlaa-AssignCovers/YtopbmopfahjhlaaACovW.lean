/- The walk of AssignCovers (by gencov14.py). -/
import Derived.Test.YtopbmopfahjhlaaACovers
import Derived.Test.YtopbmopfahjhlaaAOwnL
import Derived.Test.YtopbmopfahjhlaaAKnows
namespace Go.Proofs.Ytopbmopfahjhlaa
open Go.RowKit
variable {w w' : World}

theorem emptyS_own (W : World) : OwnK kS (W.alloc (.cells #[] 9)) W.heap.size (.slice (some ⟨W.heap.size, 0, none⟩) 0 0) [] :=
  ⟨rfl, Or.inr ⟨W.heap.size, 0, #[], rfl, Nat.le_refl _, heap_alloc_new W _, Nat.le_refl _, by unfold maxLen; omega, rfl, rfl⟩⟩
theorem copy_below {W W3 : World} {v : Value} (h : OwnK kS (W.alloc (.cells #[] 9)) W.heap.size v []) (hg : (W.alloc (.cells #[] 9)).grownBy W3 v.ownBlock) : Below W.heap.size W W3 :=
  ((Below.refl _ W).alloc (Nat.le_refl _) (.cells #[] 9)).grown hg (by simp) (fun k hk => (h.block k hk).1)
theorem names_len {A B : List ShA} (h : A.map (·.1) = B.map (·.1)) : A.length = B.length := by have := congrArg List.length h; simpa using this
theorem names_max {A B : List ShA} (h : A.map (·.1) = B.map (·.1)) (hB : ∀ i, i < B.length → (B.getD i sh0).1.length ≤ maxLen) : ∀ i, i < A.length → (A.getD i sh0).1.length ≤ maxLen := fun i hi => by
  have hl := names_len h
  have e : (A.getD i sh0).1 = (B.getD i sh0).1 := by
    have h1 := congrArg (fun l => l[i]?) h
    simp only [List.getElem?_map, List.getElem?_eq_getElem hi, List.getElem?_eq_getElem (show i < B.length by omega), Option.map_some, Option.some.injEq] at h1
    rw [List.getD_eq_getElem?_getD, List.getD_eq_getElem?_getD, List.getElem?_eq_getElem hi, List.getElem?_eq_getElem (by omega)]
    exact h1
  rw [e]
  exact hB i (by omega)
theorem names_eq {A : List ShA} {names : List Nm} (h : A.map (·.1) = names) : A.length = names.length := by rw [← h]; simp
theorem shs_view {W : World} {base m c : Nat} {a : Option Addr} {A : List ShA} {P : List (List Int)} (h : Shs W base (.slice a m c) A P) (hm : A.length = m) : ShV kSh W A P a m c := by
  obtain ⟨a', c', e, hv⟩ := h.view
  obtain ⟨rfl, -, rfl⟩ : a = a' ∧ m = A.length ∧ c = c' := by injection e with e1 e2 e3; exact ⟨e1, e2, e3⟩
  rw [hm] at hv
  exact hv
/-- An answer that is none. -/
theorem AnsP.none {names : List Nm} {P : List (List Int)} {e : Ending} (h : AnsP w false names P e w') : e = .returned (.tuple #[.slice none 0 0, .int .i64 1]) ∧ Below w.heap.size w w' := h
set_option maxRecDepth 20000 in
set_option maxHeartbeats 4000000 in
theorem covers_walk {B : List ShA} {Q : List (List Int)} {ra : Option Addr} {rm rc : Nat} (hSv : ShV kR w B Q ra rm rc) (hby : rm * 40 ≤ 140737488351232) (hbq : ∀ i, i < B.length → (B.getD i sh0).2.m * 8 ≤ 140737488351232) (hnx : ∀ i, i < B.length → (B.getD i sh0).1.length ≤ maxLen)
    {l : List Nm} {ad : Option Addr} {m c : Nat} (hA : ArgK kS w l ad m c) (hm16 : m * 16 ≤ 140737488351232) (p : Int) (hp : -9223372036854775808 ≤ p ∧ p ≤ 9223372036854775807) :
    Calls Try.prog 6 #[.slice ra rm rc, .slice ad m c, .int .i64 p] w fun e w' => e = .returned (.bool true) ∧ Below w.heap.size w w' := by
  have HSv := hid hSv
  have HLb : Hid (B.length = rm) := hSv.row.len
  have HNmx := hid hnx
  have HLm : Hid (l.length = m) := hA.len
  have HNil : Hid (ad = none → m = 0 ∧ c = 0) := hA.nil
  have HRowW : Hid (∀ W, Below w.heap.size w W → RowK kS W ad l) := fun W hb => hA.row.later hb
  have HE1 := hid (emptyS_own w)
  have HRow1 := hid (HRowW.out (w.alloc (.cells #[] 9)) ((Below.refl _ w).alloc (Nat.le_refl _) _))
  have hmx : m ≤ 8796093022208 := by omega
  have HMl : Hid (m ≤ maxLen) := by unfold maxLen; show m ≤ _; omega
  have HMb : Hid (m * 16 ≤ 140737488355328) := by show m * 16 ≤ _; omega
  clear hSv hnx hA
  cases hmy : mayN l p with
  | false =>
    go_enter Try.func6, Try.ntmps6
    go_wp2_with (first
      | (at_builtin; (with_reducible_and_instances (refine app_kd kS_ok rfl _ _ rfl w.heap.size (.slice (some ⟨w.heap.size, 0, none⟩) 0 0) [] rfl HE1.out ad m c l rfl HLm.out (fun e => ⟨by first | rfl | exact (HNil.out e).1, (HNil.out e).2⟩) HRow1.out (by rw [List.length_nil, Nat.zero_add]; exact HMl.out) (by rw [List.length_nil, Nat.zero_add]; exact HMb.out) (by simp) ?_)); intro v1 w1 hO1 hG1; obtain ⟨a1, c1, hv1, hA1⟩ := hO1.form kS_ok.tofit; rw [List.nil_append, HLm.out] at hv1 hA1; subst hv1; have HA1 := hid hA1; have HB1 := hid (copy_below HE1.out hG1); have HRg := hid (range_any hA1 p hp); rw [hmy] at HRg; clear hO1 hG1 hA1)
      | (go_at_call 8; (with_reducible_and_instances (refine HRg.out.mono ?_)); rintro e w2 hans; obtain ⟨rfl, hb⟩ := hans.none; have HB2 := hid hb; clear hb; have HOw := hid (ownL_any (HSv.out.later (HB1.out.trans (HB2.out.mono HB1.out.size))) hby hbq); clear hans)
      | (go_at_call 13; (with_reducible_and_instances (refine HOw.out.mono ?_)); rintro e w3 ⟨oa, oc, A3, rfl, hS3, hN3, hb3⟩; have HS3 := hid hS3; have HN3 := hid hN3; have HB3 := hid hb3; have HB03 := hid ((HB1.out.trans (HB2.out.mono HB1.out.size)).trans (hb3.mono (HB1.out.trans (HB2.out.mono HB1.out.size)).size)); have HE4 := hid (emptyS_own w3); have HRow4 := hid (HRowW.out (w3.alloc (.cells #[] 9)) (HB03.out.trans (((Below.refl _ w3).alloc (Nat.le_refl _) _).mono HB03.out.size))); clear hS3 hN3 hb3)
      | (at_builtin; (with_reducible_and_instances (refine app_kd kS_ok rfl _ _ rfl w3.heap.size (.slice (some ⟨w3.heap.size, 0, none⟩) 0 0) [] rfl HE4.out ad m c l rfl HLm.out (fun e => ⟨by first | rfl | exact (HNil.out e).1, (HNil.out e).2⟩) HRow4.out (by rw [List.length_nil, Nat.zero_add]; exact HMl.out) (by rw [List.length_nil, Nat.zero_add]; exact HMb.out) (by simp) ?_)); intro v4 w4 hO4 hG4; obtain ⟨a4, c4, hv4, hA4⟩ := hO4.form kS_ok.tofit; rw [List.nil_append, HLm.out] at hv4 hA4; subst hv4; have HB4 := hid (copy_below HE4.out hG4); have HSk := hid (sticky_any ((HS3.out.later HB4.out).old (names_max HN3.out HNmx.out)) hA4 p hp); rw [hmy] at HSk; clear hO4 hG4 hA4)
      | (go_at_call 14; (with_reducible_and_instances (refine HSk.out.mono ?_)); rintro e w5 hans; obtain ⟨rfl, hb⟩ := hans.none; have HB5 := hid hb; clear hb; clear hans)
      | (go_at_call 11; refine (num14_any _ _).mono ?_; rintro e w6 ⟨rfl, hw6⟩; obtain rfl := hw6.symm)
      | (go_at_call 12; refine (knows14 _).mono ?_; rintro e w9 ⟨rfl, hb9⟩; have HB9 := hid hb9; clear hb9))
    go_ret
    have b3 := HB03.out.trans (HB4.out.mono HB03.out.size)
    have b5 := b3.trans (HB5.out.mono b3.size)
    exact ⟨rfl, b5.trans (HB9.out.mono b5.size)⟩
  | true =>
    obtain ⟨h1, h2, h3⟩ := may_bounds hmy
    obtain ⟨n, rfl⟩ : ∃ n : Nat, p = (n : Int) := ⟨p.toNat, by omega⟩
    have hlm := HLm.out
    by_cases h0 : m = 0
    · subst h0
      have hnm : (risN l).length = 0 := by rw [risN_len]; exact hlm
      have HNm := hid hnm
      clear hlm hnm
      go_enter Try.func6, Try.ntmps6
      go_wp2_with (first
      | (at_builtin; (with_reducible_and_instances (refine app_kd kS_ok rfl _ _ rfl w.heap.size (.slice (some ⟨w.heap.size, 0, none⟩) 0 0) [] rfl HE1.out ad 0 c l rfl HLm.out (fun e => ⟨by first | rfl | exact (HNil.out e).1, (HNil.out e).2⟩) HRow1.out (by rw [List.length_nil, Nat.zero_add]; exact HMl.out) (by rw [List.length_nil, Nat.zero_add]; exact HMb.out) (by simp) ?_)); intro v1 w1 hO1 hG1; obtain ⟨a1, c1, hv1, hA1⟩ := hO1.form kS_ok.tofit; rw [List.nil_append, HLm.out] at hv1 hA1; subst hv1; have HA1 := hid hA1; have HB1 := hid (copy_below HE1.out hG1); have HRg := hid (range_any hA1 (n : Int) hp); rw [hmy] at HRg; clear hO1 hG1 hA1)
      | (go_at_call 8; (with_reducible_and_instances (refine HRg.out.mono ?_)); rintro e w2 hans; obtain ⟨a2, A2, c2, rfl, hS2, hN2, hb⟩ := hans.open HNm.out; have HS2 := hid hS2; have HN2 := hid hN2; have HB2 := hid hb; clear hS2 hN2 hb; have HOw := hid (ownL_any (HSv.out.later (HB1.out.trans (HB2.out.mono HB1.out.size))) hby hbq); clear hans)
      | (go_at_call 13; (with_reducible_and_instances (refine HOw.out.mono ?_)); rintro e w3 ⟨oa, oc, A3, rfl, hS3, hN3, hb3⟩; have HS3 := hid hS3; have HN3 := hid hN3; have HB3 := hid hb3; have HB03 := hid ((HB1.out.trans (HB2.out.mono HB1.out.size)).trans (hb3.mono (HB1.out.trans (HB2.out.mono HB1.out.size)).size)); have HE4 := hid (emptyS_own w3); have HRow4 := hid (HRowW.out (w3.alloc (.cells #[] 9)) (HB03.out.trans (((Below.refl _ w3).alloc (Nat.le_refl _) _).mono HB03.out.size))); clear hS3 hN3 hb3)
      | (at_builtin; (with_reducible_and_instances (refine app_kd kS_ok rfl _ _ rfl w3.heap.size (.slice (some ⟨w3.heap.size, 0, none⟩) 0 0) [] rfl HE4.out ad 0 c l rfl HLm.out (fun e => ⟨by first | rfl | exact (HNil.out e).1, (HNil.out e).2⟩) HRow4.out (by rw [List.length_nil, Nat.zero_add]; exact HMl.out) (by rw [List.length_nil, Nat.zero_add]; exact HMb.out) (by simp) ?_)); intro v4 w4 hO4 hG4; obtain ⟨a4, c4, hv4, hA4⟩ := hO4.form kS_ok.tofit; rw [List.nil_append, HLm.out] at hv4 hA4; subst hv4; have HB4 := hid (copy_below HE4.out hG4); have HSk := hid (sticky_any ((HS3.out.later HB4.out).old (names_max HN3.out HNmx.out)) hA4 (n : Int) hp); rw [hmy] at HSk; clear hO4 hG4 hA4)
      | (go_at_call 14; (with_reducible_and_instances (refine HSk.out.mono ?_)); rintro e w5 hans; obtain ⟨a5, A5, c5, rfl, hS5, hN5, hb⟩ := hans.open HNm.out; have HS5 := hid hS5; have HN5 := hid hN5; have HB5 := hid hb; clear hS5 hN5 hb; clear hans)
      | (go_at_call 11; refine (num14_any _ _).mono ?_; rintro e w6 ⟨rfl, hw6⟩; obtain rfl := hw6.symm)
      | (go_at_call 12; refine (knows14 _).mono ?_; rintro e w9 ⟨rfl, hb9⟩; have HB9 := hid hb9; clear hb9))
      go_ret
      have b3 := HB03.out.trans (HB4.out.mono HB03.out.size)
      have b5 := b3.trans (HB5.out.mono b3.size)
      exact ⟨rfl, b5.trans (HB9.out.mono b5.size)⟩
    · have hne : l ≠ [] := fun e => by rw [e] at hlm; simp at hlm; omega
      have hnm : (risN l).length = m := by rw [risN_len]; exact hlm
      have HNm := hid hnm
      have HC1 := hid (range_cov l n hne)
      have HC2 := hid (fun ons OP => sticky_cov ons OP l n hne)
      have hz : ((m : Int) == 0) = false := by simp; omega
      have hm1 : m ≤ 1000 := by omega
      have hn1 : n ≤ 32 := by omega
      have hmp : 0 < m := by omega
      clear hlm hnm h0 hne
      go_enter Try.func6, Try.ntmps6
      go_wp2_with (first
      | (at_builtin; (with_reducible_and_instances (refine app_kd kS_ok rfl _ _ rfl w.heap.size (.slice (some ⟨w.heap.size, 0, none⟩) 0 0) [] rfl HE1.out ad m c l rfl HLm.out (fun e => ⟨by first | rfl | exact (HNil.out e).1, (HNil.out e).2⟩) HRow1.out (by rw [List.length_nil, Nat.zero_add]; exact HMl.out) (by rw [List.length_nil, Nat.zero_add]; exact HMb.out) (by simp) ?_)); intro v1 w1 hO1 hG1; obtain ⟨a1, c1, hv1, hA1⟩ := hO1.form kS_ok.tofit; rw [List.nil_append, HLm.out] at hv1 hA1; subst hv1; have HA1 := hid hA1; have HB1 := hid (copy_below HE1.out hG1); have HRg := hid (range_any hA1 (n : Int) hp); rw [hmy] at HRg; clear hO1 hG1 hA1)
      | (go_at_call 8; (with_reducible_and_instances (refine HRg.out.mono ?_)); rintro e w2 hans; obtain ⟨a2, A2, c2, rfl, hS2, hN2, hb⟩ := hans.open HNm.out; have HS2 := hid hS2; have HN2 := hid hN2; have HB2 := hid hb; clear hS2 hN2 hb; have HOw := hid (ownL_any (HSv.out.later (HB1.out.trans (HB2.out.mono HB1.out.size))) hby hbq); clear hans)
      | (go_at_call 13; (with_reducible_and_instances (refine HOw.out.mono ?_)); rintro e w3 ⟨oa, oc, A3, rfl, hS3, hN3, hb3⟩; have HS3 := hid hS3; have HN3 := hid hN3; have HB3 := hid hb3; have HB03 := hid ((HB1.out.trans (HB2.out.mono HB1.out.size)).trans (hb3.mono (HB1.out.trans (HB2.out.mono HB1.out.size)).size)); have HE4 := hid (emptyS_own w3); have HRow4 := hid (HRowW.out (w3.alloc (.cells #[] 9)) (HB03.out.trans (((Below.refl _ w3).alloc (Nat.le_refl _) _).mono HB03.out.size))); clear hS3 hN3 hb3)
      | (at_builtin; (with_reducible_and_instances (refine app_kd kS_ok rfl _ _ rfl w3.heap.size (.slice (some ⟨w3.heap.size, 0, none⟩) 0 0) [] rfl HE4.out ad m c l rfl HLm.out (fun e => ⟨by first | rfl | exact (HNil.out e).1, (HNil.out e).2⟩) HRow4.out (by rw [List.length_nil, Nat.zero_add]; exact HMl.out) (by rw [List.length_nil, Nat.zero_add]; exact HMb.out) (by simp) ?_)); intro v4 w4 hO4 hG4; obtain ⟨a4, c4, hv4, hA4⟩ := hO4.form kS_ok.tofit; rw [List.nil_append, HLm.out] at hv4 hA4; subst hv4; have HB4 := hid (copy_below HE4.out hG4); have HSk := hid (sticky_any ((HS3.out.later HB4.out).old (names_max HN3.out HNmx.out)) hA4 (n : Int) hp); rw [hmy] at HSk; clear hO4 hG4 hA4)
      | (go_at_call 14; (with_reducible_and_instances (refine HSk.out.mono ?_)); rintro e w5 hans; obtain ⟨a5, A5, c5, rfl, hS5, hN5, hb⟩ := hans.open HNm.out; have HS5 := hid hS5; have HN5 := hid hN5; have HB5 := hid hb; clear hS5 hN5 hb; have HB25 := hid ((HB3.out.trans (HB4.out.mono HB3.out.size)).trans (HB5.out.mono (HB3.out.trans (HB4.out.mono HB3.out.size)).size)); have HCv1 := hid (covers_any (shs_view (HS2.out.later HB25.out) (by rw [names_eq HN2.out]; exact HNm.out)) n hn1 hm1 hmp HC1.out); clear hans)
      | (go_at_call 11; refine (num14_any _ _).mono ?_; rintro e w6 ⟨rfl, hw6⟩; obtain rfl := hw6.symm)
      | (go_at_call 18; (with_reducible_and_instances (refine (HCv1.out).mono ?_)); rintro e w7 ⟨rfl, hb7⟩; have HB7 := hid hb7; have HCv2 := hid (covers_any (shs_view (HS5.out.later hb7) (by rw [names_eq HN5.out]; exact HNm.out)) n hn1 hm1 hmp (HC2.out _ _)); clear hb7 HCv1)
      | (go_at_call 18; (with_reducible_and_instances (refine (HCv2.out).mono ?_)); rintro e w8 ⟨rfl, hb8⟩; have HB8 := hid hb8; clear hb8)
      | (go_at_call 12; refine (knows14 _).mono ?_; rintro e w9 ⟨rfl, hb9⟩; have HB9 := hid hb9; clear hb9))
      go_ret
      have b3 := HB03.out.trans (HB4.out.mono HB03.out.size)
      have b5 := b3.trans (HB5.out.mono b3.size)
      have b7 := b5.trans (HB7.out.mono b5.size)
      have b8 := b7.trans (HB8.out.mono b7.size)
      exact ⟨rfl, b8.trans (HB9.out.mono b8.size)⟩
end Go.Proofs.Ytopbmopfahjhlaa
