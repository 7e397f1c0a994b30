/- right of the document's package: what mayBe of package assign says. -/
import Derived.Test.YtopbmopfahjhlaaARSort
import Derived.Test.YtopbmopfahjhlaaASame
import Derived.BigQuiet
namespace Go.Proofs.Ytopbmopfahjhlaa
open Go.RowKit Go.Sort Go.Lib
variable {w w' : World} {ad : Option Addr} {m c : Nat} {l : List Nm}

theorem compact_full {s : List Nm} (h : ∀ j, 0 < j → j < s.length → s.getD j [] ≠ s.getD (j - 1) []) : (compact s).length = s.length := by
  unfold compact compactUpTo
  rw [List.length_map]
  have hf : ((List.range s.length).filter (keeps s.toArray)) = List.range s.length := by
    refine List.filter_eq_self.2 (fun j hj => ?_)
    have hj : j < s.length := by simpa using hj
    unfold keeps
    simp only [decide_eq_true_eq]
    by_cases h0 : j = 0
    · exact Or.inl h0
    · refine Or.inr ?_
      have e1 : s.toArray[j]! = s.getD j [] := by simp [List.getD_eq_getElem?_getD, hj]
      have e2 : s.toArray[j - 1]! = s.getD (j - 1) [] := by
        have : j - 1 < s.length := by omega
        simp [List.getD_eq_getElem?_getD, this]
      rw [e1, e2]
      exact h j (by omega) hj
  rw [hf, List.length_range]
theorem may_badN {p : Int} {i : Nat} (hi : i < l.length) (h : noName ((risN l).getD i []) = true) : mayN l p = false := by
  cases hm : mayN l p with
  | false => rfl
  | true =>
    unfold mayN at hm
    simp only [Bool.and_eq_true, Bool.not_eq_true', List.any_eq_false] at hm
    have hi2 : i < (risN l).length := by rw [risN_len]; exact hi
    rw [getD_at _ _ _ hi2] at h
    exact absurd h (hm.2.1 _ (List.getElem_mem hi2))
theorem may_badE {p : Int} {i : Nat} (hi : i < l.length) (h0 : 0 < i) (h : (risN l).getD i [] = (risN l).getD (i - 1) []) : mayN l p = false := by
  cases hm : mayN l p with
  | false => rfl
  | true =>
    unfold mayN at hm
    simp only [Bool.and_eq_true] at hm
    have h3 : (compact (risN l)).length = (risN l).length := by have := hm.2.2; rw [risN_len]; simpa using this
    exact absurd h (compact_keeps h3 i h0 (by rw [risN_len]; exact hi))
theorem may_good {p : Int} (h1 : l.length ≤ 1000) (h2 : 0 ≤ p) (h3 : p ≤ 32) (h : ∀ j, j < l.length → noName ((risN l).getD j []) = false ∧ (0 < j → (risN l).getD j [] ≠ (risN l).getD (j - 1) [])) : mayN l p = true := by
  have hc := compact_full (s := risN l) (fun j h0 hj => (h j (by rw [← risN_len]; exact hj)).2 h0)
  have ha : (risN l).any noName = false := by
    rw [List.any_eq_false]
    intro x hx
    obtain ⟨j, hj, rfl⟩ := List.getElem_of_mem hx
    have := (h j (by rw [← risN_len]; exact hj)).1
    rw [getD_at _ _ _ hj] at this
    simp [this]
  have b1 : ¬ 1000 < l.length := by omega
  have b2 : ¬ p < 0 := by omega
  have b3 : ¬ 32 < p := by omega
  unfold mayN
  rw [hc, risN_len, ha]
  simp [b1, b2, b3]
set_option maxHeartbeats 1000000 in
theorem refright_any (h : ArgK kS w l ad m c) (p : Int) : Calls Try.prog 26 #[.slice ad m c, .int .i64 p] w fun e w' => e = .returned (.bool (mayN l p)) ∧ Below w.heap.size w w' := by
  have hl := h.len
  have hmm : m ≤ 9223372036854775807 := by have := h.cap; have := h.room; unfold maxLen at this; omega
  by_cases h1 : 1000 < m
  · have HV : Hid (mayN l p = false) := by unfold mayN; rw [hl]; simp [h1]; exact trivial
    rw [HV.out]
    clear h HV
    go_enter Try.func26, Try.ntmps26
    go_wp2_with fail
    go_ret
    exact ⟨rfl, Below.refl _ _⟩
  · by_cases h2 : p < 0
    · have HV : Hid (mayN l p = false) := by unfold mayN; rw [hl]; simp [h2]; exact trivial
      rw [HV.out]
      clear h HV
      go_enter Try.func26, Try.ntmps26
      go_wp2_with fail
      go_ret
      exact ⟨rfl, Below.refl _ _⟩
    · by_cases h3 : 32 < p
      · have HV : Hid (mayN l p = false) := by unfold mayN; rw [hl]; simp [h3]; exact trivial
        rw [HV.out]
        clear h HV
        go_enter Try.func26, Try.ntmps26
        go_wp2_with fail
        go_ret
        exact ⟨rfl, Below.refl _ _⟩
      · have HR := hid (refsorted_any h (by omega))
        have HLn : Hid (l.length = m) := hl
        have HSl : Hid ((risN l).length = m) := by rw [risN_len, hl]; exact rfl
        clear h hl
        go_enter Try.func26, Try.ntmps26
        go_wp2_with (first
          | (go_at_call 27; (with_reducible_and_instances (refine HR.out.mono ?_)); rintro e w1 ⟨v, rfl, ho, hb⟩; obtain ⟨sa, sc, rfl, hA⟩ := ho.form kS_ok.tofit; rw [HSl.out] at hA ⊢; have hcap := hA.cap; have HA := hid hA; have HB := hid hb; clear ho hb hA))
        go_loopw [6] (fun iv wr => ∃ i : Nat, i ≤ m ∧ iv = .int .i64 (i : Int) ∧ Hid (∀ j, j < i → noName ((risN l).getD j []) = false ∧ (0 < j → (risN l).getD j [] ≠ (risN l).getD (j - 1) [])) ∧ Hid (∃ q, wr = w1.drewN q)) (fun iv _ => m - (intOf iv).toNat)
        case atStart => exact ⟨0, by omega, rfl, (fun q hq => by omega), 0, rfl⟩
        case round =>
          obtain ⟨i, hi, rfl, HE, HQ⟩ := hrel
          have HQ2 : Hid (∀ n, ∃ q, wr.drewN n = w1.drewN q) := fun n => by obtain ⟨q, hq⟩ := HQ.out; rw [hq]; exact drewN_drewN w1 q n
          have HBw : Hid (∀ n, Below w.heap.size w (wr.drewN n)) := fun n => by obtain ⟨q, hq⟩ := HQ2.out n; rw [hq]; exact below_drewN' HB.out q
          by_cases hlt : i < m
          · obtain ⟨q, hq⟩ := HQ.out
            have hbq : Below w1.heap.size w1 wr := by rw [hq]; exact below_drewN' (Below.refl _ _) q
            obtain ⟨b2, o2, rfl, -, hc2⟩ := (HA.out.later hbq).cells (by omega)
            obtain ⟨x, hx⟩ : ∃ x, (risN l).getD i [] = x := ⟨_, rfl⟩
            have q0 : wr.cell? ⟨b2, o2 + i, none⟩ = some (.string (nmS x)) := by have h := hc2 i hlt 0 (by decide); rw [Nat.mul_one, Nat.add_zero] at h; rw [← hx]; exact h
            have hz := nmS_size x
            obtain ⟨n, hn⟩ : ∃ n, x.length = n := ⟨_, rfl⟩
            rw [hn] at hz
            have HXn : Hid (noName x = ((n == 0) || decide (64 < n))) := by rw [← hn]; exact rfl
            by_cases hn0 : n = 0
            · have HV : Hid (mayN l p = false) := may_badN (i := i) (by rw [HLn.out]; exact hlt) (by rw [hx, HXn.out, hn0]; rfl)
              clear hc2 hq hx HXn hn
              generalize nmS x = xs at *
              subst hn0
              go_wp2_with fail
              go_quiet (fail)
              all_goals go_wp2
              all_goals go_ret
              exact ⟨by rw [HV.out]; rfl, HBw.out _⟩
            · have hd0 : decide ((n : Int) < 1) = false := by simp; omega
              by_cases hn1 : 64 < n
              · have HV : Hid (mayN l p = false) := may_badN (i := i) (by rw [HLn.out]; exact hlt) (by rw [hx, HXn.out]; simp [hn1])
                clear hc2 hq hx HXn hn
                generalize nmS x = xs at *
                have hd1 : decide ((64 : Int) < (n : Int)) = true := by simp; omega
                go_wp2_with fail
                go_quiet (fail)
                all_goals go_wp2
                all_goals go_ret
                exact ⟨by rw [HV.out]; rfl, HBw.out _⟩
              · have hd1 : decide ((64 : Int) < (n : Int)) = false := by simp; omega
                have HNo : Hid (noName ((risN l).getD i []) = false) := by rw [hx, HXn.out]; simp [hn0, hn1]; exact trivial
                by_cases hi0 : i = 0
                · have hd2 : decide ((0 : Int) < (i : Int)) = false := by simp; omega
                  have hd3 : decide (0 < i) = false := by simp; omega
                  have HNx : Hid (∀ j, j < i + 1 → noName ((risN l).getD j []) = false ∧ (0 < j → (risN l).getD j [] ≠ (risN l).getD (j - 1) [])) := fun j hj => by
                    have e : j = i := by omega
                    subst e
                    exact ⟨HNo.out, fun h => by omega⟩
                  clear hi0 hc2 hq hx HXn hn
                  generalize nmS x = xs at *
                  go_wp2_with fail
                  go_quiet (fail)
                  all_goals go_wp2
                  exact ⟨⟨i + 1, by omega, by go_num, HNx, HQ2.out _⟩, by simp [intOf]; omega⟩
                · obtain ⟨y, hy⟩ : ∃ y, (risN l).getD (i - 1) [] = y := ⟨_, rfl⟩
                  have q1 : wr.cell? ⟨b2, o2 + (i - 1), none⟩ = some (.string (nmS y)) := by have h := hc2 (i - 1) (by omega) 0 (by decide); rw [Nat.mul_one, Nat.add_zero] at h; rw [← hy]; exact h
                  have hki : (i : Int) - 1 = ((i - 1 : Nat) : Int) := by omega
                  have hkm : i - 1 < m := by omega
                  have hd2 : decide ((0 : Int) < (i : Int)) = true := by simp; omega
                  have hd3 : decide (0 < i) = true := by simp; omega
                  have hd4 : 0 < i := by omega
                  by_cases hxy : x = y
                  · have HV : Hid (mayN l p = false) := may_badE (i := i) (by rw [HLn.out]; exact hlt) (by omega) (by rw [hx, hy, hxy])
                    subst hxy
                    clear hc2 hq hx hy HXn hn HNo
                    generalize nmS x = xs at *
                    go_wp2_with fail
                    go_quiet (fail)
                    all_goals go_wp2
                    all_goals go_ret
                    exact ⟨by rw [HV.out]; rfl, HBw.out _⟩
                  · have HNx : Hid (∀ j, j < i + 1 → noName ((risN l).getD j []) = false ∧ (0 < j → (risN l).getD j [] ≠ (risN l).getD (j - 1) [])) := fun j hj => by
                      by_cases e : j = i
                      · subst e; exact ⟨HNo.out, fun _ => by rw [hx, hy]; exact hxy⟩
                      · exact HE.out j (by omega)
                    have hns : nmS x ≠ nmS y := fun e => hxy (nmS_inj e)
                    clear hc2 hq hx hy HXn hn hxy HNo
                    generalize nmS x = e0 at *
                    generalize nmS y = e1 at *
                    have hbb : (e0 == e1) = false := by
                      cases h : (e0 == e1) with
                      | false => rfl
                      | true => exact absurd ((bytes_beq _ _).1 h) hns
                    have hb2 : (e0.toList == e1.toList) = false := by rw [← beq_toListBytes]; exact hbb
                    go_wp2_with fail
                    go_quiet (fail)
                    all_goals go_wp2
                    exact ⟨⟨i + 1, by omega, by go_num, HNx, HQ2.out _⟩, by simp [intOf]; omega⟩
          · obtain rfl : m = i := by omega
            have HV : Hid (mayN l p = true) := may_good (by rw [HLn.out]; omega) (by omega) (by omega) (fun j hj => HE.out j (by rw [← HLn.out]; exact hj))
            go_wp2_with fail
            go_ret
            exact ⟨by rw [HV.out]; rfl, HBw.out 0⟩
end Go.Proofs.Ytopbmopfahjhlaa
