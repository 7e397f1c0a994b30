/- The walk of AssignStays. -/
import Derived.Test.YtakpdhmfbgfblaaAStaysN
import Derived.Test.YtakpdhmfbgfblaaAWithin
import Derived.Test.YtakpdhmfbgfblaaARange
import Derived.Test.YtakpdhmfbgfblaaASticky
import Derived.Test.YtakpdhmfbgfblaaAKnows
namespace Go.Proofs.Ytakpdhmfbgfblaa
open Go.RowKit
variable {w w' : World}

theorem emptyS7 (W : World) : OwnK kS (W.alloc (.cells #[] 9)) W.heap.size (.slice (some ⟨W.heap.size, 0, none⟩) 0 0) [] :=
  ⟨rfl, Or.inr ⟨W.heap.size, 0, #[], rfl, Nat.le_refl _, heap_alloc_new W _, Nat.le_refl _, by unfold maxLen; omega, rfl, rfl⟩⟩
theorem copy7_below {W W3 : World} {v : Value} (h : OwnK kS (W.alloc (.cells #[] 9)) W.heap.size v []) (hg : (W.alloc (.cells #[] 9)).grownBy W3 v.ownBlock) : Below W.heap.size W W3 :=
  ((Below.refl _ W).alloc (Nat.le_refl _) (.cells #[] 9)).grown hg (by simp) (fun k hk => (h.block k hk).1)
theorem nm_row7 (Y : World) (s : ByteArray) (d : Nm) (h : nmS d = s) : RowK kS (Y.alloc (.cells #[.string s] 9)) (some ⟨Y.heap.size, 0, none⟩) [d] := by
  subst h
  refine Or.inr ⟨_, 0, rfl, by simp, fun i hi c hc => ?_⟩
  obtain rfl : i = 0 := by simp at hi; omega
  obtain rfl : c = 0 := by have : kS.sz = 1 := rfl; omega
  have hb : Blk (Y.alloc (.cells #[.string (nmS d)] 9)) Y.heap.size _ _ := heap_alloc_new Y _
  exact hb.cell 0
theorem fst_getD7 {A : List ShA} {names : List Nm} (h : A.map (·.1) = names) (i : Nat) (hi : i < A.length) : (A.getD i sh0).1 = names.getD i [] := by
  subst h
  rw [List.getD_eq_getElem?_getD, List.getD_eq_getElem?_getD, List.getElem?_map, List.getElem?_eq_getElem hi]
  rfl
theorem names_eq7 {A : List ShA} {names : List Nm} (h : A.map (·.1) = names) : A.length = names.length := by rw [← h]; simp
theorem shs_view7 {W : World} {base m c : Nat} {a : Option Addr} {A : List ShA} {P : List (List Int)} (h : Shs W base (.slice a m c) A P) (hm : A.length = m) : ShV kSh W A P a m c := by
  obtain ⟨a', c', e, hv⟩ := h.view
  obtain ⟨rfl, -, rfl⟩ : a = a' ∧ m = A.length ∧ c = c' := by injection e with e1 e2 e3; exact ⟨e1, e2, e3⟩
  rw [hm] at hv
  exact hv
/-- An answer that is none. -/
theorem AnsP.none {names : List Nm} {P : List (List Int)} {e : Ending} (h : AnsP w false names P e w') : e = .returned (.tuple #[.slice none 0 0, .int .i64 1]) ∧ Below w.heap.size w w' := h
theorem tmod7 (x : Int) (m : Int) (hm : 0 < m) : -m < x.tmod m ∧ x.tmod m < m := by
  have h1 := Int.tmod_lt_of_pos x hm
  have h2 := Int.lt_tmod_of_pos x hm
  omega
theorem modS7 (x : Int) (m : Nat) (hm : 0 < m) : ∃ N : Nat, N < m ∧ (x.tmod (m : Int) + (m : Int)).tmod (m : Int) = (N : Int) ∧ (x.tmod (m : Int) + (m : Int)) % (m : Int) = (N : Int) ∧ x.tmod (m : Int) % (m : Int) = (N : Int) := by
  have h := tmod7 x m (by omega)
  have h0 : 0 ≤ x.tmod (m : Int) + (m : Int) := by omega
  have e1 := Int.tmod_eq_emod_of_nonneg (b := (m : Int)) h0
  have h1 := Int.emod_nonneg (x.tmod (m : Int) + (m : Int)) (b := (m : Int)) (by omega)
  have h2 := Int.emod_lt_of_pos (x.tmod (m : Int) + (m : Int)) (b := (m : Int)) (by omega)
  refine ⟨((x.tmod (m : Int) + (m : Int)) % (m : Int)).toNat, by omega, by omega, by omega, ?_⟩
  have h3 : (x.tmod (m : Int) + (m : Int)) % (m : Int) = x.tmod (m : Int) % (m : Int) := by simp
  omega
set_option maxRecDepth 20000 in
set_option maxHeartbeats 8000000 in
theorem stays_walk {l : List Nm} {ad : Option Addr} {m c : Nat} (hA : ArgK kS w l ad m c) (hm16 : m * 16 ≤ 140737488351232) (p : Int) (hp : -9223372036854775808 ≤ p ∧ p ≤ 9223372036854775807) (gone : Int) (mo : Nm) :
    Calls Try.prog 4 #[.slice ad m c, .int .i64 p, .int .i64 gone, .string (nmS mo)] w fun e w' => e = .returned (.bool true) ∧ Below w.heap.size w w' := by
  have HAr := hid hA
  have HLm : Hid (l.length = m) := hA.len
  have HNil : Hid (ad = none → m = 0 ∧ c = 0) := hA.nil
  have HRowW : Hid (∀ W, Below w.heap.size w W → RowK kS W ad l) := fun W hb => hA.row.later hb
  have HE1 := hid (emptyS7 w)
  have HRow1 := hid (HRowW.out (w.alloc (.cells #[] 9)) ((Below.refl _ w).alloc (Nat.le_refl _) _))
  have hmx : m ≤ 8796093022208 := by omega
  have HMl : Hid (m ≤ maxLen) := by unfold maxLen; show m ≤ _; omega
  have HMb : Hid (m * 16 ≤ 140737488355328) := by show m * 16 ≤ _; omega
  clear hA
  cases hmy : mayN l p with
  | false =>
    go_enter Try.func4, Try.ntmps4
    go_wp2_with (first
      | (at_builtin; (with_reducible_and_instances (refine app_kd kS_ok rfl _ _ rfl w.heap.size (.slice (some ⟨w.heap.size, 0, none⟩) 0 0) [] rfl HE1.out ad m c l rfl HLm.out (fun e => ⟨by first | rfl | exact (HNil.out e).1, (HNil.out e).2⟩) HRow1.out (by rw [List.length_nil, Nat.zero_add]; exact HMl.out) (by rw [List.length_nil, Nat.zero_add]; exact HMb.out) (by simp) ?_)); intro v1 w1 hO1 hG1; obtain ⟨a1, c1, hv1, hA1⟩ := hO1.form kS_ok.tofit; rw [List.nil_append, HLm.out] at hv1 hA1; subst hv1; have HA1 := hid hA1; have HB1 := hid (copy7_below HE1.out hG1); have HRg := hid (range_any hA1 p hp); rw [hmy] at HRg; clear hO1 hG1 hA1)
      | (go_at_call 11; (with_reducible_and_instances (refine HRg.out.mono ?_)); rintro e w2 hans; obtain ⟨rfl, hb⟩ := hans.none; have HB2 := hid hb; clear hb; clear hans)
      | (go_at_call 9; refine (num14_any _ _).mono ?_; rintro e w6 ⟨rfl, hw6⟩; obtain rfl := hw6.symm)
      | (go_at_call 10; refine (knows14 _).mono ?_; rintro e w9 ⟨rfl, hb9⟩; have HB9 := hid hb9; clear hb9))
    go_ret
    have b2 := HB1.out.trans (HB2.out.mono HB1.out.size)
    exact ⟨rfl, b2.trans (HB9.out.mono b2.size)⟩
  | true =>
    obtain ⟨h1, h2, h3⟩ := may_bounds hmy
    obtain ⟨n, rfl⟩ : ∃ n : Nat, p = (n : Int) := ⟨p.toNat, by omega⟩
    have hlm := HLm.out
    have HNd := hid (may_nodup hmy)
    have HSm : Hid (∀ s ∈ risN l, s.length ≤ 64) := fun s hs => may_names hmy s ((risN_perm l).mem_iff.1 hs)
    by_cases h0 : m = 0
    · subst h0
      have hnm : (risN l).length = 0 := by rw [risN_len]; exact hlm
      have HNm := hid hnm
      clear hlm hnm
      go_enter Try.func4, Try.ntmps4
      go_wp2_with (first
      | (at_builtin; (with_reducible_and_instances (refine app_kd kS_ok rfl _ _ rfl w.heap.size (.slice (some ⟨w.heap.size, 0, none⟩) 0 0) [] rfl HE1.out ad 0 c l rfl HLm.out (fun e => ⟨by first | rfl | exact (HNil.out e).1, (HNil.out e).2⟩) HRow1.out (by rw [List.length_nil, Nat.zero_add]; exact HMl.out) (by rw [List.length_nil, Nat.zero_add]; exact HMb.out) (by simp) ?_)); intro v1 w1 hO1 hG1; obtain ⟨a1, c1, hv1, hA1⟩ := hO1.form kS_ok.tofit; rw [List.nil_append, HLm.out] at hv1 hA1; subst hv1; have HA1 := hid hA1; have HB1 := hid (copy7_below HE1.out hG1); have HRg := hid (range_any hA1 (n : Int) hp); rw [hmy] at HRg; clear hO1 hG1 hA1)
      | (go_at_call 11; (with_reducible_and_instances (refine HRg.out.mono ?_)); rintro e w2 hans; obtain ⟨a2, A2, c2, rfl, hS2, hN2, hb⟩ := hans.open HNm.out; have HS2 := hid hS2; have HN2 := hid hN2; have HB2 := hid hb; clear hS2 hN2 hb; clear hans)
      | (go_at_call 9; refine (num14_any _ _).mono ?_; rintro e w6 ⟨rfl, hw6⟩; obtain rfl := hw6.symm)
      | (go_at_call 10; refine (knows14 _).mono ?_; rintro e w9 ⟨rfl, hb9⟩; have HB9 := hid hb9; clear hb9))
      go_ret
      have b2 := HB1.out.trans (HB2.out.mono HB1.out.size)
      exact ⟨rfl, b2.trans (HB9.out.mono b2.size)⟩
    · have hne : l ≠ [] := fun e => by rw [e] at hlm; simp at hlm; omega
      have hnm : (risN l).length = m := by rw [risN_len]; exact hlm
      have HNm := hid hnm
      have HCv := hid (range_cov l n hne)
      have HSame : Hid (stickyP (risN l) (rangeP l n) l n = rangeP l n) := stays_same l n hne HNd.out
      obtain ⟨P, hP⟩ : ∃ P, rangeP l n = P := ⟨_, rfl⟩
      have hlP : P.length = m := by rw [← hP, (range_even l n hne).2]; exact hlm
      have HLP := hid hlP
      rw [hP] at HSame HCv
      have hz : ((m : Int) == 0) = false := by simp; omega
      have hm1 : m ≤ 1000 := by omega
      have hn1 : n ≤ 32 := by omega
      have hmp : 0 < m := by omega
      have hwm : IntKind.i64.wrap (gone.tmod (m : Int) + (m : Int)) = gone.tmod (m : Int) + (m : Int) := by
        have := tmod7 gone (m : Int) (by omega)
        rw [IntKind.wrap_i64]
        omega
      obtain ⟨gv, hg1, hg2, hg3, hg4⟩ := modS7 gone m hmp
      have hg0 := tmod7 gone (m : Int) (by omega)
      clear hlm hnm h0 hne hlP
      go_enter Try.func4, Try.ntmps4
      go_wp2_with (first
      | (at_builtin; (with_reducible_and_instances (refine app_kd kS_ok rfl _ _ rfl w.heap.size (.slice (some ⟨w.heap.size, 0, none⟩) 0 0) [] rfl HE1.out ad m c l rfl HLm.out (fun e => ⟨by first | rfl | exact (HNil.out e).1, (HNil.out e).2⟩) HRow1.out (by rw [List.length_nil, Nat.zero_add]; exact HMl.out) (by rw [List.length_nil, Nat.zero_add]; exact HMb.out) (by simp) ?_)); intro v1 w1 hO1 hG1; obtain ⟨a1, c1, hv1, hA1⟩ := hO1.form kS_ok.tofit; rw [List.nil_append, HLm.out] at hv1 hA1; subst hv1; have HA1 := hid hA1; have HB1 := hid (copy7_below HE1.out hG1); have HRg := hid (range_any hA1 (n : Int) hp); rw [hmy, show ((n : Int)).toNat = n from Int.toNat_natCast n, hP] at HRg; clear hO1 hG1 hA1)
      | (go_at_call 11; (with_reducible_and_instances (refine HRg.out.mono ?_)); rintro e w2 hans; obtain ⟨a2, A2, c2, rfl, hS2, hN2, hb⟩ := hans.open HNm.out; have HS2 := hid hS2; have HN2 := hid hN2; have HB2 := hid hb; clear hS2 hN2 hb; have HB02 := hid (HB1.out.trans (HB2.out.mono HB1.out.size)); have HE4 := hid (emptyS7 w2); have HRow4 := hid (HRowW.out (w2.alloc (.cells #[] 9)) (HB02.out.trans (((Below.refl _ w2).alloc (Nat.le_refl _) _).mono HB02.out.size))); clear hans)
      | (at_builtin; (with_reducible_and_instances (refine app_kd kS_ok rfl _ _ rfl w2.heap.size (.slice (some ⟨w2.heap.size, 0, none⟩) 0 0) [] rfl HE4.out ad m c l rfl HLm.out (fun e => ⟨by first | rfl | exact (HNil.out e).1, (HNil.out e).2⟩) HRow4.out (by rw [List.length_nil, Nat.zero_add]; exact HMl.out) (by rw [List.length_nil, Nat.zero_add]; exact HMb.out) (by simp) ?_)); intro v4 w4 hO4 hG4; obtain ⟨a4, c4, hv4, hA4⟩ := hO4.form kS_ok.tofit; rw [List.nil_append, HLm.out] at hv4 hA4; subst hv4; have HB4 := hid (copy7_below HE4.out hG4); have HSk := hid (sticky_any ((HS2.out.later HB4.out).old (names_small HN2.out HSm.out)) hA4 (n : Int) hp); rw [hmy, HN2.out, show ((n : Int)).toNat = n from Int.toNat_natCast n, HSame.out] at HSk; clear hO4 hG4 hA4)
      | (go_at_call 6; (with_reducible_and_instances (refine HSk.out.mono ?_)); rintro e w5 hans; obtain ⟨a5, A5, c5, rfl, hS5, hN5, hb⟩ := hans.open HNm.out; have HS5 := hid hS5; have HB5 := hid hb; clear hS5 hN5 hb; clear hans)
      | (go_at_call 9; refine (num14_any _ _).mono ?_; rintro e w6 ⟨rfl, hw6⟩; obtain rfl := hw6.symm)
      | (go_at_call 10; refine (knows14 _).mono ?_; rintro e w9 ⟨rfl, hb9⟩; have HB9 := hid hb9; clear hb9))
      have HA2 := hid ((shs_view7 (HS2.out.later (HB4.out.trans (HB5.out.mono HB4.out.size))) (by rw [names_eq7 HN2.out]; exact HNm.out)))
      have HA5 := hid ((shs_view7 HS5.out (HS5.out.len.trans HLP.out)))
      have HB05 := hid (HB02.out.trans ((HB4.out.trans (HB5.out.mono HB4.out.size)).mono HB02.out.size))
      go_loopw [13] (fun iv wr => ∃ i : Nat, i ≤ m ∧ iv = .int .i64 (i : Int) ∧ Hid (Below w5.heap.size w5 wr)) (fun iv _ => m - (intOf iv).toNat)
      case atStart => exact ⟨0, by omega, rfl, Below.refl _ _⟩
      case round =>
        obtain ⟨i, hi, rfl, HBi⟩ := hrel
        by_cases hlt : i < m
        · obtain ⟨b1, o1, rfl, hs1, hc1⟩ := HA2.out.row.cells (by omega)
          obtain ⟨b2, o2, rfl, hs2, hc2⟩ := HA5.out.row.cells (by omega)
          have hcap1 := HA2.out.row.cap
          have hcap2 := HA5.out.row.cap
          have hpA := HA2.out.part i (by rw [HA2.out.row.len]; exact hlt)
          have hpB := HA5.out.part i (by rw [HA5.out.row.len]; exact hlt)
          obtain ⟨x, hx⟩ : ∃ x, A2.getD i sh0 = x := ⟨_, rfl⟩
          obtain ⟨y, hy⟩ : ∃ y, A5.getD i sh0 = y := ⟨_, rfl⟩
          rw [hx] at hpA
          rw [hy] at hpB
          obtain ⟨na, sa, sm, sc⟩ := x
          obtain ⟨nb, ta, tm, tc⟩ := y
          dsimp only at hpA hpB
          have r1 : w5.cell? ⟨b1, o1 + i * 2 + 1, none⟩ = some (.slice sa sm sc) := by have h := hc1 i hlt 1 (by decide); rw [show A2.getD i kSh.z = A2.getD i sh0 from rfl, hx] at h; exact h
          have r2 : w5.cell? ⟨b2, o2 + i * 2 + 1, none⟩ = some (.slice ta tm tc) := by have h := hc2 i hlt 1 (by decide); rw [show A5.getD i kSh.z = A5.getD i sh0 from rfl, hy] at h; exact h
          obtain rfl : sm = tm := by rw [← hpA.len, ← hpB.len]
          have HPA := hid hpA
          have HPB := hid hpB
          have HR1 := hid r1
          have HR2 := hid r2
          have HS1 := hid hs1
          have HS2' := hid hs2
          have hs64 : sm ≤ 9223372036854775807 := by have := hpA.cap; have := hpA.room; unfold maxLen at this; omega
          have q1 := (HBi.out.cell (p := ⟨b1, o1 + i * 2 + 1, none⟩) hs1).trans r1
          have q2 := (HBi.out.cell (p := ⟨b2, o2 + i * 2 + 1, none⟩) hs2).trans r2
          clear hc1 hc2 hpA hpB hx hy r1 r2 hs1 hs2
          go_wp2_with fail
          go_quiet (fail)
          all_goals go_wp2
          go_loopw [14] (fun jv wr => ∃ j : Nat, j ≤ sm ∧ jv = .int .i64 (j : Int) ∧ Hid (Below w5.heap.size w5 wr)) (fun jv _ => sm - (intOf jv).toNat)
          case atStart => exact ⟨0, by omega, rfl, below_drewN' HBi.out _⟩
          case round =>
            obtain ⟨j, hj, rfl, HBj⟩ := hrel
            have q1 := (HBj.out.cell (p := ⟨b1, o1 + i * 2 + 1, none⟩) HS1.out).trans HR1.out
            have q2 := (HBj.out.cell (p := ⟨b2, o2 + i * 2 + 1, none⟩) HS2'.out).trans HR2.out
            by_cases hjs : j < sm
            · obtain ⟨bp, op, rfl, hbp, hcp⟩ := HPA.out.cells (by omega)
              obtain ⟨bq, oq, rfl, hbq, hcq⟩ := HPB.out.cells (by omega)
              have q3 : wr.cell? ⟨bp, op + j, none⟩ = some (.int .i64 ((P.getD i []).getD j 0)) := (HBj.out.cell (p := ⟨bp, op + j, none⟩) hbp).trans (by have h := hcp j hjs 0 (by decide); rw [Nat.mul_one, Nat.add_zero] at h; exact h)
              have q4 : wr.cell? ⟨bq, oq + j, none⟩ = some (.int .i64 ((P.getD i []).getD j 0)) := (HBj.out.cell (p := ⟨bq, oq + j, none⟩) hbq).trans (by have h := hcq j hjs 0 (by decide); rw [Nat.mul_one, Nat.add_zero] at h; exact h)
              have hcapA := HPA.out.cap
              have hcapB := HPB.out.cap
              clear hcp hcq hbp hbq
              generalize (P.getD i []).getD j 0 = e1 at *
              go_wp2_with fail
              go_quiet (fail)
              all_goals go_wp2
              exact ⟨⟨j + 1, by omega, by go_num, below_drewN' HBj.out _⟩, by simp [intOf]; omega⟩
            · obtain rfl : sm = j := by omega
              go_wp2_with fail
              exact ⟨⟨i + 1, by omega, by go_num, HBj⟩, by simp [intOf]; omega⟩
        · obtain rfl : m = i := by omega
          clear HA5 HS5
          go_wp2_with fail
          go_loopw [15, 16] (fun nv iv wr => ∃ (i : Nat) (k : List Nm), i ≤ m ∧ iv = .int .i64 (i : Int) ∧ k.length ≤ i ∧ Hid (OwnK kS wr w5.heap.size nv k) ∧ Hid (Below w5.heap.size w5 wr)) (fun _ iv _ => m - (intOf iv).toNat)
          case atStart => exact ⟨0, [], by omega, rfl, by simp, OwnK.nil _ _, HBi⟩
          case round =>
            clear HBi
            obtain ⟨i3, k, hi3, rfl, hk, HO, HB3⟩ := hrel
            obtain ⟨na, nc, hnv, hNA⟩ := HO.out.form kS_ok.tofit
            subst hnv
            clear hNA
            by_cases hl3 : i3 < m
            · by_cases hgi : i3 = gv
              · subst hgi
                go_wp2_with fail
                exact ⟨⟨i3 + 1, k, by omega, by go_num, by omega, HO, HB3⟩, by simp [intOf]; omega⟩
              · have hgb : ((i3 : Int) == (gv : Int)) = false := by simp; omega
                obtain ⟨bm, om, rfl, hbm, hcm⟩ := HAr.out.cells (by omega)
                have hcapm := HAr.out.cap
                have hB := HB05.out.trans (HB3.out.mono HB05.out.size)
                obtain ⟨x, hx⟩ : ∃ x, l.getD i3 [] = x := ⟨_, rfl⟩
                have q1 := (hB.cell (p := ⟨bm, om + i3, none⟩) hbm).trans (by have h := hcm i3 hl3 0 (by decide); rw [Nat.mul_one, Nat.add_zero] at h; rw [h, show l.getD i3 kS.z = l.getD i3 [] from rfl, hx]; rfl : w.cell? ⟨bm, om + i3, none⟩ = some (.string (nmS x)))
                have HRx := hid (nm_row wr (nmS x) x rfl)
                have HOa := hid (HO.out.later ((Below.refl _ wr).alloc (Nat.le_refl _) (.cells #[.string (nmS x)] 9)))
                have hk9 : k.length + 1 ≤ 1000 := by omega
                have hsz5 : w5.heap.size ≤ wr.heap.size := HB3.out.size
                clear hcm hx hB hbm
                go_wp2_with (at_builtin; (with_reducible_and_instances (refine app_kd kS_ok rfl _ _ rfl w5.heap.size (.slice na k.length nc) k rfl HOa.out (some ⟨wr.heap.size, 0, none⟩) 1 1 [x] rfl rfl (fun e => by cases e) HRx.out (by unfold maxLen; omega) (by show (k.length + 1) * 16 ≤ _; omega) (by simp; omega) ?_)); intro v7 w7 hO7 hG7; have HO7 := hid hO7; have HB7 := hid ((HB3.out.alloc HB3.out.size (.cells #[.string (nmS x)] 9)).grown hG7 (by simp; omega) (fun g hg => (HOa.out.block g hg).1)); clear hO7 hG7)
                exact ⟨⟨i3 + 1, k ++ [x], by omega, by go_num, by simp; omega, HO7, HB7⟩, by simp [intOf]; omega⟩
            · obtain rfl : m = i3 := by omega
              have HRx := hid (nm_row wr (nmS mo) mo rfl)
              have HOa := hid (HO.out.later ((Below.refl _ wr).alloc (Nat.le_refl _) (.cells #[.string (nmS mo)] 9)))
              have hk9 : k.length + 1 ≤ 1001 := by omega
              have hsz5 : w5.heap.size ≤ wr.heap.size := HB3.out.size
              have hk1 : (k ++ [mo]).length = k.length + 1 := by simp
              have HK1 := hid hk1
              have hz2 : (((k.length + 1 : Nat) : Int) == 0) = false := by simp; omega
              have HB25 := hid (HB4.out.trans (HB5.out.mono HB4.out.size))
              clear hk1
              cases hmy2 : mayN (k ++ [mo]) (n : Int) with
              | false =>
                go_wp2_with (first
                  | (at_builtin; (with_reducible_and_instances (refine app_kd kS_ok rfl _ _ rfl w5.heap.size (.slice na k.length nc) k rfl HOa.out (some ⟨wr.heap.size, 0, none⟩) 1 1 [mo] rfl rfl (fun e => by cases e) HRx.out (by unfold maxLen; omega) (by show (k.length + 1) * 16 ≤ _; omega) (by simp; omega) ?_)); intro v7 w7 hO7 hG7; have HB7 := hid ((HB3.out.alloc HB3.out.size (.cells #[.string (nmS mo)] 9)).grown hG7 (by simp; omega) (fun g hg => (HOa.out.block g hg).1)); obtain ⟨a7, c7, hv7, hA7⟩ := hO7.form kS_ok.tofit; rw [HK1.out] at hv7 hA7; subst hv7; have HSk2 := hid (sticky_any ((HS2.out.later (HB25.out.trans (HB7.out.mono HB25.out.size))).old (names_small HN2.out HSm.out)) hA7 (n : Int) hp); rw [hmy2, HN2.out, show ((n : Int)).toNat = n from Int.toNat_natCast n] at HSk2; clear hO7 hG7 hA7)
                  | (go_at_call 6; (with_reducible_and_instances (refine HSk2.out.mono ?_)); rintro e w8 hans; obtain ⟨rfl, hb⟩ := hans.none; have HB8 := hid hb; clear hb hans)
                  | (go_at_call 9; refine (num14_any _ _).mono ?_; rintro e w6 ⟨rfl, hw6⟩; obtain rfl := hw6.symm)
                  | (go_at_call 10; refine (knows14 _).mono ?_; rintro e w9 ⟨rfl, hb9⟩; have HB9 := hid hb9; clear hb9))
                go_ret
                have b7 := HB05.out.trans (HB7.out.mono HB05.out.size)
                have b8 := b7.trans (HB8.out.mono b7.size)
                exact ⟨rfl, b8.trans (HB9.out.mono b8.size)⟩
              | true =>
                have hnm2 : (risN (k ++ [mo])).length = k.length + 1 := by rw [risN_len]; simp
                have HNm2 := hid hnm2
                clear hnm2
                go_wp2_with (first
                  | (at_builtin; (with_reducible_and_instances (refine app_kd kS_ok rfl _ _ rfl w5.heap.size (.slice na k.length nc) k rfl HOa.out (some ⟨wr.heap.size, 0, none⟩) 1 1 [mo] rfl rfl (fun e => by cases e) HRx.out (by unfold maxLen; omega) (by show (k.length + 1) * 16 ≤ _; omega) (by simp; omega) ?_)); intro v7 w7 hO7 hG7; have HB7 := hid ((HB3.out.alloc HB3.out.size (.cells #[.string (nmS mo)] 9)).grown hG7 (by simp; omega) (fun g hg => (HOa.out.block g hg).1)); obtain ⟨a7, c7, hv7, hA7⟩ := hO7.form kS_ok.tofit; rw [HK1.out] at hv7 hA7; subst hv7; have HSk2 := hid (sticky_any ((HS2.out.later (HB25.out.trans (HB7.out.mono HB25.out.size))).old (names_small HN2.out HSm.out)) hA7 (n : Int) hp); rw [hmy2, HN2.out, show ((n : Int)).toNat = n from Int.toNat_natCast n] at HSk2; clear hO7 hG7 hA7)
                  | (go_at_call 6; (with_reducible_and_instances (refine HSk2.out.mono ?_)); rintro e w8 hans; obtain ⟨a8, A8, c8, rfl, hS8, hN8, hb⟩ := hans.open HNm2.out; have HS8 := hid hS8; have HN8 := hid hN8; have HB8 := hid hb; clear hS8 hN8 hb hans)
                  | (go_at_call 9; refine (num14_any _ _).mono ?_; rintro e w6 ⟨rfl, hw6⟩; obtain rfl := hw6.symm)
                  | (go_at_call 10; refine (knows14 _).mono ?_; rintro e w9 ⟨rfl, hb9⟩; have HB9 := hid hb9; clear hb9))
                obtain ⟨bs, hbs⟩ : ∃ bs, n / (k.length + 1) = bs := ⟨_, rfl⟩
                have hq : RowKit.wrap64 ((n : Int) / ((k.length : Int) + 1)) = (bs : Int) := by
                  have e : (n : Int) / ((k.length : Int) + 1) = (bs : Int) := by rw [← hbs]; simp
                  have hb9 : bs ≤ n := by rw [← hbs]; exact Nat.div_le_self _ _
                  rw [e]
                  exact IntWalk.wrap64_in _ (by omega)
                rw [hq]
                obtain ⟨Q, hQ⟩ : ∃ Q, stickyP (risN l) P (k ++ [mo]) n = Q := ⟨_, rfl⟩
                rw [hQ] at HS8
                have HC2 := hid (HA2.out.later (HB7.out.trans (HB8.out.mono HB7.out.size)))
                have HC8 := hid (shs_view7 HS8.out (by rw [names_eq7 HN8.out]; exact HNm2.out))
                have HKp : Hid (∀ i j, i < k.length + 1 → j < m → (A2.getD j sh0).1 = (A8.getD i sh0).1 → (P.getD j []).length ≤ bs → (P.getD j []).length ≤ (Q.getD i []).length ∧ ∀ z ∈ P.getD j [], z ∈ Q.getD i []) := fun i j hi hj hnm hb => by
                  have e1 : (A2.getD j sh0).1 = (risN l).getD j [] := fst_getD7 HN2.out j (by rw [HC2.out.row.len]; exact hj)
                  have e2 : (A8.getD i sh0).1 = (risN (k ++ [mo])).getD i [] := fst_getD7 HN8.out i (by rw [HC8.out.row.len]; exact hi)
                  have e3 : lstd (risN l) P ((risN (k ++ [mo])).getD i []) = P.getD j [] := by
                    rw [← e2, ← hnm, e1]
                    exact lstd_at _ _ j HNd.out (by rw [HNm.out, HLP.out]) (by rw [HNm.out]; exact hj)
                  have h := stays_keep (risN l) P (k ++ [mo]) n HCv.out (may_nodup hmy2) i (by rw [HK1.out]; exact hi) (by rw [e3, HK1.out, hbs]; exact hb)
                  rw [e3, hQ] at h
                  exact h
                have HB08 := hid (HB05.out.trans ((HB7.out.trans (HB8.out.mono HB7.out.size)).mono HB05.out.size))
                clear hbs hq hQ hmy hmy2 hP HSame HCv hg1 hg2 hg3 hg4 hg0 hwm
                go_loopw [20] (fun iv wr => ∃ i : Nat, i ≤ k.length + 1 ∧ iv = .int .i64 (i : Int) ∧ Hid (Below w8.heap.size w8 wr)) (fun iv _ => k.length + 1 - (intOf iv).toNat)
                case atStart => exact ⟨0, by omega, rfl, Below.refl _ _⟩
                case round =>
                  obtain ⟨i, hi, rfl, HBi⟩ := hrel
                  by_cases hlt : i < k.length + 1
                  · go_wp2_with fail
                    go_loopw [21] (fun jv wr => ∃ j : Nat, j ≤ m ∧ jv = .int .i64 (j : Int) ∧ Hid (Below w8.heap.size w8 wr)) (fun jv _ => m - (intOf jv).toNat)
                    case atStart => exact ⟨0, by omega, rfl, HBi⟩
                    case round =>
                      clear HBi
                      obtain ⟨j, hj, rfl, HBj⟩ := hrel
                      by_cases hjs : j < m
                      · obtain ⟨b1, o1, rfl, hs1, hc1⟩ := HC2.out.row.cells (by omega)
                        obtain ⟨b2, o2, rfl, hs2, hc2⟩ := HC8.out.row.cells (by omega)
                        have hcap1 := HC2.out.row.cap
                        have hcap2 := HC8.out.row.cap
                        have hpA := HC2.out.part j (by rw [HC2.out.row.len]; exact hjs)
                        have hpB := HC8.out.part i (by rw [HC8.out.row.len]; exact hlt)
                        have hkp := HKp.out i j hlt hjs
                        obtain ⟨x, hx⟩ : ∃ x, A2.getD j sh0 = x := ⟨_, rfl⟩
                        obtain ⟨y, hy⟩ : ∃ y, A8.getD i sh0 = y := ⟨_, rfl⟩
                        rw [hx, hy] at hkp
                        rw [hx] at hpA
                        rw [hy] at hpB
                        obtain ⟨nx, sa, sm, sc⟩ := x
                        obtain ⟨ny, ta, tm, tc⟩ := y
                        dsimp only at hpA hpB hkp
                        have q0 := (HBj.out.cell (p := ⟨b1, o1 + j * 2, none⟩) hs1).trans (by have h := hc1 j hjs 0 (by decide); rw [Nat.add_zero, show A2.getD j kSh.z = A2.getD j sh0 from rfl, hx] at h; exact h : w8.cell? ⟨b1, o1 + j * 2, none⟩ = some (.string (nmS nx)))
                        have q1 := (HBj.out.cell (p := ⟨b1, o1 + j * 2 + 1, none⟩) hs1).trans (by have h := hc1 j hjs 1 (by decide); rw [show A2.getD j kSh.z = A2.getD j sh0 from rfl, hx] at h; exact h : w8.cell? ⟨b1, o1 + j * 2 + 1, none⟩ = some (.slice sa sm sc))
                        have q2 := (HBj.out.cell (p := ⟨b2, o2 + i * 2, none⟩) hs2).trans (by have h := hc2 i hlt 0 (by decide); rw [Nat.add_zero, show A8.getD i kSh.z = A8.getD i sh0 from rfl, hy] at h; exact h : w8.cell? ⟨b2, o2 + i * 2, none⟩ = some (.string (nmS ny)))
                        have q3 := (HBj.out.cell (p := ⟨b2, o2 + i * 2 + 1, none⟩) hs2).trans (by have h := hc2 i hlt 1 (by decide); rw [show A8.getD i kSh.z = A8.getD i sh0 from rfl, hy] at h; exact h : w8.cell? ⟨b2, o2 + i * 2 + 1, none⟩ = some (.slice ta tm tc))
                        have hs64 : sm ≤ 9223372036854775807 := by have := hpA.cap; have := hpA.room; unfold maxLen at this; omega
                        have ht64 : tm ≤ 9223372036854775807 := by have := hpB.cap; have := hpB.room; unfold maxLen at this; omega
                        have HQ1 := hid ((by have h := hc1 j hjs 1 (by decide); rw [show A2.getD j kSh.z = A2.getD j sh0 from rfl, hx] at h; exact h : w8.cell? ⟨b1, o1 + j * 2 + 1, none⟩ = some (.slice sa sm sc)))
                        have HQ3 := hid ((by have h := hc2 i hlt 1 (by decide); rw [show A8.getD i kSh.z = A8.getD i sh0 from rfl, hy] at h; exact h : w8.cell? ⟨b2, o2 + i * 2 + 1, none⟩ = some (.slice ta tm tc)))
                        have HS1 := hid hs1
                        have HS2' := hid hs2
                        rw [hpA.len, hpB.len] at hkp
                        have HKq := hid hkp
                        have HPA := hid hpA
                        have HPB := hid hpB
                        clear hc1 hc2 hpA hpB hx hy hs1 hs2 hkp
                        by_cases hnm : nx = ny
                        · subst hnm
                          by_cases hgt : bs < sm
                          · generalize nmS nx = e0 at *
                            have hd : decide (bs < sm) = true := by simp; exact hgt
                            clear HKq
                            go_wp2_with fail
                            go_quiet (fail)
                            all_goals go_wp2
                            exact ⟨⟨j + 1, by omega, by go_num, below_drewN' HBj.out _⟩, by simp [intOf]; omega⟩
                          · have hd : decide (bs < sm) = false := by simp; omega
                            have hk2 := HKq.out rfl (by omega)
                            have hd2 : decide (tm < sm) = false := by simp; omega
                            have hle : sm ≤ tm := hk2.1
                            have HWi : Hid (∀ z ∈ P.getD j [], z ∈ Q.getD i []) := hk2.2
                            have HW : Hid (∀ W, Below w8.heap.size w8 W → Calls Try.prog 12 #[.slice sa sm sc, .slice ta tm tc] W fun e w' => e = .returned (.bool true) ∧ ∃ n, w' = W.drewN n) := fun W hb => within_any (HPA.out.later hb) (HPB.out.later hb) HWi.out
                            clear hk2 HKq
                            generalize nmS nx = e0 at *
                            go_wp2_with fail
                            go_quiet (fail)
                            all_goals go_wp2
                            have HBx : Hid (Below w8.heap.size w8 (wr.drewN nq)) := below_drewN' HBj.out nq
                            clear q0 q1 q2 q3
                            generalize wr.drewN nq = wx at *
                            have q1 := (HBx.out.cell (p := ⟨b1, o1 + j * 2 + 1, none⟩) HS1.out).trans HQ1.out
                            have q3 := (HBx.out.cell (p := ⟨b2, o2 + i * 2 + 1, none⟩) HS2'.out).trans HQ3.out
                            go_quiet ((go_at_call 12; exact Calls.quiet_of (HW.out _ (below_drewN' HBx.out _))))
                            all_goals go_wp2
                            exact ⟨⟨j + 1, by omega, by go_num, below_drewN' HBx.out _⟩, by simp [intOf]; omega⟩
                        · have hns : nmS nx ≠ nmS ny := fun e => hnm (nmS_inj e)
                          generalize nmS nx = e0 at *
                          generalize nmS ny = e1 at *
                          have hbb : (e0 == e1) = false := by
                            cases h : (e0 == e1) with
                            | false => rfl
                            | true => exact absurd ((bytes_beq _ _).1 h) hns
                          have hb2 : (e0.toList == e1.toList) = false := by rw [← beq_toListBytes]; exact hbb
                          go_wp2_with fail
                          go_quiet (fail)
                          all_goals go_wp2
                          exact ⟨⟨j + 1, by omega, by go_num, below_drewN' HBj.out _⟩, by simp [intOf]; omega⟩
                      · obtain rfl : m = j := by omega
                        go_wp2_with fail
                        exact ⟨⟨i + 1, by omega, by go_num, HBj⟩, by simp [intOf]; omega⟩
                  · obtain rfl : k.length + 1 = i := by omega
                    go_wp2_with (go_at_call 10; refine (knows14 _).mono ?_; rintro e w9 ⟨rfl, hb9⟩; have HB9 := hid hb9; clear hb9)
                    go_ret
                    have b8 := HB08.out.trans (HBi.out.mono HB08.out.size)
                    exact ⟨rfl, b8.trans (HB9.out.mono b8.size)⟩
end Go.Proofs.Ytakpdhmfbgfblaa
