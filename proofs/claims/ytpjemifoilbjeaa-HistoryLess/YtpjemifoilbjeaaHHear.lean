/- hear: the appends stand where the calls that are done saw them. -/
import Derived.Test.YtpjemifoilbjeaaHPut
import Derived.Test.YtpjemifoilbjeaaHRight
namespace Go.Proofs.Ytpjemifoilbjeaa
open Go.RowKit Hy
variable {w w' w0 : World} {g M1 M2 n : Nat} {s : Sd} {A : List HcA} {ad : Option Addr} {m c : Nat}

theorem hear_yes {x p : Int} {t : List (Option (Int × Int))} {s : Sd} (h : (put s x p).1 = true) : hearS (some (x, p) :: t) s = hearS t (put s x p).2 := by
  show (if (put s x p).1 then hearS t (put s x p).2 else none) = _
  rw [if_pos h]
theorem hear_no {x p : Int} {t : List (Option (Int × Int))} {s : Sd} (h : (put s x p).1 = false) : hearS (some (x, p) :: t) s = none := by
  show (if (put s x p).1 then hearS t (put s x p).2 else none) = _
  rw [if_neg (by rw [h]; simp)]
theorem allPr_drop {l k : List Hc} {i : Nat} (hi : i < k.length) : allPr l i (k.drop i) = callP l i (ca k i) ++ allPr l (i + 1) (k.drop (i + 1)) := by
  rw [List.drop_eq_getElem_cons hi, ca_at hi]
  rfl
theorem valP_drop {l : List Hc} {vs : List Nm} {k : Nat} (hk : k < vs.length) : valP l k (vs.drop k) = (byN l (vs.getD k [])).map (fun i => (i, (k : Int))) :: valP l (k + 1) (vs.drop (k + 1)) := by
  rw [List.drop_eq_getElem_cons hk, List.getD_eq_getElem?_getD, List.getElem?_eq_getElem hk]
  rfl
theorem chg_low {w0 w w1 wz : World} {M1 M2 : Nat} (hb : Below w0.heap.size w0 w) (h1 : Below w.heap.size w w1) (hc : Chg [M1, M2] w1 wz) (hM1 : w0.heap.size ≤ M1) (hM2 : w0.heap.size ≤ M2) : Below w0.heap.size w wz :=
  (h1.mono hb.size).trans (hc.below (fun k hk => by
    simp only [List.mem_cons, List.not_mem_nil, or_false] at hk
    rcases hk with rfl | rfl
    · exact hM1
    · exact hM2) (Nat.le_trans hb.size h1.size))
/-- What hear leaves, and fill. -/
def SPost (T : Option Sd) (N g M1 M2 n : Nat) (w : World) (e : Ending) (w' : World) : Prop :=
  ((∃ s', T = some s' ∧ e = .returned (.bool true) ∧ SP w' g M1 M2 n s') ∨ (T = none ∧ e = .returned (.bool false))) ∧ Below N w w'
set_option maxRecDepth 20000 in
set_option maxHeartbeats 4000000 in
theorem hear_any (hA : HV kC w0 A ad m c) (hb : Below w0.heap.size w0 w) (h : SP w g M1 M2 n s) (hM1 : w0.heap.size ≤ M1) (hM2 : w0.heap.size ≤ M2) (hR : Right (cls A)) (hn : n ≤ 1000000000) :
    Calls Try.prog 22 #[.pointer (some ⟨g, 0, none⟩), .slice ad m c] w fun e w' => SPost (hearS (allPr (cls A) 0 (cls A)) s) w0.heap.size g M1 M2 (n + m * 1001) w e w' := by
  have hl := hA.row.len
  have hm1 : m ≤ 1000 := by rw [← hl, ← cls_len]; exact hR.1
  have HA := hid hA
  have HB := hid hb
  have HL := hid hl
  have HR := hid hR
  have HS0 := hid h
  have HM1 := hid hM1
  have HM2 := hid hM2
  have HL1 : Hid (M1 < w.heap.size ∧ M2 < w.heap.size) := ⟨h.by1.lt, h.by2.lt⟩
  have HW := hid (writers_any (hA.later hb) (by omega))
  obtain ⟨T, hT⟩ : ∃ T, hearS (allPr (cls A) 0 (cls A)) s = T := ⟨_, rfl⟩
  have HT0 : Hid (hearS (allPr (cls A) 0 ((cls A).drop 0)) s = T) := hT
  rw [hT]
  clear hA hb hl hR h hM1 hM2 hT
  go_enter Try.func22, Try.ntmps22
  go_wp2_with (go_at_call 20; (with_reducible_and_instances (refine HW.out.mono ?_)); rintro e w1 ⟨h1, hb1⟩; obtain ⟨-, M, rfl, hM, -, hMF⟩ := h1.resolve_right (fun h => h.1 HR.out.2.2); have HS1 := hid (HS0.out.later hb1); have HB1 := hid hb1; have HMF := hid hMF; have HM := hid hM; clear hb1 hMF hM h1)
  have HNe : Hid (M ∉ [M1, M2]) := fun hm => by
    have h1 := HL1.out
    have h2 := HM.out
    simp only [List.mem_cons, List.not_mem_nil, or_false] at hm
    omega
  go_loopw [20] (fun iv wr => ∃ (i : Nat) (si : Sd), i ≤ m ∧ iv = .int .i64 (i : Int) ∧ Hid (SP wr g M1 M2 (n + i * 1001) si) ∧ Hid (hearS (allPr (cls A) i ((cls A).drop i)) si = T) ∧ Hid (Chg [M1, M2] w1 wr)) (fun iv _ => m - (intOf iv).toNat)
  case atStart => exact ⟨0, s, by omega, rfl, by rw [Nat.zero_mul]; exact HS1, HT0, Chg.refl _ _⟩
  case round =>
    obtain ⟨i, si, hi, rfl, HS, HT, HC⟩ := hrel
    clear HS0 HS1 HT0
    have HBr : Hid (Below w0.heap.size w wr) := chg_low HB.out HB1.out HC.out HM1.out HM2.out
    by_cases hlt : i < m
    · obtain ⟨b, off, rfl, hb, c0, c1, c2, c3, c4, c5, c6⟩ := (HA.out.later (HB.out.trans HBr.out)).at hlt
      have hcap := HA.out.row.cap
      have hpart := (HA.out.part i hlt).later (HB.out.trans HBr.out)
      have hp0 := HA.out.part i hlt
      have hsm := (HA.out.small i hlt).2
      have hmay := right_at HR.out (i := i) (by rw [HL.out]; exact hlt)
      have hD := allPr_drop (l := cls A) (k := cls A) (i := i) (by rw [cls_len, HL.out]; exact hlt)
      rw [ca_cls] at hD
      have hT := HT.out
      rw [hD] at hT
      obtain ⟨x, hx⟩ : ∃ x, (A.getD i hz0) = x := ⟨_, rfl⟩
      rw [hx] at c0 c1 c2 c3 c4 c5 c6 hpart hp0 hsm hmay hT
      obtain ⟨⟨rd, dn, bg, en, o, val, vals⟩, sa, sm, sc⟩ := x
      dsimp only at c0 c1 c2 c3 c4 c5 c6 hpart hp0 hsm hT
      have hof := may_off hmay
      have hvl := (may_vals hmay).2.2.2.2.2.2
      dsimp only at hof hvl
      have hba : Below wr.heap.size wr (wr.alloc (.cells #[.bool rd, .bool dn, .int .i64 bg, .int .i64 en, .int .i64 o, .string (nmS val), .slice sa sm sc] 34)) := (Below.refl _ _).alloc (Nat.le_refl _) _
      have HSa := hid (HS.out.later hba)
      have HCa := hid (HC.out.trans (Chg.of (F := []) hba) (fun k hk => by cases hk))
      have hxb : Blk (wr.alloc (.cells #[.bool rd, .bool dn, .int .i64 bg, .int .i64 en, .int .i64 o, .string (nmS val), .slice sa sm sc] 34)) wr.heap.size #[.bool rd, .bool dn, .int .i64 bg, .int .i64 en, .int .i64 o, .string (nmS val), .slice sa sm sc] 34 := heap_alloc_new wr _
      have HXn : Hid (wr.heap.size ∉ [M1, M2]) := fun hm => by
        have h1 := HL1.out
        have h2 := HC.out.size
        have h3 := HB1.out.size
        simp only [List.mem_cons, List.not_mem_nil, or_false] at hm
        omega
      have hsl : sm ≤ 1000 := by rw [← hpart.len]; exact hvl
      have HVl : Hid (vals.length = sm) := hpart.len
      have HSm := hid hsm
      have HTt := hid hT
      clear hx hpart hsm hmay hT hD hvl hba
      have HMl : Hid (M < w1.heap.size) := HMF.out.lt
      have HPa : Hid (ArgK kS w0 vals sa sm sc) := hp0
      clear hp0
      generalize nmS val = vt at *
      cases dn with
      | false =>
        have HTb : Hid (hearS (valP (cls A) 0 (vals.drop 0) ++ allPr (cls A) (i + 1) ((cls A).drop (i + 1))) si = T) := HTt.out
        go_wp2_with fail
        go_loopw [43] (fun kv wz => ∃ (k : Nat) (sk : Sd), k ≤ sm ∧ kv = .int .i64 (k : Int) ∧ Hid (SP wz g M1 M2 (n + i * 1001 + 1 + k) sk) ∧ Hid (hearS (valP (cls A) k (vals.drop k) ++ allPr (cls A) (i + 1) ((cls A).drop (i + 1))) sk = T) ∧ Hid (Chg [M1, M2] w1 wz)) (fun kv _ => sm - (intOf kv).toNat)
        case atStart => exact ⟨0, _, by omega, rfl, HSa.out.mono (by omega), HTb, HCa⟩
        case round =>
          obtain ⟨k, sk, hk, rfl, HSk, HTk, HCk⟩ := hrel
          obtain ⟨wz, rfl⟩ : ∃ q, q = wr := ⟨wr, rfl⟩
          have HBz : Hid (Below w0.heap.size w wz) := chg_low HB.out HB1.out HCk.out HM1.out HM2.out
          by_cases hks : k < sm
          · obtain ⟨be, oe, rfl, hbe, hce⟩ := (HPa.out.later (HB.out.trans HBz.out)).cells (by omega)
            obtain ⟨v, hv⟩ : ∃ v, vals.getD k [] = v := ⟨_, rfl⟩
            have q0 : wz.cell? ⟨be, oe + k, none⟩ = some (.string (nmS v)) := by
              have h := hce k hks 0 (by decide)
              rw [Nat.mul_one, Nat.add_zero, show vals.getD k kS.z = vals.getD k [] from rfl, hv] at h
              exact h
            have hcape := HPa.out.cap
            have hT := HTk.out
            rw [valP_drop (by rw [HVl.out]; exact hks), hv] at hT
            have hvs : v.length ≤ maxLen := HSm.out v (by rw [← hv, List.getD_eq_getElem?_getD, List.getElem?_eq_getElem (by rw [HVl.out]; exact hks)]; exact List.getElem_mem _)
            have hr := MapF.look_ok (HMF.out.keep (HCk.out.block _ HMl.out HNe.out)) keyN Try.underlying47 (zeroI wz) (key := .string (nmS v)) (keyOf_n v hvs)
            rw [strF_n] at hr
            cases hby : byN (cls A) v with
            | none =>
              rw [hby] at hr hT
              have HTn : Hid (T = none) := hT.symm
              simp only [Option.map_none, Option.getD_none, Option.isSome_none] at hr
              clear hby hT hvs hv hce hbe
              generalize nmS v = vt2 at *
              go_wp2_with fail
              go_ret
              exact ⟨Or.inr ⟨HTn.out, rfl⟩, HBz.out⟩
            | some a =>
              rw [hby] at hr hT
              obtain ⟨j, hj, hjl, -, -⟩ := byN_some hby
              have hjm : j < m := by rw [cls_len, HL.out] at hjl; exact hjl
              have HPu := hid (put_any HSk.out (by unfold maxLen; omega) a (k : Int) ⟨by omega, by omega⟩ ⟨by omega, by omega⟩)
              simp only [Option.map_some, Option.getD_some, Option.isSome_some] at hr hT
              cases hpt : (put sk a (k : Int)).1 with
              | false =>
                have HTn : Hid (T = none) := hT.symm.trans (hear_no hpt)
                rw [hpt] at HPu
                clear hby hT hvs hv hce hbe hj hjl hjm hpt
                generalize nmS v = vt2 at *
                go_wp2_with (go_at_call 33; (with_reducible_and_instances (refine HPu.out.mono ?_)); rintro e w3 ⟨rfl, hs3, hc3⟩; have HC3 := hid (HCk.out.trans hc3 (fun k hk => Or.inl hk)); clear hs3 hc3)
                go_ret
                exact ⟨Or.inr ⟨HTn.out, rfl⟩, (chg_low HB.out HB1.out HC3.out HM1.out HM2.out)⟩
              | true =>
                have HTn : Hid (hearS (valP (cls A) (k + 1) (vals.drop (k + 1)) ++ allPr (cls A) (i + 1) ((cls A).drop (i + 1))) (put sk a (k : Int)).2 = T) := (hear_yes hpt).symm.trans hT
                rw [hpt] at HPu
                clear hby hT hvs hv hce hbe hj hjl hjm hpt
                generalize nmS v = vt2 at *
                go_wp2_with (go_at_call 33; (with_reducible_and_instances (refine HPu.out.mono ?_)); rintro e w3 ⟨rfl, hs3, hc3⟩; have HS3 := hid hs3; have HC3 := hid (HCk.out.trans hc3 (fun k hk => Or.inl hk)); clear hs3 hc3)
                exact ⟨⟨k + 1, _, by omega, by go_num, HS3, HTn, HC3⟩, by simp [intOf]; omega⟩
          · obtain rfl : sm = k := by omega
            have hT := HTk.out
            rw [show vals.drop sm = [] from List.drop_of_length_le (by rw [HVl.out]; exact Nat.le_refl _)] at hT
            have HTn : Hid (hearS (allPr (cls A) (i + 1) ((cls A).drop (i + 1))) sk = T) := hT
            clear hT
            go_wp2_with fail
            exact ⟨⟨i + 1, sk, by omega, by go_num, HSk.out.mono (by omega), HTn, HCk⟩, by simp [intOf]; omega⟩
      | true =>
        cases rd with
        | true =>
          have HTb : Hid (hearS (valP (cls A) 0 (vals.drop 0) ++ allPr (cls A) (i + 1) ((cls A).drop (i + 1))) si = T) := HTt.out
          go_wp2_with fail
          go_loopw [43] (fun kv wz => ∃ (k : Nat) (sk : Sd), k ≤ sm ∧ kv = .int .i64 (k : Int) ∧ Hid (SP wz g M1 M2 (n + i * 1001 + 1 + k) sk) ∧ Hid (hearS (valP (cls A) k (vals.drop k) ++ allPr (cls A) (i + 1) ((cls A).drop (i + 1))) sk = T) ∧ Hid (Chg [M1, M2] w1 wz)) (fun kv _ => sm - (intOf kv).toNat)
          case atStart => exact ⟨0, _, by omega, rfl, HSa.out.mono (by omega), HTb, HCa⟩
          case round =>
            obtain ⟨k, sk, hk, rfl, HSk, HTk, HCk⟩ := hrel
            obtain ⟨wz, rfl⟩ : ∃ q, q = wr := ⟨wr, rfl⟩
            have HBz : Hid (Below w0.heap.size w wz) := chg_low HB.out HB1.out HCk.out HM1.out HM2.out
            by_cases hks : k < sm
            · obtain ⟨be, oe, rfl, hbe, hce⟩ := (HPa.out.later (HB.out.trans HBz.out)).cells (by omega)
              obtain ⟨v, hv⟩ : ∃ v, vals.getD k [] = v := ⟨_, rfl⟩
              have q0 : wz.cell? ⟨be, oe + k, none⟩ = some (.string (nmS v)) := by
                have h := hce k hks 0 (by decide)
                rw [Nat.mul_one, Nat.add_zero, show vals.getD k kS.z = vals.getD k [] from rfl, hv] at h
                exact h
              have hcape := HPa.out.cap
              have hT := HTk.out
              rw [valP_drop (by rw [HVl.out]; exact hks), hv] at hT
              have hvs : v.length ≤ maxLen := HSm.out v (by rw [← hv, List.getD_eq_getElem?_getD, List.getElem?_eq_getElem (by rw [HVl.out]; exact hks)]; exact List.getElem_mem _)
              have hr := MapF.look_ok (HMF.out.keep (HCk.out.block _ HMl.out HNe.out)) keyN Try.underlying47 (zeroI wz) (key := .string (nmS v)) (keyOf_n v hvs)
              rw [strF_n] at hr
              cases hby : byN (cls A) v with
              | none =>
                rw [hby] at hr hT
                have HTn : Hid (T = none) := hT.symm
                simp only [Option.map_none, Option.getD_none, Option.isSome_none] at hr
                clear hby hT hvs hv hce hbe
                generalize nmS v = vt2 at *
                go_wp2_with fail
                go_ret
                exact ⟨Or.inr ⟨HTn.out, rfl⟩, HBz.out⟩
              | some a =>
                rw [hby] at hr hT
                obtain ⟨j, hj, hjl, -, -⟩ := byN_some hby
                have hjm : j < m := by rw [cls_len, HL.out] at hjl; exact hjl
                have HPu := hid (put_any HSk.out (by unfold maxLen; omega) a (k : Int) ⟨by omega, by omega⟩ ⟨by omega, by omega⟩)
                simp only [Option.map_some, Option.getD_some, Option.isSome_some] at hr hT
                cases hpt : (put sk a (k : Int)).1 with
                | false =>
                  have HTn : Hid (T = none) := hT.symm.trans (hear_no hpt)
                  rw [hpt] at HPu
                  clear hby hT hvs hv hce hbe hj hjl hjm hpt
                  generalize nmS v = vt2 at *
                  go_wp2_with (go_at_call 33; (with_reducible_and_instances (refine HPu.out.mono ?_)); rintro e w3 ⟨rfl, hs3, hc3⟩; have HC3 := hid (HCk.out.trans hc3 (fun k hk => Or.inl hk)); clear hs3 hc3)
                  go_ret
                  exact ⟨Or.inr ⟨HTn.out, rfl⟩, (chg_low HB.out HB1.out HC3.out HM1.out HM2.out)⟩
                | true =>
                  have HTn : Hid (hearS (valP (cls A) (k + 1) (vals.drop (k + 1)) ++ allPr (cls A) (i + 1) ((cls A).drop (i + 1))) (put sk a (k : Int)).2 = T) := (hear_yes hpt).symm.trans hT
                  rw [hpt] at HPu
                  clear hby hT hvs hv hce hbe hj hjl hjm hpt
                  generalize nmS v = vt2 at *
                  go_wp2_with (go_at_call 33; (with_reducible_and_instances (refine HPu.out.mono ?_)); rintro e w3 ⟨rfl, hs3, hc3⟩; have HS3 := hid hs3; have HC3 := hid (HCk.out.trans hc3 (fun k hk => Or.inl hk)); clear hs3 hc3)
                  exact ⟨⟨k + 1, _, by omega, by go_num, HS3, HTn, HC3⟩, by simp [intOf]; omega⟩
            · obtain rfl : sm = k := by omega
              have hT := HTk.out
              rw [show vals.drop sm = [] from List.drop_of_length_le (by rw [HVl.out]; exact Nat.le_refl _)] at hT
              have HTn : Hid (hearS (allPr (cls A) (i + 1) ((cls A).drop (i + 1))) sk = T) := hT
              clear hT
              go_wp2_with fail
              exact ⟨⟨i + 1, sk, by omega, by go_num, HSk.out.mono (by omega), HTn, HCk⟩, by simp [intOf]; omega⟩
        | false =>
          have HPu := hid (put_any HSa.out (by unfold maxLen; omega) (i : Int) o ⟨by omega, by omega⟩ ⟨by omega, by omega⟩)
          have hT2 : hearS (some ((i : Int), o) :: (valP (cls A) 0 (vals.drop 0) ++ allPr (cls A) (i + 1) ((cls A).drop (i + 1)))) si = T := HTt.out
          cases hpt : (put si (i : Int) o).1 with
          | false =>
            have HTn : Hid (T = none) := hT2.symm.trans (hear_no hpt)
            rw [hpt] at HPu
            clear hpt hT2
            go_wp2_with (go_at_call 33; (with_reducible_and_instances (refine HPu.out.mono ?_)); rintro e w3 ⟨rfl, hs3, hc3⟩; have HC3 := hid (HCa.out.trans hc3 (fun k hk => Or.inl hk)); clear hs3 hc3)
            go_ret
            exact ⟨Or.inr ⟨HTn.out, rfl⟩, (chg_low HB.out HB1.out HC3.out HM1.out HM2.out)⟩
          | true =>
            have HTb : Hid (hearS (valP (cls A) 0 (vals.drop 0) ++ allPr (cls A) (i + 1) ((cls A).drop (i + 1))) (put si (i : Int) o).2 = T) := (hear_yes hpt).symm.trans hT2
            rw [hpt] at HPu
            clear hpt hT2
            go_wp2_with (go_at_call 33; (with_reducible_and_instances (refine HPu.out.mono ?_)); rintro e w3 ⟨rfl, hs3, hc3⟩; have HS3 := hid hs3; have HC3 := hid (HCa.out.trans hc3 (fun k hk => Or.inl hk)); have HX3 := hid (hxb.chg hc3 HXn.out); have x6 : w3.cell? ⟨wr.heap.size, 6, none⟩ = some (.slice sa sm sc) := HX3.out.cell 6; clear hs3 hc3)
            go_loopw [43] (fun kv wz => ∃ (k : Nat) (sk : Sd), k ≤ sm ∧ kv = .int .i64 (k : Int) ∧ Hid (SP wz g M1 M2 (n + i * 1001 + 1 + k) sk) ∧ Hid (hearS (valP (cls A) k (vals.drop k) ++ allPr (cls A) (i + 1) ((cls A).drop (i + 1))) sk = T) ∧ Hid (Chg [M1, M2] w1 wz)) (fun kv _ => sm - (intOf kv).toNat)
            case atStart => exact ⟨0, _, by omega, rfl, HS3, HTb, HC3⟩
            case round =>
              obtain ⟨k, sk, hk, rfl, HSk, HTk, HCk⟩ := hrel
              obtain ⟨wz, rfl⟩ : ∃ q, q = wr := ⟨wr, rfl⟩
              have HBz : Hid (Below w0.heap.size w wz) := chg_low HB.out HB1.out HCk.out HM1.out HM2.out
              by_cases hks : k < sm
              · obtain ⟨be, oe, rfl, hbe, hce⟩ := (HPa.out.later (HB.out.trans HBz.out)).cells (by omega)
                obtain ⟨v, hv⟩ : ∃ v, vals.getD k [] = v := ⟨_, rfl⟩
                have q0 : wz.cell? ⟨be, oe + k, none⟩ = some (.string (nmS v)) := by
                  have h := hce k hks 0 (by decide)
                  rw [Nat.mul_one, Nat.add_zero, show vals.getD k kS.z = vals.getD k [] from rfl, hv] at h
                  exact h
                have hcape := HPa.out.cap
                have hT := HTk.out
                rw [valP_drop (by rw [HVl.out]; exact hks), hv] at hT
                have hvs : v.length ≤ maxLen := HSm.out v (by rw [← hv, List.getD_eq_getElem?_getD, List.getElem?_eq_getElem (by rw [HVl.out]; exact hks)]; exact List.getElem_mem _)
                have hr := MapF.look_ok (HMF.out.keep (HCk.out.block _ HMl.out HNe.out)) keyN Try.underlying47 (zeroI wz) (key := .string (nmS v)) (keyOf_n v hvs)
                rw [strF_n] at hr
                cases hby : byN (cls A) v with
                | none =>
                  rw [hby] at hr hT
                  have HTn : Hid (T = none) := hT.symm
                  simp only [Option.map_none, Option.getD_none, Option.isSome_none] at hr
                  clear hby hT hvs hv hce hbe
                  generalize nmS v = vt2 at *
                  go_wp2_with fail
                  go_ret
                  exact ⟨Or.inr ⟨HTn.out, rfl⟩, HBz.out⟩
                | some a =>
                  rw [hby] at hr hT
                  obtain ⟨j, hj, hjl, -, -⟩ := byN_some hby
                  have hjm : j < m := by rw [cls_len, HL.out] at hjl; exact hjl
                  have HPu := hid (put_any HSk.out (by unfold maxLen; omega) a (k : Int) ⟨by omega, by omega⟩ ⟨by omega, by omega⟩)
                  simp only [Option.map_some, Option.getD_some, Option.isSome_some] at hr hT
                  cases hpt : (put sk a (k : Int)).1 with
                  | false =>
                    have HTn : Hid (T = none) := hT.symm.trans (hear_no hpt)
                    rw [hpt] at HPu
                    clear hby hT hvs hv hce hbe hj hjl hjm hpt
                    generalize nmS v = vt2 at *
                    go_wp2_with (go_at_call 33; (with_reducible_and_instances (refine HPu.out.mono ?_)); rintro e w3 ⟨rfl, hs3, hc3⟩; have HC3 := hid (HCk.out.trans hc3 (fun k hk => Or.inl hk)); clear hs3 hc3)
                    go_ret
                    exact ⟨Or.inr ⟨HTn.out, rfl⟩, (chg_low HB.out HB1.out HC3.out HM1.out HM2.out)⟩
                  | true =>
                    have HTn : Hid (hearS (valP (cls A) (k + 1) (vals.drop (k + 1)) ++ allPr (cls A) (i + 1) ((cls A).drop (i + 1))) (put sk a (k : Int)).2 = T) := (hear_yes hpt).symm.trans hT
                    rw [hpt] at HPu
                    clear hby hT hvs hv hce hbe hj hjl hjm hpt
                    generalize nmS v = vt2 at *
                    go_wp2_with (go_at_call 33; (with_reducible_and_instances (refine HPu.out.mono ?_)); rintro e w3 ⟨rfl, hs3, hc3⟩; have HS3 := hid hs3; have HC3 := hid (HCk.out.trans hc3 (fun k hk => Or.inl hk)); clear hs3 hc3)
                    exact ⟨⟨k + 1, _, by omega, by go_num, HS3, HTn, HC3⟩, by simp [intOf]; omega⟩
              · obtain rfl : sm = k := by omega
                have hT := HTk.out
                rw [show vals.drop sm = [] from List.drop_of_length_le (by rw [HVl.out]; exact Nat.le_refl _)] at hT
                have HTn : Hid (hearS (allPr (cls A) (i + 1) ((cls A).drop (i + 1))) sk = T) := hT
                clear hT
                go_wp2_with fail
                exact ⟨⟨i + 1, sk, by omega, by go_num, HSk.out.mono (by omega), HTn, HCk⟩, by simp [intOf]; omega⟩
    · obtain rfl : m = i := by omega
      have hE : (cls A).drop m = [] := List.drop_of_length_le (by rw [cls_len, HL.out]; exact Nat.le_refl _)
      have hT := HT.out
      rw [hE] at hT
      have HTe : Hid (T = some si) := hT.symm
      clear hE hT
      go_wp2_with fail
      go_ret
      exact ⟨Or.inl ⟨si, HTe.out, rfl, HS.out⟩, HBr.out⟩
end Go.Proofs.Ytpjemifoilbjeaa
