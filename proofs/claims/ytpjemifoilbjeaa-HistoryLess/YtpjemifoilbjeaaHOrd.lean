/- order: the calls that stand and those that are done, in their order. -/
import Derived.Test.YtpjemifoilbjeaaHOrd1
import Derived.Test.YtpjemifoilbjeaaHHear
namespace Go.Proofs.Ytpjemifoilbjeaa
open Go.RowKit Go.Sort Go.Lib Hy
variable {w w' w0 W : World} {g M1 M2 n base : Nat} {s : Sd} {A : List HcA} {ad : Option Addr} {m c : Nat} {v : Value}

theorem sortSt_own {l : List Stp} (hO : OwnK kSt w base v l) (hlm : l.length ≤ 100000) :
    Calls Try.prog 38 #[v, .func (.func 39) #[] #[]] w fun e w' => e = .returned (.tuple #[]) ∧ ∃ l' : List Stp, l'.Perm l ∧ l'.Pairwise (fun x y => ¬ ltSt y x) ∧ OwnK kSt w' base v l' ∧ w.grownBy w' v.ownBlock := by
  by_cases h0 : l = []
  · subst h0
    obtain ⟨a, cap, rfl, -⟩ := hO.form kSt_ok.tofit
    refine (show Calls Try.prog 38 #[.slice a ([] : List Stp).length cap, _] w _ from AnyF.slices_SortFunc_none Try.sortSteps a cap _ w).mono ?_
    rintro e w' ⟨rfl, rfl⟩
    exact ⟨rfl, [], List.Perm.refl _, List.Pairwise.nil, hO, World.grownBy.refl _ _⟩
  · rcases hO.2 with ⟨rfl, hz⟩ | ⟨g, cap, cur, rfl, hb, hg, hn, hcap, hs, ht⟩
    · exact absurd (List.eq_nil_of_length_eq_zero hz) h0
    · have hgs : g < w.heap.size := (Array.getElem?_eq_some_iff.1 hg).1
      have hH : HoldsK kSt.V 3 w g 0 l.toArray := own_holds kSt_ok.tofit hO _ (flat_Vs kSt_ok.tofit l.toArray)
      have hcmp : CmpLays Try.prog 39 #[] kSt.V 3 cmpSt g 0 l.toArray.size w := fun mm os dk _ x y => order1_any x y _
      have eg : ∀ args w, (callFunc 39 args).run Try.prog w = .ok (.enter 39 args) w := enters_of Try.func39 (by kernel_rfl) rfl
      have hcon := AnyQ.slices_SortFunc Try.sortSteps 3 Try.isAgg75 Try.sizeOf75 kSt.V (fun _ => rfl) (fun x v hv => kSt_ok.one x v hv) cmpSt swoSt 39 #[] g 0 cap l.toArray w eg hcmp hH hgs (by rw [List.size_toArray]; omega)
      rw [List.size_toArray] at hcon
      refine (show Calls Try.prog 38 #[.slice (some ⟨g, 0, none⟩) l.length cap, _] w _ from hcon).mono ?_
      rintro e w' ⟨rfl, d', n, os, hp, hso, rfl⟩
      rw [show l.length = l.toArray.size by simp] at hp hso
      obtain ⟨hs1, hperm⟩ := perm_of hp
      have hsor := sorted_of (d' := d') (n := l.toArray.size) hs1 hso
      obtain ⟨r1, r2⟩ := own_put kSt_ok.tofit hO _ (flat_Vs kSt_ok.tofit d') (by rw [hperm.length_eq]) n os
      refine ⟨rfl, d'.toList, by simpa using hperm, hsor.imp (fun {x y} h => (cmpSt_nlt y x).1 h), r1, r2⟩
theorem stepsN_snoc (s : Sd) : ∀ (l : List Hc) (n : Nat) (x : Hc), stepsN s n (l ++ [x]) = stepsN s n l ++ stepN s (n + l.length) x
  | [], n, x => by
    show stepN s n x ++ [] = [] ++ stepN s (n + 0) x
    simp
  | y :: l, n, x => by
    show stepN s n y ++ stepsN s (n + 1) (l ++ [x]) = (stepN s n y ++ stepsN s (n + 1) l) ++ _
    rw [stepsN_snoc s l (n + 1) x, List.length_cons, show n + 1 + l.length = n + (l.length + 1) by omega, List.append_assoc]
theorem stepN_len (s : Sd) (n : Nat) (x : Hc) : (stepN s n x).length ≤ 1 := by
  unfold stepN
  split
  · simp
  · split <;> simp
theorem stepsN_len (s : Sd) : ∀ (l : List Hc) (n : Nat), (stepsN s n l).length ≤ l.length
  | [], _ => Nat.le_refl _
  | y :: l, n => by
    have h1 := stepN_len s n y
    have h2 := stepsN_len s l (n + 1)
    show (stepN s n y ++ stepsN s (n + 1) l).length ≤ _
    rw [List.length_append, List.length_cons]
    omega
theorem st_row (Y : World) (x : Stp) : RowK kSt (Y.alloc (.cells #[.int .i64 x.1, .int .i64 x.2.1, .int .i64 x.2.2] 75)) (some ⟨Y.heap.size, 0, none⟩) [x] := by
  refine Or.inr ⟨_, 0, rfl, by simp, fun i hi c hc => ?_⟩
  obtain rfl : i = 0 := by simp at hi; omega
  have hb : Blk (Y.alloc (.cells #[.int .i64 x.1, .int .i64 x.2.1, .int .i64 x.2.2] 75)) Y.heap.size _ _ := heap_alloc_new Y _
  have : kSt.sz = 3 := rfl
  rcases (show c = 0 ∨ c = 1 ∨ c = 2 by omega) with rfl | rfl | rfl
  · exact hb.cell 0
  · exact hb.cell 1
  · exact hb.cell 2
set_option maxRecDepth 20000 in
set_option maxHeartbeats 4000000 in
theorem order_any (hA : HV kC w0 A ad m c) (hb : Below w0.heap.size w0 w) (h : SP w g M1 M2 n s) (hm : m ≤ 1000) (hp : ∀ c p, s.2 c = some p → 0 ≤ p ∧ p ≤ 100000) (hen : ∀ x ∈ cls A, x.may = true) :
    Calls Try.prog 25 #[.pointer (some ⟨g, 0, none⟩), .slice ad m c] w fun e w' => ∃ (v : Value) (st : List Stp), e = .returned v ∧ st.Perm (stepsN s 0 (cls A)) ∧ st.Pairwise (fun x y => ¬ ltSt y x) ∧ OwnK kSt w' w.heap.size v st ∧ Below w.heap.size w w' := by
  have hl := hA.row.len
  have HA := hid hA
  have HB := hid hb
  have HL := hid hl
  have HS := hid h
  have HPb := hid hp
  have HMy : Hid (∀ i, i < m → (A.getD i hz0).1.may = true) := fun i hi => by rw [← ca_cls]; exact hen _ (ca_mem (by rw [cls_len, hl]; exact hi))
  clear hA hb hl h hp hen
  go_enter Try.func25, Try.ntmps25
  go_wp2_with fail
  go_loopw [12, 5] (fun iv nv wr => ∃ (i : Nat), i ≤ m ∧ iv = .int .i64 (i : Int) ∧ Hid (OwnK kSt wr w.heap.size nv (stepsN s 0 ((cls A).take i))) ∧ Hid (Below w.heap.size w wr)) (fun iv _ _ => m - (intOf iv).toNat)
  case atStart => exact ⟨0, by omega, rfl, OwnK.nil _ _, Below.refl _ _⟩
  case round =>
    obtain ⟨i, hi, rfl, HO, HBi⟩ := hrel
    obtain ⟨U, hU⟩ : ∃ U, stepsN s 0 ((cls A).take i) = U := ⟨_, rfl⟩
    rw [hU] at HO
    obtain ⟨va, vc, hv, -⟩ := HO.out.form kSt_ok.tofit
    subst hv
    by_cases hlt : i < m
    · obtain ⟨b, off, rfl, hb, c0, c1, c2, c3, c4, c5, c6⟩ := (HA.out.later (HB.out.trans (HBi.out.mono HB.out.size))).at hlt
      have hcap := HA.out.row.cap
      have hvl := (HA.out.part i hlt).len
      have HT := hid (cls_take (A := A) (i := i) (by rw [HL.out]; exact hlt))
      have HTl : Hid (((cls A).take i).length = i) := by show _ = _; rw [List.length_take, cls_len, HL.out]; omega
      have hul : U.length ≤ i := by
        have := stepsN_len s ((cls A).take i) 0
        rw [hU, HTl.out] at this
        exact this
      have hvs := (may_vals (show (A.getD i hz0).1.may = true from HMy.out i hlt)).2.2.2.2.2.2
      obtain ⟨x, hx⟩ : ∃ x, (A.getD i hz0) = x := ⟨_, rfl⟩
      rw [hx] at c0 c1 c2 c3 c4 c5 c6 HT hvl hvs
      obtain ⟨⟨rd, dn, bg, en, o, val, vals⟩, sa, sm, sc⟩ := x
      dsimp only at c0 c1 c2 c3 c4 c5 c6 hvl hvs
      have hs1 : sm ≤ 1000 := by omega
      clear hx hvs
      have HU : Hid (stepsN s 0 ((cls A).take (i + 1)) = U ++ stepN s (i : Nat) ⟨rd, dn, bg, en, o, val, vals⟩) := by
        show _ = _
        rw [HT.out, stepsN_snoc, HTl.out, Nat.zero_add, hU]
      have hba : Below wr.heap.size wr (wr.alloc (.cells #[.bool rd, .bool dn, .int .i64 bg, .int .i64 en, .int .i64 o, .string (nmS val), .slice sa sm sc] 34)) := (Below.refl _ _).alloc (Nat.le_refl _) _
      have HOa := hid (HO.out.later hba)
      have HBa := hid (HBi.out.trans (hba.mono HBi.out.size))
      have hSa := (HS.out.later HBi.out).later hba
      have hr := MapF.look_ok hSa.by2 keyI Try.underlying51 (zeroI _) (key := .int .i64 (i : Int)) (keyOf_z (by omega) (by omega))
      rw [intF_z] at hr
      have x1 : (wr.alloc (.cells #[.bool rd, .bool dn, .int .i64 bg, .int .i64 en, .int .i64 o, .string (nmS val), .slice sa sm sc] 34)).cell? ⟨g, 1, none⟩ = some (.map (some M2)) := hSa.box.cell 1
      generalize nmS val = vt at *
      clear hba hSa hU
      cases hpl : s.2 (i : Int) with
      | some p =>
        obtain ⟨hp0, hp1⟩ := HPb.out _ _ hpl
        rw [hpl] at hr
        simp only [Option.map_some, Option.getD_some, Option.isSome_some] at hr
        have HSt : Hid (stepN s (i : Nat) ⟨rd, dn, bg, en, o, val, vals⟩ = [(2 * p + 1, bg, if dn then en else never)]) := by show _ = _; unfold stepN; rw [hpl]
        rw [HSt.out] at HU
        clear hpl HSt
        cases dn with
        | true =>
          have HU' : Hid (stepsN s 0 ((cls A).take (i + 1)) = U ++ [((2 * p + 1, bg, en) : Stp)]) := by show _ = _; rw [HU.out]; rfl
          have HRw := hid (st_row (wr.alloc (.cells #[.bool rd, .bool true, .int .i64 bg, .int .i64 en, .int .i64 o, .string vt, .slice sa sm sc] 34)) (2 * p + 1, bg, en))
          have hbb : Below (wr.alloc (.cells #[.bool rd, .bool true, .int .i64 bg, .int .i64 en, .int .i64 o, .string vt, .slice sa sm sc] 34)).heap.size (wr.alloc (.cells #[.bool rd, .bool true, .int .i64 bg, .int .i64 en, .int .i64 o, .string vt, .slice sa sm sc] 34)) ((wr.alloc (.cells #[.bool rd, .bool true, .int .i64 bg, .int .i64 en, .int .i64 o, .string vt, .slice sa sm sc] 34)).alloc (.cells #[.int .i64 (2 * p + 1), .int .i64 bg, .int .i64 (en)] 75)) := (Below.refl _ _).alloc (Nat.le_refl _) _
          have HOb := hid (HOa.out.later hbb)
          have HBb := hid (HBa.out.trans (hbb.mono HBa.out.size))
          have hz1 : U.length + 1 ≤ maxLen := by unfold maxLen; omega
          have hz2 : (U.length + 1) * 24 ≤ 140737488355328 := by omega
          have hz3 : w.heap.size ≤ ((wr.alloc (.cells #[.bool rd, .bool true, .int .i64 bg, .int .i64 en, .int .i64 o, .string vt, .slice sa sm sc] 34)).alloc (.cells #[.int .i64 (2 * p + 1), .int .i64 bg, .int .i64 (en)] 75)).heap.size := Nat.le_trans HBa.out.size hbb.size
          have HZ3 := hid hz3
          clear hbb
          go_wp2_with (at_builtin; (refine app_kd kSt_ok rfl _ _ rfl w.heap.size (.slice va U.length vc) U ?_ ?_ (some ⟨(wr.alloc (.cells #[.bool rd, .bool true, .int .i64 bg, .int .i64 en, .int .i64 o, .string vt, .slice sa sm sc] 34)).heap.size, 0, none⟩) 1 1 [(2 * p + 1, bg, en)] ?_ ?_ ?_ ?_ hz1 hz2 hz3 ?_); exact rfl; exact HOb.out; (show Value.slice (some ⟨wr.heap.size + 1, 0, none⟩) 1 1 = _; rw [World.size_alloc]); rfl; (intro e; cases e); exact HRw.out; intro v7 w7 hO7 hG7; have HO7 := hid hO7; have HB7 := hid (HBb.out.grown hG7 HZ3.out (fun g hg => (HOb.out.block g hg).1)); clear hO7 hG7)
          exact ⟨⟨i + 1, by omega, by go_num, by rw [HU'.out]; exact HO7, HB7⟩, by simp [intOf]; omega⟩
        | false =>
          have HU' : Hid (stepsN s 0 ((cls A).take (i + 1)) = U ++ [((2 * p + 1, bg, 9223372036854775807) : Stp)]) := by show _ = _; rw [HU.out]; rfl
          have HRw := hid (st_row (wr.alloc (.cells #[.bool rd, .bool false, .int .i64 bg, .int .i64 en, .int .i64 o, .string vt, .slice sa sm sc] 34)) (2 * p + 1, bg, 9223372036854775807))
          have hbb : Below (wr.alloc (.cells #[.bool rd, .bool false, .int .i64 bg, .int .i64 en, .int .i64 o, .string vt, .slice sa sm sc] 34)).heap.size (wr.alloc (.cells #[.bool rd, .bool false, .int .i64 bg, .int .i64 en, .int .i64 o, .string vt, .slice sa sm sc] 34)) ((wr.alloc (.cells #[.bool rd, .bool false, .int .i64 bg, .int .i64 en, .int .i64 o, .string vt, .slice sa sm sc] 34)).alloc (.cells #[.int .i64 (2 * p + 1), .int .i64 bg, .int .i64 (9223372036854775807)] 75)) := (Below.refl _ _).alloc (Nat.le_refl _) _
          have HOb := hid (HOa.out.later hbb)
          have HBb := hid (HBa.out.trans (hbb.mono HBa.out.size))
          have hz1 : U.length + 1 ≤ maxLen := by unfold maxLen; omega
          have hz2 : (U.length + 1) * 24 ≤ 140737488355328 := by omega
          have hz3 : w.heap.size ≤ ((wr.alloc (.cells #[.bool rd, .bool false, .int .i64 bg, .int .i64 en, .int .i64 o, .string vt, .slice sa sm sc] 34)).alloc (.cells #[.int .i64 (2 * p + 1), .int .i64 bg, .int .i64 (9223372036854775807)] 75)).heap.size := Nat.le_trans HBa.out.size hbb.size
          have HZ3 := hid hz3
          clear hbb
          go_wp2_with (at_builtin; (refine app_kd kSt_ok rfl _ _ rfl w.heap.size (.slice va U.length vc) U ?_ ?_ (some ⟨(wr.alloc (.cells #[.bool rd, .bool false, .int .i64 bg, .int .i64 en, .int .i64 o, .string vt, .slice sa sm sc] 34)).heap.size, 0, none⟩) 1 1 [(2 * p + 1, bg, 9223372036854775807)] ?_ ?_ ?_ ?_ hz1 hz2 hz3 ?_); exact rfl; exact HOb.out; (show Value.slice (some ⟨wr.heap.size + 1, 0, none⟩) 1 1 = _; rw [World.size_alloc]); rfl; (intro e; cases e); exact HRw.out; intro v7 w7 hO7 hG7; have HO7 := hid hO7; have HB7 := hid (HBb.out.grown hG7 HZ3.out (fun g hg => (HOb.out.block g hg).1)); clear hO7 hG7)
          exact ⟨⟨i + 1, by omega, by go_num, by rw [HU'.out]; exact HO7, HB7⟩, by simp [intOf]; omega⟩
      | none =>
        rw [hpl] at hr
        simp only [Option.map_none, Option.getD_none, Option.isSome_none] at hr
        have HSt : Hid (stepN s (i : Nat) ⟨rd, dn, bg, en, o, val, vals⟩ = if dn then [(2 * (vals.length : Int), bg, en)] else []) := by show _ = _; unfold stepN; rw [hpl]
        rw [HSt.out, hvl] at HU
        clear hpl HSt
        cases dn with
        | true =>
          have HU' : Hid (stepsN s 0 ((cls A).take (i + 1)) = U ++ [((2 * (sm : Int), bg, en) : Stp)]) := by show _ = _; rw [HU.out]; rfl
          have HRw := hid (st_row (wr.alloc (.cells #[.bool rd, .bool true, .int .i64 bg, .int .i64 en, .int .i64 o, .string vt, .slice sa sm sc] 34)) (2 * (sm : Int), bg, en))
          have hbb : Below (wr.alloc (.cells #[.bool rd, .bool true, .int .i64 bg, .int .i64 en, .int .i64 o, .string vt, .slice sa sm sc] 34)).heap.size (wr.alloc (.cells #[.bool rd, .bool true, .int .i64 bg, .int .i64 en, .int .i64 o, .string vt, .slice sa sm sc] 34)) ((wr.alloc (.cells #[.bool rd, .bool true, .int .i64 bg, .int .i64 en, .int .i64 o, .string vt, .slice sa sm sc] 34)).alloc (.cells #[.int .i64 (2 * (sm : Int)), .int .i64 bg, .int .i64 (en)] 75)) := (Below.refl _ _).alloc (Nat.le_refl _) _
          have HOb := hid (HOa.out.later hbb)
          have HBb := hid (HBa.out.trans (hbb.mono HBa.out.size))
          have hz1 : U.length + 1 ≤ maxLen := by unfold maxLen; omega
          have hz2 : (U.length + 1) * 24 ≤ 140737488355328 := by omega
          have hz3 : w.heap.size ≤ ((wr.alloc (.cells #[.bool rd, .bool true, .int .i64 bg, .int .i64 en, .int .i64 o, .string vt, .slice sa sm sc] 34)).alloc (.cells #[.int .i64 (2 * (sm : Int)), .int .i64 bg, .int .i64 (en)] 75)).heap.size := Nat.le_trans HBa.out.size hbb.size
          have HZ3 := hid hz3
          clear hbb
          go_wp2_with (at_builtin; (refine app_kd kSt_ok rfl _ _ rfl w.heap.size (.slice va U.length vc) U ?_ ?_ (some ⟨(wr.alloc (.cells #[.bool rd, .bool true, .int .i64 bg, .int .i64 en, .int .i64 o, .string vt, .slice sa sm sc] 34)).heap.size, 0, none⟩) 1 1 [(2 * (sm : Int), bg, en)] ?_ ?_ ?_ ?_ hz1 hz2 hz3 ?_); exact rfl; exact HOb.out; (show Value.slice (some ⟨wr.heap.size + 1, 0, none⟩) 1 1 = _; rw [World.size_alloc]); rfl; (intro e; cases e); exact HRw.out; intro v7 w7 hO7 hG7; have HO7 := hid hO7; have HB7 := hid (HBb.out.grown hG7 HZ3.out (fun g hg => (HOb.out.block g hg).1)); clear hO7 hG7)
          exact ⟨⟨i + 1, by omega, by go_num, by rw [HU'.out]; exact HO7, HB7⟩, by simp [intOf]; omega⟩
        | false =>
          have HU' : Hid (stepsN s 0 ((cls A).take (i + 1)) = U) := by show _ = _; rw [HU.out]; simp
          go_wp2_with fail
          exact ⟨⟨i + 1, by omega, by go_num, by rw [HU'.out]; exact HOa, HBa⟩, by simp [intOf]; omega⟩
    · obtain rfl : m = i := by omega
      have HE : Hid ((cls A).take m = cls A) := List.take_of_length_le (by rw [cls_len, HL.out]; exact Nat.le_refl _)
      rw [HE.out] at hU
      have hul : U.length ≤ 100000 := by
        have := stepsN_len s (cls A) 0
        rw [hU, cls_len, HL.out] at this
        omega
      have HSr := hid (sortSt_own HO.out hul)
      have HUu := hid hU
      clear hul hU
      go_wp2_with (go_at_call 38; (with_reducible_and_instances (refine HSr.out.mono ?_)); rintro e w8 ⟨rfl, l', hp, hs, hO8, hg8⟩; have HP := hid hp; have HSo := hid hs; have HO8 := hid hO8; have HB8 := hid (HBi.out.grown hg8 HBi.out.size (fun g hg => (HO.out.block g hg).1)); clear hp hs hO8 hg8)
      go_ret
      exact ⟨_, l', rfl, by rw [HUu.out]; exact HP.out, HSo.out, HO8.out, HB8.out⟩
end Go.Proofs.Ytpjemifoilbjeaa
