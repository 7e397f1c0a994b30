/- undone: the appends that are not done, by their Begin. -/
import Derived.Test.YtpjemifoilbjeaaHSortM
import Derived.Test.YtpjemifoilbjeaaHRight
import Derived.BigQuiet
namespace Go.Proofs.Ytpjemifoilbjeaa
open Go.RowKit Go.Sort Go.Lib Hy
variable {w w' W : World} {A : List HcA} {ad : Option Addr} {m c base : Nat} {v : Value}

set_option maxRecDepth 20000 in
set_option maxHeartbeats 4000000 in
theorem und1_any {b off bl i j : Nat} {x y : Int} (hi : i < m) (hj : j < m) (hx : W.cell? ⟨bl, 0, none⟩ = some (.slice (some ⟨b, off, none⟩) m c)) (h1 : W.cell? ⟨b, off + i * 7 + 2, none⟩ = some (.int .i64 x)) (h2 : W.cell? ⟨b, off + j * 7 + 2, none⟩ = some (.int .i64 y)) :
    Calls Try.prog 43 #[.int .i64 (i : Int), .int .i64 (j : Int), .pointer (some ⟨bl, 0, none⟩)] W fun e w' => e = .returned (.int .i64 (Lib.compareInt x y)) ∧ ∃ q, w' = W.drewN q := by
  have hcon := fun W' => AnyG.cmp_Compare_int Try.compareInts x y W'
  change ∀ W', Calls Try.prog 41 _ _ _ at hcon
  generalize Lib.compareInt x y = r at hcon ⊢
  go_enter Try.func43, Try.ntmps43
  go_wp2_with fail
  go_quiet ((go_at_call 41; exact Calls.quiet_of_same (hcon _)))
  all_goals go_wp2
  go_ret
  exact ⟨rfl, _, rfl⟩
/-- Places of a list of m. -/
abbrev Pl (m : Nat) : Type := { i : Nat // i < m }
theorem compare_lt (x y : Int) : ltOf Lib.compareInt x y = decide (x < y) := by
  unfold ltOf Lib.compareInt
  by_cases h1 : x < y
  · simp [h1]
  · by_cases h2 : y < x <;> simp [h1, h2]
theorem swo_of {α : Type} (f : α → Int) : SWO (ltOf (fun x y : α => Lib.compareInt (f x) (f y))) where
  irrefl x := by show ltOf Lib.compareInt (f x) (f x) = false; rw [compare_lt]; simp
  trans x y z h1 h2 := by
    have h1 : ltOf Lib.compareInt (f x) (f y) = true := h1
    have h2 : ltOf Lib.compareInt (f y) (f z) = true := h2
    show ltOf Lib.compareInt (f x) (f z) = true
    rw [compare_lt] at *; simp at *; omega
  ntrans x y z h1 h2 := by
    have h1 : ltOf Lib.compareInt (f x) (f y) = false := h1
    have h2 : ltOf Lib.compareInt (f y) (f z) = false := h2
    show ltOf Lib.compareInt (f x) (f z) = false
    rw [compare_lt] at *; simp at *; omega
theorem Vs_Z (l : List Int) : kZ.Vs l = l.map (Value.int .i64) := by
  induction l with
  | nil => rfl
  | cons a l ih => show _ :: kZ.Vs l = _; rw [ih]; rfl
theorem pl_of : ∀ (l : List Int), (∀ u ∈ l, 0 ≤ u ∧ u < (m : Int)) → ∃ d : List (Pl m), d.map (fun x => ((x.1 : Nat) : Int)) = l
  | [], _ => ⟨[], rfl⟩
  | u :: l, h => by
    obtain ⟨d, hd⟩ := pl_of l (fun x hx => h x (by simp [hx]))
    have hu := h u (by simp)
    exact ⟨⟨u.toNat, by omega⟩ :: d, by simp only [List.map_cons, hd]; congr 1; omega⟩
/-- Places sorted by what begins at them. -/
theorem sortPl_own {bl : Nat} {l : List Int} (hA : HV kC w A ad m c) (hlm : l.length ≤ 100000) (hx : w.cell? ⟨bl, 0, none⟩ = some (.slice ad m c)) (hbl : bl < w.heap.size) (hO : OwnK kZ w base v l) (hne : v.ownBlock ≠ some bl) (hna : 0 < m → ∀ b off, ad = some ⟨b, off, none⟩ → v.ownBlock ≠ some b) (hl : ∀ u ∈ l, 0 ≤ u ∧ u < (m : Int)) :
    Calls Try.prog 42 #[v, .func (.func 43) #[] #[.pointer (some ⟨bl, 0, none⟩)]] w fun e w' => e = .returned (.tuple #[]) ∧ ∃ l' : List Int, l'.Perm l ∧ l'.Pairwise (fun u v => (ca (cls A) u.toNat).bg ≤ (ca (cls A) v.toNat).bg) ∧ OwnK kZ w' base v l' ∧ w.grownBy w' v.ownBlock := by
  by_cases h0 : l = []
  · subst h0
    obtain ⟨a, cap, rfl, -⟩ := hO.form kZ_ok.tofit
    refine (show Calls Try.prog 42 #[.slice a ([] : List Int).length cap, _] w _ from AnyF.slices_SortFunc_none { Try.sortInts with } a cap _ w).mono ?_
    rintro e w' ⟨rfl, rfl⟩
    exact ⟨rfl, [], List.Perm.refl _, List.Pairwise.nil, hO, World.grownBy.refl _ _⟩
  · obtain ⟨u0, hu0⟩ := List.exists_mem_of_ne_nil _ h0
    have hm0 : 0 < m := by have := hl u0 hu0; omega
    rcases hO.2 with ⟨rfl, hz⟩ | ⟨g, cap, cur, rfl, hb, hg, hn, hcap, hs, ht⟩
    · exact absurd (List.eq_nil_of_length_eq_zero hz) h0
    · haveI : Inhabited (Pl m) := ⟨⟨0, hm0⟩⟩
      obtain ⟨b, off, rfl, hbs, hcl⟩ := hA.row.cells hm0
      have hgb : g ≠ b := fun e => hna hm0 b off rfl (by rw [← e]; rfl)
      have hgl : g ≠ bl := fun e => hne (by rw [← e]; rfl)
      have hgs : g < w.heap.size := (Array.getElem?_eq_some_iff.1 hg).1
      obtain ⟨d, hd⟩ := pl_of l hl
      have hdl : d.length = l.length := by rw [← hd]; simp
      have hF : (d.toArray.map (fun x : Pl m => Value.int .i64 ((x.1 : Nat) : Int))).toList = kZ.Vs l := by
        rw [Vs_Z, ← hd]; simp
      have hH := holds_map (fun x : Pl m => Value.int .i64 ((x.1 : Nat) : Int)) (own_holds kZ_ok.tofit hO _ hF)
      have hbg : ∀ x : Pl m, w.cell? ⟨b, off + x.1 * 7 + 2, none⟩ = some (.int .i64 (ca (cls A) x.1).bg) := fun x => by
        rw [ca_cls]
        exact hcl x.1 x.2 2 (by decide)
      have hcmp : CmpLays1 Try.prog 43 #[.pointer (some ⟨bl, 0, none⟩)] (fun x : Pl m => Value.int .i64 ((x.1 : Nat) : Int)) (fun x y => Lib.compareInt (ca (cls A) x.1).bg (ca (cls A) y.1).bg) g 0 d.toArray.size w := fun mm os dk _ x y => by
        refine (und1_any x.2 y.2 ((sorted_cell _ w g mm dk os (fun e => hgl e.symm) hbl).trans hx) ((sorted_cell _ w g mm dk os (fun e => hgb e.symm) hbs).trans (hbg x)) ((sorted_cell _ w g mm dk os (fun e => hgb e.symm) hbs).trans (hbg y))).mono ?_
        rintro e w' ⟨rfl, q, rfl⟩
        exact ⟨rfl, q, #[], by rw [grow_empty]⟩
      have eg : ∀ args w, (callFunc 43 args).run Try.prog w = .ok (.enter 43 args) w := enters_of Try.func43 (by kernel_rfl) rfl
      have hcon := Any.slices_SortFunc Try.sortInts (fun x : Pl m => Value.int .i64 ((x.1 : Nat) : Int)) (fun _ => rfl) (fun x y => Lib.compareInt (ca (cls A) x.1).bg (ca (cls A) y.1).bg) (swo_of _) 43 #[.pointer (some ⟨bl, 0, none⟩)] g 0 cap d.toArray w eg hcmp hH hgs (by rw [List.size_toArray]; omega)
      have hsz : d.toArray.size = l.length := by simpa using hdl
      rw [hsz] at hcon
      refine (show Calls Try.prog 42 #[.slice (some ⟨g, 0, none⟩) l.length cap, _] w _ from hcon).mono ?_
      rintro e w' ⟨rfl, d', n, os, hp, hso, rfl⟩
      rw [← hsz] at hp hso
      obtain ⟨hs1, hperm⟩ := perm_of hp
      have hsor := sorted_of (d' := d') (n := d.toArray.size) hs1 hso
      have hF' : (d'.map (fun x : Pl m => Value.int .i64 ((x.1 : Nat) : Int))).toList = kZ.Vs (d'.toList.map (fun x => ((x.1 : Nat) : Int))) := by
        rw [Vs_Z]; simp
      obtain ⟨r1, r2⟩ := own_put kZ_ok.tofit hO _ hF' (by rw [List.length_map, hperm.length_eq]; simpa using hdl) n os
      have hw : sortWorld (fun x : Pl m => Value.int .i64 ((x.1 : Nat) : Int)) w g 0 n d' os = grow (putRow id (Sort.ahead w n) g 0 (d'.map (fun x : Pl m => Value.int .i64 ((x.1 : Nat) : Int)))) os := by
        unfold sortWorld
        rw [putRow_map]
      rw [hw]
      refine ⟨rfl, d'.toList.map (fun x => ((x.1 : Nat) : Int)), ?_, ?_, r1, r2⟩
      · rw [← hd]; exact hperm.map _
      · rw [List.pairwise_map]
        refine hsor.imp (fun {x y} h => ?_)
        have h : ltOf Lib.compareInt (ca (cls A) y.1).bg (ca (cls A) x.1).bg = false := h
        rw [compare_lt] at h
        have := of_decide_eq_false h
        simp only [Int.toNat_natCast]
        omega
theorem undN_snoc : ∀ (l : List Hc) (n : Nat) (x : Hc), undN n (l ++ [x]) = undN n l ++ (if !x.rd && !x.dn then [((n + l.length : Nat) : Int)] else [])
  | [], n, x => by
    show (if !x.rd && !x.dn then (n : Int) :: [] else []) = _
    simp [undN]
  | y :: l, n, x => by
    show (if !y.rd && !y.dn then (n : Int) :: undN (n + 1) (l ++ [x]) else undN (n + 1) (l ++ [x])) = (if !y.rd && !y.dn then (n : Int) :: undN (n + 1) l else undN (n + 1) l) ++ _
    rw [undN_snoc l (n + 1) x, List.length_cons, show n + 1 + l.length = n + (l.length + 1) by omega]
    split <;> simp
theorem blk_grown {g0 : Nat} {cs : Array Value} {T : TypeId} {U : List Int} (h : Blk w g0 cs T) (hO : OwnK kZ w base v U) (hb : g0 < base) (hG : w.grownBy w' v.ownBlock) : Blk w' g0 cs T := by
  have h1 := hG.block g0 h.lt (fun e => by have := (hO.block _ e.symm).1; omega)
  unfold Blk at h ⊢
  rw [h1]
  exact h
theorem int_row (Y : World) (x : Int) : RowK kZ (Y.alloc (.cells #[.int .i64 x] 3)) (some ⟨Y.heap.size, 0, none⟩) [x] := by
  refine Or.inr ⟨_, 0, rfl, by simp, fun i hi c hc => ?_⟩
  obtain rfl : i = 0 := by simp at hi; omega
  obtain rfl : c = 0 := by have : kZ.sz = 1 := rfl; omega
  have hb : Blk (Y.alloc (.cells #[.int .i64 x] 3)) Y.heap.size _ _ := heap_alloc_new Y _
  exact hb.cell 0
set_option maxRecDepth 20000 in
set_option maxHeartbeats 4000000 in
theorem undone_any (hA : HV kC w A ad m c) (hm : m ≤ 100000) : Calls Try.prog 34 #[.slice ad m c] w fun e w' => ∃ (v : Value) (l' : List Int), e = .returned v ∧ l'.Perm (undN 0 (cls A)) ∧ l'.Pairwise (fun u v => (ca (cls A) u.toNat).bg ≤ (ca (cls A) v.toNat).bg) ∧ OwnK kZ w' w.heap.size v l' ∧ Below w.heap.size w w' := by
  have hl := hA.row.len
  have hba : Below w.heap.size w (w.alloc (.cells #[.slice ad m c] 23)) := (Below.refl _ _).alloc (Nat.le_refl _) _
  have hx0 : Blk (w.alloc (.cells #[.slice ad m c] 23)) w.heap.size #[.slice ad m c] 23 := heap_alloc_new w _
  have HA := hid hA
  have HL := hid hl
  have HB0 := hid hba
  have HX0 := hid hx0
  clear hA hl hba hx0
  go_enter Try.func34, Try.ntmps34
  go_wp2_with fail
  go_loopw [8, 3] (fun iv nv wr => ∃ (i : Nat), i ≤ m ∧ iv = .int .i64 (i : Int) ∧ Hid (OwnK kZ wr (w.heap.size + 1) nv (undN 0 ((cls A).take i))) ∧ Hid (Blk wr w.heap.size #[.slice ad m c] 23) ∧ Hid (Below w.heap.size w wr)) (fun iv _ _ => m - (intOf iv).toNat)
  case atStart => exact ⟨0, by omega, rfl, OwnK.nil _ _, HX0, HB0⟩
  case round =>
    obtain ⟨i, hi, rfl, HO, HX, HB⟩ := hrel
    obtain ⟨U, hU⟩ : ∃ U, undN 0 ((cls A).take i) = U := ⟨_, rfl⟩
    rw [hU] at HO
    obtain ⟨va, vc, hv, -⟩ := HO.out.form kZ_ok.tofit
    subst hv
    have HS : Hid (w.heap.size + 1 ≤ wr.heap.size) := HX.out.lt
    by_cases hlt : i < m
    · obtain ⟨b, off, rfl, hb, c0, c1, c2, c3, c4, c5, c6⟩ := (HA.out.later HB.out).at hlt
      have hcap := HA.out.row.cap
      have HT := hid (cls_take (A := A) (i := i) (by rw [HL.out]; exact hlt))
      have HTl : Hid (((cls A).take i).length = i) := by show _ = _; rw [List.length_take, cls_len, HL.out]; omega
      have hul : U.length ≤ i := by
        rw [← hU]
        have := sub_len (undN 0 ((cls A).take i)) ((List.range i).map (fun k : Nat => (k : Int))) (undN_nodup _ _) (fun x hx => by
          obtain ⟨k, hk, -, -, e⟩ := (undN_mem _ _).1 hx
          rw [HTl.out] at hk
          exact List.mem_map.2 ⟨k, List.mem_range.2 hk, by rw [e]; simp⟩)
        simpa using this
      obtain ⟨x, hx⟩ : ∃ x, (A.getD i hz0) = x := ⟨_, rfl⟩
      rw [hx] at c0 c1 c2 c3 c4 c5 c6 HT
      obtain ⟨⟨rd, dn, bg, en, o, val, vals⟩, sa, sm, sc⟩ := x
      dsimp only at c0 c1 c2 c3 c4 c5 c6
      clear hx
      have HU : Hid (undN 0 ((cls A).take (i + 1)) = undN 0 ((cls A).take i) ++ (if !rd && !dn then [(i : Int)] else [])) := by
        show _ = _
        rw [HT.out, undN_snoc, HTl.out, Nat.zero_add]
      have hba : Below wr.heap.size wr (wr.alloc (.cells #[.bool rd, .bool dn, .int .i64 bg, .int .i64 en, .int .i64 o, .string (nmS val), .slice sa sm sc] 34)) := (Below.refl _ _).alloc (Nat.le_refl _) _
      have HOa := hid (HO.out.later hba)
      have HXa := hid (HX.out.later hba)
      have HBa := hid (HB.out.trans (hba.mono HB.out.size))
      have hsa : w.heap.size + 1 ≤ (wr.alloc (.cells #[.bool rd, .bool dn, .int .i64 bg, .int .i64 en, .int .i64 o, .string (nmS val), .slice sa sm sc] 34)).heap.size := Nat.le_trans HS.out hba.size
      generalize nmS val = vt at *
      rw [hU] at HU
      have HSa := hid hsa
      clear hU hba hsa HO
      cases rd with
      | true =>
        have HU' : Hid (undN 0 ((cls A).take (i + 1)) = U) := by show _ = _; rw [HU.out]; simp
        go_wp2_with fail
        exact ⟨⟨i + 1, by omega, by go_num, by rw [HU'.out]; exact HOa, HXa, HBa⟩, by simp [intOf]; omega⟩
      | false =>
        cases dn with
        | true =>
          have HU' : Hid (undN 0 ((cls A).take (i + 1)) = U) := by show _ = _; rw [HU.out]; simp
          go_wp2_with fail
          exact ⟨⟨i + 1, by omega, by go_num, by rw [HU'.out]; exact HOa, HXa, HBa⟩, by simp [intOf]; omega⟩
        | false =>
          have HU' : Hid (undN 0 ((cls A).take (i + 1)) = U ++ [(i : Int)]) := by show _ = _; rw [HU.out]; simp
          have HRw := hid (int_row (wr.alloc (.cells #[.bool false, .bool false, .int .i64 bg, .int .i64 en, .int .i64 o, .string vt, .slice sa sm sc] 34)) (i : Int))
          have hbb : Below (wr.alloc (.cells #[.bool false, .bool false, .int .i64 bg, .int .i64 en, .int .i64 o, .string vt, .slice sa sm sc] 34)).heap.size (wr.alloc (.cells #[.bool false, .bool false, .int .i64 bg, .int .i64 en, .int .i64 o, .string vt, .slice sa sm sc] 34)) ((wr.alloc (.cells #[.bool false, .bool false, .int .i64 bg, .int .i64 en, .int .i64 o, .string vt, .slice sa sm sc] 34)).alloc (.cells #[.int .i64 (i : Int)] 3)) := (Below.refl _ _).alloc (Nat.le_refl _) _
          have HOb := hid (HOa.out.later hbb)
          have HXb := hid (HXa.out.later hbb)
          have HBb := hid (HBa.out.trans (hbb.mono HBa.out.size))
          have hz1 : U.length + 1 ≤ maxLen := by unfold maxLen; omega
          have hz2 : (U.length + 1) * 8 ≤ 140737488355328 := by omega
          have hz3 : w.heap.size + 1 ≤ ((wr.alloc (.cells #[.bool false, .bool false, .int .i64 bg, .int .i64 en, .int .i64 o, .string vt, .slice sa sm sc] 34)).alloc (.cells #[.int .i64 (i : Int)] 3)).heap.size := Nat.le_trans HSa.out hbb.size
          have HZ3 := hid hz3
          clear hbb
          go_wp2_with (at_builtin; (refine app_kd kZ_ok rfl _ _ rfl (w.heap.size + 1) (.slice va U.length vc) U ?_ ?_ (some ⟨(wr.alloc (.cells #[.bool false, .bool false, .int .i64 bg, .int .i64 en, .int .i64 o, .string vt, .slice sa sm sc] 34)).heap.size, 0, none⟩) 1 1 [(i : Int)] ?_ ?_ ?_ ?_ hz1 hz2 hz3 ?_); exact rfl; exact HOb.out; (show Value.slice (some ⟨wr.heap.size + 1, 0, none⟩) 1 1 = _; rw [World.size_alloc]); rfl; (intro e; cases e); exact HRw.out; intro v7 w7 hO7 hG7; have HO7 := hid hO7; have HX7 := hid (blk_grown HXb.out HOb.out (Nat.lt_succ_self _) hG7); have HB7 := hid (HBb.out.grown hG7 (Nat.le_trans (Nat.le_succ _) HZ3.out) (fun g hg => Nat.le_trans (Nat.le_succ _) (HOb.out.block g hg).1)); clear hO7 hG7)
          exact ⟨⟨i + 1, by omega, by go_num, by rw [HU'.out]; exact HO7, HX7, HB7⟩, by simp [intOf]; omega⟩
    · obtain rfl : m = i := by omega
      have HE : Hid ((cls A).take m = cls A) := List.take_of_length_le (by rw [cls_len, HL.out]; exact Nat.le_refl _)
      rw [HE.out] at hU
      have hmem : ∀ u ∈ U, 0 ≤ u ∧ u < (m : Int) := fun u hu => by
        rw [← hU] at hu
        obtain ⟨k, hk, -, -, e⟩ := (undN_mem _ _).1 hu
        rw [cls_len, HL.out] at hk
        omega
      have hul : U.length ≤ m := by
        have := sub_len U ((List.range m).map (fun k : Nat => (k : Int))) (by rw [← hU]; exact undN_nodup _ _) (fun x hx => by
          have := hmem x hx
          exact List.mem_map.2 ⟨x.toNat, List.mem_range.2 (by omega), by omega⟩)
        simpa using this
      have HSr := hid (sortPl_own (bl := w.heap.size) (HA.out.later HB.out) (by omega) (HX.out.cell 0) HX.out.lt HO.out (fun e => absurd (HO.out.block _ e).1 (by omega)) (fun h0 b off e e2 => by
        subst e
        have h1 := (HO.out.block _ e2).1
        obtain ⟨b', o', e3, hb', -⟩ := HA.out.row.cells h0
        injection e3 with e3
        injection e3 with e3
        omega) hmem)
      have HUu := hid hU
      clear hmem hul hU
      go_wp2_with (go_at_call 42; (with_reducible_and_instances (refine HSr.out.mono ?_)); rintro e w8 ⟨rfl, l', hp, hs, hO8, hg8⟩; have HP := hid hp; have HSo := hid hs; have HO8 := hid hO8; have HB8 := hid (HB.out.grown hg8 HB.out.size (fun g hg => Nat.le_trans (Nat.le_succ _) (HO.out.block g hg).1)); clear hp hs hO8 hg8)
      go_ret
      exact ⟨_, l', rfl, by rw [HUu.out]; exact HP.out, HSo.out, HO8.out.mono (Nat.le_succ _), HB8.out⟩
end Go.Proofs.Ytpjemifoilbjeaa
