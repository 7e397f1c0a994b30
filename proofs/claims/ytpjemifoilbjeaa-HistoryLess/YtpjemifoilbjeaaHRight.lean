/- Which appends there are, by their Values; whether the history may be. -/
import Derived.Test.YtpjemifoilbjeaaHShown
namespace Go.Proofs.Ytpjemifoilbjeaa
open Go.RowKit Hy
variable {w w' : World} {A : List HcA} {ad : Option Addr} {m c : Nat}

theorem apps_snoc (l : List Hc) (x : Hc) : apps (l ++ [x]) = if x.rd then apps l else apps l ++ [x.val] := by
  rw [apps_append, apps_cons]
  cases x.rd <;> simp [apps]
theorem findIdx_snoc {α : Type} (p : α → Bool) (x : α) : ∀ l : List α, (l ++ [x]).findIdx? p = match l.findIdx? p with
    | some i => some i
    | none => if p x then some l.length else none
  | [] => by cases h : p x <;> simp [List.findIdx?, List.findIdx?.go, h]
  | y :: l => by
    have ih := findIdx_snoc p x l
    rw [List.cons_append, List.findIdx?_cons, List.findIdx?_cons, ih]
    cases hy : p y with
    | true => simp
    | false =>
      cases h : l.findIdx? p with
      | some i => simp
      | none => cases hx : p x <;> simp
theorem byN_snoc (l : List Hc) (x : Hc) (v : Nm) : byN (l ++ [x]) v = match byN l v with
    | some i => some i
    | none => if (!x.rd && decide (x.val = v)) = true then some (l.length : Int) else none := by
  unfold byN
  rw [findIdx_snoc]
  cases h : l.findIdx? (fun c => !c.rd && decide (c.val = v)) with
  | some i => rfl
  | none => cases hx : (!x.rd && decide (x.val = v)) <;> simp
theorem byN_read {l : List Hc} {x : Hc} (h : x.rd = true) : byN (l ++ [x]) = byN l := by
  funext v
  rw [byN_snoc, h]
  cases byN l v <;> simp
theorem byN_app {l : List Hc} {x : Hc} (h : x.rd = false) (hn : byN l x.val = none) : byN (l ++ [x]) = setN (byN l) x.val (some (l.length : Int)) := by
  funext v
  rw [byN_snoc, h]
  by_cases e : v = x.val
  · subst e; rw [setN_same, hn]; simp
  · rw [setN_other _ e]
    have e2 : ¬ x.val = v := fun h => e h.symm
    cases byN l v <;> simp [e2]
theorem byN_apps {l : List Hc} {v : Nm} : (byN l v).isSome = true ↔ v ∈ apps l := by
  rw [apps_mem]
  constructor
  · intro h
    obtain ⟨c, hc⟩ := Option.isSome_iff_exists.1 h
    obtain ⟨i, -, hi, h1, h2⟩ := byN_some hc
    exact ⟨_, ca_mem hi, h1, h2⟩
  · rintro ⟨c, h1, h2, h3⟩
    obtain ⟨i, hi⟩ := byN_ex h1 h2 h3
    rw [hi]; rfl
theorem apps_take {l : List Hc} (i : Nat) (h : (apps l).Nodup) : (apps (l.take i)).Nodup := by
  rw [← List.take_append_drop i l, apps_append] at h
  exact (List.nodup_append.1 h).1
/-- What writers answers. -/
def WrP (w : World) (A : List HcA) (m : Nat) (e : Ending) (w' : World) : Prop :=
  (((apps (cls A)).Nodup ∧ ∃ M, e = .returned (.tuple #[.map (some M), .bool true]) ∧ w.heap.size ≤ M ∧ M < w'.heap.size ∧ MapF w' 9 M m (strF (byN (cls A)))) ∨ (¬ (apps (cls A)).Nodup ∧ e = .returned (.tuple #[.map none, .bool false]))) ∧ Below w.heap.size w w'
set_option maxRecDepth 20000 in
set_option maxHeartbeats 4000000 in
theorem writers_any (h : HV kC w A ad m c) (hm : m ≤ 100000) : Calls Try.prog 20 #[.slice ad m c] w fun e w' => WrP w A m e w' := by
  have hl := h.row.len
  have HA := hid h
  have HL := hid hl
  have HB0 := hid ((Below.refl _ w).alloc (Nat.le_refl _) (.map #[] 0))
  have HM0 : Hid (MapF (w.alloc (.map #[] 0)) 9 w.heap.size 0 (strF (byN ((cls A).take 0)))) := (MapF.empty (heap_alloc_new w _)).congr (fun kl => by
    unfold strF
    split <;> rfl)
  clear h hl
  have hmm : ∀ (t : TypeId) (w : World), (Instr.makeMap t none).run Try.prog w = .ok (.map (some w.heap.size)) (w.alloc (.map #[] 0)) := fun t w => run_makeMap _ w
  go_enter Try.func20, Try.ntmps20
  go_wp2_with fail
  go_loopw [11, 2] (fun iv mv wr => ∃ (i : Nat), i ≤ m ∧ iv = .int .i64 (i : Int) ∧ mv = .map (some w.heap.size) ∧ Hid ((apps ((cls A).take i)).Nodup) ∧ Hid (MapF wr 9 w.heap.size i (strF (byN ((cls A).take i)))) ∧ Hid (Below w.heap.size w wr) ∧ Hid (w.heap.size < wr.heap.size)) (fun iv _ _ => m - (intOf iv).toNat)
  case atStart => exact ⟨0, by omega, rfl, rfl, List.nodup_nil, HM0, HB0, by show _ < (w.alloc _).heap.size; simp⟩
  case round =>
    obtain ⟨i, hi, rfl, rfl, HN, HM, HB, HS⟩ := hrel
    clear HM0 HB0
    by_cases hlt : i < m
    · obtain ⟨b, off, rfl, hb, c0, c1, c2, c3, c4, c5, c6⟩ := (HA.out.later HB.out).at hlt
      have hcap := HA.out.row.cap
      have hsm := (HA.out.small i hlt).1
      have HT := hid (cls_take (A := A) (i := i) (by rw [HL.out]; exact hlt))
      have HTl : Hid (((cls A).take i).length = i) := by show _ = _; rw [List.length_take, cls_len, HL.out]; omega
      obtain ⟨x, hx⟩ : ∃ x, (A.getD i hz0) = x := ⟨_, rfl⟩
      rw [hx] at c0 c1 c2 c3 c4 c5 c6 HT hsm
      obtain ⟨⟨rd, dn, bg, en, o, val, vals⟩, sa, sm, sc⟩ := x
      dsimp only at c0 c1 c2 c3 c4 c5 c6 hsm
      clear hx
      have HBa := hid (HB.out.alloc HB.out.size (.cells #[.bool rd, .bool dn, .int .i64 bg, .int .i64 en, .int .i64 o, .string (nmS val), .slice sa sm sc] 34))
      have HSa : Hid (w.heap.size < (wr.alloc (.cells #[.bool rd, .bool dn, .int .i64 bg, .int .i64 en, .int .i64 o, .string (nmS val), .slice sa sm sc] 34)).heap.size) := Nat.lt_of_lt_of_le HS.out ((Below.refl wr.heap.size wr).alloc (Nat.le_refl _) _).size
      have HMa : Hid (MapF (wr.alloc (.cells #[.bool rd, .bool dn, .int .i64 bg, .int .i64 en, .int .i64 o, .string (nmS val), .slice sa sm sc] 34)) 9 w.heap.size i (strF (byN ((cls A).take i)))) := HM.out.keep (((Below.refl wr.heap.size wr).alloc (Nat.le_refl _) _).block _ HS.out)
      cases rd with
      | true =>
        have HN' : Hid ((apps ((cls A).take (i + 1))).Nodup) := by show List.Nodup _; rw [HT.out, apps_snoc]; exact HN.out
        have HM' : Hid (byN ((cls A).take (i + 1)) = byN ((cls A).take i)) := by show _ = _; rw [HT.out]; exact byN_read rfl
        go_wp2_with fail
        exact ⟨⟨i + 1, by omega, by go_num, rfl, HN', by rw [HM'.out]; exact HMa.out.mono (by omega), HBa, HSa⟩, by simp [intOf]; omega⟩
      | false =>
        have hr := MapF.look_ok HMa.out keyN Try.underlying47 (zeroI _) (key := .string (nmS val)) (keyOf_n val hsm)
        rw [strF_n] at hr
        cases hby : byN ((cls A).take i) val with
        | some j =>
          have HNo : Hid (¬ (apps (cls A)).Nodup) := fun hn => by
            have h1 := apps_take (i + 1) hn
            rw [HT.out, apps_snoc] at h1
            have h2 : (apps ((cls A).take i) ++ [val]).Nodup := h1
            have h3 := byN_apps.1 (show (byN ((cls A).take i) val).isSome = true by rw [hby]; rfl)
            exact (List.nodup_append.1 h2).2.2 val h3 val (by simp) rfl
          rw [hby] at hr
          simp only [Option.map_some, Option.getD_some, Option.isSome_some] at hr
          clear hby
          generalize nmS val = vt at *
          go_wp2_with fail
          exact bodyPost_ret (results_tmp2 Try.results20 _ _ _) rfl ⟨Or.inr ⟨HNo.out, rfl⟩, HBa.out⟩
        | none =>
          rw [hby] at hr
          simp only [Option.map_none, Option.getD_none, Option.isSome_none] at hr
          obtain ⟨W2, hr2, hM2, hc2⟩ := MapF.store HMa.out keyN Try.underlying47 (by unfold maxLen; omega) (key := .string (nmS val)) (val := .int .i64 (i : Int)) (keyOf_n val hsm)
          have HN' : Hid ((apps ((cls A).take (i + 1))).Nodup) := by
            show List.Nodup _
            rw [HT.out, apps_snoc]
            refine List.nodup_append.2 ⟨HN.out, by simp, fun a ha b hb e => ?_⟩
            have hb : b = val := by simpa using hb
            subst hb e
            have := byN_apps.2 ha
            rw [hby] at this; cases this
          have HM2 : Hid (MapF W2 9 w.heap.size (i + 1) (strF (byN ((cls A).take (i + 1))))) := by
            refine hM2.congr (fun kl => ?_)
            rw [strF_set, HT.out]
            show strF _ kl = strF (byN ((cls A).take i ++ [⟨false, dn, bg, en, o, val, vals⟩])) kl
            rw [byN_app rfl hby, HTl.out]
          have HB2 := hid (HBa.out.trans (hc2.below (fun k hk => by rw [List.mem_singleton] at hk; omega) HBa.out.size))
          have HS2 : Hid (w.heap.size < W2.heap.size) := Nat.lt_of_lt_of_le HSa.out hc2.size
          clear hby hM2 hc2
          generalize nmS val = vt at *
          go_wp2_with fail
          exact ⟨⟨i + 1, by omega, by go_num, rfl, HN', HM2, HB2, HS2⟩, by simp [intOf]; omega⟩
    · obtain rfl : m = i := by omega
      have HF : Hid ((cls A).take m = cls A) := List.take_of_length_le (by rw [cls_len, HL.out]; exact Nat.le_refl _)
      rw [HF.out] at HN HM
      go_wp2_with fail
      exact bodyPost_ret (results_tmp2 Try.results20 _ _ _) rfl ⟨Or.inl ⟨HN.out, _, rfl, Nat.le_refl _, HS.out, HM.out⟩, HB.out⟩
/-- A Boolean that says whether the history may be. -/
noncomputable def rightB (l : List Hc) : Bool := open Classical in decide (Right l)
theorem rightB_yes {l : List Hc} (h : Right l) : rightB l = true := by simp [rightB, h]
theorem rightB_no {l : List Hc} (h : ¬ Right l) : rightB l = false := by simp [rightB, h]
set_option maxRecDepth 20000 in
set_option maxHeartbeats 4000000 in
theorem Right_any (h : HV kC w A ad m c) : Calls Try.prog 9 #[.slice ad m c] w fun e w' => e = .returned (.bool (rightB (cls A))) ∧ Below w.heap.size w w' := by
  have hl := h.row.len
  have hm64 : m ≤ 9223372036854775807 := by have h1 := h.row.cap; have h2 := h.row.room; unfold maxLen at h2; omega
  have HA := hid h
  have HL := hid hl
  have HLc : Hid ((cls A).length = m) := (cls_len A).trans hl
  clear h hl
  by_cases hm : 1000 < m
  · have HR : Hid (rightB (cls A) = false) := rightB_no (fun h => by have := h.1; rw [HLc.out] at this; omega)
    go_enter Try.func9, Try.ntmps9
    go_wp2_with fail
    go_ret
    exact ⟨by rw [HR.out]; rfl, Below.refl _ _⟩
  · go_enter Try.func9, Try.ntmps9
    go_wp2_with fail
    go_loopw [12] (fun iv wr => ∃ (i : Nat), i ≤ m ∧ iv = .int .i64 (i : Int) ∧ Hid (∀ j, j < i → (A.getD j hz0).1.may = true) ∧ Hid (Below w.heap.size w wr)) (fun iv _ => m - (intOf iv).toNat)
    case atStart => exact ⟨0, by omega, rfl, fun j hj => absurd hj (Nat.not_lt_zero _), Below.refl _ _⟩
    case round =>
      obtain ⟨i, hi, rfl, HN, HB⟩ := hrel
      by_cases hlt : i < m
      · obtain ⟨b, off, rfl, hb, c0, c1, c2, c3, c4, c5, c6⟩ := (HA.out.later HB.out).at hlt
        have hcap := HA.out.row.cap
        have hpl := (HA.out.part i hlt).len
        have HMy : Hid ((A.getD i hz0).1.may = false → rightB (cls A) = false) := fun hm => rightB_no (fun h => by
          have := right_at h (i := i) (by rw [HL.out]; exact hlt)
          rw [hm] at this; cases this)
        have HNx : Hid ((A.getD i hz0).1.may = true → ∀ j, j < i + 1 → (A.getD j hz0).1.may = true) := fun hm j hj => by
          by_cases e : j = i
          · rw [e]; exact hm
          · exact HN.out j (by omega)
        obtain ⟨x, hx⟩ : ∃ x, (A.getD i hz0) = x := ⟨_, rfl⟩
        rw [hx] at c0 c1 c2 c3 c4 c5 c6 HMy HNx hpl
        obtain ⟨⟨rd, dn, bg, en, o, val, vals⟩, sa, sm, sc⟩ := x
        dsimp only at c0 c1 c2 c3 c4 c5 c6 hpl
        have HSh : Hid (∀ W, Calls Try.prog 19 #[.agg #[.bool rd, .bool dn, .int .i64 bg, .int .i64 en, .int .i64 o, .string (nmS val), .slice sa sm sc]] W fun e w' => e = .returned (.bool (Hc.may ⟨rd, dn, bg, en, o, val, vals⟩)) ∧ Below W.heap.size W w') := fun W => mayBe_any ⟨rd, dn, bg, en, o, val, vals⟩ sa sm sc hpl W
        have HBa := hid (HB.out.alloc HB.out.size (.cells #[.bool rd, .bool dn, .int .i64 bg, .int .i64 en, .int .i64 o, .string (nmS val), .slice sa sm sc] 34))
        clear hx
        generalize nmS val = vt at *
        dsimp only at HMy HNx
        generalize Hc.may ⟨rd, dn, bg, en, o, val, vals⟩ = y at *
        cases y with
        | false =>
          have HR := hid (HMy.out rfl)
          go_wp2_with (go_at_call 19; (with_reducible_and_instances (refine (HSh.out _).mono ?_)); rintro e w2 ⟨rfl, hb2⟩; have HB2 := hid (HBa.out.trans (hb2.mono HBa.out.size)); clear hb2)
          go_ret
          exact ⟨by rw [HR.out]; rfl, HB2.out⟩
        | true =>
          have HN' := hid (HNx.out rfl)
          go_wp2_with (go_at_call 19; (with_reducible_and_instances (refine (HSh.out _).mono ?_)); rintro e w2 ⟨rfl, hb2⟩; have HB2 := hid (HBa.out.trans (hb2.mono HBa.out.size)); clear hb2)
          exact ⟨⟨i + 1, by omega, by go_num, HN', HB2⟩, by simp [intOf]; omega⟩
      · obtain rfl : m = i := by omega
        have HW := hid (writers_any (HA.out.later HB.out) (by omega))
        have HAll : Hid (∀ x ∈ cls A, x.may = true) := fun x hx => by
          obtain ⟨j, hj, e⟩ := List.getElem_of_mem hx
          have hj' : j < m := by rw [HLc.out] at hj; exact hj
          rw [← e, ← ca_at hj, ca_cls]
          exact HN.out j hj'
        by_cases hn : (apps (cls A)).Nodup
        · have HR : Hid (rightB (cls A) = true) := rightB_yes ⟨by rw [HLc.out]; omega, HAll.out, hn⟩
          go_wp2_with (go_at_call 20; (with_reducible_and_instances (refine HW.out.mono ?_)); rintro e w2 ⟨h2, hb2⟩; obtain ⟨-, M, rfl, -⟩ := h2.resolve_right (fun h => h.1 hn); have HB2 := hid (HB.out.trans (hb2.mono HB.out.size)); clear hb2)
          go_ret
          exact ⟨by rw [HR.out]; rfl, HB2.out⟩
        · have HR : Hid (rightB (cls A) = false) := rightB_no (fun h => hn h.2.2)
          go_wp2_with (go_at_call 20; (with_reducible_and_instances (refine HW.out.mono ?_)); rintro e w2 ⟨h2, hb2⟩; obtain ⟨-, rfl⟩ := h2.resolve_left (fun h => hn h.1); have HB2 := hid (HB.out.trans (hb2.mono HB.out.size)); clear hb2)
          go_ret
          exact ⟨by rw [HR.out]; rfl, HB2.out⟩
end Go.Proofs.Ytpjemifoilbjeaa
