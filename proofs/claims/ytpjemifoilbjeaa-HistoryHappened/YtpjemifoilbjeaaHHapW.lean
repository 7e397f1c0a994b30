/- HistoryHappened (by genhhapw.py). -/
import Derived.Test.YtpjemifoilbjeaaHHap
import Derived.Test.YtpjemifoilbjeaaHRot
namespace Go.Proofs.Ytpjemifoilbjeaa
open Go.RowKit Hy
variable {w w' W : World}

theorem hap_fits {A : List HcA} {ad : Option Addr} {m c : Nat} {L : List Ac} (h : HV kR w A ad m c) (hc : cls A = hapN 0 [] L) (hL : L.length ≤ 200) : m ≤ 200 ∧ ∀ i, i < m → (A.getD i hz0).2.m ≤ 200 := by
  have hl := h.row.len
  have hm : m ≤ 200 := by rw [← hl, ← cls_len, hc, hapN_len]; exact hL
  refine ⟨hm, fun i hi => ?_⟩
  have h1 := (h.part i hi).len
  have h2 : (A.getD i hz0).1 ∈ cls A := by
    unfold cls
    refine List.mem_map.2 ⟨A.getD i hz0, ?_, rfl⟩
    rw [List.getD_eq_getElem?_getD, List.getElem?_eq_getElem (by omega)]
    exact List.getElem_mem _
  rw [hc] at h2
  obtain ⟨j, a, lg, h3, h4, h5, h6⟩ := hap_mem L 0 [] (Nat.le_refl _) _ h2
  rw [h6] at h1
  have := (hcI_small (i := j) (a := a) h5).2
  omega
set_option maxRecDepth 20000 in
set_option maxHeartbeats 4000000 in
theorem happenedS_any {acts : List Ac} {ad : Option Addr} {m c : Nat} (h : ArgK kAc w acts ad m c) {order : List Int} {oa : Option Addr} {om oc : Nat} (ho : ArgK kZ w order oa om oc) :
    Calls Try.prog 5 #[.slice ad m c, .slice oa om oc] w fun e w' => e = .returned (.bool true) ∧ RowKit.Below w.heap.size w w' := by
  have HA := hid h
  have HO := hid ho
  have HLn := hid ho.len
  have hcap := ho.cap
  have hroom := ho.room
  unfold maxLen at hroom
  have HT : Hid ((acts.take 200).length ≤ 200) := by show _ ≤ _; rw [List.length_take]; omega
  clear h ho
  go_enter Try.func5, Try.ntmps5
  go_wp2_with (first
    | (go_at_call 18; (with_reducible_and_instances (refine (happened_any HA.out).mono ?_)); rintro e w1 ⟨a1, m1, c1, A1, rfl, hv1, hc1, hb1⟩; have HF := hid (hap_fits hv1 hc1 HT.out); have HV1 := hid hv1; have HC1 := hid hc1; have HB1 := hid hb1; clear hv1 hc1 hb1)
    | (go_at_call 8; (with_reducible_and_instances (refine (Own_any HV1.out (by have := HF.out.1; omega) (fun i hi => by have := HF.out.2 i hi; omega)).mono ?_)); rintro e w2 ⟨a2, c2, B, rfl, hcs, hcl, hb2⟩; have HCS := hid (hcs.hv kC_ok.tofit); have HCL := hid (hcl.trans HC1.out); have HB2 := hid (HB1.out.trans (hb2.mono HB1.out.size)); clear hcs hcl hb2 HC1 HV1 HB1))
  have hm1 : m1 ≤ 200 := HF.out.1
  go_loopw [5, 6] (fun xv iv wr => ∃ (i : Nat) (X : List HcA) (xa : Option Addr) (xc : Nat), i ≤ om ∧ iv = .int .i64 (i : Int) ∧ xv = .slice xa m1 xc ∧ w.heap.size ≤ wr.heap.size ∧ Hid (HV kC wr X xa m1 xc) ∧ Hid ((cls X).Perm (cls B)) ∧ Hid (RowKit.Below w.heap.size w wr)) (fun _ iv _ => om - (intOf iv).toNat)
  case atStart => exact ⟨0, B, a2, c2, by omega, rfl, rfl, HB2.out.size, HCS, hid (List.Perm.refl _), HB2⟩
  case round =>
    obtain ⟨i, X, xa, xc, hi, rfl, rfl, hsz, HX, HP, HBl⟩ := hrel
    by_cases hlt : i < om
    · by_cases hm0 : 0 < m1
      · obtain ⟨ob, oo, rfl, hos, hoc⟩ := (HO.out.later HBl.out).cells (by omega)
        obtain ⟨z, hz⟩ : ∃ z, order.getD i 0 = z := ⟨_, rfl⟩
        have r0 : wr.cell? ⟨ob, oo + i, none⟩ = some (.int .i64 z) := by have h := hoc i hlt 0 (by decide); rw [show order.getD i kZ.z = z from hz] at h; simpa using h
        obtain ⟨k, hk, k1, k2, k3, k4, k5⟩ := mod20 z m1 hm0
        have hwm : IntKind.i64.wrap (z.tmod (m1 : Int) + (m1 : Int)) = z.tmod (m1 : Int) + (m1 : Int) := by rw [IntKind.wrap_i64]; omega
        have hz0' : ((m1 : Int) == 0) = false := by simp; omega
        obtain ⟨xb, xo, rfl, hxs, c0, c1', c2', c3, c4, c5, c6⟩ := HX.out.at hk
        have hcx := HX.out.row.cap
        have hrx := HX.out.row.room
        unfold maxLen at hrx
        have HXl := hid HX.out.row.len
        obtain ⟨y, hy⟩ : ∃ y, X.getD k hz0 = y := ⟨_, rfl⟩
        rw [hy] at c0 c1' c2' c3 c4 c5 c6
        obtain ⟨x, sa, sm, sc⟩ := y
        dsimp only at c0 c1' c2' c3 c4 c5 c6
        obtain ⟨ns, hns⟩ : ∃ ns, nmS x.val = ns := ⟨_, rfl⟩
        rw [hns] at c5
        have HNs := hid hns
        have HY := hid hy
        have hw1 : IntKind.i64.wrap ((k : Int) + 1) = (k : Int) + 1 := by rw [IntKind.wrap_i64]; omega
        have hk1 : ((k : Int) + 1).toNat = k + 1 := by omega
        clear hoc hz hns hy
        go_wp2_with fail
        obtain ⟨W1, hW1⟩ : ∃ W1, wr.alloc (.cells #[.bool x.rd, .bool x.dn, .int .i64 x.bg, .int .i64 x.en, .int .i64 x.off, .string ns, .slice sa sm sc] 34) = W1 := ⟨_, rfl⟩
        have hb1 : RowKit.Below wr.heap.size wr W1 := by rw [← hW1]; exact (Below.refl _ _).alloc (Nat.le_refl _) _
        have K8 : Hid (Blk W1 wr.heap.size #[.bool x.rd, .bool x.dn, .int .i64 x.bg, .int .i64 x.en, .int .i64 x.off, .string ns, .slice sa sm sc] 34) := by rw [← hW1]; exact hid (heap_alloc_new _ _)
        have HX1 := hid (HX.out.later hb1)
        have HB8 := hid hb1
        rw [hW1]
        clear hW1 hb1
        refine wp_region_held_drew (S := fun W => True) (by kernel_rfl) (trivial) (fun hHeld => ?_)
        refine wpAnyH_take (i := 1) (oi := { dst := some 41, op := Op.move (Operand.tmp 5), type := 23, pos := "law.go:152", after := #[], guard := none }) (v := ?_) rfl (by kernel_rfl) (by kernel_rfl) (by kernel_rfl) (fun _ _ _ h => h) (Or.inl ⟨by rfl, ?_⟩) hHeld ?_
        rotate_left
        · intro w hSw; (try dsimp only at hSw); go_simp; try with_reducible rfl
        try simp only [Act.put, List.setIfInBounds_toArray, List.set_cons_zero, List.set_cons_succ]
        refine wpAnyH_take (i := 2) (oi := { dst := some 42, op := Op.move (Operand.tmp 7), type := 3, pos := "law.go:152", after := #[], guard := none }) (v := ?_) rfl (by kernel_rfl) (by kernel_rfl) (by kernel_rfl) (fun _ _ _ h => h) (Or.inl ⟨by rfl, ?_⟩) hHeld ?_
        rotate_left
        · intro w hSw; (try dsimp only at hSw); go_simp; try with_reducible rfl
        try simp only [Act.put, List.setIfInBounds_toArray, List.set_cons_zero, List.set_cons_succ]
        refine wpAnyH_take (i := 3) (oi := { dst := some 43, op := Op.slice 23 (Operand.tmp 41) none (some (Operand.tmp 42)) none, type := 23, pos := "law.go:152", after := #[{ on := 1, ground := Ground.data }, { on := 2, ground := Ground.data }], guard := none }) (v := .slice (some ⟨xb, xo, none⟩) k xc) rfl (by kernel_rfl) (by kernel_rfl) (by kernel_rfl) (fun _ _ _ h => h) (Or.inl ⟨by rfl, ?_⟩) hHeld ?_
        · intro w hSw; go_simp; intro hh; omega
        try simp only [Act.put, List.setIfInBounds_toArray, List.set_cons_zero, List.set_cons_succ]
        refine wpAnyH_take (i := 5) (oi := { dst := some 45, op := Op.move (Operand.tmp 5), type := 23, pos := "law.go:152", after := #[], guard := none }) (v := ?_) rfl (by kernel_rfl) (by kernel_rfl) (by kernel_rfl) (fun _ _ _ h => h) (Or.inl ⟨by rfl, ?_⟩) hHeld ?_
        rotate_left
        · intro w hSw; (try dsimp only at hSw); go_simp; try with_reducible rfl
        try simp only [Act.put, List.setIfInBounds_toArray, List.set_cons_zero, List.set_cons_succ]
        refine wpAnyH_take (i := 6) (oi := { dst := some 46, op := Op.move (Operand.tmp 7), type := 3, pos := "law.go:152", after := #[], guard := none }) (v := ?_) rfl (by kernel_rfl) (by kernel_rfl) (by kernel_rfl) (fun _ _ _ h => h) (Or.inl ⟨by rfl, ?_⟩) hHeld ?_
        rotate_left
        · intro w hSw; (try dsimp only at hSw); go_simp; try with_reducible rfl
        try simp only [Act.put, List.setIfInBounds_toArray, List.set_cons_zero, List.set_cons_succ]
        refine wpAnyH_take (i := 7) (oi := { dst := some 47, op := Op.binOp BinOp.add 3 (Operand.tmp 46) (Operand.const (Value.int IntKind.i64 1)) 3, type := 3, pos := "law.go:152", after := #[{ on := 6, ground := Ground.data }], guard := none }) (v := ?_) rfl (by kernel_rfl) (by kernel_rfl) (by kernel_rfl) (fun _ _ _ h => h) (Or.inl ⟨by rfl, ?_⟩) hHeld ?_
        rotate_left
        · intro w hSw; (try dsimp only at hSw); go_simp; try with_reducible rfl
        try simp only [Act.put, List.setIfInBounds_toArray, List.set_cons_zero, List.set_cons_succ]
        refine wpAnyH_take (i := 8) (oi := { dst := some 48, op := Op.slice 23 (Operand.tmp 45) (some (Operand.tmp 47)) none none, type := 23, pos := "law.go:152", after := #[{ on := 5, ground := Ground.data }, { on := 7, ground := Ground.data }], guard := none }) (v := .slice (if xc = k + 1 then some ⟨xb, xo, none⟩ else some ⟨xb, xo + (k + 1) * 7, none⟩) (m1 - (k + 1)) (xc - (k + 1))) rfl (by kernel_rfl) (by kernel_rfl) (by kernel_rfl) (fun _ _ _ h => h) (Or.inl ⟨by rfl, ?_⟩) hHeld ?_
        · intro w hSw; split <;> go_simp <;> (try simp only [*, if_true, if_false]) <;> first | rfl | (intro hh; have h9 := hh (by omega); omega)
        try simp only [Act.put, List.setIfInBounds_toArray, List.set_cons_zero, List.set_cons_succ]
        refine wpAnyH_ready (rs := [0]) (by kernel_rfl) (by simp) ?_
        refine AllReadyH.cons rfl (fun K hK => ?_) (AllReadyH.nil)
        go_simp
        refine hK.out _ _ (trivial) (fun hHeld => ?_)
        clear hK K
        try simp only [Act.put, List.setIfInBounds_toArray, List.set_cons_zero, List.set_cons_succ]
        refine wpAnyH_ready (rs := [4]) (by kernel_rfl) (by simp) ?_
        refine AllReadyH.cons rfl (fun K hK => ?_) (AllReadyH.nil)
        have hO1 := emptyK_drew kC W1
        refine step_app_argK kC_ok (by rfl) (.tmp 40) (.tmp 43) (by rfl) W1.heap.size (.slice (some ⟨W1.heap.size, 0, none⟩) 0 0) [] (X.take k) (by rfl) hO1 (by rfl) (((HX1.out.row).later ((Below.refl _ W1).alloc (Nat.le_refl _) (.cells #[] 34)).drew).takeK (by omega)) (by rw [List.length_nil]; unfold maxLen; omega) (by rw [List.length_nil]; show (0 + k) * 72 ≤ _; omega) (by simp [World.drew]) ?_
        intro s' W3 hs' hO3 hG3 hL3
        have hB3 := own_stepK hO1 hG3
        have HO3 := hid (show OwnK kC W3 W1.heap.size s'.v (X.take k) from hO3); have HB3 := hid hB3; clear hO1 hO3 hG3 hL3
        obtain ⟨s3, m3, c3⟩ := s'
        unfold Sl.v at HO3 ⊢
        refine hK.out _ _ (trivial) (fun hHeld => ?_)
        clear hK K
        refine wpAnyH_ready (rs := [9]) (by kernel_rfl) (by simp) ?_
        refine AllReadyH.cons rfl (fun K hK => ?_) (AllReadyH.nil)
        refine step_app_argK kC_ok (by rfl) (.tmp 44) (.tmp 48) (by rfl) W1.heap.size (.slice s3 m3 c3) (X.take k) (X.drop (k + 1)) (by rfl) HO3.out (by rfl) ((HX1.out.row.later HB3.out).dropK (by omega) ?_ ?_) ?_ ?_ HB3.out.size ?_
        · intro e; split at e <;> cases e
        · intro hlt7 b off e; cases e; rw [if_neg (by omega)]
        · rw [List.length_take, HXl.out]; unfold maxLen; omega
        · rw [List.length_take, HXl.out]; show _ * 72 ≤ _; omega
        intro s' W5 hs' hO5 hG5 hL5
        obtain ⟨s5, m5, c5⟩ := s'
        have hB5 := HB3.out.grown hG5 HB3.out.size (fun g hg => (HO3.out.block g hg).1)
        have HO5 := hid (show OwnK kC W5 W1.heap.size (.slice s5 m5 c5) (X.take k ++ X.drop (k + 1)) from hO5); have HB5 := hid hB5; clear hO5 hG5 hL5 hs' hB5
        unfold Sl.v
        refine hK.out _ _ (trivial) (fun hHeld => ?_)
        clear hK K
        refine wpAnyH_take (i := 10) (oi := { dst := some 5, op := Op.assign (Operand.tmp 49), type := 23, pos := "law.go:152", after := #[{ on := 9, ground := Ground.data }, { on := 9, ground := Ground.chain }, { on := 0, ground := Ground.phase }, { on := 1, ground := Ground.phase }, { on := 2, ground := Ground.phase }, { on := 3, ground := Ground.phase }, { on := 4, ground := Ground.phase }, { on := 5, ground := Ground.phase }, { on := 6, ground := Ground.phase }, { on := 7, ground := Ground.phase }, { on := 8, ground := Ground.phase }, { on := 9, ground := Ground.phase }], guard := none }) (v := ?_) rfl (by kernel_rfl) (by kernel_rfl) (by kernel_rfl) (fun _ _ _ h => h) (Or.inl ⟨by rfl, ?_⟩) hHeld ?_
        rotate_left
        · intro w hSw; (try dsimp only at hSw); go_simp; try with_reducible rfl
        refine wpAnyH_done (by kernel_rfl) ?_ _
        have HLen : Hid ((X.take k ++ X.drop (k + 1)).length + 1 = m1) := by show _ = _; rw [List.length_append, List.length_take, List.length_drop, HXl.out]; omega
        have HB58 := hid (HB8.out.trans (HB5.out.mono HB8.out.size))
        have k8 := K8.out.later HB5.out
        have d0 : W5.cell? ⟨wr.heap.size, 0, none⟩ = some (.bool x.rd) := k8.cell 0
        have d1 : W5.cell? ⟨wr.heap.size, 1, none⟩ = some (.bool x.dn) := k8.cell 1
        have d2 : W5.cell? ⟨wr.heap.size, 2, none⟩ = some (.int .i64 x.bg) := k8.cell 2
        have d3 : W5.cell? ⟨wr.heap.size, 3, none⟩ = some (.int .i64 x.en) := k8.cell 3
        have d4 : W5.cell? ⟨wr.heap.size, 4, none⟩ = some (.int .i64 x.off) := k8.cell 4
        have d5 : W5.cell? ⟨wr.heap.size, 5, none⟩ = some (.string ns) := k8.cell 5
        have d6 : W5.cell? ⟨wr.heap.size, 6, none⟩ = some (.slice sa sm sc) := k8.cell 6
        have hb6 : RowKit.Below W5.heap.size W5 (W5.alloc (.cells #[.bool x.rd, .bool x.dn, .int .i64 x.bg, .int .i64 x.en, .int .i64 x.off, .string ns, .slice sa sm sc] 34)) := (Below.refl _ _).alloc (Nat.le_refl _) _
        have HO6 := hid (HO5.out.later hb6)
        have HR6 := hid (call_row W5 (x, ⟨sa, sm, sc⟩) ns HNs.out 34 kC rfl (fun _ => rfl))
        have HM6 : Hid ((X.take k ++ X.drop (k + 1)).length + 1 ≤ maxLen ∧ ((X.take k ++ X.drop (k + 1)).length + 1) * 72 ≤ 140737488355328) := by show _ ∧ _; rw [HLen.out]; unfold maxLen; omega
        have HZ6 := hid (Nat.le_trans HB5.out.size hb6.size)
        have HB6 := hid (HB58.out.trans (hb6.mono HB58.out.size))
        clear k8 hb6 HO5 HO3 HB3
        go_wp2_with (at_builtin; (with_reducible_and_instances (refine app_oneK kC_ok rfl _ _ rfl W1.heap.size (.slice s5 m5 c5) (X.take k ++ X.drop (k + 1)) rfl HO6.out W5.heap.size (x, ⟨sa, sm, sc⟩) rfl HR6.out HM6.out.1 HM6.out.2 HZ6.out ?_)); intro g9 c9 w9 hO9 hG9 hat9; rw [HLen.out] at hO9 ⊢; have hb9 := HB6.out.grown hG9 HB6.out.size (fun g hg => Nat.le_trans HB8.out.size (HO6.out.block g hg).1); have HT9 := hid (HV.turned HX.out hk hb9 (by rw [HY.out]; exact hO9)); have HB9 := hid (HBl.out.trans (hb9.mono hsz)); clear hO9 hG9 hat9 hb9)
        exact ⟨⟨i + 1, _, some ⟨g9, 0, none⟩, c9, by omega, by go_num, rfl, HB9.out.size, hid HT9.out.1, hid (HT9.out.2.trans HP.out), HB9⟩, by simp [intOf]; omega⟩
      · obtain rfl : m1 = 0 := by omega
        have hrt : Right (cls X) := right_perm HP.out.symm (by rw [HCL.out]; exact hap_right HT.out)
        have hok : HOk (cls X) := ok_perm HP.out.symm (by rw [HCL.out]; exact hap_ok _)
        have HRg := hid (Right_any HX.out)
        rw [rightB_yes hrt] at HRg
        have HCk : Hid (∀ W, RowKit.Below wr.heap.size wr W → Calls Try.prog 12 #[.slice xa 0 xc] W fun e w' => e = .returned (.int .i64 0) ∧ RowKit.Below W.heap.size W w') := fun W hb => by have h := Check_any (HX.out.later hb); rw [chkN_yes hrt hok] at h; exact h
        clear hrt hok
        go_wp2_with (first
          | (go_at_call 9; (with_reducible_and_instances (refine HRg.out.mono ?_)); rintro e v1 ⟨rfl, hb1⟩; have HD1 := hid hb1; clear hb1)
          | (go_at_call 12; (with_reducible_and_instances (refine (HCk.out v1 HD1.out).mono ?_)); rintro e v2 ⟨rfl, hb2⟩; have HD2 := hid hb2; clear hb2)
          | (go_at_call 11; refine (num20_any _ _).mono ?_; rintro e v3 ⟨rfl, hw3⟩; obtain rfl := hw3.symm)
          | (go_at_call 16; (with_reducible_and_instances (refine (knows20 v2).mono ?_)); rintro e v4 ⟨rfl, hb4⟩; have HD4 := hid hb4; clear hb4))
        go_ret
        have b1 := HBl.out.trans (HD1.out.mono hsz)
        have b2 := b1.trans (HD2.out.mono b1.size)
        exact ⟨rfl, b2.trans (HD4.out.mono b2.size)⟩
    · obtain rfl : om = i := by omega
      have hrt : Right (cls X) := right_perm HP.out.symm (by rw [HCL.out]; exact hap_right HT.out)
      have hok : HOk (cls X) := ok_perm HP.out.symm (by rw [HCL.out]; exact hap_ok _)
      have HRg := hid (Right_any HX.out)
      rw [rightB_yes hrt] at HRg
      have HCk : Hid (∀ W, RowKit.Below wr.heap.size wr W → Calls Try.prog 12 #[.slice xa m1 xc] W fun e w' => e = .returned (.int .i64 0) ∧ RowKit.Below W.heap.size W w') := fun W hb => by have h := Check_any (HX.out.later hb); rw [chkN_yes hrt hok] at h; exact h
      clear hrt hok
      go_wp2_with (first
        | (go_at_call 9; (with_reducible_and_instances (refine HRg.out.mono ?_)); rintro e v1 ⟨rfl, hb1⟩; have HD1 := hid hb1; clear hb1)
        | (go_at_call 12; (with_reducible_and_instances (refine (HCk.out v1 HD1.out).mono ?_)); rintro e v2 ⟨rfl, hb2⟩; have HD2 := hid hb2; clear hb2)
        | (go_at_call 11; refine (num20_any _ _).mono ?_; rintro e v3 ⟨rfl, hw3⟩; obtain rfl := hw3.symm)
        | (go_at_call 16; (with_reducible_and_instances (refine (knows20 v2).mono ?_)); rintro e v4 ⟨rfl, hb4⟩; have HD4 := hid hb4; clear hb4))
      go_ret
      have b1 := HBl.out.trans (HD1.out.mono hsz)
      have b2 := b1.trans (HD2.out.mono b1.size)
      exact ⟨rfl, b2.trans (HD4.out.mono b2.size)⟩
end Go.Proofs.Ytpjemifoilbjeaa
