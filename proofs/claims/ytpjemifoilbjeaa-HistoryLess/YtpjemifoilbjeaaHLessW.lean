/- HistoryLess (by genhlessw.py). -/
import Derived.Test.YtpjemifoilbjeaaHOwn
import Derived.Test.YtpjemifoilbjeaaHRot
namespace Go.Proofs.Ytpjemifoilbjeaa
open Go.RowKit Hy
variable {w w' W : World}
theorem chk_zero {l : List Hc} (h : chkN l = 0) : Right l ∧ HOk l := by
  by_cases h1 : Right l
  · by_cases h2 : HOk l
    · exact ⟨h1, h2⟩
    · rw [chkN_no h1 h2] at h; cases h
  · rw [chkN_bad h1] at h; cases h
set_option maxRecDepth 20000 in
set_option maxHeartbeats 4000000 in
theorem less_any {A : List HcA} {ad : Option Addr} {m c : Nat} (h : HV kR w A ad m c) (hby : m * 72 ≤ 140737488351232) (hbq : ∀ y ∈ A, y.2.m * 16 ≤ 140737488351232) {order : List Int} {oa : Option Addr} {om oc : Nat} (ho : ArgK kZ w order oa om oc) :
    Calls Try.prog 6 #[.slice ad m c, .slice oa om oc] w fun e w' => e = .returned (.bool true) ∧ RowKit.Below w.heap.size w w' := by
  have hAl := h.row.len
  have HOw := hid (Own_any h hby (fun i hi => hbq _ (by rw [List.getD_eq_getElem?_getD, List.getElem?_eq_getElem (by omega)]; exact List.getElem_mem _)))
  have HO := hid ho
  have hcap := ho.cap
  have hroom := ho.room
  unfold maxLen at hroom
  have hmm : m ≤ 1954687338211 := by omega
  clear h ho hAl hbq hby
  obtain ⟨e0, he0⟩ : ∃ e0, chkN (cls A) = e0 := ⟨_, rfl⟩
  by_cases hz : e0 = 0
  · subst hz
    have HEq := hid he0
    have HIv : Hid (Right (cls A) ∧ HOk (cls A)) := hid (chk_zero he0)
    clear he0
    go_enter Try.func6, Try.ntmps6
    go_wp2_with (first
      | (go_at_call 8; (with_reducible_and_instances (refine HOw.out.mono ?_)); rintro e w2 ⟨a2, c2, B, rfl, hcs, hcl, hb2⟩; have HCS := hid (hcs.hv kC_ok.tofit); have HB2 := hid hb2; have HCk := hid (Check_any HCS.out); rw [hcl, HEq.out] at HCk; have HCl := hid hcl; clear hcs hcl hb2)
      | (go_at_call 12; (with_reducible_and_instances (refine HCk.out.mono ?_)); rintro e w3 ⟨rfl, hb3⟩; have HB3 := hid (HB2.out.trans (hb3.mono HB2.out.size)); have HCS3 := hid (HCS.out.later hb3); clear hb3)
      | (go_at_call 11; refine (num20_any _ _).mono ?_; rintro e v3 ⟨rfl, hw3⟩; obtain rfl := hw3.symm))
    go_loopw [5, 7] (fun xv iv wr => ∃ (i M : Nat) (X : List HcA) (xa : Option Addr) (xc : Nat), i ≤ om ∧ M ≤ m ∧ iv = .int .i64 (i : Int) ∧ xv = .slice xa M xc ∧ w.heap.size ≤ wr.heap.size ∧ Hid (HV kC wr X xa M xc) ∧ Hid (Right (cls X) ∧ HOk (cls X)) ∧ Hid (RowKit.Below w.heap.size w wr)) (fun _ iv _ => om - (intOf iv).toNat)
    case atStart => exact ⟨0, m, B, a2, c2, by omega, by omega, rfl, rfl, HB3.out.size, HCS3, HCl.out ▸ HIv, HB3⟩
    case round =>
      obtain ⟨i, M, X, xa, xc, hi, hM, rfl, rfl, hsz, HX, HI, HBl⟩ := hrel
      by_cases hlt : i < om
      · by_cases hm0 : 0 < M
        · obtain ⟨ob, oo, rfl, hos, hoc⟩ := (HO.out.later HBl.out).cells (by omega)
          obtain ⟨z, hz⟩ : ∃ z, order.getD i 0 = z := ⟨_, rfl⟩
          have r0 : wr.cell? ⟨ob, oo + i, none⟩ = some (.int .i64 z) := by have h := hoc i hlt 0 (by decide); rw [show order.getD i kZ.z = z from hz] at h; simpa using h
          obtain ⟨k, hk, k1, k2, k3, k4, k5⟩ := mod20 z M hm0
          have hwm : IntKind.i64.wrap (z.tmod (M : Int) + (M : Int)) = z.tmod (M : Int) + (M : Int) := by rw [IntKind.wrap_i64]; omega
          have hz0' : ((M : Int) == 0) = false := by simp; omega
          obtain ⟨xb, xo, rfl, hxs, c0, -⟩ := HX.out.at hk
          have hcx := HX.out.row.cap
          have hrx := HX.out.row.room
          unfold maxLen at hrx
          have HXl := hid HX.out.row.len
          obtain ⟨rd, hrd⟩ : ∃ rd, (X.getD k hz0).1.rd = rd := ⟨_, rfl⟩
          rw [hrd] at c0
          have HRd := hid hrd
          have hw1 : IntKind.i64.wrap ((k : Int) + 1) = (k : Int) + 1 := by rw [IntKind.wrap_i64]; omega
          have hk1 : ((k : Int) + 1).toNat = k + 1 := by omega
          clear hoc hz hrd
          cases rd with
          | false =>
            go_wp2_with fail
            exact ⟨⟨i + 1, M, X, some ⟨xb, xo, none⟩, xc, by omega, hM, by go_num, rfl, hsz, HX, HI, HBl⟩, by simp [intOf]; omega⟩
          | true =>
            go_wp2_with fail
            refine wp_region_held_drew (S := fun W => True) (by kernel_rfl) (trivial) (fun hHeld => ?_)
            refine wpAnyH_take (i := 1) (oi := { dst := some 43, op := Op.move (Operand.tmp 5), type := 23, pos := "law.go:170", after := #[], guard := none }) (v := ?_) rfl (by kernel_rfl) (by kernel_rfl) (by kernel_rfl) (fun _ _ _ h => h) (Or.inl ⟨by rfl, ?_⟩) hHeld ?_
            rotate_left
            · intro w hSw; (try dsimp only at hSw); go_simp; try with_reducible rfl
            try simp only [Act.put, List.setIfInBounds_toArray, List.set_cons_zero, List.set_cons_succ]
            refine wpAnyH_take (i := 2) (oi := { dst := some 44, op := Op.move (Operand.tmp 8), type := 3, pos := "law.go:170", after := #[], guard := none }) (v := ?_) rfl (by kernel_rfl) (by kernel_rfl) (by kernel_rfl) (fun _ _ _ h => h) (Or.inl ⟨by rfl, ?_⟩) hHeld ?_
            rotate_left
            · intro w hSw; (try dsimp only at hSw); go_simp; try with_reducible rfl
            try simp only [Act.put, List.setIfInBounds_toArray, List.set_cons_zero, List.set_cons_succ]
            refine wpAnyH_take (i := 3) (oi := { dst := some 45, op := Op.slice 23 (Operand.tmp 43) none (some (Operand.tmp 44)) none, type := 23, pos := "law.go:170", after := #[{ on := 1, ground := Ground.data }, { on := 2, ground := Ground.data }], guard := none }) (v := .slice (some ⟨xb, xo, none⟩) k xc) rfl (by kernel_rfl) (by kernel_rfl) (by kernel_rfl) (fun _ _ _ h => h) (Or.inl ⟨by rfl, ?_⟩) hHeld ?_
            · intro w hSw; go_simp; intro hh; omega
            try simp only [Act.put, List.setIfInBounds_toArray, List.set_cons_zero, List.set_cons_succ]
            refine wpAnyH_take (i := 5) (oi := { dst := some 47, op := Op.move (Operand.tmp 5), type := 23, pos := "law.go:170", after := #[], guard := none }) (v := ?_) rfl (by kernel_rfl) (by kernel_rfl) (by kernel_rfl) (fun _ _ _ h => h) (Or.inl ⟨by rfl, ?_⟩) hHeld ?_
            rotate_left
            · intro w hSw; (try dsimp only at hSw); go_simp; try with_reducible rfl
            try simp only [Act.put, List.setIfInBounds_toArray, List.set_cons_zero, List.set_cons_succ]
            refine wpAnyH_take (i := 6) (oi := { dst := some 48, op := Op.move (Operand.tmp 8), type := 3, pos := "law.go:170", after := #[], guard := none }) (v := ?_) rfl (by kernel_rfl) (by kernel_rfl) (by kernel_rfl) (fun _ _ _ h => h) (Or.inl ⟨by rfl, ?_⟩) hHeld ?_
            rotate_left
            · intro w hSw; (try dsimp only at hSw); go_simp; try with_reducible rfl
            try simp only [Act.put, List.setIfInBounds_toArray, List.set_cons_zero, List.set_cons_succ]
            refine wpAnyH_take (i := 7) (oi := { dst := some 49, op := Op.binOp BinOp.add 3 (Operand.tmp 48) (Operand.const (Value.int IntKind.i64 1)) 3, type := 3, pos := "law.go:170", after := #[{ on := 6, ground := Ground.data }], guard := none }) (v := ?_) rfl (by kernel_rfl) (by kernel_rfl) (by kernel_rfl) (fun _ _ _ h => h) (Or.inl ⟨by rfl, ?_⟩) hHeld ?_
            rotate_left
            · intro w hSw; (try dsimp only at hSw); go_simp; try with_reducible rfl
            try simp only [Act.put, List.setIfInBounds_toArray, List.set_cons_zero, List.set_cons_succ]
            refine wpAnyH_take (i := 8) (oi := { dst := some 50, op := Op.slice 23 (Operand.tmp 47) (some (Operand.tmp 49)) none none, type := 23, pos := "law.go:170", after := #[{ on := 5, ground := Ground.data }, { on := 7, ground := Ground.data }], guard := none }) (v := .slice (if xc = k + 1 then some ⟨xb, xo, none⟩ else some ⟨xb, xo + (k + 1) * 7, none⟩) (M - (k + 1)) (xc - (k + 1))) rfl (by kernel_rfl) (by kernel_rfl) (by kernel_rfl) (fun _ _ _ h => h) (Or.inl ⟨by rfl, ?_⟩) hHeld ?_
            · intro w hSw; split <;> go_simp <;> (try simp only [*, if_true, if_false]) <;> first | rfl | (intro hh; have h9 := hh (by omega); omega)
            try simp only [Act.put, List.setIfInBounds_toArray, List.set_cons_zero, List.set_cons_succ]
            refine wpAnyH_ready (rs := [0]) (by kernel_rfl) (by simp) ?_
            refine AllReadyH.cons rfl (fun K hK => ?_) (AllReadyH.nil)
            go_simp
            refine hK.out _ _ (trivial) (fun hHeld => ?_)
            clear hK K
            try simp only [Act.put, List.setIfInBounds_toArray, List.set_cons_zero, List.set_cons_succ]
            refine wpAnyH_ready (rs := [4]) (by kernel_rfl) (by simp) ?_
            refine AllReadyH.cons rfl (fun K hK => ?_) (AllReadyH.nil)
            have hO1 := emptyK_drew kC wr
            refine step_app_argK kC_ok (by rfl) (.tmp 42) (.tmp 45) (by rfl) wr.heap.size (.slice (some ⟨wr.heap.size, 0, none⟩) 0 0) [] (X.take k) (by rfl) hO1 (by rfl) (((HX.out.row).later ((Below.refl _ wr).alloc (Nat.le_refl _) (.cells #[] 34)).drew).takeK (by omega)) (by rw [List.length_nil]; unfold maxLen; omega) (by rw [List.length_nil]; show (0 + k) * 72 ≤ _; omega) (by simp [World.drew]) ?_
            intro s' W3 hs' hO3 hG3 hL3
            have hB3 := own_stepK hO1 hG3
            have HO3 := hid (show OwnK kC W3 wr.heap.size s'.v (X.take k) from hO3); have HB3 := hid hB3; clear hO1 hO3 hG3 hL3
            obtain ⟨s3, m3, c3⟩ := s'
            unfold Sl.v at HO3 ⊢
            refine hK.out _ _ (trivial) (fun hHeld => ?_)
            clear hK K
            refine wpAnyH_ready (rs := [9]) (by kernel_rfl) (by simp) ?_
            refine AllReadyH.cons rfl (fun K hK => ?_) (AllReadyH.nil)
            refine step_app_argK kC_ok (by rfl) (.tmp 46) (.tmp 50) (by rfl) wr.heap.size (.slice s3 m3 c3) (X.take k) (X.drop (k + 1)) (by rfl) HO3.out (by rfl) ((HX.out.row.later HB3.out).dropK (by omega) ?_ ?_) ?_ ?_ HB3.out.size ?_
            · intro e; split at e <;> cases e
            · intro hlt7 b off e; cases e; rw [if_neg (by omega)]
            · rw [List.length_take, HXl.out]; unfold maxLen; omega
            · rw [List.length_take, HXl.out]; show _ * 72 ≤ _; omega
            intro s' W5 hs' hO5 hG5 hL5
            obtain ⟨s5, m5, c5⟩ := s'
            have hm5 : m5 = M - 1 := by have h : m5 = _ := hs'; rw [h, List.length_take, HXl.out]; omega
            subst hm5
            have hB5 := HB3.out.grown hG5 HB3.out.size (fun g hg => (HO3.out.block g hg).1)
            have HX5 := hid (HV.less HX.out hB5 (show OwnK kC W5 wr.heap.size (.slice s5 (M - 1) c5) (X.take k ++ X.drop (k + 1)) from hO5)); have HB5 := hid hB5; clear hO5 hG5 hL5 hs' hB5
            unfold Sl.v
            refine hK.out _ _ (trivial) (fun hHeld => ?_)
            clear hK K
            refine wpAnyH_take (i := 10) (oi := { dst := some 5, op := Op.assign (Operand.tmp 51), type := 23, pos := "law.go:170", after := #[{ on := 9, ground := Ground.data }, { on := 9, ground := Ground.chain }, { on := 0, ground := Ground.phase }, { on := 1, ground := Ground.phase }, { on := 2, ground := Ground.phase }, { on := 3, ground := Ground.phase }, { on := 4, ground := Ground.phase }, { on := 5, ground := Ground.phase }, { on := 6, ground := Ground.phase }, { on := 7, ground := Ground.phase }, { on := 8, ground := Ground.phase }, { on := 9, ground := Ground.phase }], guard := none }) (v := ?_) rfl (by kernel_rfl) (by kernel_rfl) (by kernel_rfl) (fun _ _ _ h => h) (Or.inl ⟨by rfl, ?_⟩) hHeld ?_
            rotate_left
            · intro w hSw; (try dsimp only at hSw); go_simp; try with_reducible rfl
            refine wpAnyH_done (by kernel_rfl) ?_ _
            have hI5 : Right (cls (X.take k ++ X.drop (k + 1))) ∧ HOk (cls (X.take k ++ X.drop (k + 1))) := by
              have hp := cls_perm (take_perm X hz0 k (by rw [HXl.out]; exact hk))
              have h1 : Right ((X.getD k hz0).1 :: cls (X.take k ++ X.drop (k + 1))) := right_perm hp.symm HI.out.1
              have h2 : HOk ((X.getD k hz0).1 :: cls (X.take k ++ X.drop (k + 1))) := ok_perm hp.symm HI.out.2
              exact ⟨right_less h1, ok_less HRd.out h2⟩
            have HC5 := hid (Check_any HX5.out)
            rw [chkN_yes hI5.1 hI5.2] at HC5
            have HI5 := hid hI5
            clear hI5
            go_wp2_with (first
              | (go_at_call 12; (with_reducible_and_instances (refine HC5.out.mono ?_)); rintro e w7 ⟨rfl, hb7⟩; have HB7 := hid (HB5.out.trans (hb7.mono HB5.out.size)); have HX7 := hid (HX5.out.later hb7); clear hb7)
              | (go_at_call 11; refine (num20_any _ _).mono ?_; rintro e v3 ⟨rfl, hw3⟩; obtain rfl := hw3.symm))
            exact ⟨⟨i + 1, M - 1, _, s5, c5, by omega, by omega, by go_num, rfl, Nat.le_trans hsz HB7.out.size, HX7, HI5, hid (HBl.out.trans (HB7.out.mono hsz))⟩, by simp [intOf]; omega⟩
        · obtain rfl : M = 0 := by omega
          go_wp2_with (go_at_call 16; (with_reducible_and_instances (refine (knows20 _).mono ?_)); rintro e v4 ⟨rfl, hb4⟩; have HD4 := hid hb4; clear hb4)
          go_ret
          exact ⟨rfl, HBl.out.trans (HD4.out.mono hsz)⟩
      · obtain rfl : om = i := by omega
        go_wp2_with (go_at_call 16; (with_reducible_and_instances (refine (knows20 _).mono ?_)); rintro e v4 ⟨rfl, hb4⟩; have HD4 := hid hb4; clear hb4)
        go_ret
        exact ⟨rfl, HBl.out.trans (HD4.out.mono hsz)⟩
  · have HEq := hid he0
    have hne : (e0 == 0) = false := by simpa using hz
    clear he0
    go_enter Try.func6, Try.ntmps6
    go_wp2_with (first
      | (go_at_call 8; (with_reducible_and_instances (refine HOw.out.mono ?_)); rintro e w2 ⟨a2, c2, B, rfl, hcs, hcl, hb2⟩; have HCS := hid (hcs.hv kC_ok.tofit); have HB2 := hid hb2; have HCk := hid (Check_any HCS.out); rw [hcl, HEq.out] at HCk; have HCl := hid hcl; clear hcs hcl hb2)
      | (go_at_call 12; (with_reducible_and_instances (refine HCk.out.mono ?_)); rintro e w3 ⟨rfl, hb3⟩; have HB3 := hid (HB2.out.trans (hb3.mono HB2.out.size)); have HCS3 := hid (HCS.out.later hb3); clear hb3)
      | (go_at_call 11; refine (num20_any _ _).mono ?_; rintro e v3 ⟨rfl, hw3⟩; obtain rfl := hw3.symm))
    go_loopw [5, 7] (fun xv iv wr => ∃ (i M : Nat) (X : List HcA) (xa : Option Addr) (xc : Nat), i ≤ om ∧ M ≤ m ∧ iv = .int .i64 (i : Int) ∧ xv = .slice xa M xc ∧ w.heap.size ≤ wr.heap.size ∧ Hid (HV kC wr X xa M xc) ∧ Hid (RowKit.Below w.heap.size w wr)) (fun _ iv _ => om - (intOf iv).toNat)
    case atStart => exact ⟨0, m, B, a2, c2, by omega, by omega, rfl, rfl, HB3.out.size, HCS3, HB3⟩
    case round =>
      obtain ⟨i, M, X, xa, xc, hi, hM, rfl, rfl, hsz, HX, HBl⟩ := hrel
      by_cases hlt : i < om
      · by_cases hm0 : 0 < M
        · obtain ⟨ob, oo, rfl, hos, hoc⟩ := (HO.out.later HBl.out).cells (by omega)
          obtain ⟨z, hz⟩ : ∃ z, order.getD i 0 = z := ⟨_, rfl⟩
          have r0 : wr.cell? ⟨ob, oo + i, none⟩ = some (.int .i64 z) := by have h := hoc i hlt 0 (by decide); rw [show order.getD i kZ.z = z from hz] at h; simpa using h
          obtain ⟨k, hk, k1, k2, k3, k4, k5⟩ := mod20 z M hm0
          have hwm : IntKind.i64.wrap (z.tmod (M : Int) + (M : Int)) = z.tmod (M : Int) + (M : Int) := by rw [IntKind.wrap_i64]; omega
          have hz0' : ((M : Int) == 0) = false := by simp; omega
          obtain ⟨xb, xo, rfl, hxs, c0, -⟩ := HX.out.at hk
          have hcx := HX.out.row.cap
          have hrx := HX.out.row.room
          unfold maxLen at hrx
          have HXl := hid HX.out.row.len
          obtain ⟨rd, hrd⟩ : ∃ rd, (X.getD k hz0).1.rd = rd := ⟨_, rfl⟩
          rw [hrd] at c0
          have HRd := hid hrd
          have hw1 : IntKind.i64.wrap ((k : Int) + 1) = (k : Int) + 1 := by rw [IntKind.wrap_i64]; omega
          have hk1 : ((k : Int) + 1).toNat = k + 1 := by omega
          clear hoc hz hrd
          cases rd with
          | false =>
            go_wp2_with fail
            exact ⟨⟨i + 1, M, X, some ⟨xb, xo, none⟩, xc, by omega, hM, by go_num, rfl, hsz, HX, HBl⟩, by simp [intOf]; omega⟩
          | true =>
            go_wp2_with fail
            refine wp_region_held_drew (S := fun W => True) (by kernel_rfl) (trivial) (fun hHeld => ?_)
            refine wpAnyH_take (i := 1) (oi := { dst := some 43, op := Op.move (Operand.tmp 5), type := 23, pos := "law.go:170", after := #[], guard := none }) (v := ?_) rfl (by kernel_rfl) (by kernel_rfl) (by kernel_rfl) (fun _ _ _ h => h) (Or.inl ⟨by rfl, ?_⟩) hHeld ?_
            rotate_left
            · intro w hSw; (try dsimp only at hSw); go_simp; try with_reducible rfl
            try simp only [Act.put, List.setIfInBounds_toArray, List.set_cons_zero, List.set_cons_succ]
            refine wpAnyH_take (i := 2) (oi := { dst := some 44, op := Op.move (Operand.tmp 8), type := 3, pos := "law.go:170", after := #[], guard := none }) (v := ?_) rfl (by kernel_rfl) (by kernel_rfl) (by kernel_rfl) (fun _ _ _ h => h) (Or.inl ⟨by rfl, ?_⟩) hHeld ?_
            rotate_left
            · intro w hSw; (try dsimp only at hSw); go_simp; try with_reducible rfl
            try simp only [Act.put, List.setIfInBounds_toArray, List.set_cons_zero, List.set_cons_succ]
            refine wpAnyH_take (i := 3) (oi := { dst := some 45, op := Op.slice 23 (Operand.tmp 43) none (some (Operand.tmp 44)) none, type := 23, pos := "law.go:170", after := #[{ on := 1, ground := Ground.data }, { on := 2, ground := Ground.data }], guard := none }) (v := .slice (some ⟨xb, xo, none⟩) k xc) rfl (by kernel_rfl) (by kernel_rfl) (by kernel_rfl) (fun _ _ _ h => h) (Or.inl ⟨by rfl, ?_⟩) hHeld ?_
            · intro w hSw; go_simp; intro hh; omega
            try simp only [Act.put, List.setIfInBounds_toArray, List.set_cons_zero, List.set_cons_succ]
            refine wpAnyH_take (i := 5) (oi := { dst := some 47, op := Op.move (Operand.tmp 5), type := 23, pos := "law.go:170", after := #[], guard := none }) (v := ?_) rfl (by kernel_rfl) (by kernel_rfl) (by kernel_rfl) (fun _ _ _ h => h) (Or.inl ⟨by rfl, ?_⟩) hHeld ?_
            rotate_left
            · intro w hSw; (try dsimp only at hSw); go_simp; try with_reducible rfl
            try simp only [Act.put, List.setIfInBounds_toArray, List.set_cons_zero, List.set_cons_succ]
            refine wpAnyH_take (i := 6) (oi := { dst := some 48, op := Op.move (Operand.tmp 8), type := 3, pos := "law.go:170", after := #[], guard := none }) (v := ?_) rfl (by kernel_rfl) (by kernel_rfl) (by kernel_rfl) (fun _ _ _ h => h) (Or.inl ⟨by rfl, ?_⟩) hHeld ?_
            rotate_left
            · intro w hSw; (try dsimp only at hSw); go_simp; try with_reducible rfl
            try simp only [Act.put, List.setIfInBounds_toArray, List.set_cons_zero, List.set_cons_succ]
            refine wpAnyH_take (i := 7) (oi := { dst := some 49, op := Op.binOp BinOp.add 3 (Operand.tmp 48) (Operand.const (Value.int IntKind.i64 1)) 3, type := 3, pos := "law.go:170", after := #[{ on := 6, ground := Ground.data }], guard := none }) (v := ?_) rfl (by kernel_rfl) (by kernel_rfl) (by kernel_rfl) (fun _ _ _ h => h) (Or.inl ⟨by rfl, ?_⟩) hHeld ?_
            rotate_left
            · intro w hSw; (try dsimp only at hSw); go_simp; try with_reducible rfl
            try simp only [Act.put, List.setIfInBounds_toArray, List.set_cons_zero, List.set_cons_succ]
            refine wpAnyH_take (i := 8) (oi := { dst := some 50, op := Op.slice 23 (Operand.tmp 47) (some (Operand.tmp 49)) none none, type := 23, pos := "law.go:170", after := #[{ on := 5, ground := Ground.data }, { on := 7, ground := Ground.data }], guard := none }) (v := .slice (if xc = k + 1 then some ⟨xb, xo, none⟩ else some ⟨xb, xo + (k + 1) * 7, none⟩) (M - (k + 1)) (xc - (k + 1))) rfl (by kernel_rfl) (by kernel_rfl) (by kernel_rfl) (fun _ _ _ h => h) (Or.inl ⟨by rfl, ?_⟩) hHeld ?_
            · intro w hSw; split <;> go_simp <;> (try simp only [*, if_true, if_false]) <;> first | rfl | (intro hh; have h9 := hh (by omega); omega)
            try simp only [Act.put, List.setIfInBounds_toArray, List.set_cons_zero, List.set_cons_succ]
            refine wpAnyH_ready (rs := [0]) (by kernel_rfl) (by simp) ?_
            refine AllReadyH.cons rfl (fun K hK => ?_) (AllReadyH.nil)
            go_simp
            refine hK.out _ _ (trivial) (fun hHeld => ?_)
            clear hK K
            try simp only [Act.put, List.setIfInBounds_toArray, List.set_cons_zero, List.set_cons_succ]
            refine wpAnyH_ready (rs := [4]) (by kernel_rfl) (by simp) ?_
            refine AllReadyH.cons rfl (fun K hK => ?_) (AllReadyH.nil)
            have hO1 := emptyK_drew kC wr
            refine step_app_argK kC_ok (by rfl) (.tmp 42) (.tmp 45) (by rfl) wr.heap.size (.slice (some ⟨wr.heap.size, 0, none⟩) 0 0) [] (X.take k) (by rfl) hO1 (by rfl) (((HX.out.row).later ((Below.refl _ wr).alloc (Nat.le_refl _) (.cells #[] 34)).drew).takeK (by omega)) (by rw [List.length_nil]; unfold maxLen; omega) (by rw [List.length_nil]; show (0 + k) * 72 ≤ _; omega) (by simp [World.drew]) ?_
            intro s' W3 hs' hO3 hG3 hL3
            have hB3 := own_stepK hO1 hG3
            have HO3 := hid (show OwnK kC W3 wr.heap.size s'.v (X.take k) from hO3); have HB3 := hid hB3; clear hO1 hO3 hG3 hL3
            obtain ⟨s3, m3, c3⟩ := s'
            unfold Sl.v at HO3 ⊢
            refine hK.out _ _ (trivial) (fun hHeld => ?_)
            clear hK K
            refine wpAnyH_ready (rs := [9]) (by kernel_rfl) (by simp) ?_
            refine AllReadyH.cons rfl (fun K hK => ?_) (AllReadyH.nil)
            refine step_app_argK kC_ok (by rfl) (.tmp 46) (.tmp 50) (by rfl) wr.heap.size (.slice s3 m3 c3) (X.take k) (X.drop (k + 1)) (by rfl) HO3.out (by rfl) ((HX.out.row.later HB3.out).dropK (by omega) ?_ ?_) ?_ ?_ HB3.out.size ?_
            · intro e; split at e <;> cases e
            · intro hlt7 b off e; cases e; rw [if_neg (by omega)]
            · rw [List.length_take, HXl.out]; unfold maxLen; omega
            · rw [List.length_take, HXl.out]; show _ * 72 ≤ _; omega
            intro s' W5 hs' hO5 hG5 hL5
            obtain ⟨s5, m5, c5⟩ := s'
            have hm5 : m5 = M - 1 := by have h : m5 = _ := hs'; rw [h, List.length_take, HXl.out]; omega
            subst hm5
            have hB5 := HB3.out.grown hG5 HB3.out.size (fun g hg => (HO3.out.block g hg).1)
            have HX5 := hid (HV.less HX.out hB5 (show OwnK kC W5 wr.heap.size (.slice s5 (M - 1) c5) (X.take k ++ X.drop (k + 1)) from hO5)); have HB5 := hid hB5; clear hO5 hG5 hL5 hs' hB5
            unfold Sl.v
            refine hK.out _ _ (trivial) (fun hHeld => ?_)
            clear hK K
            refine wpAnyH_take (i := 10) (oi := { dst := some 5, op := Op.assign (Operand.tmp 51), type := 23, pos := "law.go:170", after := #[{ on := 9, ground := Ground.data }, { on := 9, ground := Ground.chain }, { on := 0, ground := Ground.phase }, { on := 1, ground := Ground.phase }, { on := 2, ground := Ground.phase }, { on := 3, ground := Ground.phase }, { on := 4, ground := Ground.phase }, { on := 5, ground := Ground.phase }, { on := 6, ground := Ground.phase }, { on := 7, ground := Ground.phase }, { on := 8, ground := Ground.phase }, { on := 9, ground := Ground.phase }], guard := none }) (v := ?_) rfl (by kernel_rfl) (by kernel_rfl) (by kernel_rfl) (fun _ _ _ h => h) (Or.inl ⟨by rfl, ?_⟩) hHeld ?_
            rotate_left
            · intro w hSw; (try dsimp only at hSw); go_simp; try with_reducible rfl
            refine wpAnyH_done (by kernel_rfl) ?_ _
            go_wp2_with fail
            exact ⟨⟨i + 1, M - 1, _, s5, c5, by omega, by omega, by go_num, rfl, Nat.le_trans hsz HB5.out.size, HX5, hid (HBl.out.trans (HB5.out.mono hsz))⟩, by simp [intOf]; omega⟩
        · obtain rfl : M = 0 := by omega
          go_wp2_with (go_at_call 16; (with_reducible_and_instances (refine (knows20 _).mono ?_)); rintro e v4 ⟨rfl, hb4⟩; have HD4 := hid hb4; clear hb4)
          go_ret
          exact ⟨rfl, HBl.out.trans (HD4.out.mono hsz)⟩
      · obtain rfl : om = i := by omega
        go_wp2_with (go_at_call 16; (with_reducible_and_instances (refine (knows20 _).mono ?_)); rintro e v4 ⟨rfl, hb4⟩; have HD4 := hid hb4; clear hb4)
        go_ret
        exact ⟨rfl, HBl.out.trans (HD4.out.mono hsz)⟩
end Go.Proofs.Ytpjemifoilbjeaa
