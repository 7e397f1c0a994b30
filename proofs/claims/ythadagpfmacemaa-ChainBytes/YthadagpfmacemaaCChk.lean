/- The work of Extend of package chain (by genext.py). -/
import Derived.Test.YthadagpfmacemaaCExtG
import Derived.Test.YthadagpfmacemaaCInsist
import Derived.Test.YthadagpfmacemaaCAttB
import Derived.Deep.DeepCutAuto
namespace Go.Proofs.Ythadagpfmacemaa
open Go.RowKit
variable {W : World} {l : List Pt} {A : Nat → Sl} {ad ad1 : Option Addr} {m c m1 c1 : Nat} {ns : List Int}

/-- The boxes that the work of Extend has. -/
structure ExtB (W : World) (gc gn ge go gx : Nat) (o t : Int) (ad : Option Addr) (m c : Nat) (n e ow id : Int) (ad1 : Option Addr) (m1 c1 : Nat) : Prop where
  bc : Blk W gc #[.int .i64 o, .int .i64 t, .slice ad m c] 28
  bn : Blk W gn #[.int .i64 n] 3
  be : Blk W ge #[.int .i64 e] 3
  bo : Blk W go #[.int .i64 ow] 3
  bx : Blk W gx #[.int .i64 id, .slice ad1 m1 c1] 54
/-- What the work of Extend answers. -/
def ExtP (W : World) (o t : Int) (l : List Pt) (n ow e id : Int) (ns : List Int) (x : Ending) (W' : World) : Prop :=
  ((∃ (o' t' : Int) (ad' : Option Addr) (m' c' : Nat), x = .returned (.agg #[.int .i64 o', .int .i64 t', .slice ad' m' c']) ∧ (extE o t l n ow e id ns = 0 ∧ o' = ow ∧ t' = t ∧ CAns W' W.heap.size (extL t l e ⟨e, id, ns⟩) ad' m' c')) ∨ (∃ y : Int, x = .panicked (refusal y) ∧ (y = extE o t l n ow e id ns ∧ y ≠ 0))) ∧ Below W.heap.size W W'
theorem ExtP.no {W W' : World} {o t n ow e id : Int} {l : List Pt} {ns : List Int} {y : Int} (h : extE o t l n ow e id ns = y) (hy : y ≠ 0) (hb : Below W.heap.size W W') : ExtP W o t l n ow e id ns (.panicked (refusal y)) W' := ⟨Or.inr ⟨y, rfl, h.symm, hy⟩, hb⟩
theorem extE_1 {o t n ow e id : Int} (h : ¬ mayC o t l n) : extE o t l n ow e id ns = 1 := by unfold extE; rw [if_neg h]
theorem extE_2 {o t n ow e id : Int} (h : mayC o t l n) (h2 : ¬ (l.length < 64 ∨ e = lastF l)) : extE o t l n ow e id ns = 7 := by unfold extE; rw [if_pos h, if_neg h2]
theorem extE_3 {o t n ow e id : Int} (h : mayC o t l n) (h2 : l.length < 64 ∨ e = lastF l) (h3 : ¬ (max (lastF l) t ≤ e ∧ e ≤ farF l)) : extE o t l n ow e id ns = 1 := by unfold extE; rw [if_pos h, if_pos h2, if_neg h3]
theorem extE_4 {o t n ow e id : Int} (h : mayC o t l n) (h2 : l.length < 64 ∨ e = lastF l) (h3 : max (lastF l) t ≤ e ∧ e ≤ farF l) : extE o t l n ow e id ns = if mayC ow t (extL t l e ⟨e, id, ns⟩) n then 0 else 1 := by unfold extE; rw [if_pos h, if_pos h2, if_pos h3]
set_option maxRecDepth 100000 in
set_option maxHeartbeats 4000000 in
theorem ext1_any {gc gn ge go gx : Nat} {o t n e ow id : Int} (hB : ExtB W gc gn ge go gx o t ad m c n e ow id ad1 m1 c1) (h : CArg W l A ad m c) (hx : Ints W ns ad1 m1 c1) (hx0 : ad1 = none → m1 = 0 ∧ c1 = 0) (hm1 : m1 * 8 ≤ 140737488355328) (hid' : -9223372036854775808 ≤ id ∧ id ≤ 9223372036854775807) (he' : -9223372036854775808 ≤ e ∧ e ≤ 9223372036854775807) :
    Calls Try.prog 43 #[.pointer (some ⟨gc, 0, none⟩), .pointer (some ⟨gn, 0, none⟩), .pointer (some ⟨ge, 0, none⟩), .pointer (some ⟨go, 0, none⟩), .pointer (some ⟨gx, 0, none⟩)] W (ExtP W o t l n ow e id ns) := by
  have HC : Hid (∀ X, Below W.heap.size W X → X.cell? ⟨gc, 0, none⟩ = some (.int .i64 o) ∧ X.cell? ⟨gc, 1, none⟩ = some (.int .i64 t) ∧ X.cell? ⟨gc, 2, none⟩ = some (.slice ad m c) ∧ X.cell? ⟨gn, 0, none⟩ = some (.int .i64 n) ∧ X.cell? ⟨ge, 0, none⟩ = some (.int .i64 e) ∧ X.cell? ⟨go, 0, none⟩ = some (.int .i64 ow) ∧ X.cell? ⟨gx, 0, none⟩ = some (.int .i64 id) ∧ X.cell? ⟨gx, 1, none⟩ = some (.slice ad1 m1 c1)) := hid (fun X hX => ⟨(hB.bc.later hX).cell 0, (hB.bc.later hX).cell 1, (hB.bc.later hX).cell 2, (hB.bn.later hX).cell 0, (hB.be.later hX).cell 0, (hB.bo.later hX).cell 0, (hB.bx.later hX).cell 0, (hB.bx.later hX).cell 1⟩)
  have HB0 : Hid (Below W.heap.size W (W.alloc (.cells #[.int .i64 0, .int .i64 0, .slice none 0 0] 28))) := hid ((Below.refl _ _).alloc (Nat.le_refl _) _)
  have HA : Hid (∀ X, Below W.heap.size W X → CArg X l A ad m c) := hid (fun X hX => h.later hX)
  have HX : Hid (∀ X, Below W.heap.size W X → Ints X ns ad1 m1 c1) := hid (fun X hX => hx.later hX)
  have HLF : Hid (∀ X, Below W.heap.size W X → Calls Try.prog 44 #[.slice ad m c] X fun x X' => x = .returned (.int .i64 (lastF l)) ∧ X' = X) := hid (fun X hX => lastFirst_any (h.later hX))
  have hl := h.len
  have hm : m ≤ 9223372036854775807 := by have := h.cap; have := h.room; unfold maxLen at this; omega
  have HR : Hid (∀ i, i < m → (-9223372036854775808 ≤ (ptAt l i).first ∧ (ptAt l i).first ≤ 9223372036854775807) ∧ (-9223372036854775808 ≤ (ptAt l i).id ∧ (ptAt l i).id ≤ 9223372036854775807)) := h.rng
  have HI1 := hid (insistChain_any (h.later HB0.out) o t n 1)
  obtain ⟨k0, k1, k2, k3, k4, k5, k6, k7⟩ := HC.out (W.alloc (.cells #[.int .i64 0, .int .i64 0, .slice none 0 0] 28)) HB0.out
  have hbs : Hid (ExtB W gc gn ge go gx o t ad m c n e ow id ad1 m1 c1) := hB
  have Hx0 : Hid (ad1 = none → m1 = 0 ∧ c1 = 0) := hx0
  have Hnil : Hid (ad = none → m = 0 ∧ c = 0) := h.nil
  clear h hx hB hx0
  by_cases p1 : mayC o t l n
  case neg =>
    have HE := hid (extE_1 (ow := ow) (e := e) (id := id) (ns := ns) p1)
    rw [insC_no p1] at HI1
    clear p1
    go_enter Try.func43, Try.ntmps43
    go_wp2_with (go_at_call 30; refine HI1.out.mono ?_; rintro x w1 ⟨rfl, hb1⟩; have HB1 : Hid (Below W.heap.size W w1) := hid (HB0.out.trans (hb1.mono HB0.out.size)); have HQ1 := hid hb1; clear hb1; clear k0 k1 k2 k3 k4 k5 k6 k7; obtain ⟨k0, k1, k2, k3, k4, k5, k6, k7⟩ := HC.out w1 HB1.out; have HL1 := hid (HLF.out w1 HB1.out))
    exact ⟨rfl, ExtP.no HE.out (by decide) HB1.out⟩
  rw [insC_ok p1] at HI1
  have hlr := lastF_rng p1.2.2.1
  have h64 : m ≤ 64 := by have := p1.2.1.2; omega
  have HP1 := hid p1
  have HE2 : Hid (¬ (m < 64 ∨ e = lastF l) → extE o t l n ow e id ns = 7) := hid (fun hh => extE_2 p1 (by rw [hl]; exact hh))
  have HF1' : Hid (∀ X, Below W.heap.size W X → Calls Try.prog 45 #[.slice ad m c] X fun x X' => x = .returned (.int .i64 (farF l)) ∧ X' = X) := hid (fun X hX => farthest_any (HA.out X hX) ⟨by omega, hlr.2⟩)
  have HE3 : Hid ((m < 64 ∨ e = lastF l) → ¬ (max (lastF l) t ≤ e ∧ e ≤ farF l) → extE o t l n ow e id ns = 1) := hid (fun p2 => extE_3 p1 (by rw [hl]; exact p2))
  have HE4 : Hid ((m < 64 ∨ e = lastF l) → max (lastF l) t ≤ e ∧ e ≤ farF l → extE o t l n ow e id ns = if mayC ow t (extL t l e ⟨e, id, ns⟩) n then 0 else 1) := hid (fun p2 => extE_4 p1 (by rw [hl]; exact p2))
  have HNI : Hid (∀ i, i < m → (A i).m * 8 ≤ 140737488355328) := hid (fun i hi => by have h1 := checkL_len9 (p1.2.2.1 i (by omega)).2.1; have h2 := (HA.out W (Below.refl _ _)).ints i hi; have h3 := h2.1.len; omega)
  clear p1
  generalize lastF l = la at *
  generalize farF l = fa at *
  go_enter Try.func43, Try.ntmps43
  go_upto_region 3 with (first | (go_at_call 30; refine HI1.out.mono ?_; rintro x w1 ⟨rfl, hb1⟩; have HB1 : Hid (Below W.heap.size W w1) := hid (HB0.out.trans (hb1.mono HB0.out.size)); have HQ1 := hid hb1; clear hb1; clear k0 k1 k2 k3 k4 k5 k6 k7; obtain ⟨k0, k1, k2, k3, k4, k5, k6, k7⟩ := HC.out w1 HB1.out; have HL1 := hid (HLF.out w1 HB1.out)) | (go_at_call 44; refine HL1.out.mono ?_; rintro x w2 ⟨rfl, hw2⟩; obtain rfl := hw2.symm))
  go_cut [6] (fun x6 wx => x6 = .int .i64 la ∧ Hid (wx = w1 ∧ (m < 64 ∨ e = la)))
  case first =>
    by_cases p2 : m < 64
    · have d1 : decide ((m : Int) < 64) = true := by simp; omega
      go_wp2_with (go_at_call 31; (with_reducible_and_instances (refine (insist_ok 7 _).mono ?_)); rintro x w3 ⟨rfl, hw3⟩; obtain rfl := hw3.symm)
      go_meet
      exact ⟨rfl, rfl, Or.inl p2⟩
    · have d1 : decide ((m : Int) < 64) = false := by simp; omega
      by_cases p3 : e = la
      · have d2 : (e == la) = true := by simpa using p3
        have HP := hid (show m < 64 ∨ e = la from Or.inr p3)
        clear p3
        go_wp2_with (go_at_call 31; (with_reducible_and_instances (refine (insist_ok 7 _).mono ?_)); rintro x w3 ⟨rfl, hw3⟩; obtain rfl := hw3.symm)
        go_meet
        exact ⟨rfl, rfl, HP.out⟩
      · have d2 : (e == la) = false := by simpa using p3
        have HE := hid (HE2.out (fun hh => by rcases hh with hh | hh; exact p2 hh; exact p3 hh))
        clear p3
        go_wp2_with (go_at_call 31; (with_reducible_and_instances (refine (insist_no 7 _).mono ?_)); rintro x w3 ⟨rfl, hw3⟩; obtain rfl := hw3.symm)
        exact ⟨rfl, ExtP.no HE.out (by decide) HB1.out⟩
  case rest =>
    obtain ⟨rfl, HW1⟩ := hcut
    obtain ⟨hwc, HP2⟩ := HW1.out
    subst hwc
    replace HP2 := hid HP2
    clear HE2 HW1
    have HF1 := hid (HF1'.out wc.drew HB1.out.drew)
    go_upto_region 4 with fail
    go_cut [6] (fun x6 wx => x6 = .int .i64 la ∧ Hid (Below (W.alloc (.cells #[.int .i64 0, .int .i64 0, .slice none 0 0] 28)).heap.size (W.alloc (.cells #[.int .i64 0, .int .i64 0, .slice none 0 0] 28)) wx ∧ max la t ≤ e ∧ e ≤ fa))
    case first =>
      obtain ⟨mx, hmx⟩ : ∃ mx, (if la < t then t else la) = mx := ⟨_, rfl⟩
      have HMX : Hid (max la t = mx) := hid (by rw [← hmx]; split <;> omega)
      by_cases p3 : mx ≤ e
      · have d3 : decide (mx ≤ e) = true := by simpa using p3
        by_cases p4 : e ≤ fa
        · have d4 : decide (e ≤ fa) = true := by simpa using p4
          have HP := hid (show max la t ≤ e ∧ e ≤ fa from ⟨by rw [HMX.out]; exact p3, p4⟩)
          clear p3 p4
          refine wp_region_held_drew (S := fun W => W.cell? ⟨ge, 0, none⟩ = some (.int .i64 e) ∧ W.cell? ⟨gc, 1, none⟩ = some (.int .i64 t) ∧ W.cell? ⟨gc, 2, none⟩ = some (.slice ad m c)) (by kernel_rfl) (⟨k4, k1, k2⟩) (fun hHeld => ?_)
          refine wpAnyH_take (i := 0) (oi := { dst := some 25, op := Op.load 3 (Operand.tmp 2), type := 3, pos := "chain.go:85", after := #[], guard := none }) (v := ?_) rfl (by kernel_rfl) (by kernel_rfl) (by kernel_rfl) (fun _ _ _ h => h) (Or.inl ⟨by rfl, ?_⟩) hHeld ?_
          rotate_left
          · intro w hSw; (try dsimp only at hSw); go_simp; try with_reducible rfl
          try simp only [Act.put, List.setIfInBounds_toArray, List.set_cons_zero, List.set_cons_succ]
          refine wpAnyH_take (i := 1) (oi := { dst := some 26, op := Op.move (Operand.tmp 6), type := 3, pos := "chain.go:85", after := #[], guard := none }) (v := ?_) rfl (by kernel_rfl) (by kernel_rfl) (by kernel_rfl) (fun _ _ _ h => h) (Or.inl ⟨by rfl, ?_⟩) hHeld ?_
          rotate_left
          · intro w hSw; (try dsimp only at hSw); go_simp; try with_reducible rfl
          try simp only [Act.put, List.setIfInBounds_toArray, List.set_cons_zero, List.set_cons_succ]
          refine wpAnyH_take (i := 2) (oi := { dst := some 27, op := Op.fieldAddr 28 (Operand.tmp 0) 1, type := 0, pos := "chain.go:85", after := #[], guard := none }) (v := ?_) rfl (by kernel_rfl) (by kernel_rfl) (by kernel_rfl) (fun _ _ _ h => h) (Or.inl ⟨by rfl, ?_⟩) hHeld ?_
          rotate_left
          · intro w hSw; (try dsimp only at hSw); go_simp; try with_reducible rfl
          try simp only [Act.put, List.setIfInBounds_toArray, List.set_cons_zero, List.set_cons_succ]
          refine wpAnyH_take (i := 3) (oi := { dst := some 28, op := Op.load 3 (Operand.tmp 27), type := 3, pos := "chain.go:85", after := #[{ on := 2, ground := Ground.data }], guard := none }) (v := ?_) rfl (by kernel_rfl) (by kernel_rfl) (by kernel_rfl) (fun _ _ _ h => h) (Or.inl ⟨by rfl, ?_⟩) hHeld ?_
          rotate_left
          · intro w hSw; (try dsimp only at hSw); go_simp; try with_reducible rfl
          try simp only [Act.put, List.setIfInBounds_toArray, List.set_cons_zero, List.set_cons_succ]
          refine wpAnyH_take (i := 4) (oi := { dst := some 29, op := Op.call { callee := Callee.builtin Builtin.max, args := #[Operand.tmp 26, Operand.tmp 28], argTypes := #[3, 3] }, type := 3, pos := "chain.go:85", after := #[{ on := 1, ground := Ground.data }, { on := 3, ground := Ground.data }], guard := none }) (v := ?_) rfl (by kernel_rfl) (by kernel_rfl) (by kernel_rfl) (fun _ _ _ h => h) (Or.inl ⟨by rfl, ?_⟩) hHeld ?_
          rotate_left
          · intro w hSw; (try dsimp only at hSw); go_simp; try with_reducible rfl
          try simp only [Act.put, List.setIfInBounds_toArray, List.set_cons_zero, List.set_cons_succ]
          refine wpAnyH_take (i := 5) (oi := { dst := some 30, op := Op.binOp BinOp.geq 3 (Operand.tmp 25) (Operand.tmp 29) 3, type := 4, pos := "chain.go:85", after := #[{ on := 0, ground := Ground.data }, { on := 4, ground := Ground.data }], guard := none }) (v := ?_) rfl (by kernel_rfl) (by kernel_rfl) (by kernel_rfl) (fun _ _ _ h => h) (Or.inl ⟨by rfl, ?_⟩) hHeld ?_
          rotate_left
          · intro w hSw; (try dsimp only at hSw); go_simp; try with_reducible rfl
          try simp only [Act.put, List.setIfInBounds_toArray, List.set_cons_zero, List.set_cons_succ]
          refine wpAnyH_take (i := 6) (oi := { dst := some 31, op := Op.move (Operand.tmp 30), type := 4, pos := "chain.go:85", after := #[{ on := 5, ground := Ground.data }], guard := none }) (v := ?_) rfl (by kernel_rfl) (by kernel_rfl) (by kernel_rfl) (fun _ _ _ h => h) (Or.inl ⟨by rfl, ?_⟩) hHeld ?_
          rotate_left
          · intro w hSw; (try dsimp only at hSw); go_simp; try with_reducible rfl
          try simp only [Act.put, List.setIfInBounds_toArray, List.set_cons_zero, List.set_cons_succ]
          refine wpAnyH_take (i := 7) (oi := { dst := some 32, op := Op.load 3 (Operand.tmp 2), type := 3, pos := "chain.go:85", after := #[{ on := 6, ground := Ground.guard }], guard := some (6, true) }) (v := ?_) rfl (by kernel_rfl) (by kernel_rfl) (by kernel_rfl) (fun _ _ _ h => h) (Or.inl ⟨by rfl, ?_⟩) hHeld ?_
          rotate_left
          · intro w hSw; (try dsimp only at hSw); go_simp; try with_reducible rfl
          try simp only [Act.put, List.setIfInBounds_toArray, List.set_cons_zero, List.set_cons_succ]
          refine wpAnyH_take (i := 8) (oi := { dst := some 33, op := Op.fieldAddr 28 (Operand.tmp 0) 2, type := 0, pos := "chain.go:85", after := #[{ on := 6, ground := Ground.guard }], guard := some (6, true) }) (v := ?_) rfl (by kernel_rfl) (by kernel_rfl) (by kernel_rfl) (fun _ _ _ h => h) (Or.inl ⟨by rfl, ?_⟩) hHeld ?_
          rotate_left
          · intro w hSw; (try dsimp only at hSw); go_simp; try with_reducible rfl
          try simp only [Act.put, List.setIfInBounds_toArray, List.set_cons_zero, List.set_cons_succ]
          refine wpAnyH_take (i := 9) (oi := { dst := some 34, op := Op.load 26 (Operand.tmp 33), type := 26, pos := "chain.go:85", after := #[{ on := 8, ground := Ground.data }, { on := 6, ground := Ground.guard }], guard := some (6, true) }) (v := ?_) rfl (by kernel_rfl) (by kernel_rfl) (by kernel_rfl) (fun _ _ _ h => h) (Or.inl ⟨by rfl, ?_⟩) hHeld ?_
          rotate_left
          · intro w hSw; (try dsimp only at hSw); go_simp; try with_reducible rfl
          try simp only [Act.put, List.setIfInBounds_toArray, List.set_cons_zero, List.set_cons_succ]
          refine wpAnyH_ready (rs := [10]) (by kernel_rfl) (by simp) ?_
          refine AllReadyH.cons rfl (fun K hK => ?_) (AllReadyH.nil)
          go_simp
          go_wp2_with (go_at_call 45; refine HF1.out.mono ?_; rintro x w3 ⟨rfl, hw3⟩; obtain rfl := hw3.symm)
          refine hK.out _ _ (⟨k4, k1, k2⟩) (fun hHeld => ?_)
          clear hK K
          try simp only [Act.put, List.setIfInBounds_toArray, List.set_cons_zero, List.set_cons_succ]
          refine wpAnyH_take (i := 11) (oi := { dst := some 36, op := Op.binOp BinOp.leq 3 (Operand.tmp 32) (Operand.tmp 35) 3, type := 4, pos := "chain.go:85", after := #[{ on := 7, ground := Ground.data }, { on := 10, ground := Ground.data }, { on := 6, ground := Ground.guard }], guard := some (6, true) }) (v := ?_) rfl (by kernel_rfl) (by kernel_rfl) (by kernel_rfl) (fun _ _ _ h => h) (Or.inl ⟨by rfl, ?_⟩) hHeld ?_
          rotate_left
          · intro w hSw; (try dsimp only at hSw); go_simp; try with_reducible rfl
          try simp only [Act.put, List.setIfInBounds_toArray, List.set_cons_zero, List.set_cons_succ]
          refine wpAnyH_take (i := 12) (oi := { dst := some 37, op := Op.pick (Operand.tmp 31) (Operand.tmp 36) (Operand.const (Value.bool false)), type := 4, pos := "chain.go:85", after := #[{ on := 6, ground := Ground.data }, { on := 11, ground := Ground.data }], guard := none }) (v := ?_) rfl (by kernel_rfl) (by kernel_rfl) (by kernel_rfl) (fun _ _ _ h => h) (Or.inl ⟨by rfl, ?_⟩) hHeld ?_
          rotate_left
          · intro w hSw; (try dsimp only at hSw); go_simp; try with_reducible rfl
          try simp only [Act.put, List.setIfInBounds_toArray, List.set_cons_zero, List.set_cons_succ]
          refine wpAnyH_ready (rs := [13]) (by kernel_rfl) (by simp) ?_
          refine AllReadyH.cons rfl (fun K hK => ?_) (AllReadyH.nil)
          go_simp
          go_wp2_with (go_at_call 31; (with_reducible_and_instances (refine (insist_ok 1 _).mono ?_)); rintro x w4 ⟨rfl, hw4⟩; obtain rfl := hw4.symm)
          refine hK.out _ _ (⟨k4, k1, k2⟩) (fun hHeld => ?_)
          clear hK K
          try simp only [Act.put, List.setIfInBounds_toArray, List.set_cons_zero, List.set_cons_succ]
          refine wpAnyH_done (by kernel_rfl) ?_ _
          go_wp2_with fail
          go_meet
          exact ⟨rfl, HQ1.out.drew, HP.out⟩
        · have d4 : decide (e ≤ fa) = false := by simpa using p4
          have HE := hid (HE3.out HP2.out (fun hh => p4 hh.2))
          clear p3 p4
          refine wp_region_held_drew (S := fun W => W.cell? ⟨ge, 0, none⟩ = some (.int .i64 e) ∧ W.cell? ⟨gc, 1, none⟩ = some (.int .i64 t) ∧ W.cell? ⟨gc, 2, none⟩ = some (.slice ad m c)) (by kernel_rfl) (⟨k4, k1, k2⟩) (fun hHeld => ?_)
          refine wpAnyH_take (i := 0) (oi := { dst := some 25, op := Op.load 3 (Operand.tmp 2), type := 3, pos := "chain.go:85", after := #[], guard := none }) (v := ?_) rfl (by kernel_rfl) (by kernel_rfl) (by kernel_rfl) (fun _ _ _ h => h) (Or.inl ⟨by rfl, ?_⟩) hHeld ?_
          rotate_left
          · intro w hSw; (try dsimp only at hSw); go_simp; try with_reducible rfl
          try simp only [Act.put, List.setIfInBounds_toArray, List.set_cons_zero, List.set_cons_succ]
          refine wpAnyH_take (i := 1) (oi := { dst := some 26, op := Op.move (Operand.tmp 6), type := 3, pos := "chain.go:85", after := #[], guard := none }) (v := ?_) rfl (by kernel_rfl) (by kernel_rfl) (by kernel_rfl) (fun _ _ _ h => h) (Or.inl ⟨by rfl, ?_⟩) hHeld ?_
          rotate_left
          · intro w hSw; (try dsimp only at hSw); go_simp; try with_reducible rfl
          try simp only [Act.put, List.setIfInBounds_toArray, List.set_cons_zero, List.set_cons_succ]
          refine wpAnyH_take (i := 2) (oi := { dst := some 27, op := Op.fieldAddr 28 (Operand.tmp 0) 1, type := 0, pos := "chain.go:85", after := #[], guard := none }) (v := ?_) rfl (by kernel_rfl) (by kernel_rfl) (by kernel_rfl) (fun _ _ _ h => h) (Or.inl ⟨by rfl, ?_⟩) hHeld ?_
          rotate_left
          · intro w hSw; (try dsimp only at hSw); go_simp; try with_reducible rfl
          try simp only [Act.put, List.setIfInBounds_toArray, List.set_cons_zero, List.set_cons_succ]
          refine wpAnyH_take (i := 3) (oi := { dst := some 28, op := Op.load 3 (Operand.tmp 27), type := 3, pos := "chain.go:85", after := #[{ on := 2, ground := Ground.data }], guard := none }) (v := ?_) rfl (by kernel_rfl) (by kernel_rfl) (by kernel_rfl) (fun _ _ _ h => h) (Or.inl ⟨by rfl, ?_⟩) hHeld ?_
          rotate_left
          · intro w hSw; (try dsimp only at hSw); go_simp; try with_reducible rfl
          try simp only [Act.put, List.setIfInBounds_toArray, List.set_cons_zero, List.set_cons_succ]
          refine wpAnyH_take (i := 4) (oi := { dst := some 29, op := Op.call { callee := Callee.builtin Builtin.max, args := #[Operand.tmp 26, Operand.tmp 28], argTypes := #[3, 3] }, type := 3, pos := "chain.go:85", after := #[{ on := 1, ground := Ground.data }, { on := 3, ground := Ground.data }], guard := none }) (v := ?_) rfl (by kernel_rfl) (by kernel_rfl) (by kernel_rfl) (fun _ _ _ h => h) (Or.inl ⟨by rfl, ?_⟩) hHeld ?_
          rotate_left
          · intro w hSw; (try dsimp only at hSw); go_simp; try with_reducible rfl
          try simp only [Act.put, List.setIfInBounds_toArray, List.set_cons_zero, List.set_cons_succ]
          refine wpAnyH_take (i := 5) (oi := { dst := some 30, op := Op.binOp BinOp.geq 3 (Operand.tmp 25) (Operand.tmp 29) 3, type := 4, pos := "chain.go:85", after := #[{ on := 0, ground := Ground.data }, { on := 4, ground := Ground.data }], guard := none }) (v := ?_) rfl (by kernel_rfl) (by kernel_rfl) (by kernel_rfl) (fun _ _ _ h => h) (Or.inl ⟨by rfl, ?_⟩) hHeld ?_
          rotate_left
          · intro w hSw; (try dsimp only at hSw); go_simp; try with_reducible rfl
          try simp only [Act.put, List.setIfInBounds_toArray, List.set_cons_zero, List.set_cons_succ]
          refine wpAnyH_take (i := 6) (oi := { dst := some 31, op := Op.move (Operand.tmp 30), type := 4, pos := "chain.go:85", after := #[{ on := 5, ground := Ground.data }], guard := none }) (v := ?_) rfl (by kernel_rfl) (by kernel_rfl) (by kernel_rfl) (fun _ _ _ h => h) (Or.inl ⟨by rfl, ?_⟩) hHeld ?_
          rotate_left
          · intro w hSw; (try dsimp only at hSw); go_simp; try with_reducible rfl
          try simp only [Act.put, List.setIfInBounds_toArray, List.set_cons_zero, List.set_cons_succ]
          refine wpAnyH_take (i := 7) (oi := { dst := some 32, op := Op.load 3 (Operand.tmp 2), type := 3, pos := "chain.go:85", after := #[{ on := 6, ground := Ground.guard }], guard := some (6, true) }) (v := ?_) rfl (by kernel_rfl) (by kernel_rfl) (by kernel_rfl) (fun _ _ _ h => h) (Or.inl ⟨by rfl, ?_⟩) hHeld ?_
          rotate_left
          · intro w hSw; (try dsimp only at hSw); go_simp; try with_reducible rfl
          try simp only [Act.put, List.setIfInBounds_toArray, List.set_cons_zero, List.set_cons_succ]
          refine wpAnyH_take (i := 8) (oi := { dst := some 33, op := Op.fieldAddr 28 (Operand.tmp 0) 2, type := 0, pos := "chain.go:85", after := #[{ on := 6, ground := Ground.guard }], guard := some (6, true) }) (v := ?_) rfl (by kernel_rfl) (by kernel_rfl) (by kernel_rfl) (fun _ _ _ h => h) (Or.inl ⟨by rfl, ?_⟩) hHeld ?_
          rotate_left
          · intro w hSw; (try dsimp only at hSw); go_simp; try with_reducible rfl
          try simp only [Act.put, List.setIfInBounds_toArray, List.set_cons_zero, List.set_cons_succ]
          refine wpAnyH_take (i := 9) (oi := { dst := some 34, op := Op.load 26 (Operand.tmp 33), type := 26, pos := "chain.go:85", after := #[{ on := 8, ground := Ground.data }, { on := 6, ground := Ground.guard }], guard := some (6, true) }) (v := ?_) rfl (by kernel_rfl) (by kernel_rfl) (by kernel_rfl) (fun _ _ _ h => h) (Or.inl ⟨by rfl, ?_⟩) hHeld ?_
          rotate_left
          · intro w hSw; (try dsimp only at hSw); go_simp; try with_reducible rfl
          try simp only [Act.put, List.setIfInBounds_toArray, List.set_cons_zero, List.set_cons_succ]
          refine wpAnyH_ready (rs := [10]) (by kernel_rfl) (by simp) ?_
          refine AllReadyH.cons rfl (fun K hK => ?_) (AllReadyH.nil)
          go_simp
          go_wp2_with (go_at_call 45; refine HF1.out.mono ?_; rintro x w3 ⟨rfl, hw3⟩; obtain rfl := hw3.symm)
          refine hK.out _ _ (⟨k4, k1, k2⟩) (fun hHeld => ?_)
          clear hK K
          try simp only [Act.put, List.setIfInBounds_toArray, List.set_cons_zero, List.set_cons_succ]
          refine wpAnyH_take (i := 11) (oi := { dst := some 36, op := Op.binOp BinOp.leq 3 (Operand.tmp 32) (Operand.tmp 35) 3, type := 4, pos := "chain.go:85", after := #[{ on := 7, ground := Ground.data }, { on := 10, ground := Ground.data }, { on := 6, ground := Ground.guard }], guard := some (6, true) }) (v := ?_) rfl (by kernel_rfl) (by kernel_rfl) (by kernel_rfl) (fun _ _ _ h => h) (Or.inl ⟨by rfl, ?_⟩) hHeld ?_
          rotate_left
          · intro w hSw; (try dsimp only at hSw); go_simp; try with_reducible rfl
          try simp only [Act.put, List.setIfInBounds_toArray, List.set_cons_zero, List.set_cons_succ]
          refine wpAnyH_take (i := 12) (oi := { dst := some 37, op := Op.pick (Operand.tmp 31) (Operand.tmp 36) (Operand.const (Value.bool false)), type := 4, pos := "chain.go:85", after := #[{ on := 6, ground := Ground.data }, { on := 11, ground := Ground.data }], guard := none }) (v := ?_) rfl (by kernel_rfl) (by kernel_rfl) (by kernel_rfl) (fun _ _ _ h => h) (Or.inl ⟨by rfl, ?_⟩) hHeld ?_
          rotate_left
          · intro w hSw; (try dsimp only at hSw); go_simp; try with_reducible rfl
          try simp only [Act.put, List.setIfInBounds_toArray, List.set_cons_zero, List.set_cons_succ]
          refine wpAnyH_ready (rs := [13]) (by kernel_rfl) (by simp) ?_
          refine AllReadyH.cons rfl (fun K hK => ?_) (AllReadyH.nil)
          go_simp
          go_wp2_with (go_at_call 31; (with_reducible_and_instances (refine (insist_no 1 _).mono ?_)); rintro x w4 ⟨rfl, hw4⟩; obtain rfl := hw4.symm)
          exact ⟨rfl, ExtP.no HE.out (by decide) HB1.out.drew⟩
      · have d3 : decide (mx ≤ e) = false := by simpa using p3
        have HE := hid (HE3.out HP2.out (fun hh => p3 (by rw [← HMX.out]; exact hh.1)))
        clear p3
        refine wp_region_held_drew (S := fun W => W.cell? ⟨ge, 0, none⟩ = some (.int .i64 e) ∧ W.cell? ⟨gc, 1, none⟩ = some (.int .i64 t) ∧ W.cell? ⟨gc, 2, none⟩ = some (.slice ad m c)) (by kernel_rfl) (⟨k4, k1, k2⟩) (fun hHeld => ?_)
        refine wpAnyH_take (i := 0) (oi := { dst := some 25, op := Op.load 3 (Operand.tmp 2), type := 3, pos := "chain.go:85", after := #[], guard := none }) (v := ?_) rfl (by kernel_rfl) (by kernel_rfl) (by kernel_rfl) (fun _ _ _ h => h) (Or.inl ⟨by rfl, ?_⟩) hHeld ?_
        rotate_left
        · intro w hSw; (try dsimp only at hSw); go_simp; try with_reducible rfl
        try simp only [Act.put, List.setIfInBounds_toArray, List.set_cons_zero, List.set_cons_succ]
        refine wpAnyH_take (i := 1) (oi := { dst := some 26, op := Op.move (Operand.tmp 6), type := 3, pos := "chain.go:85", after := #[], guard := none }) (v := ?_) rfl (by kernel_rfl) (by kernel_rfl) (by kernel_rfl) (fun _ _ _ h => h) (Or.inl ⟨by rfl, ?_⟩) hHeld ?_
        rotate_left
        · intro w hSw; (try dsimp only at hSw); go_simp; try with_reducible rfl
        try simp only [Act.put, List.setIfInBounds_toArray, List.set_cons_zero, List.set_cons_succ]
        refine wpAnyH_take (i := 2) (oi := { dst := some 27, op := Op.fieldAddr 28 (Operand.tmp 0) 1, type := 0, pos := "chain.go:85", after := #[], guard := none }) (v := ?_) rfl (by kernel_rfl) (by kernel_rfl) (by kernel_rfl) (fun _ _ _ h => h) (Or.inl ⟨by rfl, ?_⟩) hHeld ?_
        rotate_left
        · intro w hSw; (try dsimp only at hSw); go_simp; try with_reducible rfl
        try simp only [Act.put, List.setIfInBounds_toArray, List.set_cons_zero, List.set_cons_succ]
        refine wpAnyH_take (i := 3) (oi := { dst := some 28, op := Op.load 3 (Operand.tmp 27), type := 3, pos := "chain.go:85", after := #[{ on := 2, ground := Ground.data }], guard := none }) (v := ?_) rfl (by kernel_rfl) (by kernel_rfl) (by kernel_rfl) (fun _ _ _ h => h) (Or.inl ⟨by rfl, ?_⟩) hHeld ?_
        rotate_left
        · intro w hSw; (try dsimp only at hSw); go_simp; try with_reducible rfl
        try simp only [Act.put, List.setIfInBounds_toArray, List.set_cons_zero, List.set_cons_succ]
        refine wpAnyH_take (i := 4) (oi := { dst := some 29, op := Op.call { callee := Callee.builtin Builtin.max, args := #[Operand.tmp 26, Operand.tmp 28], argTypes := #[3, 3] }, type := 3, pos := "chain.go:85", after := #[{ on := 1, ground := Ground.data }, { on := 3, ground := Ground.data }], guard := none }) (v := ?_) rfl (by kernel_rfl) (by kernel_rfl) (by kernel_rfl) (fun _ _ _ h => h) (Or.inl ⟨by rfl, ?_⟩) hHeld ?_
        rotate_left
        · intro w hSw; (try dsimp only at hSw); go_simp; try with_reducible rfl
        try simp only [Act.put, List.setIfInBounds_toArray, List.set_cons_zero, List.set_cons_succ]
        refine wpAnyH_take (i := 5) (oi := { dst := some 30, op := Op.binOp BinOp.geq 3 (Operand.tmp 25) (Operand.tmp 29) 3, type := 4, pos := "chain.go:85", after := #[{ on := 0, ground := Ground.data }, { on := 4, ground := Ground.data }], guard := none }) (v := ?_) rfl (by kernel_rfl) (by kernel_rfl) (by kernel_rfl) (fun _ _ _ h => h) (Or.inl ⟨by rfl, ?_⟩) hHeld ?_
        rotate_left
        · intro w hSw; (try dsimp only at hSw); go_simp; try with_reducible rfl
        try simp only [Act.put, List.setIfInBounds_toArray, List.set_cons_zero, List.set_cons_succ]
        refine wpAnyH_take (i := 6) (oi := { dst := some 31, op := Op.move (Operand.tmp 30), type := 4, pos := "chain.go:85", after := #[{ on := 5, ground := Ground.data }], guard := none }) (v := ?_) rfl (by kernel_rfl) (by kernel_rfl) (by kernel_rfl) (fun _ _ _ h => h) (Or.inl ⟨by rfl, ?_⟩) hHeld ?_
        rotate_left
        · intro w hSw; (try dsimp only at hSw); go_simp; try with_reducible rfl
        try simp only [Act.put, List.setIfInBounds_toArray, List.set_cons_zero, List.set_cons_succ]
        refine wpAnyH_take (i := 7) (oi := { dst := some 32, op := Op.load 3 (Operand.tmp 2), type := 3, pos := "chain.go:85", after := #[{ on := 6, ground := Ground.guard }], guard := some (6, true) }) (v := undef) rfl (by kernel_rfl) (by kernel_rfl) (by kernel_rfl) (fun _ _ _ h => h) (Or.inr ⟨by kernel_rfl, rfl⟩) hHeld ?_
        try simp only [Act.put, List.setIfInBounds_toArray, List.set_cons_zero, List.set_cons_succ]
        refine wpAnyH_take (i := 8) (oi := { dst := some 33, op := Op.fieldAddr 28 (Operand.tmp 0) 2, type := 0, pos := "chain.go:85", after := #[{ on := 6, ground := Ground.guard }], guard := some (6, true) }) (v := undef) rfl (by kernel_rfl) (by kernel_rfl) (by kernel_rfl) (fun _ _ _ h => h) (Or.inr ⟨by kernel_rfl, rfl⟩) hHeld ?_
        try simp only [Act.put, List.setIfInBounds_toArray, List.set_cons_zero, List.set_cons_succ]
        refine wpAnyH_take (i := 9) (oi := { dst := some 34, op := Op.load 26 (Operand.tmp 33), type := 26, pos := "chain.go:85", after := #[{ on := 8, ground := Ground.data }, { on := 6, ground := Ground.guard }], guard := some (6, true) }) (v := undef) rfl (by kernel_rfl) (by kernel_rfl) (by kernel_rfl) (fun _ _ _ h => h) (Or.inr ⟨by kernel_rfl, rfl⟩) hHeld ?_
        try simp only [Act.put, List.setIfInBounds_toArray, List.set_cons_zero, List.set_cons_succ]
        refine wpAnyH_take (i := 10) (oi := { dst := some 35, op := Op.call { callee := Callee.value (Operand.func 45), args := #[Operand.tmp 34], argTypes := #[26] }, type := 3, pos := "chain.go:85", after := #[{ on := 9, ground := Ground.data }, { on := 6, ground := Ground.chain }, { on := 6, ground := Ground.guard }], guard := some (6, true) }) (v := undef) rfl (by kernel_rfl) (by kernel_rfl) (by kernel_rfl) (fun _ _ _ h => h) (Or.inr ⟨by kernel_rfl, rfl⟩) hHeld ?_
        try simp only [Act.put, List.setIfInBounds_toArray, List.set_cons_zero, List.set_cons_succ]
        refine wpAnyH_take (i := 11) (oi := { dst := some 36, op := Op.binOp BinOp.leq 3 (Operand.tmp 32) (Operand.tmp 35) 3, type := 4, pos := "chain.go:85", after := #[{ on := 7, ground := Ground.data }, { on := 10, ground := Ground.data }, { on := 6, ground := Ground.guard }], guard := some (6, true) }) (v := undef) rfl (by kernel_rfl) (by kernel_rfl) (by kernel_rfl) (fun _ _ _ h => h) (Or.inr ⟨by kernel_rfl, rfl⟩) hHeld ?_
        try simp only [Act.put, List.setIfInBounds_toArray, List.set_cons_zero, List.set_cons_succ]
        refine wpAnyH_take (i := 12) (oi := { dst := some 37, op := Op.pick (Operand.tmp 31) (Operand.tmp 36) (Operand.const (Value.bool false)), type := 4, pos := "chain.go:85", after := #[{ on := 6, ground := Ground.data }, { on := 11, ground := Ground.data }], guard := none }) (v := ?_) rfl (by kernel_rfl) (by kernel_rfl) (by kernel_rfl) (fun _ _ _ h => h) (Or.inl ⟨by rfl, ?_⟩) hHeld ?_
        rotate_left
        · intro w hSw; (try dsimp only at hSw); go_simp; try with_reducible rfl
        try simp only [Act.put, List.setIfInBounds_toArray, List.set_cons_zero, List.set_cons_succ]
        refine wpAnyH_ready (rs := [13]) (by kernel_rfl) (by simp) ?_
        refine AllReadyH.cons rfl (fun K hK => ?_) (AllReadyH.nil)
        go_simp
        go_wp2_with (go_at_call 31; (with_reducible_and_instances (refine (insist_no 1 _).mono ?_)); rintro x w4 ⟨rfl, hw4⟩; obtain rfl := hw4.symm)
        exact ⟨rfl, ExtP.no HE.out (by decide) HB1.out.drew⟩
    case rest =>
      obtain ⟨rfl, HW2⟩ := hcut
      have HQ2 := hid HW2.out.1
      have HB2 : Hid (Below W.heap.size W wc) := hid (HB0.out.trans (HQ2.out.mono HB0.out.size))
      have HE := hid (HE4.out HP2.out HW2.out.2)
      clear HW2 HE3 HE4 HF1 HF1' k0 k1 k2 k3 k4 k5 k6 k7 HQ1 HB1
      obtain ⟨k0, k1, k2, k3, k4, k5, k6, k7⟩ := HC.out wc HB2.out
      obtain ⟨kk, hkk⟩ : ∃ kk, needN t l e = kk := ⟨_, rfl⟩
      have hkm : kk ≤ m := by rw [← hkk, ← hl]; exact needN_le t l e
      have HN := needed_any (HA.out wc HB2.out) o t e
      rw [hkk] at HN
      have HXL : Hid (extL t l e ⟨e, id, ns⟩ = l.take kk ++ [⟨e, id, ns⟩]) := hid (by unfold extL; rw [hkk])
      have HG0 : Hid (∀ w5 ad2 c2, CArg w5 (l.take kk) A ad2 kk c2 → Calls Try.prog 46 #[.slice none 0 0, .slice ad2 kk c2] w5 fun x w6 => ∃ v1 A1, x = .returned v1 ∧ Hid (GrowI w5 w5.heap.size [] [] (fun _ => ⟨none, 0, 0⟩) (l.take kk) kk v1 A1 w6)) := hid (fun w5 ad2 c2 h5 => grow_any (base := w5.heap.size) (OwnP.nil _ _ _ _) h5 (Nat.le_refl _) (by simp; omega) (fun i hi => HNI.out i (by omega)) ⟨fun _ b off _ hm => by simp [Value.ownBlock] at hm, fun i _ _ b off _ hm => by simp [Value.ownBlock] at hm⟩)
      clear hkk
      go_upto_region 6 with (first | (go_at_call 47; refine HN.mono ?_; rintro x w5 ⟨⟨ad2, c2, rfl, h5, -⟩, hb5⟩; have HQ5 : Hid (Below (W.alloc (.cells #[.int .i64 0, .int .i64 0, .slice none 0 0] 28)).heap.size (W.alloc (.cells #[.int .i64 0, .int .i64 0, .slice none 0 0] 28)) w5) := hid (HQ2.out.trans (hb5.mono HQ2.out.size)); have HG1 := HG0.out w5 ad2 c2 h5.out; clear hb5 h5) | (go_at_call 46; refine HG1.mono ?_; rintro x w6 ⟨v1, A1, rfl, g1⟩))
      have HQ6 : Hid (Below (W.alloc (.cells #[.int .i64 0, .int .i64 0, .slice none 0 0] 28)).heap.size (W.alloc (.cells #[.int .i64 0, .int .i64 0, .slice none 0 0] 28)) w6) := hid (HQ5.out.trans (g1.out.chg.below (N := (W.alloc (.cells #[.int .i64 0, .int .i64 0, .slice none 0 0] 28)).heap.size) (fun k hk => by cases hk) HQ5.out.size))
      have hbl := hid (grow_blk g1.out)
      have hs5 : Hid (W.heap.size + 1 ≤ w5.heap.size) := hid (by have := HQ5.out.size; simpa using this)
      have HSx : Hid (∀ X, Below (W.alloc (.cells #[.int .i64 0, .int .i64 0, .slice none 0 0] 28)).heap.size (W.alloc (.cells #[.int .i64 0, .int .i64 0, .slice none 0 0] 28)) X → X.cell? ⟨ge, 0, none⟩ = some (.int .i64 e) ∧ X.cell? ⟨gc, 1, none⟩ = some (.int .i64 t) ∧ X.cell? ⟨go, 0, none⟩ = some (.int .i64 ow) ∧ X.cell? ⟨gx, 0, none⟩ = some (.int .i64 id) ∧ X.cell? ⟨gx, 1, none⟩ = some (.slice ad1 m1 c1)) := hid (fun X hX => by
        obtain ⟨k0, k1, k2, k3, k4, k5, k6, k7⟩ := HC.out X (HB0.out.trans (hX.mono HB0.out.size))
        exact ⟨k4, k1, k5, k6, k7⟩)
      have HGR : Hid (∀ X gL, Below w6.heap.size w6 X → Blk X gL #[.int .i64 e, .int .i64 id, .slice ad1 m1 c1] 61 → w6.heap.size ≤ gL → Calls Try.prog 46 #[v1, .slice (some ⟨gL, 0, none⟩) 1 1] X fun x w' => ∃ ad2 c2, x = .returned (.slice ad2 (kk + 1) c2) ∧ Hid (∃ A, CArg w' (l.take kk ++ [⟨e, id, ns⟩]) A ad2 (kk + 1) c2 ∧ CBlk (fun b => W.heap.size + 1 ≤ b ∧ (b < w6.heap.size ∨ X.heap.size ≤ b)) A ad2 (kk + 1) ∧ Typ w' A (kk + 1)) ∧ Hid (Chg v1.ownBlock.toList X w')) := hid (fun X gL hX hL hn => ext_grow (by simp; omega) g1.out X hX gL hL hn (HX.out X (HB0.out.trans ((HQ6.out.trans (hX.mono HQ6.out.size)).mono HB0.out.size))) Hx0.out hm1 (fun h0 b off hh => by
        obtain ⟨b', off', e', hlt, -⟩ := (HX.out W (Below.refl _ _)).row.resolve_left h0
        rw [hh] at e'; cases e'; have := hs5.out; omega) hid' he' hs5.out (by omega) (fun i hi => by
        rw [List.length_take] at hi
        rw [ptAt_take l kk i (by omega)]
        exact HR.out i (by omega)))
      have HD6 := hid ((Below.refl w6.heap.size w6).drew)
      clear k0 k1 k2 k3 k4 k5 k6 k7 HN HG0 HG1 g1
      go_cut [8] (fun x8 wx => ∃ (G : Nat) (ad2 : Option Addr) (c2 : Nat), x8 = .pointer (some ⟨G, 0, none⟩) ∧ Hid (Blk wx G #[.int .i64 ow, .int .i64 t, .slice ad2 (kk + 1) c2] 28 ∧ CAns wx (W.heap.size + 1) (l.take kk ++ [⟨e, id, ns⟩]) ad2 (kk + 1) c2 ∧ Below (W.alloc (.cells #[.int .i64 0, .int .i64 0, .slice none 0 0] 28)).heap.size (W.alloc (.cells #[.int .i64 0, .int .i64 0, .slice none 0 0] 28)) wx))
      case first =>
        have HB7 : Hid (∀ X w7, Below w6.heap.size w6 X → Chg v1.ownBlock.toList X w7 → Below (W.alloc (.cells #[.int .i64 0, .int .i64 0, .slice none 0 0] 28)).heap.size (W.alloc (.cells #[.int .i64 0, .int .i64 0, .slice none 0 0] 28)) w7) := hid (fun X w7 hX hc => (HQ6.out.trans (hX.mono HQ6.out.size)).trans (hc.below (fun k hk => Nat.le_trans HQ5.out.size (hbl.out k hk).1) (Nat.le_trans HQ6.out.size hX.size)))
        have HB6 : Hid (∀ X, Below w6.heap.size w6 X → Below (W.alloc (.cells #[.int .i64 0, .int .i64 0, .slice none 0 0] 28)).heap.size (W.alloc (.cells #[.int .i64 0, .int .i64 0, .slice none 0 0] 28)) X) := hid (fun X hX => HQ6.out.trans (hX.mono HQ6.out.size))
        have N1 : Hid (Below w6.heap.size w6 (w6.alloc (.cells #[.int .i64 e, .int .i64 id, .slice ad1 m1 c1] 61)).drew ∧ Blk (w6.alloc (.cells #[.int .i64 e, .int .i64 id, .slice ad1 m1 c1] 61)).drew w6.heap.size #[.int .i64 e, .int .i64 id, .slice ad1 m1 c1] 61) := hid ⟨((Below.refl _ w6).alloc (Nat.le_refl _) _).drew, heap_alloc_new w6 _⟩
        have N2 : Hid (Below w6.heap.size w6 ((w6.alloc (.cells #[.int .i64 e, .int .i64 id, .slice ad1 m1 c1] 61)).alloc (.cells #[.int .i64 0, .int .i64 0, .slice none 0 0] 28)).drew ∧ Blk ((w6.alloc (.cells #[.int .i64 e, .int .i64 id, .slice ad1 m1 c1] 61)).alloc (.cells #[.int .i64 0, .int .i64 0, .slice none 0 0] 28)).drew w6.heap.size #[.int .i64 e, .int .i64 id, .slice ad1 m1 c1] 61 ∧ Blk ((w6.alloc (.cells #[.int .i64 e, .int .i64 id, .slice ad1 m1 c1] 61)).alloc (.cells #[.int .i64 0, .int .i64 0, .slice none 0 0] 28)).drew (w6.heap.size + 1) #[.int .i64 0, .int .i64 0, .slice none 0 0] 28) := hid ⟨(((Below.refl _ w6).alloc (Nat.le_refl _) _).alloc (by simp) _).drew, (show Blk _ w6.heap.size _ _ from heap_alloc_new w6 (.cells #[.int .i64 e, .int .i64 id, .slice ad1 m1 c1] 61)).later ((Below.refl _ _).alloc (Nat.le_refl _) (.cells #[.int .i64 0, .int .i64 0, .slice none 0 0] 28)).drew, heap_alloc_new' (w6.alloc (.cells #[.int .i64 e, .int .i64 id, .slice ad1 m1 c1] 61)) (w6.heap.size + 1) _ (by simp)⟩
        have N3 : Hid (Below w6.heap.size w6 ((w6.alloc (.cells #[.int .i64 0, .int .i64 0, .slice none 0 0] 28)).alloc (.cells #[.int .i64 e, .int .i64 id, .slice ad1 m1 c1] 61)).drew ∧ Blk ((w6.alloc (.cells #[.int .i64 0, .int .i64 0, .slice none 0 0] 28)).alloc (.cells #[.int .i64 e, .int .i64 id, .slice ad1 m1 c1] 61)).drew (w6.heap.size + 1) #[.int .i64 e, .int .i64 id, .slice ad1 m1 c1] 61 ∧ Blk ((w6.alloc (.cells #[.int .i64 0, .int .i64 0, .slice none 0 0] 28)).alloc (.cells #[.int .i64 e, .int .i64 id, .slice ad1 m1 c1] 61)).drew w6.heap.size #[.int .i64 0, .int .i64 0, .slice none 0 0] 28) := hid ⟨(((Below.refl _ w6).alloc (Nat.le_refl _) _).alloc (by simp) _).drew, heap_alloc_new' (w6.alloc (.cells #[.int .i64 0, .int .i64 0, .slice none 0 0] 28)) (w6.heap.size + 1) _ (by simp), (show Blk _ w6.heap.size _ _ from heap_alloc_new w6 (.cells #[.int .i64 0, .int .i64 0, .slice none 0 0] 28)).later ((Below.refl _ _).alloc (Nat.le_refl _) (.cells #[.int .i64 e, .int .i64 id, .slice ad1 m1 c1] 61)).drew⟩
        have N4 : Hid (Below w6.heap.size w6 (w6.alloc (.cells #[.int .i64 0, .int .i64 0, .slice none 0 0] 28)).drew) := hid ((Below.refl _ w6).alloc (Nat.le_refl _) _).drew
        refine wp_region_held_drew (S := fun W => W.cell? ⟨ge, 0, none⟩ = some (.int .i64 e) ∧ W.cell? ⟨gc, 1, none⟩ = some (.int .i64 t) ∧ W.cell? ⟨go, 0, none⟩ = some (.int .i64 ow) ∧ W.cell? ⟨gx, 0, none⟩ = some (.int .i64 id) ∧ W.cell? ⟨gx, 1, none⟩ = some (.slice ad1 m1 c1)) (by kernel_rfl) (HSx.out _ (HB6.out _ HD6.out)) (fun hHeld => ?_)
        refine wpAnyH_take (i := 0) (oi := { dst := some 43, op := Op.load 3 (Operand.tmp 3), type := 3, pos := "chain.go:87", after := #[], guard := none }) (v := ?_) rfl (by kernel_rfl) (by kernel_rfl) (by kernel_rfl) (fun _ _ _ h => h) (Or.inl ⟨by rfl, ?_⟩) hHeld ?_
        rotate_left
        · intro w hSw; (try dsimp only at hSw); go_simp; try with_reducible rfl
        try simp only [Act.put, List.setIfInBounds_toArray, List.set_cons_zero, List.set_cons_succ]
        refine wpAnyH_take (i := 1) (oi := { dst := some 44, op := Op.fieldAddr 28 (Operand.tmp 0) 1, type := 0, pos := "chain.go:87", after := #[], guard := none }) (v := ?_) rfl (by kernel_rfl) (by kernel_rfl) (by kernel_rfl) (fun _ _ _ h => h) (Or.inl ⟨by rfl, ?_⟩) hHeld ?_
        rotate_left
        · intro w hSw; (try dsimp only at hSw); go_simp; try with_reducible rfl
        try simp only [Act.put, List.setIfInBounds_toArray, List.set_cons_zero, List.set_cons_succ]
        refine wpAnyH_take (i := 2) (oi := { dst := some 45, op := Op.load 3 (Operand.tmp 44), type := 3, pos := "chain.go:87", after := #[{ on := 1, ground := Ground.data }], guard := none }) (v := ?_) rfl (by kernel_rfl) (by kernel_rfl) (by kernel_rfl) (fun _ _ _ h => h) (Or.inl ⟨by rfl, ?_⟩) hHeld ?_
        rotate_left
        · intro w hSw; (try dsimp only at hSw); go_simp; try with_reducible rfl
        try simp only [Act.put, List.setIfInBounds_toArray, List.set_cons_zero, List.set_cons_succ]
        refine wpAnyH_take (i := 3) (oi := { dst := some 46, op := Op.move (Operand.tmp 7), type := 26, pos := "chain.go:87", after := #[], guard := none }) (v := ?_) rfl (by kernel_rfl) (by kernel_rfl) (by kernel_rfl) (fun _ _ _ h => h) (Or.inl ⟨by rfl, ?_⟩) hHeld ?_
        rotate_left
        · intro w hSw; (try dsimp only at hSw); go_simp; try with_reducible rfl
        try simp only [Act.put, List.setIfInBounds_toArray, List.set_cons_zero, List.set_cons_succ]
        refine wpAnyH_take (i := 4) (oi := { dst := some 47, op := Op.load 3 (Operand.tmp 2), type := 3, pos := "chain.go:87", after := #[], guard := none }) (v := ?_) rfl (by kernel_rfl) (by kernel_rfl) (by kernel_rfl) (fun _ _ _ h => h) (Or.inl ⟨by rfl, ?_⟩) hHeld ?_
        rotate_left
        · intro w hSw; (try dsimp only at hSw); go_simp; try with_reducible rfl
        try simp only [Act.put, List.setIfInBounds_toArray, List.set_cons_zero, List.set_cons_succ]
        refine wpAnyH_take (i := 5) (oi := { dst := some 48, op := Op.load 54 (Operand.tmp 4), type := 54, pos := "chain.go:87", after := #[], guard := none }) (v := ?_) rfl (by kernel_rfl) (by kernel_rfl) (by kernel_rfl) (fun _ _ _ h => h) (Or.inl ⟨by rfl, ?_⟩) hHeld ?_
        rotate_left
        · intro w hSw; (try dsimp only at hSw); go_simp; try with_reducible rfl
        try simp only [Act.put, List.setIfInBounds_toArray, List.set_cons_zero, List.set_cons_succ]
        refine wpAnyH_take (i := 6) (oi := { dst := some 49, op := Op.build 61 #[(0, Operand.tmp 47), (1, Operand.tmp 48)], type := 61, pos := "chain.go:87", after := #[{ on := 4, ground := Ground.data }, { on := 5, ground := Ground.data }], guard := none }) (v := ?_) rfl (by kernel_rfl) (by kernel_rfl) (by kernel_rfl) (fun _ _ _ h => h) (Or.inl ⟨by rfl, ?_⟩) hHeld ?_
        rotate_left
        · intro w hSw; (try dsimp only at hSw); go_simp; try with_reducible rfl
        try simp only [Act.put, List.setIfInBounds_toArray, List.set_cons_zero, List.set_cons_succ]
        refine wpAnyH_ready (rs := [7, 10]) (by kernel_rfl) (by simp) ?_
        refine AllReadyH.cons rfl (fun K hK => ?_) (AllReadyH.cons rfl (fun K hK => ?_) (AllReadyH.nil))
        · skip
          go_simp
          refine hK.out _ _ (HSx.out _ (HB6.out _ N1.out.1)) (fun hHeld => ?_)
          clear hK K
          try simp only [Act.put, List.setIfInBounds_toArray, List.set_cons_zero, List.set_cons_succ]
          refine wpAnyH_ready (rs := [8, 10]) (by kernel_rfl) (by simp) ?_
          refine AllReadyH.cons rfl (fun K hK => ?_) (AllReadyH.cons rfl (fun K hK => ?_) (AllReadyH.nil))
          · skip
            go_simp
            go_wp2_with (go_at_call 46; refine (HGR.out _ w6.heap.size N1.out.1 N1.out.2 (by omega)).mono ?_; rintro x w7 ⟨ad2, c2, rfl, hans, hch⟩; have Q7 := hid (HB7.out _ _ N1.out.1 hch.out))
            refine hK.out _ _ (HSx.out _ Q7.out) (fun hHeld => ?_)
            clear hK K
            try simp only [Act.put, List.setIfInBounds_toArray, List.set_cons_zero, List.set_cons_succ]
            refine wpAnyH_take (i := 9) (oi := { dst := some 52, op := Op.build 28 #[(0, Operand.tmp 43), (1, Operand.tmp 45), (2, Operand.tmp 51)], type := 28, pos := "chain.go:87", after := #[{ on := 0, ground := Ground.data }, { on := 2, ground := Ground.data }, { on := 8, ground := Ground.data }], guard := none }) (v := ?_) rfl (by kernel_rfl) (by kernel_rfl) (by kernel_rfl) (fun _ _ _ h => h) (Or.inl ⟨by rfl, ?_⟩) hHeld ?_
            rotate_left
            · intro w hSw; (try dsimp only at hSw); go_simp; try with_reducible rfl
            try simp only [Act.put, List.setIfInBounds_toArray, List.set_cons_zero, List.set_cons_succ]
            refine wpAnyH_ready (rs := [10]) (by kernel_rfl) (by simp) ?_
            refine AllReadyH.cons rfl (fun K hK => ?_) (AllReadyH.nil)
            go_simp
            refine hK.out _ _ (HSx.out _ (Q7.out.alloc Q7.out.size _)) (fun hHeld => ?_)
            clear hK K
            try simp only [Act.put, List.setIfInBounds_toArray, List.set_cons_zero, List.set_cons_succ]
            refine wpAnyH_ready (rs := [11]) (by kernel_rfl) (by simp) ?_
            refine AllReadyH.cons rfl (fun K hK => ?_) (AllReadyH.nil)
            go_simp
            refine hK.out _ _ (HSx.out _ (Q7.out.alloc Q7.out.size _)) (fun hHeld => ?_)
            clear hK K
            try simp only [Act.put, List.setIfInBounds_toArray, List.set_cons_zero, List.set_cons_succ]
            refine wpAnyH_done (by kernel_rfl) ?_ _
            go_wp2_with fail
            go_meet
            obtain ⟨A2, hA, hK, hT⟩ := hans.out
            exact ⟨w7.heap.size, ad2, c2, rfl, hid ⟨heap_alloc_new w7 _, ⟨A2, hA.later ((Below.refl _ _).alloc (Nat.le_refl _) _), hK.mono (fun b hb => hb.1), hT.later ((Below.refl _ _).alloc (Nat.le_refl _) _)⟩, Q7.out.alloc Q7.out.size _⟩⟩
          · skip
            go_simp
            refine hK.out _ _ (HSx.out _ (HB6.out _ N2.out.1)) (fun hHeld => ?_)
            clear hK K
            try simp only [Act.put, List.setIfInBounds_toArray, List.set_cons_zero, List.set_cons_succ]
            refine wpAnyH_ready (rs := [8]) (by kernel_rfl) (by simp) ?_
            refine AllReadyH.cons rfl (fun K hK => ?_) (AllReadyH.nil)
            go_simp
            go_wp2_with (go_at_call 46; refine (HGR.out _ w6.heap.size N2.out.1 N2.out.2.1 (by omega)).mono ?_; rintro x w7 ⟨ad2, c2, rfl, hans, hch⟩; have Q7 := hid (HB7.out _ _ N2.out.1 hch.out); have K7 := hid ((N2.out.2.2).chg hch.out (fun hm => by have := (hbl.out _ hm).2; omega)); have c0 : w7.cell? ⟨w6.heap.size + 1, 0, none⟩ = some (.int .i64 0) := K7.out.cell 0; have c1' : w7.cell? ⟨w6.heap.size + 1, 1, none⟩ = some (.int .i64 0) := K7.out.cell 1; have c2' : w7.cell? ⟨w6.heap.size + 1, 2, none⟩ = some (.slice none 0 0) := K7.out.cell 2; have f0 := K7.out.free 0; have f1 := K7.out.free 1; have f2 := K7.out.free 2)
            refine hK.out _ _ (HSx.out _ Q7.out) (fun hHeld => ?_)
            clear hK K
            try simp only [Act.put, List.setIfInBounds_toArray, List.set_cons_zero, List.set_cons_succ]
            refine wpAnyH_take (i := 9) (oi := { dst := some 52, op := Op.build 28 #[(0, Operand.tmp 43), (1, Operand.tmp 45), (2, Operand.tmp 51)], type := 28, pos := "chain.go:87", after := #[{ on := 0, ground := Ground.data }, { on := 2, ground := Ground.data }, { on := 8, ground := Ground.data }], guard := none }) (v := ?_) rfl (by kernel_rfl) (by kernel_rfl) (by kernel_rfl) (fun _ _ _ h => h) (Or.inl ⟨by rfl, ?_⟩) hHeld ?_
            rotate_left
            · intro w hSw; (try dsimp only at hSw); go_simp; try with_reducible rfl
            try simp only [Act.put, List.setIfInBounds_toArray, List.set_cons_zero, List.set_cons_succ]
            refine wpAnyH_ready (rs := [11]) (by kernel_rfl) (by simp) ?_
            refine AllReadyH.cons rfl (fun K hK => ?_) (AllReadyH.nil)
            have Q8 : Hid (Below (W.alloc (.cells #[.int .i64 0, .int .i64 0, .slice none 0 0] 28)).heap.size (W.alloc (.cells #[.int .i64 0, .int .i64 0, .slice none 0 0] 28)) (((w7.setCell ⟨w6.heap.size + 1, 0, none⟩ (.int .i64 ow)).setCell ⟨w6.heap.size + 1, 1, none⟩ (.int .i64 t)).setCell ⟨w6.heap.size + 1, 2, none⟩ (.slice ad2 (kk + 1) c2))) := hid (((Q7.out.setCell (p := ⟨w6.heap.size + 1, 0, none⟩) (by show _ ≤ w6.heap.size + 1; have := HQ6.out.size; omega) _).setCell (p := ⟨w6.heap.size + 1, 1, none⟩) (by show _ ≤ w6.heap.size + 1; have := HQ6.out.size; omega) _).setCell (p := ⟨w6.heap.size + 1, 2, none⟩) (by show _ ≤ w6.heap.size + 1; have := HQ6.out.size; omega) _)
            go_simp
            refine hK.out _ _ (HSx.out _ Q8.out) (fun hHeld => ?_)
            clear hK K
            try simp only [Act.put, List.setIfInBounds_toArray, List.set_cons_zero, List.set_cons_succ]
            refine wpAnyH_done (by kernel_rfl) ?_ _
            go_wp2_with fail
            go_meet
            obtain ⟨A2, hA, hK, hT⟩ := hans.out
            have hcg : Chg [w6.heap.size + 1] w7 (((w7.setCell ⟨w6.heap.size + 1, 0, none⟩ (.int .i64 ow)).setCell ⟨w6.heap.size + 1, 1, none⟩ (.int .i64 t)).setCell ⟨w6.heap.size + 1, 2, none⟩ (.slice ad2 (kk + 1) c2)) := (((Chg.refl _ w7).set (Or.inl (by simp)) _ _).set (Or.inl (by simp)) _ _).set (Or.inl (by simp)) _ _
            exact ⟨w6.heap.size + 1, ad2, c2, rfl, hid ⟨((K7.out.set 0 _).set 1 _).set 2 _, ⟨A2, hA.chg hcg (hK.mono (fun b hb hm => by simp at hm; have := hb.2; simp at this; omega)), hK.mono (fun b hb => hb.1), hT.chg hcg (fun i hi h0 b off e hm => by simp at hm; have hb := hK.ints i hi h0 b off e; have := hb.2; simp at this; omega)⟩, Q8.out⟩⟩
        · skip
          go_simp
          refine hK.out _ _ (HSx.out _ (HB6.out _ N4.out)) (fun hHeld => ?_)
          clear hK K
          try simp only [Act.put, List.setIfInBounds_toArray, List.set_cons_zero, List.set_cons_succ]
          refine wpAnyH_ready (rs := [7]) (by kernel_rfl) (by simp) ?_
          refine AllReadyH.cons rfl (fun K hK => ?_) (AllReadyH.nil)
          go_simp
          refine hK.out _ _ (HSx.out _ (HB6.out _ N3.out.1)) (fun hHeld => ?_)
          clear hK K
          try simp only [Act.put, List.setIfInBounds_toArray, List.set_cons_zero, List.set_cons_succ]
          refine wpAnyH_ready (rs := [8]) (by kernel_rfl) (by simp) ?_
          refine AllReadyH.cons rfl (fun K hK => ?_) (AllReadyH.nil)
          go_simp
          go_wp2_with (go_at_call 46; refine (HGR.out _ (w6.heap.size + 1) N3.out.1 N3.out.2.1 (by omega)).mono ?_; rintro x w7 ⟨ad2, c2, rfl, hans, hch⟩; have Q7 := hid (HB7.out _ _ N3.out.1 hch.out); have K7 := hid ((N3.out.2.2).chg hch.out (fun hm => by have := (hbl.out _ hm).2; omega)); have c0 : w7.cell? ⟨w6.heap.size, 0, none⟩ = some (.int .i64 0) := K7.out.cell 0; have c1' : w7.cell? ⟨w6.heap.size, 1, none⟩ = some (.int .i64 0) := K7.out.cell 1; have c2' : w7.cell? ⟨w6.heap.size, 2, none⟩ = some (.slice none 0 0) := K7.out.cell 2; have f0 := K7.out.free 0; have f1 := K7.out.free 1; have f2 := K7.out.free 2)
          refine hK.out _ _ (HSx.out _ Q7.out) (fun hHeld => ?_)
          clear hK K
          try simp only [Act.put, List.setIfInBounds_toArray, List.set_cons_zero, List.set_cons_succ]
          refine wpAnyH_take (i := 9) (oi := { dst := some 52, op := Op.build 28 #[(0, Operand.tmp 43), (1, Operand.tmp 45), (2, Operand.tmp 51)], type := 28, pos := "chain.go:87", after := #[{ on := 0, ground := Ground.data }, { on := 2, ground := Ground.data }, { on := 8, ground := Ground.data }], guard := none }) (v := ?_) rfl (by kernel_rfl) (by kernel_rfl) (by kernel_rfl) (fun _ _ _ h => h) (Or.inl ⟨by rfl, ?_⟩) hHeld ?_
          rotate_left
          · intro w hSw; (try dsimp only at hSw); go_simp; try with_reducible rfl
          try simp only [Act.put, List.setIfInBounds_toArray, List.set_cons_zero, List.set_cons_succ]
          refine wpAnyH_ready (rs := [11]) (by kernel_rfl) (by simp) ?_
          refine AllReadyH.cons rfl (fun K hK => ?_) (AllReadyH.nil)
          have Q8 : Hid (Below (W.alloc (.cells #[.int .i64 0, .int .i64 0, .slice none 0 0] 28)).heap.size (W.alloc (.cells #[.int .i64 0, .int .i64 0, .slice none 0 0] 28)) (((w7.setCell ⟨w6.heap.size, 0, none⟩ (.int .i64 ow)).setCell ⟨w6.heap.size, 1, none⟩ (.int .i64 t)).setCell ⟨w6.heap.size, 2, none⟩ (.slice ad2 (kk + 1) c2))) := hid (((Q7.out.setCell (p := ⟨w6.heap.size, 0, none⟩) (by show _ ≤ w6.heap.size; have := HQ6.out.size; omega) _).setCell (p := ⟨w6.heap.size, 1, none⟩) (by show _ ≤ w6.heap.size; have := HQ6.out.size; omega) _).setCell (p := ⟨w6.heap.size, 2, none⟩) (by show _ ≤ w6.heap.size; have := HQ6.out.size; omega) _)
          go_simp
          refine hK.out _ _ (HSx.out _ Q8.out) (fun hHeld => ?_)
          clear hK K
          try simp only [Act.put, List.setIfInBounds_toArray, List.set_cons_zero, List.set_cons_succ]
          refine wpAnyH_done (by kernel_rfl) ?_ _
          go_wp2_with fail
          go_meet
          obtain ⟨A2, hA, hK, hT⟩ := hans.out
          have hcg : Chg [w6.heap.size] w7 (((w7.setCell ⟨w6.heap.size, 0, none⟩ (.int .i64 ow)).setCell ⟨w6.heap.size, 1, none⟩ (.int .i64 t)).setCell ⟨w6.heap.size, 2, none⟩ (.slice ad2 (kk + 1) c2)) := (((Chg.refl _ w7).set (Or.inl (by simp)) _ _).set (Or.inl (by simp)) _ _).set (Or.inl (by simp)) _ _
          exact ⟨w6.heap.size, ad2, c2, rfl, hid ⟨((K7.out.set 0 _).set 1 _).set 2 _, ⟨A2, hA.chg hcg (hK.mono (fun b hb hm => by simp at hm; have := hb.2; simp at this; omega)), hK.mono (fun b hb => hb.1), hT.chg hcg (fun i hi h0 b off e hm => by simp at hm; have hb := hK.ints i hi h0 b off e; have := hb.2; simp at this; omega)⟩, Q8.out⟩⟩
      case rest =>
        obtain ⟨G, ad2, c2, rfl, HW3⟩ := hcut
        have HQ3 := hid HW3.out.2.2
        have HCA := hid HW3.out.2.1
        have HZ : Hid (∀ X, Below wc.heap.size wc X → Blk X W.heap.size #[.int .i64 0, .int .i64 0, .slice none 0 0] 28) := hid (fun X hX => ((show Blk (W.alloc (.cells #[.int .i64 0, .int .i64 0, .slice none 0 0] 28)) W.heap.size _ _ from heap_alloc_new W _).later HW3.out.2.2).later hX)
        have HGb : Hid (∀ X, Below wc.heap.size wc X → Blk X G #[.int .i64 ow, .int .i64 t, .slice ad2 (kk + 1) c2] 28) := hid (fun X hX => HW3.out.1.later hX)
        have HG8 : Hid (∀ X, Below wc.heap.size wc X → (X.cell? ⟨W.heap.size, 0, none⟩ = some (.int .i64 0) ∧ X.cell? ⟨W.heap.size, 1, none⟩ = some (.int .i64 0) ∧ X.cell? ⟨W.heap.size, 2, none⟩ = some (.slice none 0 0) ∧ X.frozen? ⟨W.heap.size, 0, none⟩ = false ∧ X.frozen? ⟨W.heap.size, 1, none⟩ = false ∧ X.frozen? ⟨W.heap.size, 2, none⟩ = false) ∧ X.cell? ⟨G, 0, none⟩ = some (.int .i64 ow) ∧ X.cell? ⟨G, 1, none⟩ = some (.int .i64 t) ∧ X.cell? ⟨G, 2, none⟩ = some (.slice ad2 (kk + 1) c2)) := hid (fun X hX => ⟨⟨(HZ.out X hX).cell 0, (HZ.out X hX).cell 1, (HZ.out X hX).cell 2, (HZ.out X hX).free 0, (HZ.out X hX).free 1, (HZ.out X hX).free 2⟩, (HGb.out X hX).cell 0, (HGb.out X hX).cell 1, (HGb.out X hX).cell 2⟩)
        obtain ⟨k0, k1, k2, k3, k4, k5, k6, k7⟩ := HC.out wc (HB0.out.trans (HQ3.out.mono HB0.out.size))
        obtain ⟨-, q0, q1, q2⟩ := HG8.out wc (Below.refl _ _)
        clear HW3 k0 k1 k2 k4 k5 k6 k7 HGR HSx
        rw [HXL.out] at HE
        obtain ⟨A2, hA2, -⟩ := HCA.out.arg
        have HI2 := insistChain_any hA2 ow t n 1
        clear hA2
        by_cases pm : mayC ow t (l.take kk ++ [⟨e, id, ns⟩]) n
        · rw [insC_ok pm] at HI2
          have HE0 := hid (HE.out.trans (if_pos pm))
          clear pm HE
          go_wp2_with (go_at_call 30; refine HI2.mono ?_; rintro x w8 ⟨rfl, hb8⟩; have HB8 := hid hb8; clear hb8 q0 q1 q2; obtain ⟨⟨z0, z1, z2, y0, y1, y2⟩, q0, q1, q2⟩ := HG8.out w8 HB8.out)
          have m0 := (((HZ.out w8 HB8.out).set 0 (.int .i64 ow)).set 1 (.int .i64 t)).set 2 (.slice ad2 (kk + 1) c2)
          have s0 : (((w8.setCell ⟨W.heap.size, 0, none⟩ (.int .i64 ow)).setCell ⟨W.heap.size, 1, none⟩ (.int .i64 t)).setCell ⟨W.heap.size, 2, none⟩ (.slice ad2 (kk + 1) c2)).cell? ⟨W.heap.size, 0, none⟩ = some (.int .i64 ow) := m0.cell 0
          have s1 : (((w8.setCell ⟨W.heap.size, 0, none⟩ (.int .i64 ow)).setCell ⟨W.heap.size, 1, none⟩ (.int .i64 t)).setCell ⟨W.heap.size, 2, none⟩ (.slice ad2 (kk + 1) c2)).cell? ⟨W.heap.size, 1, none⟩ = some (.int .i64 t) := m0.cell 1
          have s2 : (((w8.setCell ⟨W.heap.size, 0, none⟩ (.int .i64 ow)).setCell ⟨W.heap.size, 1, none⟩ (.int .i64 t)).setCell ⟨W.heap.size, 2, none⟩ (.slice ad2 (kk + 1) c2)).cell? ⟨W.heap.size, 2, none⟩ = some (.slice ad2 (kk + 1) c2) := m0.cell 2
          have hcg : Chg [W.heap.size] w8 (((w8.setCell ⟨W.heap.size, 0, none⟩ (.int .i64 ow)).setCell ⟨W.heap.size, 1, none⟩ (.int .i64 t)).setCell ⟨W.heap.size, 2, none⟩ (.slice ad2 (kk + 1) c2)) := (((Chg.refl _ w8).set (Or.inl (by simp)) _ _).set (Or.inl (by simp)) _ _).set (Or.inl (by simp)) _ _
          have hbw : Below W.heap.size W w8 := HB0.out.trans ((HQ3.out.trans (HB8.out.mono HQ3.out.size)).mono HB0.out.size)
          refine bodyPost_ret (v := .agg #[.int .i64 ow, .int .i64 t, .slice ad2 (kk + 1) c2]) (by simp [results, Try.results43, go_sem, s0, s1, s2]) rfl ⟨Or.inl ⟨ow, t, ad2, kk + 1, c2, rfl, HE0.out, rfl, rfl, ?_⟩, ?_⟩
          · rw [HXL.out]
            exact ((HCA.out.later HB8.out).chg hcg (fun g hg => by simp at hg; omega)).down (Nat.le_succ _)
          · exact hbw.trans (hcg.below (fun k hk => by simp at hk; omega) hbw.size)
        · rw [insC_no pm] at HI2
          have HE0 := hid (HE.out.trans (if_neg pm))
          clear pm HE
          go_wp2_with (go_at_call 30; refine HI2.mono ?_; rintro x w8 ⟨rfl, hb8⟩; have HB8 := hid hb8; clear hb8)
          refine ⟨rfl, ExtP.no HE0.out (by decide) (HB0.out.trans ((HQ3.out.trans (HB8.out.mono HQ3.out.size)).mono HB0.out.size))⟩
end Go.Proofs.Ythadagpfmacemaa

/- Extend of package chain. -/
namespace Go.Proofs.Ythadagpfmacemaa
open Go.RowKit
variable {w : World} {l : List Pt} {A : Nat → Sl} {ad ad1 : Option Addr} {m c m1 c1 : Nat} {ns : List Int}

/-- The chain that Extend answers. -/
def extC (o t : Int) (l : List Pt) (n ow e id : Int) (ns : List Int) : Ch := if extE o t l n ow e id ns = 0 then ⟨ow, t, extL t l e ⟨e, id, ns⟩⟩ else ⟨0, 0, []⟩
theorem blk_alloc (w : World) (o : Obj) {cs : Array Value} {T : TypeId} {g : Nat} (h : Blk w g cs T) : Blk (w.alloc o) g cs T := h.later ((Below.refl _ _).alloc (Nat.le_refl _) _)
/-- Six boxes, one behind the other. -/
theorem six_blocks (w : World) (c0 c1 c2 c3 c4 c5 : Array Value) (t0 t1 t2 t3 t4 t5 : TypeId) :
    let W := (((((w.alloc (.cells c0 t0)).alloc (.cells c1 t1)).alloc (.cells c2 t2)).alloc (.cells c3 t3)).alloc (.cells c4 t4)).alloc (.cells c5 t5)
    W.heap.size = w.heap.size + 6 ∧ Below w.heap.size w W ∧ Blk W w.heap.size c0 t0 ∧ Blk W (w.heap.size + 1) c1 t1 ∧ Blk W (w.heap.size + 2) c2 t2 ∧ Blk W (w.heap.size + 3) c3 t3 ∧ Blk W (w.heap.size + 4) c4 t4 ∧ Blk W (w.heap.size + 5) c5 t5 := by
  intro W
  have q0 : Blk (w.alloc (.cells c0 t0)) w.heap.size c0 t0 := heap_alloc_new w _
  have q1 := heap_alloc_new' (w.alloc (.cells c0 t0)) (w.heap.size + 1) c1 (T := t1) (by simp)
  have q2 := heap_alloc_new' ((w.alloc (.cells c0 t0)).alloc (.cells c1 t1)) (w.heap.size + 2) c2 (T := t2) (by simp)
  have q3 := heap_alloc_new' (((w.alloc (.cells c0 t0)).alloc (.cells c1 t1)).alloc (.cells c2 t2)) (w.heap.size + 3) c3 (T := t3) (by simp)
  have q4 := heap_alloc_new' ((((w.alloc (.cells c0 t0)).alloc (.cells c1 t1)).alloc (.cells c2 t2)).alloc (.cells c3 t3)) (w.heap.size + 4) c4 (T := t4) (by simp)
  have q5 := heap_alloc_new' (((((w.alloc (.cells c0 t0)).alloc (.cells c1 t1)).alloc (.cells c2 t2)).alloc (.cells c3 t3)).alloc (.cells c4 t4)) (w.heap.size + 5) c5 (T := t5) (by simp)
  refine ⟨by simp [W], ?_, blk_alloc _ _ (blk_alloc _ _ (blk_alloc _ _ (blk_alloc _ _ (blk_alloc _ _ q0)))), blk_alloc _ _ (blk_alloc _ _ (blk_alloc _ _ (blk_alloc _ _ q1))), blk_alloc _ _ (blk_alloc _ _ (blk_alloc _ _ q2)), blk_alloc _ _ (blk_alloc _ _ q3), blk_alloc _ _ q4, q5⟩
  exact ((((((Below.refl _ w).alloc (Nat.le_refl _) _).alloc (by simp) _).alloc (by simp; omega) _).alloc (by simp; omega) _).alloc (by simp; omega) _).alloc (by simp; omega) _
theorem enters_ext1 : ∀ args w, (callFunc 43 args).run Try.prog w = .ok (.enter 43 args) w := fun _ _ => by kernel_rfl
set_option maxRecDepth 100000 in
set_option maxHeartbeats 1000000 in
theorem extend_any {o t n e ow id : Int} (h : CArg w l A ad m c) (hx : Ints w ns ad1 m1 c1) (hx0 : ad1 = none → m1 = 0 ∧ c1 = 0) (hm1 : m1 * 8 ≤ 140737488355328) (hid' : -9223372036854775808 ≤ id ∧ id ≤ 9223372036854775807) (he' : -9223372036854775808 ≤ e ∧ e ≤ 9223372036854775807) :
    Calls Try.prog 21 #[.agg #[.int .i64 o, .int .i64 t, .slice ad m c], .int .i64 n, .int .i64 ow, .int .i64 e, .agg #[.int .i64 id, .slice ad1 m1 c1]] w fun x w' =>
      ∃ ad' m' c', x = .returned (.tuple #[.agg #[.int .i64 (extC o t l n ow e id ns).owner, .int .i64 (extC o t l n ow e id ns).trim, .slice ad' m' c'], .int .i64 (extE o t l n ow e id ns)]) ∧ Hid (CAns w' w.heap.size (extC o t l n ow e id ns).parts ad' m' c') ∧ Below w.heap.size w w' := by
  obtain ⟨W6, hW6⟩ : ∃ W6, ((((((w.alloc (.cells #[.int .i64 o, .int .i64 t, .slice ad m c] 28)).alloc (.cells #[.int .i64 n] 3)).alloc (.cells #[.int .i64 ow] 3)).alloc (.cells #[.int .i64 e] 3)).alloc (.cells #[.int .i64 id, .slice ad1 m1 c1] 54)).alloc (.cells #[.int .i64 0, .int .i64 0, .slice none 0 0] 28)) = W6 := ⟨_, rfl⟩
  have h6 := six_blocks w (#[.int .i64 o, .int .i64 t, .slice ad m c]) (#[.int .i64 n]) (#[.int .i64 ow]) (#[.int .i64 e]) (#[.int .i64 id, .slice ad1 m1 c1]) (#[.int .i64 0, .int .i64 0, .slice none 0 0]) 28 3 3 3 54 28
  simp only at h6
  rw [hW6] at h6
  obtain ⟨hs6, hb6, q0, q1, q2, q3, q4, q5⟩ := h6
  have n1 := (Below.refl W6.heap.size W6).alloc (Nat.le_refl _) (.cells #[.int .i64 0, .int .i64 0, .slice none 0 0] 28)
  have n2 : Below W6.heap.size W6 ((W6.alloc (.cells #[.int .i64 0, .int .i64 0, .slice none 0 0] 28)).alloc (.cells #[.int .i64 0] 31)) := n1.alloc n1.size _
  have hsz : ((W6.alloc (.cells #[.int .i64 0, .int .i64 0, .slice none 0 0] 28)).alloc (.cells #[.int .i64 0] 31)).heap.size = W6.heap.size + 2 := by simp
  have HX1 := ext1_any (W := (W6.alloc (.cells #[.int .i64 0, .int .i64 0, .slice none 0 0] 28)).alloc (.cells #[.int .i64 0] 31)) (gc := w.heap.size) (gn := w.heap.size + 1) (go := w.heap.size + 2) (ge := w.heap.size + 3) (gx := w.heap.size + 4) (n := n) (ow := ow) ⟨q0.later n2, q1.later n2, q3.later n2, q2.later n2, q4.later n2⟩ ((h.later hb6).later n2) ((hx.later hb6).later n2) hx0 hm1 hid' he'
  unfold ExtP at HX1
  rw [hsz] at HX1
  have HAT := hid (attemptChain 43 _ W6 enters_ext1 (fun o' t' ad' m' c' X => extE o t l n ow e id ns = 0 ∧ o' = ow ∧ t' = t ∧ CAns X (W6.heap.size + 2) (extL t l e ⟨e, id, ns⟩) ad' m' c') (fun y => y = extE o t l n ow e id ns ∧ y ≠ 0) HX1)
  have HB6 := hid hb6
  have HZ : Hid (∀ X, Below W6.heap.size W6 X → Blk X (w.heap.size + 5) #[.int .i64 0, .int .i64 0, .slice none 0 0] 28) := hid (fun X hX => q5.later hX)
  have HAT2 := hid (HAT.out.mono (R' := fun x w' => ∃ o' t' ad' m' c', x = .returned (.tuple #[.agg #[.int .i64 o', .int .i64 t', .slice ad' m' c'], .int .i64 (extE o t l n ow e id ns)]) ∧ (w'.cell? ⟨w.heap.size + 5, 0, none⟩ = some (.int .i64 0) ∧ w'.cell? ⟨w.heap.size + 5, 1, none⟩ = some (.int .i64 0) ∧ w'.cell? ⟨w.heap.size + 5, 2, none⟩ = some (.slice none 0 0) ∧ w'.frozen? ⟨w.heap.size + 5, 0, none⟩ = false ∧ w'.frozen? ⟨w.heap.size + 5, 1, none⟩ = false ∧ w'.frozen? ⟨w.heap.size + 5, 2, none⟩ = false) ∧ Hid (extC o t l n ow e id ns = ⟨o', t', (extC o t l n ow e id ns).parts⟩ ∧ CAns w' (w.heap.size + 6) (extC o t l n ow e id ns).parts ad' m' c' ∧ Below W6.heap.size W6 w')) (by
    rintro x w' ⟨h1, hb⟩
    have hz := HZ.out w' hb
    have hc := (⟨hz.cell 0, hz.cell 1, hz.cell 2, hz.free 0, hz.free 1, hz.free 2⟩ : (w'.cell? ⟨w.heap.size + 5, 0, none⟩ = some (.int .i64 0) ∧ w'.cell? ⟨w.heap.size + 5, 1, none⟩ = some (.int .i64 0) ∧ w'.cell? ⟨w.heap.size + 5, 2, none⟩ = some (.slice none 0 0) ∧ w'.frozen? ⟨w.heap.size + 5, 0, none⟩ = false ∧ w'.frozen? ⟨w.heap.size + 5, 1, none⟩ = false ∧ w'.frozen? ⟨w.heap.size + 5, 2, none⟩ = false))
    rcases h1 with ⟨X, hch, -, o', t', ad', m', c', rfl, hE, rfl, rfl, hA⟩ | ⟨y, rfl, rfl, hy⟩
    · have hC : extC o t' l n o' e id ns = ⟨o', t', extL t' l e ⟨e, id, ns⟩⟩ := by unfold extC; rw [if_pos hE]
      refine ⟨o', t', ad', m', c', by rw [hE], hc, hid ⟨by rw [hC], ?_, hb⟩⟩
      rw [hC]
      exact (hA.chg hch (fun g hg => by simp at hg; omega)).down (by omega)
    · have hC : extC o t l n ow e id ns = ⟨0, 0, []⟩ := by unfold extC; rw [if_neg hy]
      exact ⟨0, 0, none, 0, 0, rfl, hc, hid ⟨by rw [hC], by rw [hC]; exact CAns.none _ _, hb⟩⟩))
  have hmf : ∀ (fn : Fn) (first cap : Array Value) (w : World), (Instr.makeFunc fn first cap).run Try.prog w = .ok (.func fn first cap) w := fun _ _ _ _ => rfl
  clear h hx hx0 HAT HX1 n1 n2 hsz q0 q1 q2 q3 q4 q5 hb6
  go_enter Try.func21, Try.ntmps21
  go_wp2_with (go_at_call 34; refine HAT2.out.mono ?_; rintro x w' ⟨o', t', ad', m', c', rfl, ⟨z0, z1, z2, y0, y1, y2⟩, HR⟩)
  obtain ⟨hC, hA, hb⟩ := HR.out
  have hz := HZ.out w' hb
  have m0 := ((hz.set 0 (.int .i64 o')).set 1 (.int .i64 t')).set 2 (.slice ad' m' c')
  have s0 : (((w'.setCell ⟨w.heap.size + 1 + 1 + 1 + 1 + 1, 0, none⟩ (.int .i64 o')).setCell ⟨w.heap.size + 1 + 1 + 1 + 1 + 1, 1, none⟩ (.int .i64 t')).setCell ⟨w.heap.size + 1 + 1 + 1 + 1 + 1, 2, none⟩ (.slice ad' m' c')).cell? ⟨w.heap.size + 1 + 1 + 1 + 1 + 1, 0, none⟩ = some (.int .i64 o') := m0.cell 0
  have s1 : (((w'.setCell ⟨w.heap.size + 1 + 1 + 1 + 1 + 1, 0, none⟩ (.int .i64 o')).setCell ⟨w.heap.size + 1 + 1 + 1 + 1 + 1, 1, none⟩ (.int .i64 t')).setCell ⟨w.heap.size + 1 + 1 + 1 + 1 + 1, 2, none⟩ (.slice ad' m' c')).cell? ⟨w.heap.size + 1 + 1 + 1 + 1 + 1, 1, none⟩ = some (.int .i64 t') := m0.cell 1
  have s2 : (((w'.setCell ⟨w.heap.size + 1 + 1 + 1 + 1 + 1, 0, none⟩ (.int .i64 o')).setCell ⟨w.heap.size + 1 + 1 + 1 + 1 + 1, 1, none⟩ (.int .i64 t')).setCell ⟨w.heap.size + 1 + 1 + 1 + 1 + 1, 2, none⟩ (.slice ad' m' c')).cell? ⟨w.heap.size + 1 + 1 + 1 + 1 + 1, 2, none⟩ = some (.slice ad' m' c') := m0.cell 2
  have hcg : Chg [w.heap.size + 5] w' (((w'.setCell ⟨w.heap.size + 1 + 1 + 1 + 1 + 1, 0, none⟩ (.int .i64 o')).setCell ⟨w.heap.size + 1 + 1 + 1 + 1 + 1, 1, none⟩ (.int .i64 t')).setCell ⟨w.heap.size + 1 + 1 + 1 + 1 + 1, 2, none⟩ (.slice ad' m' c')) := (((Chg.refl _ w').set (Or.inl (by simp)) _ _).set (Or.inl (by simp)) _ _).set (Or.inl (by simp)) _ _
  have hbw : Below w.heap.size w w' := HB6.out.trans (hb.mono HB6.out.size)
  have e1 : (extC o t l n ow e id ns).owner = o' := by rw [hC]
  have e2 : (extC o t l n ow e id ns).trim = t' := by rw [hC]
  refine bodyPost_ret (v := .tuple #[.agg #[.int .i64 o', .int .i64 t', .slice ad' m' c'], .int .i64 (extE o t l n ow e id ns)]) (by simp [results, Try.results21, go_sem, s0, s1, s2]) rfl ⟨ad', m', c', by rw [e1, e2], hid ?_, ?_⟩
  · exact (hA.chg hcg (fun g hg => by simp at hg; omega)).down (by omega)
  · exact hbw.trans (hcg.below (fun k hk => by simp at hk; omega) hbw.size)
end Go.Proofs.Ythadagpfmacemaa

/- Check of package chain (by gencut.py). -/
namespace Go.Proofs.Ythadagpfmacemaa
open Go.RowKit
variable {w W : World} {l : List Pt} {A : Nat → Sl} {ad : Option Addr} {m c : Nat}

set_option maxRecDepth 100000 in
set_option maxHeartbeats 1000000 in
theorem chk1_any {gc gn : Nat} {o t n : Int} (bc : Blk W gc #[.int .i64 o, .int .i64 t, .slice ad m c] 28) (bn : Blk W gn #[.int .i64 n] 3) (h : CArg W l A ad m c) :
    Calls Try.prog 38 #[.pointer (some ⟨gc, 0, none⟩), .pointer (some ⟨gn, 0, none⟩)] W fun x W' => ((∃ (o' t' : Int) (ad' : Option Addr) (m' c' : Nat), x = .returned (.agg #[.int .i64 o', .int .i64 t', .slice ad' m' c']) ∧ mayC o t l n) ∨ (∃ y : Int, x = .panicked (refusal y) ∧ (y = 1 ∧ ¬ mayC o t l n))) ∧ Below W.heap.size W W' := by
  have HB0 : Hid (Below W.heap.size W (W.alloc (.cells #[.int .i64 0, .int .i64 0, .slice none 0 0] 28))) := hid ((Below.refl _ _).alloc (Nat.le_refl _) _)
  have HC : Hid (∀ X, Below W.heap.size W X → X.cell? ⟨gc, 0, none⟩ = some (.int .i64 o) ∧ X.cell? ⟨gc, 1, none⟩ = some (.int .i64 t) ∧ X.cell? ⟨gc, 2, none⟩ = some (.slice ad m c) ∧ X.cell? ⟨gn, 0, none⟩ = some (.int .i64 n)) := hid (fun X hX => ⟨(bc.later hX).cell 0, (bc.later hX).cell 1, (bc.later hX).cell 2, (bn.later hX).cell 0⟩)
  have HZ : Hid (∀ X, Below (W.alloc (.cells #[.int .i64 0, .int .i64 0, .slice none 0 0] 28)).heap.size (W.alloc (.cells #[.int .i64 0, .int .i64 0, .slice none 0 0] 28)) X → Blk X W.heap.size #[.int .i64 0, .int .i64 0, .slice none 0 0] 28) := hid (fun X hX => (show Blk _ W.heap.size _ _ from heap_alloc_new W _).later hX)
  have HI1 := insistChain_any (h.later HB0.out) o t n 1
  obtain ⟨k0, k1, k2, k3⟩ := HC.out (W.alloc (.cells #[.int .i64 0, .int .i64 0, .slice none 0 0] 28)) HB0.out
  clear h bc bn
  by_cases p1 : mayC o t l n
  · have HP := hid p1
    rw [insC_ok p1] at HI1
    clear p1
    go_enter Try.func38, Try.ntmps38
    go_wp2_with (go_at_call 30; refine HI1.mono ?_; rintro x w1 ⟨rfl, hb1⟩; have HB1 := hid hb1; clear k0 k1 k2 k3; obtain ⟨k0, k1, k2, k3⟩ := HC.out w1 (HB0.out.trans (hb1.mono HB0.out.size)); have z0 : w1.cell? ⟨W.heap.size, 0, none⟩ = some (.int .i64 0) := (HZ.out w1 hb1).cell 0; have z1 : w1.cell? ⟨W.heap.size, 1, none⟩ = some (.int .i64 0) := (HZ.out w1 hb1).cell 1; have z2 : w1.cell? ⟨W.heap.size, 2, none⟩ = some (.slice none 0 0) := (HZ.out w1 hb1).cell 2; have f0 := (HZ.out w1 hb1).free 0; have f1 := (HZ.out w1 hb1).free 1; have f2 := (HZ.out w1 hb1).free 2; clear hb1)
    have m0 := (((HZ.out w1 HB1.out).set 0 (.int .i64 o)).set 1 (.int .i64 t)).set 2 (.slice ad m c)
    have s0 : (((w1.setCell ⟨W.heap.size, 0, none⟩ (.int .i64 o)).setCell ⟨W.heap.size, 1, none⟩ (.int .i64 t)).setCell ⟨W.heap.size, 2, none⟩ (.slice ad m c)).cell? ⟨W.heap.size, 0, none⟩ = some (.int .i64 o) := m0.cell 0
    have s1 : (((w1.setCell ⟨W.heap.size, 0, none⟩ (.int .i64 o)).setCell ⟨W.heap.size, 1, none⟩ (.int .i64 t)).setCell ⟨W.heap.size, 2, none⟩ (.slice ad m c)).cell? ⟨W.heap.size, 1, none⟩ = some (.int .i64 t) := m0.cell 1
    have s2 : (((w1.setCell ⟨W.heap.size, 0, none⟩ (.int .i64 o)).setCell ⟨W.heap.size, 1, none⟩ (.int .i64 t)).setCell ⟨W.heap.size, 2, none⟩ (.slice ad m c)).cell? ⟨W.heap.size, 2, none⟩ = some (.slice ad m c) := m0.cell 2
    have hbw : Below W.heap.size W w1 := HB0.out.trans (HB1.out.mono HB0.out.size)
    have hcg : Chg [W.heap.size] w1 (((w1.setCell ⟨W.heap.size, 0, none⟩ (.int .i64 o)).setCell ⟨W.heap.size, 1, none⟩ (.int .i64 t)).setCell ⟨W.heap.size, 2, none⟩ (.slice ad m c)) := (((Chg.refl _ w1).set (Or.inl (by simp)) _ _).set (Or.inl (by simp)) _ _).set (Or.inl (by simp)) _ _
    exact bodyPost_ret (v := .agg #[.int .i64 o, .int .i64 t, .slice ad m c]) (by simp [results, Try.results38, go_sem, s0, s1, s2]) rfl ⟨Or.inl ⟨o, t, ad, m, c, rfl, HP.out⟩, hbw.trans (hcg.below (fun k hk => by simp at hk; omega) hbw.size)⟩
  · have HP := hid p1
    rw [insC_no p1] at HI1
    clear p1
    go_enter Try.func38, Try.ntmps38
    go_wp2_with (go_at_call 30; refine HI1.mono ?_; rintro x w1 ⟨rfl, hb1⟩; have HB1 := hid hb1; clear hb1)
    exact ⟨rfl, Or.inr ⟨1, rfl, rfl, HP.out⟩, HB0.out.trans (HB1.out.mono HB0.out.size)⟩
theorem enters_chk1 : ∀ args w, (callFunc 38 args).run Try.prog w = .ok (.enter 38 args) w := fun _ _ => by kernel_rfl
set_option maxRecDepth 100000 in
set_option maxHeartbeats 1000000 in
theorem chk_any (h : CArg w l A ad m c) (o t n : Int) : Calls Try.prog 14 #[.agg #[.int .i64 o, .int .i64 t, .slice ad m c], .int .i64 n] w fun x w' => x = .returned (.int .i64 (if mayC o t l n then 0 else 1)) ∧ Below w.heap.size w w' := by
  obtain ⟨W2, hW2⟩ : ∃ W2, (w.alloc (.cells #[.int .i64 o, .int .i64 t, .slice ad m c] 28)).alloc (.cells #[.int .i64 n] 3) = W2 := ⟨_, rfl⟩
  have hb2 : Below w.heap.size w W2 := by rw [← hW2]; exact ((Below.refl _ w).alloc (Nat.le_refl _) _).alloc (by simp) _
  have q0 : Blk W2 w.heap.size #[.int .i64 o, .int .i64 t, .slice ad m c] 28 := by rw [← hW2]; exact blk_alloc _ _ (heap_alloc_new w _)
  have q1 : Blk W2 (w.heap.size + 1) #[.int .i64 n] 3 := by rw [← hW2]; exact heap_alloc_new' _ _ _ (by simp)
  have n1 := (Below.refl W2.heap.size W2).alloc (Nat.le_refl _) (.cells #[.int .i64 0, .int .i64 0, .slice none 0 0] 28)
  have n2 : Below W2.heap.size W2 ((W2.alloc (.cells #[.int .i64 0, .int .i64 0, .slice none 0 0] 28)).alloc (.cells #[.int .i64 0] 31)) := n1.alloc n1.size _
  have hsz : ((W2.alloc (.cells #[.int .i64 0, .int .i64 0, .slice none 0 0] 28)).alloc (.cells #[.int .i64 0] 31)).heap.size = W2.heap.size + 2 := by simp
  have HX1 := chk1_any (q0.later n2) (q1.later n2) ((h.later hb2).later n2)
  rw [hsz] at HX1
  have HAT := hid ((attemptChain 38 _ W2 enters_chk1 (fun _ _ _ _ _ _ => mayC o t l n) (fun y => y = 1 ∧ ¬ mayC o t l n) HX1).mono (R' := fun x w' => ∃ o' t' ad' m' c', x = .returned (.tuple #[.agg #[.int .i64 o', .int .i64 t', .slice ad' m' c'], .int .i64 (if mayC o t l n then 0 else 1)]) ∧ Hid (Below W2.heap.size W2 w')) (by
    rintro x w' ⟨h1, hb⟩
    rcases h1 with ⟨X, -, -, o', t', ad', m', c', rfl, hE⟩ | ⟨y, rfl, rfl, hy⟩
    · exact ⟨o', t', ad', m', c', by rw [if_pos hE], hb⟩
    · exact ⟨0, 0, none, 0, 0, by rw [if_neg hy], hb⟩))
  have hmf : ∀ (fn : Fn) (first cap : Array Value) (w : World), (Instr.makeFunc fn first cap).run Try.prog w = .ok (.func fn first cap) w := fun _ _ _ _ => rfl
  have HB2 := hid hb2
  clear h HX1 n1 n2 hsz q0 q1 hb2
  generalize (if mayC o t l n then (0 : Int) else 1) = y at *
  go_enter Try.func14, Try.ntmps14
  go_wp2_with (go_at_call 34; refine HAT.out.mono ?_; rintro x w' ⟨o', t', ad', m', c', rfl, HR⟩)
  go_ret
  exact ⟨rfl, (HB2.out.trans (HR.out.mono HB2.out.size)).alloc (Nat.le_trans HB2.out.size HR.out.size) _⟩
end Go.Proofs.Ythadagpfmacemaa
