/- insistChain of package chain (by geninsist.py). -/
import Derived.Test.YthadagpfmacemaaCTrim
import Derived.Test.YthadagpfmacemaaCNew
import Derived.Deep.RegionHeld
namespace Go.Proofs.Ythadagpfmacemaa
open Go.RowKit
variable {w w' : World} {l : List Pt} {A : Nat → Sl} {ad : Option Addr} {m c : Nat}

/-- How insistChain ends. -/
def insC (b : Bool) (y : Int) : Ending := if b then .returned (.tuple #[]) else .panicked (refusal y)
theorem insC_no {p : Prop} [Decidable p] {y : Int} (h : ¬ p) : insC (decide p) y = .panicked (refusal y) := by unfold insC; rw [decide_eq_false h]; rfl
theorem insC_ok {p : Prop} [Decidable p] {y : Int} (h : p) : insC (decide p) y = .returned (.tuple #[]) := by unfold insC; rw [decide_eq_true h]; rfl
/-- The boxes of insistChain in the midst of a round. -/
structure InsW (w : World) (o t : Int) (ad : Option Addr) (m c : Nat) (W : World) : Prop where
  below : Below w.heap.size w W
  box : Blk W w.heap.size #[.int .i64 o, .int .i64 t, .slice ad m c] 28
theorem InsW.later {o t : Int} {W W' : World} (h : InsW w o t ad m c W) (hb : Below W.heap.size W W') : InsW w o t ad m c W' := ⟨h.below.trans (hb.mono h.below.size), h.box.later hb⟩
set_option maxRecDepth 100000 in
set_option maxHeartbeats 4000000 in
theorem insistChain_any (h : CArg w l A ad m c) (o t n y : Int) : Calls Try.prog 30 #[.agg #[.int .i64 o, .int .i64 t, .slice ad m c], .int .i64 n, .int .i64 y] w fun e w' => e = insC (decide (mayC o t l n)) y ∧ Below w.heap.size w w' := by
  have hl := h.len
  have hm : m ≤ 9223372036854775807 := by have := h.cap; have := h.room; unfold maxLen at this; omega
  have hmc := h.cap
  have HB : Hid (Below w.heap.size w (w.alloc (.cells #[.int .i64 o, .int .i64 t, .slice ad m c] 28))) := hid ((Below.refl _ _).alloc (Nat.le_refl _) _)
  have HW : Hid (InsW w o t ad m c (w.alloc (.cells #[.int .i64 o, .int .i64 t, .slice ad m c] 28))) := hid ⟨HB.out, heap_alloc_new w _⟩
  have H : Hid (CArg w l A ad m c) := h
  by_cases a1 : 0 ≤ o
  case neg =>
    rw [insC_no (fun hh => a1 hh.1.1)]
    have d1 : decide (0 ≤ o) = false := by simpa using a1
    clear h a1
    go_enter Try.func30, Try.ntmps30
    go_wp2_with first | (go_at_call 51; refine (isNumber_any _ _).mono ?_; rintro e w1 ⟨rfl, hw1⟩; obtain rfl := hw1.symm) | (go_at_call 31; (with_reducible_and_instances (refine (insist_ok y _).mono ?_)); rintro e w1 ⟨rfl, hw1⟩; obtain rfl := hw1.symm) | (go_at_call 31; (with_reducible_and_instances (refine (insist_no y _).mono ?_)); rintro e w1 ⟨rfl, hw1⟩; obtain rfl := hw1.symm)
    exact ⟨rfl, rfl, HB.out⟩
  by_cases a2 : o ≤ 15
  case neg =>
    rw [insC_no (fun hh => a2 hh.1.2)]
    have d1 : decide (0 ≤ o) = true := by simpa using a1
    have d2 : decide (o ≤ 15) = false := by simpa using a2
    clear h a1 a2
    go_enter Try.func30, Try.ntmps30
    go_wp2_with first | (go_at_call 51; refine (isNumber_any _ _).mono ?_; rintro e w1 ⟨rfl, hw1⟩; obtain rfl := hw1.symm) | (go_at_call 31; (with_reducible_and_instances (refine (insist_ok y _).mono ?_)); rintro e w1 ⟨rfl, hw1⟩; obtain rfl := hw1.symm) | (go_at_call 31; (with_reducible_and_instances (refine (insist_no y _).mono ?_)); rintro e w1 ⟨rfl, hw1⟩; obtain rfl := hw1.symm)
    exact ⟨rfl, rfl, HB.out⟩
  have d1 : decide (0 ≤ o) = true := by simpa using a1
  have d2 : decide (o ≤ 15) = true := by simpa using a2
  by_cases a3 : isN t
  case neg =>
    rw [insC_no (fun hh => a3 hh.2.1.1)]
    have d3 : decide (isN t) = false := decide_eq_false a3
    clear h a1 a2 a3
    go_enter Try.func30, Try.ntmps30
    go_wp2_with first | (go_at_call 51; refine (isNumber_any _ _).mono ?_; rintro e w1 ⟨rfl, hw1⟩; obtain rfl := hw1.symm) | (go_at_call 31; (with_reducible_and_instances (refine (insist_ok y _).mono ?_)); rintro e w1 ⟨rfl, hw1⟩; obtain rfl := hw1.symm) | (go_at_call 31; (with_reducible_and_instances (refine (insist_no y _).mono ?_)); rintro e w1 ⟨rfl, hw1⟩; obtain rfl := hw1.symm)
    exact ⟨rfl, rfl, HB.out⟩
  have d3 : decide (isN t) = true := decide_eq_true a3
  by_cases a4 : m ≤ 64
  case neg =>
    rw [insC_no (fun hh => a4 (by rw [← hl]; exact hh.2.1.2))]
    have d4 : decide ((m : Int) ≤ 64) = false := by simp; omega
    clear h a1 a2 a3 a4
    go_enter Try.func30, Try.ntmps30
    go_wp2_with first | (go_at_call 51; refine (isNumber_any _ _).mono ?_; rintro e w1 ⟨rfl, hw1⟩; obtain rfl := hw1.symm) | (go_at_call 31; (with_reducible_and_instances (refine (insist_ok y _).mono ?_)); rintro e w1 ⟨rfl, hw1⟩; obtain rfl := hw1.symm) | (go_at_call 31; (with_reducible_and_instances (refine (insist_no y _).mono ?_)); rintro e w1 ⟨rfl, hw1⟩; obtain rfl := hw1.symm)
    exact ⟨rfl, rfl, HB.out⟩
  have d4 : decide ((m : Int) ≤ 64) = true := by simp; omega
  have HM : Hid (partsOk n l m → trimOk t l → mayC o t l n) := hid (fun h1 h2 => ⟨⟨a1, a2⟩, ⟨a3, by omega⟩, by rw [hl]; exact h1, h2⟩)
  have HMt : Hid (mayC o t l n → trimOk t l) := hid (fun hh => hh.2.2.2)
  have HMp : Hid (∀ j, j < m → ¬ partOk n l j → ¬ mayC o t l n) := hid (fun j hj hn hh => hn (hh.2.2.1 j (by rw [hl]; exact hj)))
  clear h a1 a2 a3 HB hl
  go_enter Try.func30, Try.ntmps30
  go_wp2_with first | (go_at_call 51; refine (isNumber_any _ _).mono ?_; rintro e w1 ⟨rfl, hw1⟩; obtain rfl := hw1.symm) | (go_at_call 31; (with_reducible_and_instances (refine (insist_ok y _).mono ?_)); rintro e w1 ⟨rfl, hw1⟩; obtain rfl := hw1.symm) | (go_at_call 31; (with_reducible_and_instances (refine (insist_no y _).mono ?_)); rintro e w1 ⟨rfl, hw1⟩; obtain rfl := hw1.symm)
  go_loopw [32] (fun i wr => ∃ j : Nat, j ≤ m ∧ i = .int .i64 j ∧ Hid (partsOk n l j) ∧ Hid (InsW w o t ad m c wr)) (fun i _ => m - (intOf i).toNat)
  case atStart => exact ⟨0, by omega, rfl, hid (fun i hi => absurd hi (Nat.not_lt_zero _)), HW⟩
  case round =>
    obtain ⟨j, hj, rfl, HT, HR⟩ := hrel
    clear HW d1 d2 d3 d4
    by_cases hlt : j < m
    · have hlti : decide ((j : Int) < (m : Int)) = true := by simp; omega
      have hjc : j ≤ c := by omega
      have h2 := H.out.later HR.out.below
      obtain ⟨b, off, hbo, hs, hc⟩ := h2.cells (by omega)
      obtain ⟨r0, r1, r2⟩ := hc j hlt
      have HP : Hid (partOk n l j ↔ isN (ptAt l j).first ∧ checkL (ptAt l j).id (ptAt l j).nodes n = 0 ∧ newId (ptAt l j).id (l.take j) ∧ followsP (ptAt l j).first (l.take j)) := hid Iff.rfl
      have HNo : Hid (¬ partOk n l j → ¬ mayC o t l n) := hid (HMp.out j hlt)
      have HG : Hid (partOk n l j → partsOk n l (j + 1)) := hid (fun hp => HT.out.more hp)
      have HI : Hid (Ints wr (ptAt l j).nodes (A j).ad (A j).m (A j).c) := hid (h2.ints j hlt).1
      have HA : Hid (CArg wr (l.take j) A ad j c) := hid (h2.ahead j hj)
      have HL : Hid (0 ≤ lastF (l.take j) ∧ lastF (l.take j) < 281474976710656) := hid (lastF_take_rng HT.out (by rw [H.out.len]; exact hj))
      have q2 : wr.cell? ⟨w.heap.size, 2, none⟩ = some (.slice ad m c) := HR.out.box.cell 2
      clear hc hs h2 HMp HM HMt
      generalize (ptAt l j).id = id at *
      generalize (ptAt l j).first = f at *
      generalize (ptAt l j).nodes = ns at *
      generalize (A j).ad = ad1 at *
      generalize (A j).m = m1 at *
      generalize (A j).c = c1 at *
      subst hbo
      by_cases p1 : isN f
      case neg =>
        have HE : Hid (insC (decide (mayC o t l n)) y = .panicked (refusal y)) := hid (insC_no (HNo.out (fun hp => p1 (HP.out.1 hp).1)))
        have e1 : decide (isN f) = false := decide_eq_false p1
        clear p1 HP HNo HG
        go_wp2_with first | (go_at_call 51; refine (isNumber_any _ _).mono ?_; rintro e w1 ⟨rfl, hw1⟩; obtain rfl := hw1.symm) | (go_at_call 31; (with_reducible_and_instances (refine (insist_ok y _).mono ?_)); rintro e w1 ⟨rfl, hw1⟩; obtain rfl := hw1.symm) | (go_at_call 31; (with_reducible_and_instances (refine (insist_no y _).mono ?_)); rintro e w1 ⟨rfl, hw1⟩; obtain rfl := hw1.symm)
        exact ⟨rfl, HE.out.symm, HR.out.below.trans (((Below.refl _ wr).alloc (Nat.le_refl _) _).mono HR.out.below.size)⟩
      have e1 : decide (isN f) = true := decide_eq_true p1
      have HX : Hid (Below wr.heap.size wr (wr.alloc (.cells #[.int .i64 f, .int .i64 id, .slice ad1 m1 c1] 61))) := hid ((Below.refl _ _).alloc (Nat.le_refl _) _)
      have HC := check_any (HI.out.later HX.out) id n
      have HXb : Hid (∀ W, Below (wr.alloc (.cells #[.int .i64 f, .int .i64 id, .slice ad1 m1 c1] 61)).heap.size (wr.alloc (.cells #[.int .i64 f, .int .i64 id, .slice ad1 m1 c1] 61)) W → (W.cell? ⟨wr.heap.size, 0, none⟩ = some (.int .i64 f) ∧ W.cell? ⟨wr.heap.size, 1, none⟩ = some (.int .i64 id)) ∧ W.cell? ⟨w.heap.size, 2, none⟩ = some (.slice (some ⟨b, off, none⟩) m c)) := hid (fun W hW => by
        have q : Blk W wr.heap.size #[.int .i64 f, .int .i64 id, .slice ad1 m1 c1] 61 := (show Blk _ wr.heap.size _ _ from heap_alloc_new wr _).later hW
        exact ⟨⟨q.cell 0, q.cell 1⟩, (HR.out.box.later (HX.out.trans (hW.mono HX.out.size))).cell 2⟩)
      by_cases p2 : checkL id ns n = 0
      case neg =>
        have HE : Hid (insC (decide (mayC o t l n)) y = .panicked (refusal y)) := hid (insC_no (HNo.out (fun hp => p2 (HP.out.1 hp).2.1)))
        have e2 : (checkL id ns n == 0) = false := by simpa using p2
        clear p1 p2 HP HNo HG HXb
        generalize checkL id ns n = ck at *
        go_wp2_with first | (go_at_call 52; refine HC.mono ?_; rintro e w2 ⟨rfl, hb2⟩; have HB2 := hid hb2; clear hb2) | (go_at_call 51; refine (isNumber_any _ _).mono ?_; rintro e w1 ⟨rfl, hw1⟩; obtain rfl := hw1.symm) | (go_at_call 31; (with_reducible_and_instances (refine (insist_ok y _).mono ?_)); rintro e w1 ⟨rfl, hw1⟩; obtain rfl := hw1.symm) | (go_at_call 31; (with_reducible_and_instances (refine (insist_no y _).mono ?_)); rintro e w1 ⟨rfl, hw1⟩; obtain rfl := hw1.symm)
        exact ⟨rfl, HE.out.symm, HR.out.below.trans ((HX.out.trans (HB2.out.mono HX.out.size)).mono HR.out.below.size)⟩
      rw [p2] at HC
      have HN0 := hid (fun W (hW : Below wr.heap.size wr W) => isNew_any (HA.out.later hW) id)
      have HF0 := hid (fun W (hW : Below wr.heap.size wr W) => follows_any f (HA.out.later hW) ⟨by have := HL.out.1; omega, HL.out.2⟩)
      by_cases p3 : newId id (l.take j)
      case neg =>
        have HE : Hid (insC (decide (mayC o t l n)) y = .panicked (refusal y)) := hid (insC_no (HNo.out (fun hp => p3 (HP.out.1 hp).2.2.1)))
        rw [decide_eq_false p3] at HN0
        clear p1 p2 p3 HP HNo HG HF0
        go_wp2_with first | (go_at_call 52; refine HC.mono ?_; rintro e W1 ⟨rfl, hb2⟩; have HY : Hid (Below wr.heap.size wr W1) := hid (HX.out.trans (hb2.mono HX.out.size)); have HS : Hid (∀ W, Below W1.heap.size W1 W → (W.cell? ⟨wr.heap.size, 0, none⟩ = some (.int .i64 f) ∧ W.cell? ⟨wr.heap.size, 1, none⟩ = some (.int .i64 id)) ∧ W.cell? ⟨w.heap.size, 2, none⟩ = some (.slice (some ⟨b, off, none⟩) m c)) := hid (fun W hW => HXb.out W (hb2.trans (hW.mono hb2.size))); clear hb2) | (go_at_call 51; refine (isNumber_any _ _).mono ?_; rintro e w1 ⟨rfl, hw1⟩; obtain rfl := hw1.symm) | (go_at_call 31; (with_reducible_and_instances (refine (insist_ok y _).mono ?_)); rintro e w1 ⟨rfl, hw1⟩; obtain rfl := hw1.symm) | (go_at_call 31; (with_reducible_and_instances (refine (insist_no y _).mono ?_)); rintro e w1 ⟨rfl, hw1⟩; obtain rfl := hw1.symm)
        have HN := hid (fun W (hW : Below W1.heap.size W1 W) => HN0.out W (HY.out.trans (hW.mono HY.out.size)))
        try have HF := hid (fun W (hW : Below W1.heap.size W1 W) => HF0.out W (HY.out.trans (hW.mono HY.out.size)))
        clear HN0 HXb HC
        refine wp_region_held_drew (S := fun W => (W.cell? ⟨wr.heap.size, 0, none⟩ = some (.int .i64 f) ∧ W.cell? ⟨wr.heap.size, 1, none⟩ = some (.int .i64 id)) ∧ W.cell? ⟨w.heap.size, 2, none⟩ = some (.slice (some ⟨b, off, none⟩) m c)) (by kernel_rfl) (HS.out _ (Below.refl _ _).drew) (fun hHeld => ?_)
        refine wpAnyH_take (i := 0) (oi := { dst := some 49, op := Op.fieldAddr 61 (Operand.tmp 7) 1, type := 0, pos := "insist.go:43", after := #[], guard := none }) (v := ?_) rfl (by kernel_rfl) (by kernel_rfl) (by kernel_rfl) (fun _ _ _ h => h) (Or.inl ⟨by rfl, ?_⟩) hHeld ?_
        rotate_left
        · intro w hSw; (try dsimp only at hSw); go_simp; try with_reducible rfl
        try simp only [Act.put, List.setIfInBounds_toArray, List.set_cons_zero, List.set_cons_succ]
        refine wpAnyH_take (i := 1) (oi := { dst := some 50, op := Op.fieldAddr 54 (Operand.tmp 49) 0, type := 0, pos := "insist.go:43", after := #[{ on := 0, ground := Ground.data }], guard := none }) (v := ?_) rfl (by kernel_rfl) (by kernel_rfl) (by kernel_rfl) (fun _ _ _ h => h) (Or.inl ⟨by rfl, ?_⟩) hHeld ?_
        rotate_left
        · intro w hSw; (try dsimp only at hSw); go_simp; try with_reducible rfl
        try simp only [Act.put, List.setIfInBounds_toArray, List.set_cons_zero, List.set_cons_succ]
        refine wpAnyH_take (i := 2) (oi := { dst := some 51, op := Op.load 3 (Operand.tmp 50), type := 3, pos := "insist.go:43", after := #[{ on := 1, ground := Ground.data }], guard := none }) (v := ?_) rfl (by kernel_rfl) (by kernel_rfl) (by kernel_rfl) (fun _ _ _ h => h) (Or.inl ⟨by rfl, ?_⟩) hHeld ?_
        rotate_left
        · intro w hSw; (try dsimp only at hSw); go_simp; try with_reducible rfl
        try simp only [Act.put, List.setIfInBounds_toArray, List.set_cons_zero, List.set_cons_succ]
        refine wpAnyH_take (i := 3) (oi := { dst := some 52, op := Op.fieldAddr 28 (Operand.tmp 3) 2, type := 0, pos := "insist.go:43", after := #[], guard := none }) (v := ?_) rfl (by kernel_rfl) (by kernel_rfl) (by kernel_rfl) (fun _ _ _ h => h) (Or.inl ⟨by rfl, ?_⟩) hHeld ?_
        rotate_left
        · intro w hSw; (try dsimp only at hSw); go_simp; try with_reducible rfl
        try simp only [Act.put, List.setIfInBounds_toArray, List.set_cons_zero, List.set_cons_succ]
        refine wpAnyH_take (i := 4) (oi := { dst := some 53, op := Op.load 26 (Operand.tmp 52), type := 26, pos := "insist.go:43", after := #[{ on := 3, ground := Ground.data }], guard := none }) (v := ?_) rfl (by kernel_rfl) (by kernel_rfl) (by kernel_rfl) (fun _ _ _ h => h) (Or.inl ⟨by rfl, ?_⟩) hHeld ?_
        rotate_left
        · intro w hSw; (try dsimp only at hSw); go_simp; try with_reducible rfl
        try simp only [Act.put, List.setIfInBounds_toArray, List.set_cons_zero, List.set_cons_succ]
        refine wpAnyH_take (i := 5) (oi := { dst := some 54, op := Op.move (Operand.tmp 6), type := 3, pos := "insist.go:43", after := #[], guard := none }) (v := ?_) rfl (by kernel_rfl) (by kernel_rfl) (by kernel_rfl) (fun _ _ _ h => h) (Or.inl ⟨by rfl, ?_⟩) hHeld ?_
        rotate_left
        · intro w hSw; (try dsimp only at hSw); go_simp; try with_reducible rfl
        try simp only [Act.put, List.setIfInBounds_toArray, List.set_cons_zero, List.set_cons_succ]
        refine wpAnyH_take (i := 6) (oi := { dst := some 55, op := Op.slice 26 (Operand.tmp 53) none (some (Operand.tmp 54)) none, type := 26, pos := "insist.go:43", after := #[{ on := 4, ground := Ground.data }, { on := 5, ground := Ground.data }], guard := none }) (v := ?_) rfl (by kernel_rfl) (by kernel_rfl) (by kernel_rfl) (fun _ _ _ h => h) (Or.inl ⟨by rfl, ?_⟩) hHeld ?_
        rotate_left
        · intro w hSw; (try dsimp only at hSw); go_simp; try with_reducible rfl
        try simp only [Act.put, List.setIfInBounds_toArray, List.set_cons_zero, List.set_cons_succ]
        refine wpAnyH_take (i := 17) (oi := { dst := some 66, op := Op.move (Operand.tmp 2), type := 31, pos := "insist.go:43", after := #[], guard := none }) (v := ?_) rfl (by kernel_rfl) (by kernel_rfl) (by kernel_rfl) (fun _ _ _ h => h) (Or.inl ⟨by rfl, ?_⟩) hHeld ?_
        rotate_left
        · intro w hSw; (try dsimp only at hSw); go_simp; try with_reducible rfl
        try simp only [Act.put, List.setIfInBounds_toArray, List.set_cons_zero, List.set_cons_succ]
        refine wpAnyH_ready (rs := [7]) (by kernel_rfl) (by simp) ?_
        refine AllReadyH.cons rfl (fun K hK => ?_) (AllReadyH.nil)
        go_simp
        go_wp2_with (go_at_call 53; refine (HN.out _ (Below.refl _ _).drew).mono ?_; rintro e w2 ⟨rfl, hb2⟩; have HB2 : Hid (Below W1.heap.size W1 w2) := hid (((Below.refl _ W1).drew).trans hb2); clear hb2)
        refine hK.out _ _ (HS.out _ HB2.out) (fun hHeld => ?_)
        clear hK K
        try simp only [Act.put, List.setIfInBounds_toArray, List.set_cons_zero, List.set_cons_succ]
        refine wpAnyH_take (i := 8) (oi := { dst := some 57, op := Op.move (Operand.tmp 56), type := 4, pos := "insist.go:43", after := #[{ on := 7, ground := Ground.data }, { on := 7, ground := Ground.chain }], guard := none }) (v := ?_) rfl (by kernel_rfl) (by kernel_rfl) (by kernel_rfl) (fun _ _ _ h => h) (Or.inl ⟨by rfl, ?_⟩) hHeld ?_
        rotate_left
        · intro w hSw; (try dsimp only at hSw); go_simp; try with_reducible rfl
        try simp only [Act.put, List.setIfInBounds_toArray, List.set_cons_zero, List.set_cons_succ]
        refine wpAnyH_take (i := 9) (oi := { dst := some 58, op := Op.fieldAddr 61 (Operand.tmp 7) 0, type := 0, pos := "insist.go:43", after := #[{ on := 8, ground := Ground.guard }], guard := some (8, true) }) (v := undef) rfl (by kernel_rfl) (by kernel_rfl) (by kernel_rfl) (fun _ _ _ h => h) (Or.inr ⟨by kernel_rfl, rfl⟩) hHeld ?_
        try simp only [Act.put, List.setIfInBounds_toArray, List.set_cons_zero, List.set_cons_succ]
        refine wpAnyH_take (i := 10) (oi := { dst := some 59, op := Op.load 3 (Operand.tmp 58), type := 3, pos := "insist.go:43", after := #[{ on := 9, ground := Ground.data }, { on := 8, ground := Ground.guard }], guard := some (8, true) }) (v := undef) rfl (by kernel_rfl) (by kernel_rfl) (by kernel_rfl) (fun _ _ _ h => h) (Or.inr ⟨by kernel_rfl, rfl⟩) hHeld ?_
        try simp only [Act.put, List.setIfInBounds_toArray, List.set_cons_zero, List.set_cons_succ]
        refine wpAnyH_take (i := 11) (oi := { dst := some 60, op := Op.fieldAddr 28 (Operand.tmp 3) 2, type := 0, pos := "insist.go:43", after := #[{ on := 8, ground := Ground.guard }], guard := some (8, true) }) (v := undef) rfl (by kernel_rfl) (by kernel_rfl) (by kernel_rfl) (fun _ _ _ h => h) (Or.inr ⟨by kernel_rfl, rfl⟩) hHeld ?_
        try simp only [Act.put, List.setIfInBounds_toArray, List.set_cons_zero, List.set_cons_succ]
        refine wpAnyH_take (i := 12) (oi := { dst := some 61, op := Op.load 26 (Operand.tmp 60), type := 26, pos := "insist.go:43", after := #[{ on := 11, ground := Ground.data }, { on := 8, ground := Ground.guard }], guard := some (8, true) }) (v := undef) rfl (by kernel_rfl) (by kernel_rfl) (by kernel_rfl) (fun _ _ _ h => h) (Or.inr ⟨by kernel_rfl, rfl⟩) hHeld ?_
        try simp only [Act.put, List.setIfInBounds_toArray, List.set_cons_zero, List.set_cons_succ]
        refine wpAnyH_take (i := 13) (oi := { dst := some 62, op := Op.move (Operand.tmp 6), type := 3, pos := "insist.go:43", after := #[{ on := 8, ground := Ground.guard }], guard := some (8, true) }) (v := undef) rfl (by kernel_rfl) (by kernel_rfl) (by kernel_rfl) (fun _ _ _ h => h) (Or.inr ⟨by kernel_rfl, rfl⟩) hHeld ?_
        try simp only [Act.put, List.setIfInBounds_toArray, List.set_cons_zero, List.set_cons_succ]
        refine wpAnyH_take (i := 14) (oi := { dst := some 63, op := Op.slice 26 (Operand.tmp 61) none (some (Operand.tmp 62)) none, type := 26, pos := "insist.go:43", after := #[{ on := 12, ground := Ground.data }, { on := 13, ground := Ground.data }, { on := 8, ground := Ground.guard }], guard := some (8, true) }) (v := undef) rfl (by kernel_rfl) (by kernel_rfl) (by kernel_rfl) (fun _ _ _ h => h) (Or.inr ⟨by kernel_rfl, rfl⟩) hHeld ?_
        try simp only [Act.put, List.setIfInBounds_toArray, List.set_cons_zero, List.set_cons_succ]
        refine wpAnyH_take (i := 15) (oi := { dst := some 64, op := Op.call { callee := Callee.value (Operand.func 54), args := #[Operand.tmp 59, Operand.tmp 63], argTypes := #[3, 26] }, type := 4, pos := "insist.go:43", after := #[{ on := 10, ground := Ground.data }, { on := 14, ground := Ground.data }, { on := 8, ground := Ground.chain }, { on := 8, ground := Ground.guard }], guard := some (8, true) }) (v := undef) rfl (by kernel_rfl) (by kernel_rfl) (by kernel_rfl) (fun _ _ _ h => h) (Or.inr ⟨by kernel_rfl, rfl⟩) hHeld ?_
        try simp only [Act.put, List.setIfInBounds_toArray, List.set_cons_zero, List.set_cons_succ]
        refine wpAnyH_take (i := 16) (oi := { dst := some 65, op := Op.pick (Operand.tmp 57) (Operand.tmp 64) (Operand.const (Value.bool false)), type := 4, pos := "insist.go:43", after := #[{ on := 8, ground := Ground.data }, { on := 15, ground := Ground.data }], guard := none }) (v := ?_) rfl (by kernel_rfl) (by kernel_rfl) (by kernel_rfl) (fun _ _ _ h => h) (Or.inl ⟨by rfl, ?_⟩) hHeld ?_
        rotate_left
        · intro w hSw; (try dsimp only at hSw); go_simp; try with_reducible rfl
        try simp only [Act.put, List.setIfInBounds_toArray, List.set_cons_zero, List.set_cons_succ]
        refine wpAnyH_ready (rs := [18]) (by kernel_rfl) (by simp) ?_
        refine AllReadyH.cons rfl (fun K hK => ?_) (AllReadyH.nil)
        go_simp
        go_wp2_with (go_at_call 31; refine (insist_no y _).mono ?_; rintro e w4 ⟨rfl, hw4⟩; obtain rfl := hw4.symm)
        exact ⟨rfl, HE.out.symm, HR.out.below.trans ((HY.out.trans (HB2.out.mono HY.out.size)).mono HR.out.below.size)⟩
      rw [decide_eq_true p3] at HN0
      by_cases p4 : followsP f (l.take j)
      case neg =>
        have HE : Hid (insC (decide (mayC o t l n)) y = .panicked (refusal y)) := hid (insC_no (HNo.out (fun hp => p4 (HP.out.1 hp).2.2.2)))
        rw [decide_eq_false p4] at HF0
        clear p1 p2 p3 p4 HP HNo HG
        go_wp2_with first | (go_at_call 52; refine HC.mono ?_; rintro e W1 ⟨rfl, hb2⟩; have HY : Hid (Below wr.heap.size wr W1) := hid (HX.out.trans (hb2.mono HX.out.size)); have HS : Hid (∀ W, Below W1.heap.size W1 W → (W.cell? ⟨wr.heap.size, 0, none⟩ = some (.int .i64 f) ∧ W.cell? ⟨wr.heap.size, 1, none⟩ = some (.int .i64 id)) ∧ W.cell? ⟨w.heap.size, 2, none⟩ = some (.slice (some ⟨b, off, none⟩) m c)) := hid (fun W hW => HXb.out W (hb2.trans (hW.mono hb2.size))); clear hb2) | (go_at_call 51; refine (isNumber_any _ _).mono ?_; rintro e w1 ⟨rfl, hw1⟩; obtain rfl := hw1.symm) | (go_at_call 31; (with_reducible_and_instances (refine (insist_ok y _).mono ?_)); rintro e w1 ⟨rfl, hw1⟩; obtain rfl := hw1.symm) | (go_at_call 31; (with_reducible_and_instances (refine (insist_no y _).mono ?_)); rintro e w1 ⟨rfl, hw1⟩; obtain rfl := hw1.symm)
        have HN := hid (fun W (hW : Below W1.heap.size W1 W) => HN0.out W (HY.out.trans (hW.mono HY.out.size)))
        try have HF := hid (fun W (hW : Below W1.heap.size W1 W) => HF0.out W (HY.out.trans (hW.mono HY.out.size)))
        clear HN0 HXb HC
        refine wp_region_held_drew (S := fun W => (W.cell? ⟨wr.heap.size, 0, none⟩ = some (.int .i64 f) ∧ W.cell? ⟨wr.heap.size, 1, none⟩ = some (.int .i64 id)) ∧ W.cell? ⟨w.heap.size, 2, none⟩ = some (.slice (some ⟨b, off, none⟩) m c)) (by kernel_rfl) (HS.out _ (Below.refl _ _).drew) (fun hHeld => ?_)
        refine wpAnyH_take (i := 0) (oi := { dst := some 49, op := Op.fieldAddr 61 (Operand.tmp 7) 1, type := 0, pos := "insist.go:43", after := #[], guard := none }) (v := ?_) rfl (by kernel_rfl) (by kernel_rfl) (by kernel_rfl) (fun _ _ _ h => h) (Or.inl ⟨by rfl, ?_⟩) hHeld ?_
        rotate_left
        · intro w hSw; (try dsimp only at hSw); go_simp; try with_reducible rfl
        try simp only [Act.put, List.setIfInBounds_toArray, List.set_cons_zero, List.set_cons_succ]
        refine wpAnyH_take (i := 1) (oi := { dst := some 50, op := Op.fieldAddr 54 (Operand.tmp 49) 0, type := 0, pos := "insist.go:43", after := #[{ on := 0, ground := Ground.data }], guard := none }) (v := ?_) rfl (by kernel_rfl) (by kernel_rfl) (by kernel_rfl) (fun _ _ _ h => h) (Or.inl ⟨by rfl, ?_⟩) hHeld ?_
        rotate_left
        · intro w hSw; (try dsimp only at hSw); go_simp; try with_reducible rfl
        try simp only [Act.put, List.setIfInBounds_toArray, List.set_cons_zero, List.set_cons_succ]
        refine wpAnyH_take (i := 2) (oi := { dst := some 51, op := Op.load 3 (Operand.tmp 50), type := 3, pos := "insist.go:43", after := #[{ on := 1, ground := Ground.data }], guard := none }) (v := ?_) rfl (by kernel_rfl) (by kernel_rfl) (by kernel_rfl) (fun _ _ _ h => h) (Or.inl ⟨by rfl, ?_⟩) hHeld ?_
        rotate_left
        · intro w hSw; (try dsimp only at hSw); go_simp; try with_reducible rfl
        try simp only [Act.put, List.setIfInBounds_toArray, List.set_cons_zero, List.set_cons_succ]
        refine wpAnyH_take (i := 3) (oi := { dst := some 52, op := Op.fieldAddr 28 (Operand.tmp 3) 2, type := 0, pos := "insist.go:43", after := #[], guard := none }) (v := ?_) rfl (by kernel_rfl) (by kernel_rfl) (by kernel_rfl) (fun _ _ _ h => h) (Or.inl ⟨by rfl, ?_⟩) hHeld ?_
        rotate_left
        · intro w hSw; (try dsimp only at hSw); go_simp; try with_reducible rfl
        try simp only [Act.put, List.setIfInBounds_toArray, List.set_cons_zero, List.set_cons_succ]
        refine wpAnyH_take (i := 4) (oi := { dst := some 53, op := Op.load 26 (Operand.tmp 52), type := 26, pos := "insist.go:43", after := #[{ on := 3, ground := Ground.data }], guard := none }) (v := ?_) rfl (by kernel_rfl) (by kernel_rfl) (by kernel_rfl) (fun _ _ _ h => h) (Or.inl ⟨by rfl, ?_⟩) hHeld ?_
        rotate_left
        · intro w hSw; (try dsimp only at hSw); go_simp; try with_reducible rfl
        try simp only [Act.put, List.setIfInBounds_toArray, List.set_cons_zero, List.set_cons_succ]
        refine wpAnyH_take (i := 5) (oi := { dst := some 54, op := Op.move (Operand.tmp 6), type := 3, pos := "insist.go:43", after := #[], guard := none }) (v := ?_) rfl (by kernel_rfl) (by kernel_rfl) (by kernel_rfl) (fun _ _ _ h => h) (Or.inl ⟨by rfl, ?_⟩) hHeld ?_
        rotate_left
        · intro w hSw; (try dsimp only at hSw); go_simp; try with_reducible rfl
        try simp only [Act.put, List.setIfInBounds_toArray, List.set_cons_zero, List.set_cons_succ]
        refine wpAnyH_take (i := 6) (oi := { dst := some 55, op := Op.slice 26 (Operand.tmp 53) none (some (Operand.tmp 54)) none, type := 26, pos := "insist.go:43", after := #[{ on := 4, ground := Ground.data }, { on := 5, ground := Ground.data }], guard := none }) (v := ?_) rfl (by kernel_rfl) (by kernel_rfl) (by kernel_rfl) (fun _ _ _ h => h) (Or.inl ⟨by rfl, ?_⟩) hHeld ?_
        rotate_left
        · intro w hSw; (try dsimp only at hSw); go_simp; try with_reducible rfl
        try simp only [Act.put, List.setIfInBounds_toArray, List.set_cons_zero, List.set_cons_succ]
        refine wpAnyH_take (i := 17) (oi := { dst := some 66, op := Op.move (Operand.tmp 2), type := 31, pos := "insist.go:43", after := #[], guard := none }) (v := ?_) rfl (by kernel_rfl) (by kernel_rfl) (by kernel_rfl) (fun _ _ _ h => h) (Or.inl ⟨by rfl, ?_⟩) hHeld ?_
        rotate_left
        · intro w hSw; (try dsimp only at hSw); go_simp; try with_reducible rfl
        try simp only [Act.put, List.setIfInBounds_toArray, List.set_cons_zero, List.set_cons_succ]
        refine wpAnyH_ready (rs := [7]) (by kernel_rfl) (by simp) ?_
        refine AllReadyH.cons rfl (fun K hK => ?_) (AllReadyH.nil)
        go_simp
        go_wp2_with (go_at_call 53; refine (HN.out _ (Below.refl _ _).drew).mono ?_; rintro e w2 ⟨rfl, hb2⟩; have HB2 : Hid (Below W1.heap.size W1 w2) := hid (((Below.refl _ W1).drew).trans hb2); clear hb2)
        refine hK.out _ _ (HS.out _ HB2.out) (fun hHeld => ?_)
        clear hK K
        try simp only [Act.put, List.setIfInBounds_toArray, List.set_cons_zero, List.set_cons_succ]
        refine wpAnyH_take (i := 8) (oi := { dst := some 57, op := Op.move (Operand.tmp 56), type := 4, pos := "insist.go:43", after := #[{ on := 7, ground := Ground.data }, { on := 7, ground := Ground.chain }], guard := none }) (v := ?_) rfl (by kernel_rfl) (by kernel_rfl) (by kernel_rfl) (fun _ _ _ h => h) (Or.inl ⟨by rfl, ?_⟩) hHeld ?_
        rotate_left
        · intro w hSw; (try dsimp only at hSw); go_simp; try with_reducible rfl
        try simp only [Act.put, List.setIfInBounds_toArray, List.set_cons_zero, List.set_cons_succ]
        refine wpAnyH_take (i := 9) (oi := { dst := some 58, op := Op.fieldAddr 61 (Operand.tmp 7) 0, type := 0, pos := "insist.go:43", after := #[{ on := 8, ground := Ground.guard }], guard := some (8, true) }) (v := ?_) rfl (by kernel_rfl) (by kernel_rfl) (by kernel_rfl) (fun _ _ _ h => h) (Or.inl ⟨by rfl, ?_⟩) hHeld ?_
        rotate_left
        · intro w hSw; (try dsimp only at hSw); go_simp; try with_reducible rfl
        try simp only [Act.put, List.setIfInBounds_toArray, List.set_cons_zero, List.set_cons_succ]
        refine wpAnyH_take (i := 10) (oi := { dst := some 59, op := Op.load 3 (Operand.tmp 58), type := 3, pos := "insist.go:43", after := #[{ on := 9, ground := Ground.data }, { on := 8, ground := Ground.guard }], guard := some (8, true) }) (v := ?_) rfl (by kernel_rfl) (by kernel_rfl) (by kernel_rfl) (fun _ _ _ h => h) (Or.inl ⟨by rfl, ?_⟩) hHeld ?_
        rotate_left
        · intro w hSw; (try dsimp only at hSw); go_simp; try with_reducible rfl
        try simp only [Act.put, List.setIfInBounds_toArray, List.set_cons_zero, List.set_cons_succ]
        refine wpAnyH_take (i := 11) (oi := { dst := some 60, op := Op.fieldAddr 28 (Operand.tmp 3) 2, type := 0, pos := "insist.go:43", after := #[{ on := 8, ground := Ground.guard }], guard := some (8, true) }) (v := ?_) rfl (by kernel_rfl) (by kernel_rfl) (by kernel_rfl) (fun _ _ _ h => h) (Or.inl ⟨by rfl, ?_⟩) hHeld ?_
        rotate_left
        · intro w hSw; (try dsimp only at hSw); go_simp; try with_reducible rfl
        try simp only [Act.put, List.setIfInBounds_toArray, List.set_cons_zero, List.set_cons_succ]
        refine wpAnyH_take (i := 12) (oi := { dst := some 61, op := Op.load 26 (Operand.tmp 60), type := 26, pos := "insist.go:43", after := #[{ on := 11, ground := Ground.data }, { on := 8, ground := Ground.guard }], guard := some (8, true) }) (v := ?_) rfl (by kernel_rfl) (by kernel_rfl) (by kernel_rfl) (fun _ _ _ h => h) (Or.inl ⟨by rfl, ?_⟩) hHeld ?_
        rotate_left
        · intro w hSw; (try dsimp only at hSw); go_simp; try with_reducible rfl
        try simp only [Act.put, List.setIfInBounds_toArray, List.set_cons_zero, List.set_cons_succ]
        refine wpAnyH_take (i := 13) (oi := { dst := some 62, op := Op.move (Operand.tmp 6), type := 3, pos := "insist.go:43", after := #[{ on := 8, ground := Ground.guard }], guard := some (8, true) }) (v := ?_) rfl (by kernel_rfl) (by kernel_rfl) (by kernel_rfl) (fun _ _ _ h => h) (Or.inl ⟨by rfl, ?_⟩) hHeld ?_
        rotate_left
        · intro w hSw; (try dsimp only at hSw); go_simp; try with_reducible rfl
        try simp only [Act.put, List.setIfInBounds_toArray, List.set_cons_zero, List.set_cons_succ]
        refine wpAnyH_take (i := 14) (oi := { dst := some 63, op := Op.slice 26 (Operand.tmp 61) none (some (Operand.tmp 62)) none, type := 26, pos := "insist.go:43", after := #[{ on := 12, ground := Ground.data }, { on := 13, ground := Ground.data }, { on := 8, ground := Ground.guard }], guard := some (8, true) }) (v := ?_) rfl (by kernel_rfl) (by kernel_rfl) (by kernel_rfl) (fun _ _ _ h => h) (Or.inl ⟨by rfl, ?_⟩) hHeld ?_
        rotate_left
        · intro w hSw; (try dsimp only at hSw); go_simp; try with_reducible rfl
        try simp only [Act.put, List.setIfInBounds_toArray, List.set_cons_zero, List.set_cons_succ]
        refine wpAnyH_ready (rs := [15]) (by kernel_rfl) (by simp) ?_
        refine AllReadyH.cons rfl (fun K hK => ?_) (AllReadyH.nil)
        go_simp
        go_wp2_with (go_at_call 54; refine (HF.out _ HB2.out).mono ?_; rintro e w3 ⟨rfl, hw3⟩; obtain rfl := hw3.symm)
        refine hK.out _ _ (HS.out _ HB2.out) (fun hHeld => ?_)
        clear hK K
        try simp only [Act.put, List.setIfInBounds_toArray, List.set_cons_zero, List.set_cons_succ]
        refine wpAnyH_take (i := 16) (oi := { dst := some 65, op := Op.pick (Operand.tmp 57) (Operand.tmp 64) (Operand.const (Value.bool false)), type := 4, pos := "insist.go:43", after := #[{ on := 8, ground := Ground.data }, { on := 15, ground := Ground.data }], guard := none }) (v := ?_) rfl (by kernel_rfl) (by kernel_rfl) (by kernel_rfl) (fun _ _ _ h => h) (Or.inl ⟨by rfl, ?_⟩) hHeld ?_
        rotate_left
        · intro w hSw; (try dsimp only at hSw); go_simp; try with_reducible rfl
        try simp only [Act.put, List.setIfInBounds_toArray, List.set_cons_zero, List.set_cons_succ]
        refine wpAnyH_ready (rs := [18]) (by kernel_rfl) (by simp) ?_
        refine AllReadyH.cons rfl (fun K hK => ?_) (AllReadyH.nil)
        go_simp
        go_wp2_with (go_at_call 31; refine (insist_no y _).mono ?_; rintro e w4 ⟨rfl, hw4⟩; obtain rfl := hw4.symm)
        exact ⟨rfl, HE.out.symm, HR.out.below.trans ((HY.out.trans (HB2.out.mono HY.out.size)).mono HR.out.below.size)⟩
      rw [decide_eq_true p4] at HF0
      have HG2 : Hid (partsOk n l (j + 1)) := hid (HG.out (HP.out.2 ⟨p1, p2, p3, p4⟩))
      clear p1 p2 p3 p4 HP HNo HG
      go_wp2_with first | (go_at_call 52; refine HC.mono ?_; rintro e W1 ⟨rfl, hb2⟩; have HY : Hid (Below wr.heap.size wr W1) := hid (HX.out.trans (hb2.mono HX.out.size)); have HS : Hid (∀ W, Below W1.heap.size W1 W → (W.cell? ⟨wr.heap.size, 0, none⟩ = some (.int .i64 f) ∧ W.cell? ⟨wr.heap.size, 1, none⟩ = some (.int .i64 id)) ∧ W.cell? ⟨w.heap.size, 2, none⟩ = some (.slice (some ⟨b, off, none⟩) m c)) := hid (fun W hW => HXb.out W (hb2.trans (hW.mono hb2.size))); clear hb2) | (go_at_call 51; refine (isNumber_any _ _).mono ?_; rintro e w1 ⟨rfl, hw1⟩; obtain rfl := hw1.symm) | (go_at_call 31; (with_reducible_and_instances (refine (insist_ok y _).mono ?_)); rintro e w1 ⟨rfl, hw1⟩; obtain rfl := hw1.symm) | (go_at_call 31; (with_reducible_and_instances (refine (insist_no y _).mono ?_)); rintro e w1 ⟨rfl, hw1⟩; obtain rfl := hw1.symm)
      have HN := hid (fun W (hW : Below W1.heap.size W1 W) => HN0.out W (HY.out.trans (hW.mono HY.out.size)))
      try have HF := hid (fun W (hW : Below W1.heap.size W1 W) => HF0.out W (HY.out.trans (hW.mono HY.out.size)))
      clear HN0 HXb HC
      refine wp_region_held_drew (S := fun W => (W.cell? ⟨wr.heap.size, 0, none⟩ = some (.int .i64 f) ∧ W.cell? ⟨wr.heap.size, 1, none⟩ = some (.int .i64 id)) ∧ W.cell? ⟨w.heap.size, 2, none⟩ = some (.slice (some ⟨b, off, none⟩) m c)) (by kernel_rfl) (HS.out _ (Below.refl _ _).drew) (fun hHeld => ?_)
      refine wpAnyH_take (i := 0) (oi := { dst := some 49, op := Op.fieldAddr 61 (Operand.tmp 7) 1, type := 0, pos := "insist.go:43", after := #[], guard := none }) (v := ?_) rfl (by kernel_rfl) (by kernel_rfl) (by kernel_rfl) (fun _ _ _ h => h) (Or.inl ⟨by rfl, ?_⟩) hHeld ?_
      rotate_left
      · intro w hSw; (try dsimp only at hSw); go_simp; try with_reducible rfl
      try simp only [Act.put, List.setIfInBounds_toArray, List.set_cons_zero, List.set_cons_succ]
      refine wpAnyH_take (i := 1) (oi := { dst := some 50, op := Op.fieldAddr 54 (Operand.tmp 49) 0, type := 0, pos := "insist.go:43", after := #[{ on := 0, ground := Ground.data }], guard := none }) (v := ?_) rfl (by kernel_rfl) (by kernel_rfl) (by kernel_rfl) (fun _ _ _ h => h) (Or.inl ⟨by rfl, ?_⟩) hHeld ?_
      rotate_left
      · intro w hSw; (try dsimp only at hSw); go_simp; try with_reducible rfl
      try simp only [Act.put, List.setIfInBounds_toArray, List.set_cons_zero, List.set_cons_succ]
      refine wpAnyH_take (i := 2) (oi := { dst := some 51, op := Op.load 3 (Operand.tmp 50), type := 3, pos := "insist.go:43", after := #[{ on := 1, ground := Ground.data }], guard := none }) (v := ?_) rfl (by kernel_rfl) (by kernel_rfl) (by kernel_rfl) (fun _ _ _ h => h) (Or.inl ⟨by rfl, ?_⟩) hHeld ?_
      rotate_left
      · intro w hSw; (try dsimp only at hSw); go_simp; try with_reducible rfl
      try simp only [Act.put, List.setIfInBounds_toArray, List.set_cons_zero, List.set_cons_succ]
      refine wpAnyH_take (i := 3) (oi := { dst := some 52, op := Op.fieldAddr 28 (Operand.tmp 3) 2, type := 0, pos := "insist.go:43", after := #[], guard := none }) (v := ?_) rfl (by kernel_rfl) (by kernel_rfl) (by kernel_rfl) (fun _ _ _ h => h) (Or.inl ⟨by rfl, ?_⟩) hHeld ?_
      rotate_left
      · intro w hSw; (try dsimp only at hSw); go_simp; try with_reducible rfl
      try simp only [Act.put, List.setIfInBounds_toArray, List.set_cons_zero, List.set_cons_succ]
      refine wpAnyH_take (i := 4) (oi := { dst := some 53, op := Op.load 26 (Operand.tmp 52), type := 26, pos := "insist.go:43", after := #[{ on := 3, ground := Ground.data }], guard := none }) (v := ?_) rfl (by kernel_rfl) (by kernel_rfl) (by kernel_rfl) (fun _ _ _ h => h) (Or.inl ⟨by rfl, ?_⟩) hHeld ?_
      rotate_left
      · intro w hSw; (try dsimp only at hSw); go_simp; try with_reducible rfl
      try simp only [Act.put, List.setIfInBounds_toArray, List.set_cons_zero, List.set_cons_succ]
      refine wpAnyH_take (i := 5) (oi := { dst := some 54, op := Op.move (Operand.tmp 6), type := 3, pos := "insist.go:43", after := #[], guard := none }) (v := ?_) rfl (by kernel_rfl) (by kernel_rfl) (by kernel_rfl) (fun _ _ _ h => h) (Or.inl ⟨by rfl, ?_⟩) hHeld ?_
      rotate_left
      · intro w hSw; (try dsimp only at hSw); go_simp; try with_reducible rfl
      try simp only [Act.put, List.setIfInBounds_toArray, List.set_cons_zero, List.set_cons_succ]
      refine wpAnyH_take (i := 6) (oi := { dst := some 55, op := Op.slice 26 (Operand.tmp 53) none (some (Operand.tmp 54)) none, type := 26, pos := "insist.go:43", after := #[{ on := 4, ground := Ground.data }, { on := 5, ground := Ground.data }], guard := none }) (v := ?_) rfl (by kernel_rfl) (by kernel_rfl) (by kernel_rfl) (fun _ _ _ h => h) (Or.inl ⟨by rfl, ?_⟩) hHeld ?_
      rotate_left
      · intro w hSw; (try dsimp only at hSw); go_simp; try with_reducible rfl
      try simp only [Act.put, List.setIfInBounds_toArray, List.set_cons_zero, List.set_cons_succ]
      refine wpAnyH_take (i := 17) (oi := { dst := some 66, op := Op.move (Operand.tmp 2), type := 31, pos := "insist.go:43", after := #[], guard := none }) (v := ?_) rfl (by kernel_rfl) (by kernel_rfl) (by kernel_rfl) (fun _ _ _ h => h) (Or.inl ⟨by rfl, ?_⟩) hHeld ?_
      rotate_left
      · intro w hSw; (try dsimp only at hSw); go_simp; try with_reducible rfl
      try simp only [Act.put, List.setIfInBounds_toArray, List.set_cons_zero, List.set_cons_succ]
      refine wpAnyH_ready (rs := [7]) (by kernel_rfl) (by simp) ?_
      refine AllReadyH.cons rfl (fun K hK => ?_) (AllReadyH.nil)
      go_simp
      go_wp2_with (go_at_call 53; refine (HN.out _ (Below.refl _ _).drew).mono ?_; rintro e w2 ⟨rfl, hb2⟩; have HB2 : Hid (Below W1.heap.size W1 w2) := hid (((Below.refl _ W1).drew).trans hb2); clear hb2)
      refine hK.out _ _ (HS.out _ HB2.out) (fun hHeld => ?_)
      clear hK K
      try simp only [Act.put, List.setIfInBounds_toArray, List.set_cons_zero, List.set_cons_succ]
      refine wpAnyH_take (i := 8) (oi := { dst := some 57, op := Op.move (Operand.tmp 56), type := 4, pos := "insist.go:43", after := #[{ on := 7, ground := Ground.data }, { on := 7, ground := Ground.chain }], guard := none }) (v := ?_) rfl (by kernel_rfl) (by kernel_rfl) (by kernel_rfl) (fun _ _ _ h => h) (Or.inl ⟨by rfl, ?_⟩) hHeld ?_
      rotate_left
      · intro w hSw; (try dsimp only at hSw); go_simp; try with_reducible rfl
      try simp only [Act.put, List.setIfInBounds_toArray, List.set_cons_zero, List.set_cons_succ]
      refine wpAnyH_take (i := 9) (oi := { dst := some 58, op := Op.fieldAddr 61 (Operand.tmp 7) 0, type := 0, pos := "insist.go:43", after := #[{ on := 8, ground := Ground.guard }], guard := some (8, true) }) (v := ?_) rfl (by kernel_rfl) (by kernel_rfl) (by kernel_rfl) (fun _ _ _ h => h) (Or.inl ⟨by rfl, ?_⟩) hHeld ?_
      rotate_left
      · intro w hSw; (try dsimp only at hSw); go_simp; try with_reducible rfl
      try simp only [Act.put, List.setIfInBounds_toArray, List.set_cons_zero, List.set_cons_succ]
      refine wpAnyH_take (i := 10) (oi := { dst := some 59, op := Op.load 3 (Operand.tmp 58), type := 3, pos := "insist.go:43", after := #[{ on := 9, ground := Ground.data }, { on := 8, ground := Ground.guard }], guard := some (8, true) }) (v := ?_) rfl (by kernel_rfl) (by kernel_rfl) (by kernel_rfl) (fun _ _ _ h => h) (Or.inl ⟨by rfl, ?_⟩) hHeld ?_
      rotate_left
      · intro w hSw; (try dsimp only at hSw); go_simp; try with_reducible rfl
      try simp only [Act.put, List.setIfInBounds_toArray, List.set_cons_zero, List.set_cons_succ]
      refine wpAnyH_take (i := 11) (oi := { dst := some 60, op := Op.fieldAddr 28 (Operand.tmp 3) 2, type := 0, pos := "insist.go:43", after := #[{ on := 8, ground := Ground.guard }], guard := some (8, true) }) (v := ?_) rfl (by kernel_rfl) (by kernel_rfl) (by kernel_rfl) (fun _ _ _ h => h) (Or.inl ⟨by rfl, ?_⟩) hHeld ?_
      rotate_left
      · intro w hSw; (try dsimp only at hSw); go_simp; try with_reducible rfl
      try simp only [Act.put, List.setIfInBounds_toArray, List.set_cons_zero, List.set_cons_succ]
      refine wpAnyH_take (i := 12) (oi := { dst := some 61, op := Op.load 26 (Operand.tmp 60), type := 26, pos := "insist.go:43", after := #[{ on := 11, ground := Ground.data }, { on := 8, ground := Ground.guard }], guard := some (8, true) }) (v := ?_) rfl (by kernel_rfl) (by kernel_rfl) (by kernel_rfl) (fun _ _ _ h => h) (Or.inl ⟨by rfl, ?_⟩) hHeld ?_
      rotate_left
      · intro w hSw; (try dsimp only at hSw); go_simp; try with_reducible rfl
      try simp only [Act.put, List.setIfInBounds_toArray, List.set_cons_zero, List.set_cons_succ]
      refine wpAnyH_take (i := 13) (oi := { dst := some 62, op := Op.move (Operand.tmp 6), type := 3, pos := "insist.go:43", after := #[{ on := 8, ground := Ground.guard }], guard := some (8, true) }) (v := ?_) rfl (by kernel_rfl) (by kernel_rfl) (by kernel_rfl) (fun _ _ _ h => h) (Or.inl ⟨by rfl, ?_⟩) hHeld ?_
      rotate_left
      · intro w hSw; (try dsimp only at hSw); go_simp; try with_reducible rfl
      try simp only [Act.put, List.setIfInBounds_toArray, List.set_cons_zero, List.set_cons_succ]
      refine wpAnyH_take (i := 14) (oi := { dst := some 63, op := Op.slice 26 (Operand.tmp 61) none (some (Operand.tmp 62)) none, type := 26, pos := "insist.go:43", after := #[{ on := 12, ground := Ground.data }, { on := 13, ground := Ground.data }, { on := 8, ground := Ground.guard }], guard := some (8, true) }) (v := ?_) rfl (by kernel_rfl) (by kernel_rfl) (by kernel_rfl) (fun _ _ _ h => h) (Or.inl ⟨by rfl, ?_⟩) hHeld ?_
      rotate_left
      · intro w hSw; (try dsimp only at hSw); go_simp; try with_reducible rfl
      try simp only [Act.put, List.setIfInBounds_toArray, List.set_cons_zero, List.set_cons_succ]
      refine wpAnyH_ready (rs := [15]) (by kernel_rfl) (by simp) ?_
      refine AllReadyH.cons rfl (fun K hK => ?_) (AllReadyH.nil)
      go_simp
      go_wp2_with (go_at_call 54; refine (HF.out _ HB2.out).mono ?_; rintro e w3 ⟨rfl, hw3⟩; obtain rfl := hw3.symm)
      refine hK.out _ _ (HS.out _ HB2.out) (fun hHeld => ?_)
      clear hK K
      try simp only [Act.put, List.setIfInBounds_toArray, List.set_cons_zero, List.set_cons_succ]
      refine wpAnyH_take (i := 16) (oi := { dst := some 65, op := Op.pick (Operand.tmp 57) (Operand.tmp 64) (Operand.const (Value.bool false)), type := 4, pos := "insist.go:43", after := #[{ on := 8, ground := Ground.data }, { on := 15, ground := Ground.data }], guard := none }) (v := ?_) rfl (by kernel_rfl) (by kernel_rfl) (by kernel_rfl) (fun _ _ _ h => h) (Or.inl ⟨by rfl, ?_⟩) hHeld ?_
      rotate_left
      · intro w hSw; (try dsimp only at hSw); go_simp; try with_reducible rfl
      try simp only [Act.put, List.setIfInBounds_toArray, List.set_cons_zero, List.set_cons_succ]
      refine wpAnyH_ready (rs := [18]) (by kernel_rfl) (by simp) ?_
      refine AllReadyH.cons rfl (fun K hK => ?_) (AllReadyH.nil)
      go_simp
      go_wp2_with (go_at_call 31; refine (insist_ok y _).mono ?_; rintro e w4 ⟨rfl, hw4⟩; obtain rfl := hw4.symm)
      refine hK.out _ _ (HS.out _ HB2.out) (fun hHeld => ?_)
      clear hK K
      try simp only [Act.put, List.setIfInBounds_toArray, List.set_cons_zero, List.set_cons_succ]
      refine wpAnyH_done (by kernel_rfl) ?_ _
      go_wp2_with fail
      refine ⟨⟨j + 1, by omega, by go_num, HG2, hid (HR.out.later (HY.out.trans (HB2.out.mono HY.out.size)))⟩, by simp [intOf]; omega⟩
    · obtain rfl : j = m := by omega
      have hlti : decide ((j : Int) < (j : Int)) = false := by simp
      have k0 : wr.cell? ⟨w.heap.size, 0, none⟩ = some (.int .i64 o) := HR.out.box.cell 0
      have k1 : wr.cell? ⟨w.heap.size, 1, none⟩ = some (.int .i64 t) := HR.out.box.cell 1
      have k2 : wr.cell? ⟨w.heap.size, 2, none⟩ = some (.slice ad j c) := HR.out.box.cell 2
      have hlr := lastF_rng (n := n) (l := l) (by rw [H.out.len]; exact HT.out)
      have HC := mayTrim_any (H.out.later HR.out.below) o t ⟨by omega, hlr.2⟩
      by_cases p1 : trimOk t l
      · have HE : Hid (insC (decide (mayC o t l n)) y = .returned (.tuple #[])) := hid (insC_ok (HM.out HT.out p1))
        rw [decide_eq_true p1] at HC
        clear p1 HM HMt HMp hlr
        go_wp2_with first | (go_at_call 55; refine HC.mono ?_; rintro e w2 ⟨rfl, hb2⟩; have HB2 := hid hb2; clear hb2) | (go_at_call 51; refine (isNumber_any _ _).mono ?_; rintro e w1 ⟨rfl, hw1⟩; obtain rfl := hw1.symm) | (go_at_call 31; (with_reducible_and_instances (refine (insist_ok y _).mono ?_)); rintro e w1 ⟨rfl, hw1⟩; obtain rfl := hw1.symm) | (go_at_call 31; (with_reducible_and_instances (refine (insist_no y _).mono ?_)); rintro e w1 ⟨rfl, hw1⟩; obtain rfl := hw1.symm)
        go_end0
        exact ⟨HE.out.symm, HR.out.below.trans (HB2.out.mono HR.out.below.size)⟩
      · have HE : Hid (insC (decide (mayC o t l n)) y = .panicked (refusal y)) := hid (insC_no (fun hh => p1 (HMt.out hh)))
        rw [decide_eq_false p1] at HC
        clear p1 HM HMt HMp hlr
        go_wp2_with first | (go_at_call 55; refine HC.mono ?_; rintro e w2 ⟨rfl, hb2⟩; have HB2 := hid hb2; clear hb2) | (go_at_call 51; refine (isNumber_any _ _).mono ?_; rintro e w1 ⟨rfl, hw1⟩; obtain rfl := hw1.symm) | (go_at_call 31; (with_reducible_and_instances (refine (insist_ok y _).mono ?_)); rintro e w1 ⟨rfl, hw1⟩; obtain rfl := hw1.symm) | (go_at_call 31; (with_reducible_and_instances (refine (insist_no y _).mono ?_)); rintro e w1 ⟨rfl, hw1⟩; obtain rfl := hw1.symm)
        exact ⟨rfl, HE.out.symm, HR.out.below.trans (HB2.out.mono HR.out.below.size)⟩
end Go.Proofs.Ythadagpfmacemaa
