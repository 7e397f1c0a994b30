/- Cut of package chain (by gencut.py). -/
import Derived.Test.YthadagpfmacemaaCChk
import Derived.Test.YthadagpfmacemaaCHold
import Derived.Test.YthadagpfmacemaaLOwn
namespace Go.Proofs.Ythadagpfmacemaa
open Go.RowKit
variable {w W : World} {l : List Pt} {A : Nat → Sl} {ad : Option Addr} {m c : Nat}

/-- How many parts go. -/
def cutK (l : List Pt) (a : Int) : Nat := (holdN l a).getD 0
/-- Cut's error. -/
def cutE (o t : Int) (l : List Pt) (n a : Int) : Int := if mayC o t l n then (if t ≤ a ∧ a ≤ lastF l then 0 else 1) else 1
/-- The chain that Cut answers. -/
def cutC (o t : Int) (l : List Pt) (n a : Int) : Ch := if cutE o t l n a = 0 then ⟨o, a, l.drop (cutK l a)⟩ else ⟨0, 0, []⟩
theorem CArg.behind (h : CArg w l A ad m c) (k : Nat) (hk : k < m) : ∃ b off, ad = some ⟨b, off, Option.none⟩ ∧ CArg w (l.drop k) (fun i => A (k + i)) (some ⟨b, off + k * 3, Option.none⟩) (m - k) (c - k) := by
  obtain ⟨b, off, e, hs, hc⟩ := h.cells (by omega)
  have hl := h.len
  have hcap := h.cap
  have hroom := h.room
  refine ⟨b, off, e, by rw [List.length_drop]; omega, (fun e => by cases e), by omega, by omega, Or.inr ⟨b, off + k * 3, rfl, hs, fun i hi => ?_⟩, fun i hi => ?_, fun i hi => ?_⟩
  · obtain ⟨h0, h1, h2⟩ := hc (k + i) (by omega)
    rw [ptAt_drop]
    rw [show off + k * 3 + i * 3 = off + (k + i) * 3 by omega]
    exact ⟨h0, h1, h2⟩
  · rw [ptAt_drop]; exact h.ints (k + i) (by omega)
  · rw [ptAt_drop]; exact h.rng (k + i) (by omega)
set_option maxRecDepth 100000 in
set_option maxHeartbeats 4000000 in
theorem cut1_any {gc gn ga : Nat} {o t n a : Int} (bc : Blk W gc #[.int .i64 o, .int .i64 t, .slice ad m c] 28) (bn : Blk W gn #[.int .i64 n] 3) (ba : Blk W ga #[.int .i64 a] 3) (h : CArg W l A ad m c) :
    Calls Try.prog 49 #[.pointer (some ⟨gc, 0, none⟩), .pointer (some ⟨gn, 0, none⟩), .pointer (some ⟨ga, 0, none⟩)] W fun x W' => ((∃ (o' t' : Int) (ad' : Option Addr) (m' c' : Nat), x = .returned (.agg #[.int .i64 o', .int .i64 t', .slice ad' m' c']) ∧ (cutE o t l n a = 0 ∧ o' = o ∧ t' = a ∧ CAns W' W.heap.size (l.drop (cutK l a)) ad' m' c')) ∨ (∃ y : Int, x = .panicked (refusal y) ∧ (y = cutE o t l n a ∧ y ≠ 0))) ∧ Below W.heap.size W W' := by
  have HB0 : Hid (Below W.heap.size W (W.alloc (.cells #[.int .i64 0, .int .i64 0, .slice none 0 0] 28))) := hid ((Below.refl _ _).alloc (Nat.le_refl _) _)
  have HC : Hid (∀ X, Below W.heap.size W X → X.cell? ⟨gc, 0, none⟩ = some (.int .i64 o) ∧ X.cell? ⟨gc, 1, none⟩ = some (.int .i64 t) ∧ X.cell? ⟨gc, 2, none⟩ = some (.slice ad m c) ∧ X.cell? ⟨gn, 0, none⟩ = some (.int .i64 n) ∧ X.cell? ⟨ga, 0, none⟩ = some (.int .i64 a)) := hid (fun X hX => ⟨(bc.later hX).cell 0, (bc.later hX).cell 1, (bc.later hX).cell 2, (bn.later hX).cell 0, (ba.later hX).cell 0⟩)
  have HZ : Hid (∀ X, Below (W.alloc (.cells #[.int .i64 0, .int .i64 0, .slice none 0 0] 28)).heap.size (W.alloc (.cells #[.int .i64 0, .int .i64 0, .slice none 0 0] 28)) X → Blk X W.heap.size #[.int .i64 0, .int .i64 0, .slice none 0 0] 28) := hid (fun X hX => (show Blk _ W.heap.size _ _ from heap_alloc_new W _).later hX)
  have HSET : Hid (∀ (X : World) (u : Value), Below (W.alloc (.cells #[.int .i64 0, .int .i64 0, .slice none 0 0] 28)).heap.size (W.alloc (.cells #[.int .i64 0, .int .i64 0, .slice none 0 0] 28)) X → ((((X.setCell ⟨W.heap.size, 0, none⟩ (.int .i64 o)).setCell ⟨W.heap.size, 1, none⟩ (.int .i64 a)).setCell ⟨W.heap.size, 2, none⟩ u).cell? ⟨gc, 0, none⟩ = some (.int .i64 o) ∧ (((X.setCell ⟨W.heap.size, 0, none⟩ (.int .i64 o)).setCell ⟨W.heap.size, 1, none⟩ (.int .i64 a)).setCell ⟨W.heap.size, 2, none⟩ u).cell? ⟨ga, 0, none⟩ = some (.int .i64 a)) ∧ Below W.heap.size W (((X.setCell ⟨W.heap.size, 0, none⟩ (.int .i64 o)).setCell ⟨W.heap.size, 1, none⟩ (.int .i64 a)).setCell ⟨W.heap.size, 2, none⟩ u)) := hid (fun X u hX => by
    have hb : Below W.heap.size W (((X.setCell ⟨W.heap.size, 0, none⟩ (.int .i64 o)).setCell ⟨W.heap.size, 1, none⟩ (.int .i64 a)).setCell ⟨W.heap.size, 2, none⟩ u) := (((HB0.out.trans (hX.mono HB0.out.size)).setCell (p := ⟨W.heap.size, 0, none⟩) (Nat.le_refl _) _).setCell (p := ⟨W.heap.size, 1, none⟩) (Nat.le_refl _) _).setCell (p := ⟨W.heap.size, 2, none⟩) (Nat.le_refl _) _
    obtain ⟨k0, k1, k2, k3, k4⟩ := HC.out _ hb
    exact ⟨⟨k0, k4⟩, hb⟩)
  have HA : Hid (∀ X, Below W.heap.size W X → CArg X l A ad m c) := hid (fun X hX => h.later hX)
  have HLF : Hid (∀ X, Below W.heap.size W X → Calls Try.prog 44 #[.slice ad m c] X fun x X' => x = .returned (.int .i64 (lastF l)) ∧ X' = X) := hid (fun X hX => lastFirst_any (h.later hX))
  have hl := h.len
  have hm : m ≤ 9223372036854775807 := by have := h.cap; have := h.room; unfold maxLen at this; omega
  have HI1 := hid (insistChain_any (h.later HB0.out) o t n 1)
  obtain ⟨k0, k1, k2, k3, k4⟩ := HC.out (W.alloc (.cells #[.int .i64 0, .int .i64 0, .slice none 0 0] 28)) HB0.out
  have HNo : Hid (∀ (W' : World), cutE o t l n a = 1 → Below W.heap.size W W' → ((∃ (o' t' : Int) (ad' : Option Addr) (m' c' : Nat), Ending.panicked (refusal 1) = .returned (.agg #[.int .i64 o', .int .i64 t', .slice ad' m' c']) ∧ (cutE o t l n a = 0 ∧ o' = o ∧ t' = a ∧ CAns W' W.heap.size (l.drop (cutK l a)) ad' m' c')) ∨ (∃ y : Int, Ending.panicked (refusal 1) = .panicked (refusal y) ∧ (y = cutE o t l n a ∧ y ≠ 0))) ∧ Below W.heap.size W W') := hid (fun W' h1 h2 => ⟨Or.inr ⟨1, rfl, h1.symm, by decide⟩, h2⟩)
  clear h bc bn ba
  by_cases p1 : mayC o t l n
  case neg =>
    have HE : Hid (cutE o t l n a = 1) := hid (by unfold cutE; rw [if_neg p1])
    rw [insC_no p1] at HI1
    clear p1
    go_enter Try.func49, Try.ntmps49
    go_wp2_with (go_at_call 30; refine HI1.out.mono ?_; rintro x w1 ⟨rfl, hb1⟩; have HQ1 := hid hb1; have HB1 : Hid (Below W.heap.size W w1) := hid (HB0.out.trans (hb1.mono HB0.out.size)); clear hb1 k0 k1 k2 k3 k4; obtain ⟨k0, k1, k2, k3, k4⟩ := HC.out w1 HB1.out; have HL1 := hid (HLF.out w1.drew HB1.out.drew))
    exact ⟨rfl, HNo.out _ HE.out HB1.out⟩
  rw [insC_ok p1] at HI1
  have hlr := lastF_rng p1.2.2.1
  have h64 : m ≤ 64 := by have := p1.2.1.2; omega
  have HNI : Hid (∀ i, i < m → (A i).m * 8 ≤ 140737488355328) := hid (fun i hi => by have h1 := checkL_len9 (p1.2.2.1 i (by omega)).2.1; have h2 := (HA.out W (Below.refl _ _)).ints i hi; have h3 := h2.1.len; omega)
  have HE3 : Hid (¬ (t ≤ a ∧ a ≤ lastF l) → cutE o t l n a = 1) := hid (fun hh => by unfold cutE; rw [if_pos p1, if_neg hh])
  have HE4 : Hid (t ≤ a ∧ a ≤ lastF l → cutE o t l n a = 0) := hid (fun hh => by unfold cutE; rw [if_pos p1, if_pos hh])
  clear p1
  obtain ⟨la, hla⟩ : ∃ la, lastF l = la := ⟨_, rfl⟩
  rw [hla] at HLF HE3 HE4 hlr
  by_cases p3 : t ≤ a
  case neg =>
    have HE := hid (HE3.out (fun hh => p3 hh.1))
    have d3 : decide (t ≤ a) = false := by simpa using p3
    clear p3 HE3 HE4
    go_enter Try.func49, Try.ntmps49
    go_wp2_with (go_at_call 30; refine HI1.out.mono ?_; rintro x w1 ⟨rfl, hb1⟩; have HQ1 := hid hb1; have HB1 : Hid (Below W.heap.size W w1) := hid (HB0.out.trans (hb1.mono HB0.out.size)); clear hb1 k0 k1 k2 k3 k4; obtain ⟨k0, k1, k2, k3, k4⟩ := HC.out w1 HB1.out; have HL1 := hid (HLF.out w1.drew HB1.out.drew))
    refine wp_region_held_drew (S := fun W => W.cell? ⟨ga, 0, none⟩ = some (.int .i64 a) ∧ W.cell? ⟨gc, 1, none⟩ = some (.int .i64 t) ∧ W.cell? ⟨gc, 2, none⟩ = some (.slice ad m c)) (by kernel_rfl) (⟨k4, k1, k2⟩) (fun hHeld => ?_)
    refine wpAnyH_take (i := 0) (oi := { dst := some 10, op := Op.load 3 (Operand.tmp 2), type := 3, pos := "chain.go:97", after := #[], guard := none }) (v := ?_) rfl (by kernel_rfl) (by kernel_rfl) (by kernel_rfl) (fun _ _ _ h => h) (Or.inl ⟨by rfl, ?_⟩) hHeld ?_
    rotate_left
    · intro w hSw; (try dsimp only at hSw); go_simp; try with_reducible rfl
    try simp only [Act.put, List.setIfInBounds_toArray, List.set_cons_zero, List.set_cons_succ]
    refine wpAnyH_take (i := 1) (oi := { dst := some 11, op := Op.fieldAddr 28 (Operand.tmp 0) 1, type := 0, pos := "chain.go:97", after := #[], guard := none }) (v := ?_) rfl (by kernel_rfl) (by kernel_rfl) (by kernel_rfl) (fun _ _ _ h => h) (Or.inl ⟨by rfl, ?_⟩) hHeld ?_
    rotate_left
    · intro w hSw; (try dsimp only at hSw); go_simp; try with_reducible rfl
    try simp only [Act.put, List.setIfInBounds_toArray, List.set_cons_zero, List.set_cons_succ]
    refine wpAnyH_take (i := 2) (oi := { dst := some 12, op := Op.load 3 (Operand.tmp 11), type := 3, pos := "chain.go:97", after := #[{ on := 1, ground := Ground.data }], guard := none }) (v := ?_) rfl (by kernel_rfl) (by kernel_rfl) (by kernel_rfl) (fun _ _ _ h => h) (Or.inl ⟨by rfl, ?_⟩) hHeld ?_
    rotate_left
    · intro w hSw; (try dsimp only at hSw); go_simp; try with_reducible rfl
    try simp only [Act.put, List.setIfInBounds_toArray, List.set_cons_zero, List.set_cons_succ]
    refine wpAnyH_take (i := 3) (oi := { dst := some 13, op := Op.binOp BinOp.geq 3 (Operand.tmp 10) (Operand.tmp 12) 3, type := 4, pos := "chain.go:97", after := #[{ on := 0, ground := Ground.data }, { on := 2, ground := Ground.data }], guard := none }) (v := ?_) rfl (by kernel_rfl) (by kernel_rfl) (by kernel_rfl) (fun _ _ _ h => h) (Or.inl ⟨by rfl, ?_⟩) hHeld ?_
    rotate_left
    · intro w hSw; (try dsimp only at hSw); go_simp; try with_reducible rfl
    try simp only [Act.put, List.setIfInBounds_toArray, List.set_cons_zero, List.set_cons_succ]
    refine wpAnyH_take (i := 4) (oi := { dst := some 14, op := Op.move (Operand.tmp 13), type := 4, pos := "chain.go:97", after := #[{ on := 3, ground := Ground.data }], guard := none }) (v := ?_) rfl (by kernel_rfl) (by kernel_rfl) (by kernel_rfl) (fun _ _ _ h => h) (Or.inl ⟨by rfl, ?_⟩) hHeld ?_
    rotate_left
    · intro w hSw; (try dsimp only at hSw); go_simp; try with_reducible rfl
    try simp only [Act.put, List.setIfInBounds_toArray, List.set_cons_zero, List.set_cons_succ]
    refine wpAnyH_take (i := 5) (oi := { dst := some 15, op := Op.load 3 (Operand.tmp 2), type := 3, pos := "chain.go:97", after := #[{ on := 4, ground := Ground.guard }], guard := some (4, true) }) (v := undef) rfl (by kernel_rfl) (by kernel_rfl) (by kernel_rfl) (fun _ _ _ h => h) (Or.inr ⟨by kernel_rfl, rfl⟩) hHeld ?_
    try simp only [Act.put, List.setIfInBounds_toArray, List.set_cons_zero, List.set_cons_succ]
    refine wpAnyH_take (i := 6) (oi := { dst := some 16, op := Op.fieldAddr 28 (Operand.tmp 0) 2, type := 0, pos := "chain.go:97", after := #[{ on := 4, ground := Ground.guard }], guard := some (4, true) }) (v := undef) rfl (by kernel_rfl) (by kernel_rfl) (by kernel_rfl) (fun _ _ _ h => h) (Or.inr ⟨by kernel_rfl, rfl⟩) hHeld ?_
    try simp only [Act.put, List.setIfInBounds_toArray, List.set_cons_zero, List.set_cons_succ]
    refine wpAnyH_take (i := 7) (oi := { dst := some 17, op := Op.load 26 (Operand.tmp 16), type := 26, pos := "chain.go:97", after := #[{ on := 6, ground := Ground.data }, { on := 4, ground := Ground.guard }], guard := some (4, true) }) (v := undef) rfl (by kernel_rfl) (by kernel_rfl) (by kernel_rfl) (fun _ _ _ h => h) (Or.inr ⟨by kernel_rfl, rfl⟩) hHeld ?_
    try simp only [Act.put, List.setIfInBounds_toArray, List.set_cons_zero, List.set_cons_succ]
    refine wpAnyH_take (i := 8) (oi := { dst := some 18, op := Op.call { callee := Callee.value (Operand.func 44), args := #[Operand.tmp 17], argTypes := #[26] }, type := 3, pos := "chain.go:97", after := #[{ on := 7, ground := Ground.data }, { on := 4, ground := Ground.chain }, { on := 4, ground := Ground.guard }], guard := some (4, true) }) (v := undef) rfl (by kernel_rfl) (by kernel_rfl) (by kernel_rfl) (fun _ _ _ h => h) (Or.inr ⟨by kernel_rfl, rfl⟩) hHeld ?_
    try simp only [Act.put, List.setIfInBounds_toArray, List.set_cons_zero, List.set_cons_succ]
    refine wpAnyH_take (i := 9) (oi := { dst := some 19, op := Op.binOp BinOp.leq 3 (Operand.tmp 15) (Operand.tmp 18) 3, type := 4, pos := "chain.go:97", after := #[{ on := 5, ground := Ground.data }, { on := 8, ground := Ground.data }, { on := 4, ground := Ground.guard }], guard := some (4, true) }) (v := undef) rfl (by kernel_rfl) (by kernel_rfl) (by kernel_rfl) (fun _ _ _ h => h) (Or.inr ⟨by kernel_rfl, rfl⟩) hHeld ?_
    try simp only [Act.put, List.setIfInBounds_toArray, List.set_cons_zero, List.set_cons_succ]
    refine wpAnyH_take (i := 10) (oi := { dst := some 20, op := Op.pick (Operand.tmp 14) (Operand.tmp 19) (Operand.const (Value.bool false)), type := 4, pos := "chain.go:97", after := #[{ on := 4, ground := Ground.data }, { on := 9, ground := Ground.data }], guard := none }) (v := ?_) rfl (by kernel_rfl) (by kernel_rfl) (by kernel_rfl) (fun _ _ _ h => h) (Or.inl ⟨by rfl, ?_⟩) hHeld ?_
    rotate_left
    · intro w hSw; (try dsimp only at hSw); go_simp; try with_reducible rfl
    try simp only [Act.put, List.setIfInBounds_toArray, List.set_cons_zero, List.set_cons_succ]
    refine wpAnyH_ready (rs := [11]) (by kernel_rfl) (by simp) ?_
    refine AllReadyH.cons rfl (fun K hK => ?_) (AllReadyH.nil)
    go_simp
    go_wp2_with (go_at_call 31; refine (insist_no 1 _).mono ?_; rintro x w4 ⟨rfl, hw4⟩; obtain rfl := hw4.symm)

    exact ⟨rfl, HNo.out _ HE.out HB1.out.drew⟩
  have d3 : decide (t ≤ a) = true := by simpa using p3
  by_cases p4 : a ≤ la
  case neg =>
    have HE := hid (HE3.out (fun hh => p4 hh.2))
    have d4 : decide (a ≤ la) = false := by simpa using p4
    clear p3 p4 HE3 HE4
    go_enter Try.func49, Try.ntmps49
    go_wp2_with (go_at_call 30; refine HI1.out.mono ?_; rintro x w1 ⟨rfl, hb1⟩; have HQ1 := hid hb1; have HB1 : Hid (Below W.heap.size W w1) := hid (HB0.out.trans (hb1.mono HB0.out.size)); clear hb1 k0 k1 k2 k3 k4; obtain ⟨k0, k1, k2, k3, k4⟩ := HC.out w1 HB1.out; have HL1 := hid (HLF.out w1.drew HB1.out.drew))
    refine wp_region_held_drew (S := fun W => W.cell? ⟨ga, 0, none⟩ = some (.int .i64 a) ∧ W.cell? ⟨gc, 1, none⟩ = some (.int .i64 t) ∧ W.cell? ⟨gc, 2, none⟩ = some (.slice ad m c)) (by kernel_rfl) (⟨k4, k1, k2⟩) (fun hHeld => ?_)
    refine wpAnyH_take (i := 0) (oi := { dst := some 10, op := Op.load 3 (Operand.tmp 2), type := 3, pos := "chain.go:97", after := #[], guard := none }) (v := ?_) rfl (by kernel_rfl) (by kernel_rfl) (by kernel_rfl) (fun _ _ _ h => h) (Or.inl ⟨by rfl, ?_⟩) hHeld ?_
    rotate_left
    · intro w hSw; (try dsimp only at hSw); go_simp; try with_reducible rfl
    try simp only [Act.put, List.setIfInBounds_toArray, List.set_cons_zero, List.set_cons_succ]
    refine wpAnyH_take (i := 1) (oi := { dst := some 11, op := Op.fieldAddr 28 (Operand.tmp 0) 1, type := 0, pos := "chain.go:97", after := #[], guard := none }) (v := ?_) rfl (by kernel_rfl) (by kernel_rfl) (by kernel_rfl) (fun _ _ _ h => h) (Or.inl ⟨by rfl, ?_⟩) hHeld ?_
    rotate_left
    · intro w hSw; (try dsimp only at hSw); go_simp; try with_reducible rfl
    try simp only [Act.put, List.setIfInBounds_toArray, List.set_cons_zero, List.set_cons_succ]
    refine wpAnyH_take (i := 2) (oi := { dst := some 12, op := Op.load 3 (Operand.tmp 11), type := 3, pos := "chain.go:97", after := #[{ on := 1, ground := Ground.data }], guard := none }) (v := ?_) rfl (by kernel_rfl) (by kernel_rfl) (by kernel_rfl) (fun _ _ _ h => h) (Or.inl ⟨by rfl, ?_⟩) hHeld ?_
    rotate_left
    · intro w hSw; (try dsimp only at hSw); go_simp; try with_reducible rfl
    try simp only [Act.put, List.setIfInBounds_toArray, List.set_cons_zero, List.set_cons_succ]
    refine wpAnyH_take (i := 3) (oi := { dst := some 13, op := Op.binOp BinOp.geq 3 (Operand.tmp 10) (Operand.tmp 12) 3, type := 4, pos := "chain.go:97", after := #[{ on := 0, ground := Ground.data }, { on := 2, ground := Ground.data }], guard := none }) (v := ?_) rfl (by kernel_rfl) (by kernel_rfl) (by kernel_rfl) (fun _ _ _ h => h) (Or.inl ⟨by rfl, ?_⟩) hHeld ?_
    rotate_left
    · intro w hSw; (try dsimp only at hSw); go_simp; try with_reducible rfl
    try simp only [Act.put, List.setIfInBounds_toArray, List.set_cons_zero, List.set_cons_succ]
    refine wpAnyH_take (i := 4) (oi := { dst := some 14, op := Op.move (Operand.tmp 13), type := 4, pos := "chain.go:97", after := #[{ on := 3, ground := Ground.data }], guard := none }) (v := ?_) rfl (by kernel_rfl) (by kernel_rfl) (by kernel_rfl) (fun _ _ _ h => h) (Or.inl ⟨by rfl, ?_⟩) hHeld ?_
    rotate_left
    · intro w hSw; (try dsimp only at hSw); go_simp; try with_reducible rfl
    try simp only [Act.put, List.setIfInBounds_toArray, List.set_cons_zero, List.set_cons_succ]
    refine wpAnyH_take (i := 5) (oi := { dst := some 15, op := Op.load 3 (Operand.tmp 2), type := 3, pos := "chain.go:97", after := #[{ on := 4, ground := Ground.guard }], guard := some (4, true) }) (v := ?_) rfl (by kernel_rfl) (by kernel_rfl) (by kernel_rfl) (fun _ _ _ h => h) (Or.inl ⟨by rfl, ?_⟩) hHeld ?_
    rotate_left
    · intro w hSw; (try dsimp only at hSw); go_simp; try with_reducible rfl
    try simp only [Act.put, List.setIfInBounds_toArray, List.set_cons_zero, List.set_cons_succ]
    refine wpAnyH_take (i := 6) (oi := { dst := some 16, op := Op.fieldAddr 28 (Operand.tmp 0) 2, type := 0, pos := "chain.go:97", after := #[{ on := 4, ground := Ground.guard }], guard := some (4, true) }) (v := ?_) rfl (by kernel_rfl) (by kernel_rfl) (by kernel_rfl) (fun _ _ _ h => h) (Or.inl ⟨by rfl, ?_⟩) hHeld ?_
    rotate_left
    · intro w hSw; (try dsimp only at hSw); go_simp; try with_reducible rfl
    try simp only [Act.put, List.setIfInBounds_toArray, List.set_cons_zero, List.set_cons_succ]
    refine wpAnyH_take (i := 7) (oi := { dst := some 17, op := Op.load 26 (Operand.tmp 16), type := 26, pos := "chain.go:97", after := #[{ on := 6, ground := Ground.data }, { on := 4, ground := Ground.guard }], guard := some (4, true) }) (v := ?_) rfl (by kernel_rfl) (by kernel_rfl) (by kernel_rfl) (fun _ _ _ h => h) (Or.inl ⟨by rfl, ?_⟩) hHeld ?_
    rotate_left
    · intro w hSw; (try dsimp only at hSw); go_simp; try with_reducible rfl
    try simp only [Act.put, List.setIfInBounds_toArray, List.set_cons_zero, List.set_cons_succ]
    refine wpAnyH_ready (rs := [8]) (by kernel_rfl) (by simp) ?_
    refine AllReadyH.cons rfl (fun K hK => ?_) (AllReadyH.nil)
    go_simp
    go_wp2_with (go_at_call 44; refine HL1.out.mono ?_; rintro x w3 ⟨rfl, hw3⟩; obtain rfl := hw3.symm)
    refine hK.out _ _ (⟨k4, k1, k2⟩) (fun hHeld => ?_)
    clear hK K
    try simp only [Act.put, List.setIfInBounds_toArray, List.set_cons_zero, List.set_cons_succ]
    refine wpAnyH_take (i := 9) (oi := { dst := some 19, op := Op.binOp BinOp.leq 3 (Operand.tmp 15) (Operand.tmp 18) 3, type := 4, pos := "chain.go:97", after := #[{ on := 5, ground := Ground.data }, { on := 8, ground := Ground.data }, { on := 4, ground := Ground.guard }], guard := some (4, true) }) (v := ?_) rfl (by kernel_rfl) (by kernel_rfl) (by kernel_rfl) (fun _ _ _ h => h) (Or.inl ⟨by rfl, ?_⟩) hHeld ?_
    rotate_left
    · intro w hSw; (try dsimp only at hSw); go_simp; try with_reducible rfl
    try simp only [Act.put, List.setIfInBounds_toArray, List.set_cons_zero, List.set_cons_succ]
    refine wpAnyH_take (i := 10) (oi := { dst := some 20, op := Op.pick (Operand.tmp 14) (Operand.tmp 19) (Operand.const (Value.bool false)), type := 4, pos := "chain.go:97", after := #[{ on := 4, ground := Ground.data }, { on := 9, ground := Ground.data }], guard := none }) (v := ?_) rfl (by kernel_rfl) (by kernel_rfl) (by kernel_rfl) (fun _ _ _ h => h) (Or.inl ⟨by rfl, ?_⟩) hHeld ?_
    rotate_left
    · intro w hSw; (try dsimp only at hSw); go_simp; try with_reducible rfl
    try simp only [Act.put, List.setIfInBounds_toArray, List.set_cons_zero, List.set_cons_succ]
    refine wpAnyH_ready (rs := [11]) (by kernel_rfl) (by simp) ?_
    refine AllReadyH.cons rfl (fun K hK => ?_) (AllReadyH.nil)
    go_simp
    go_wp2_with (go_at_call 31; refine (insist_no 1 _).mono ?_; rintro x w4 ⟨rfl, hw4⟩; obtain rfl := hw4.symm)

    exact ⟨rfl, HNo.out _ HE.out HB1.out.drew⟩
  have d4 : decide (a ≤ la) = true := by simpa using p4
  have HE := hid (HE4.out ⟨p3, p4⟩)
  have HK : Hid (∀ X, Below W.heap.size W X → Calls Try.prog 42 #[.slice ad m c, .int .i64 a] X fun e w' => e = .returned (.tuple #[.int .i64 (((holdN l a).getD 0 : Nat) : Int), .bool (holdN l a).isSome]) ∧ Below X.heap.size X w') := hid (fun X hX => holder_any (HA.out X hX) a)
  have HG0 : Hid (∀ (w5 : World) (l2 : List Pt) (A2 : Nat → Sl) (ad2 : Option Addr) (m2 c2 : Nat), CArg w5 l2 A2 ad2 m2 c2 → m2 ≤ 64 → (∀ i, i < m2 → (A2 i).m * 8 ≤ 140737488355328) → Calls Try.prog 46 #[.slice none 0 0, .slice ad2 m2 c2] w5 fun x w6 => ∃ v1 A1, x = .returned v1 ∧ Hid (GrowI w5 w5.heap.size [] [] (fun _ => ⟨none, 0, 0⟩) l2 m2 v1 A1 w6)) := hid (fun w5 l2 A2 ad2 m2 c2 h5 h6 h7 => grow_any (base := w5.heap.size) (OwnP.nil _ _ _ _) h5 (Nat.le_refl _) (by simp; omega) h7 ⟨fun _ b off _ hm => by simp [Value.ownBlock] at hm, fun i _ _ b off _ hm => by simp [Value.ownBlock] at hm⟩)
  clear p3 p4 HE3 HE4
  cases hh : holdN l a with
  | none =>
    rw [hh] at HK
    simp only [Option.getD_none, Option.isSome_none] at HK
    have HD : Hid (l.drop (cutK l a) = l) := hid (by unfold cutK; rw [hh]; rfl)
    go_enter Try.func49, Try.ntmps49
    go_wp2_with (go_at_call 30; refine HI1.out.mono ?_; rintro x w1 ⟨rfl, hb1⟩; have HQ1 := hid hb1; have HB1 : Hid (Below W.heap.size W w1) := hid (HB0.out.trans (hb1.mono HB0.out.size)); clear hb1 k0 k1 k2 k3 k4; obtain ⟨k0, k1, k2, k3, k4⟩ := HC.out w1 HB1.out; have HL1 := hid (HLF.out w1.drew HB1.out.drew))
    refine wp_region_held_drew (S := fun W => W.cell? ⟨ga, 0, none⟩ = some (.int .i64 a) ∧ W.cell? ⟨gc, 1, none⟩ = some (.int .i64 t) ∧ W.cell? ⟨gc, 2, none⟩ = some (.slice ad m c)) (by kernel_rfl) (⟨k4, k1, k2⟩) (fun hHeld => ?_)
    refine wpAnyH_take (i := 0) (oi := { dst := some 10, op := Op.load 3 (Operand.tmp 2), type := 3, pos := "chain.go:97", after := #[], guard := none }) (v := ?_) rfl (by kernel_rfl) (by kernel_rfl) (by kernel_rfl) (fun _ _ _ h => h) (Or.inl ⟨by rfl, ?_⟩) hHeld ?_
    rotate_left
    · intro w hSw; (try dsimp only at hSw); go_simp; try with_reducible rfl
    try simp only [Act.put, List.setIfInBounds_toArray, List.set_cons_zero, List.set_cons_succ]
    refine wpAnyH_take (i := 1) (oi := { dst := some 11, op := Op.fieldAddr 28 (Operand.tmp 0) 1, type := 0, pos := "chain.go:97", after := #[], guard := none }) (v := ?_) rfl (by kernel_rfl) (by kernel_rfl) (by kernel_rfl) (fun _ _ _ h => h) (Or.inl ⟨by rfl, ?_⟩) hHeld ?_
    rotate_left
    · intro w hSw; (try dsimp only at hSw); go_simp; try with_reducible rfl
    try simp only [Act.put, List.setIfInBounds_toArray, List.set_cons_zero, List.set_cons_succ]
    refine wpAnyH_take (i := 2) (oi := { dst := some 12, op := Op.load 3 (Operand.tmp 11), type := 3, pos := "chain.go:97", after := #[{ on := 1, ground := Ground.data }], guard := none }) (v := ?_) rfl (by kernel_rfl) (by kernel_rfl) (by kernel_rfl) (fun _ _ _ h => h) (Or.inl ⟨by rfl, ?_⟩) hHeld ?_
    rotate_left
    · intro w hSw; (try dsimp only at hSw); go_simp; try with_reducible rfl
    try simp only [Act.put, List.setIfInBounds_toArray, List.set_cons_zero, List.set_cons_succ]
    refine wpAnyH_take (i := 3) (oi := { dst := some 13, op := Op.binOp BinOp.geq 3 (Operand.tmp 10) (Operand.tmp 12) 3, type := 4, pos := "chain.go:97", after := #[{ on := 0, ground := Ground.data }, { on := 2, ground := Ground.data }], guard := none }) (v := ?_) rfl (by kernel_rfl) (by kernel_rfl) (by kernel_rfl) (fun _ _ _ h => h) (Or.inl ⟨by rfl, ?_⟩) hHeld ?_
    rotate_left
    · intro w hSw; (try dsimp only at hSw); go_simp; try with_reducible rfl
    try simp only [Act.put, List.setIfInBounds_toArray, List.set_cons_zero, List.set_cons_succ]
    refine wpAnyH_take (i := 4) (oi := { dst := some 14, op := Op.move (Operand.tmp 13), type := 4, pos := "chain.go:97", after := #[{ on := 3, ground := Ground.data }], guard := none }) (v := ?_) rfl (by kernel_rfl) (by kernel_rfl) (by kernel_rfl) (fun _ _ _ h => h) (Or.inl ⟨by rfl, ?_⟩) hHeld ?_
    rotate_left
    · intro w hSw; (try dsimp only at hSw); go_simp; try with_reducible rfl
    try simp only [Act.put, List.setIfInBounds_toArray, List.set_cons_zero, List.set_cons_succ]
    refine wpAnyH_take (i := 5) (oi := { dst := some 15, op := Op.load 3 (Operand.tmp 2), type := 3, pos := "chain.go:97", after := #[{ on := 4, ground := Ground.guard }], guard := some (4, true) }) (v := ?_) rfl (by kernel_rfl) (by kernel_rfl) (by kernel_rfl) (fun _ _ _ h => h) (Or.inl ⟨by rfl, ?_⟩) hHeld ?_
    rotate_left
    · intro w hSw; (try dsimp only at hSw); go_simp; try with_reducible rfl
    try simp only [Act.put, List.setIfInBounds_toArray, List.set_cons_zero, List.set_cons_succ]
    refine wpAnyH_take (i := 6) (oi := { dst := some 16, op := Op.fieldAddr 28 (Operand.tmp 0) 2, type := 0, pos := "chain.go:97", after := #[{ on := 4, ground := Ground.guard }], guard := some (4, true) }) (v := ?_) rfl (by kernel_rfl) (by kernel_rfl) (by kernel_rfl) (fun _ _ _ h => h) (Or.inl ⟨by rfl, ?_⟩) hHeld ?_
    rotate_left
    · intro w hSw; (try dsimp only at hSw); go_simp; try with_reducible rfl
    try simp only [Act.put, List.setIfInBounds_toArray, List.set_cons_zero, List.set_cons_succ]
    refine wpAnyH_take (i := 7) (oi := { dst := some 17, op := Op.load 26 (Operand.tmp 16), type := 26, pos := "chain.go:97", after := #[{ on := 6, ground := Ground.data }, { on := 4, ground := Ground.guard }], guard := some (4, true) }) (v := ?_) rfl (by kernel_rfl) (by kernel_rfl) (by kernel_rfl) (fun _ _ _ h => h) (Or.inl ⟨by rfl, ?_⟩) hHeld ?_
    rotate_left
    · intro w hSw; (try dsimp only at hSw); go_simp; try with_reducible rfl
    try simp only [Act.put, List.setIfInBounds_toArray, List.set_cons_zero, List.set_cons_succ]
    refine wpAnyH_ready (rs := [8]) (by kernel_rfl) (by simp) ?_
    refine AllReadyH.cons rfl (fun K hK => ?_) (AllReadyH.nil)
    go_simp
    go_wp2_with (go_at_call 44; refine HL1.out.mono ?_; rintro x w3 ⟨rfl, hw3⟩; obtain rfl := hw3.symm)
    refine hK.out _ _ (⟨k4, k1, k2⟩) (fun hHeld => ?_)
    clear hK K
    try simp only [Act.put, List.setIfInBounds_toArray, List.set_cons_zero, List.set_cons_succ]
    refine wpAnyH_take (i := 9) (oi := { dst := some 19, op := Op.binOp BinOp.leq 3 (Operand.tmp 15) (Operand.tmp 18) 3, type := 4, pos := "chain.go:97", after := #[{ on := 5, ground := Ground.data }, { on := 8, ground := Ground.data }, { on := 4, ground := Ground.guard }], guard := some (4, true) }) (v := ?_) rfl (by kernel_rfl) (by kernel_rfl) (by kernel_rfl) (fun _ _ _ h => h) (Or.inl ⟨by rfl, ?_⟩) hHeld ?_
    rotate_left
    · intro w hSw; (try dsimp only at hSw); go_simp; try with_reducible rfl
    try simp only [Act.put, List.setIfInBounds_toArray, List.set_cons_zero, List.set_cons_succ]
    refine wpAnyH_take (i := 10) (oi := { dst := some 20, op := Op.pick (Operand.tmp 14) (Operand.tmp 19) (Operand.const (Value.bool false)), type := 4, pos := "chain.go:97", after := #[{ on := 4, ground := Ground.data }, { on := 9, ground := Ground.data }], guard := none }) (v := ?_) rfl (by kernel_rfl) (by kernel_rfl) (by kernel_rfl) (fun _ _ _ h => h) (Or.inl ⟨by rfl, ?_⟩) hHeld ?_
    rotate_left
    · intro w hSw; (try dsimp only at hSw); go_simp; try with_reducible rfl
    try simp only [Act.put, List.setIfInBounds_toArray, List.set_cons_zero, List.set_cons_succ]
    refine wpAnyH_ready (rs := [11]) (by kernel_rfl) (by simp) ?_
    refine AllReadyH.cons rfl (fun K hK => ?_) (AllReadyH.nil)
    go_simp
    go_wp2_with (go_at_call 31; refine (insist_ok 1 _).mono ?_; rintro x w4 ⟨rfl, hw4⟩; obtain rfl := hw4.symm)
    refine hK.out _ _ (⟨k4, k1, k2⟩) (fun hHeld => ?_)
    clear hK K
    try simp only [Act.put, List.setIfInBounds_toArray, List.set_cons_zero, List.set_cons_succ]
    refine wpAnyH_done (by kernel_rfl) ?_ _

    have HK1 := HK.out w1.drew HB1.out.drew
    go_wp2_with (go_at_call 42; refine HK1.mono ?_; rintro x w5 ⟨rfl, hb5⟩; have HQ5 : Hid (Below (W.alloc (.cells #[.int .i64 0, .int .i64 0, .slice none 0 0] 28)).heap.size (W.alloc (.cells #[.int .i64 0, .int .i64 0, .slice none 0 0] 28)) w5) := hid (HQ1.out.drew.trans (hb5.mono HQ1.out.drew.size)); clear hb5 k0 k1 k2 k3 k4; obtain ⟨k0, k1, k2, k3, k4⟩ := HC.out w5 (HB0.out.trans (HQ5.out.mono HB0.out.size)))
    obtain ⟨kl, hkl⟩ : ∃ kl, m = kl := ⟨m, rfl⟩
    have HA5 := HA.out w5.drew (HB0.out.trans (HQ5.out.drew.mono HB0.out.size))
    have HG1 := HG0.out w5.drew l A ad m c HA5 h64 HNI.out
    have HKL : Hid (l.length = m) := hid hl
    have HKR := hid HA5.rng
    clear HA5
    subst hkl
    refine wp_region_held_drew (S := fun W => W.cell? ⟨gc, 0, none⟩ = some (.int .i64 o) ∧ W.cell? ⟨ga, 0, none⟩ = some (.int .i64 a)) (by kernel_rfl) (⟨k0, k4⟩) (fun hHeld => ?_)
    refine wpAnyH_take (i := 0) (oi := { dst := some 36, op := Op.fieldAddr 28 (Operand.tmp 0) 0, type := 0, pos := "chain.go:102", after := #[], guard := none }) (v := ?_) rfl (by kernel_rfl) (by kernel_rfl) (by kernel_rfl) (fun _ _ _ h => h) (Or.inl ⟨by rfl, ?_⟩) hHeld ?_
    rotate_left
    · intro w hSw; (try dsimp only at hSw); go_simp; try with_reducible rfl
    try simp only [Act.put, List.setIfInBounds_toArray, List.set_cons_zero, List.set_cons_succ]
    refine wpAnyH_take (i := 1) (oi := { dst := some 37, op := Op.load 3 (Operand.tmp 36), type := 3, pos := "chain.go:102", after := #[{ on := 0, ground := Ground.data }], guard := none }) (v := ?_) rfl (by kernel_rfl) (by kernel_rfl) (by kernel_rfl) (fun _ _ _ h => h) (Or.inl ⟨by rfl, ?_⟩) hHeld ?_
    rotate_left
    · intro w hSw; (try dsimp only at hSw); go_simp; try with_reducible rfl
    try simp only [Act.put, List.setIfInBounds_toArray, List.set_cons_zero, List.set_cons_succ]
    refine wpAnyH_take (i := 2) (oi := { dst := some 38, op := Op.load 3 (Operand.tmp 2), type := 3, pos := "chain.go:102", after := #[], guard := none }) (v := ?_) rfl (by kernel_rfl) (by kernel_rfl) (by kernel_rfl) (fun _ _ _ h => h) (Or.inl ⟨by rfl, ?_⟩) hHeld ?_
    rotate_left
    · intro w hSw; (try dsimp only at hSw); go_simp; try with_reducible rfl
    try simp only [Act.put, List.setIfInBounds_toArray, List.set_cons_zero, List.set_cons_succ]
    refine wpAnyH_take (i := 3) (oi := { dst := some 39, op := Op.move (Operand.tmp 4), type := 26, pos := "chain.go:102", after := #[], guard := none }) (v := ?_) rfl (by kernel_rfl) (by kernel_rfl) (by kernel_rfl) (fun _ _ _ h => h) (Or.inl ⟨by rfl, ?_⟩) hHeld ?_
    rotate_left
    · intro w hSw; (try dsimp only at hSw); go_simp; try with_reducible rfl
    try simp only [Act.put, List.setIfInBounds_toArray, List.set_cons_zero, List.set_cons_succ]
    refine wpAnyH_ready (rs := [4]) (by kernel_rfl) (by simp) ?_
    refine AllReadyH.cons rfl (fun K hK => ?_) (AllReadyH.nil)
    go_simp
    go_wp2_with (go_at_call 46; refine HG1.mono ?_; rintro x w6 ⟨v1, A1, rfl, g1⟩; obtain ⟨ad2, c2, rfl, hans⟩ := g1.out.ans HKL.out HKR.out; have HCA := hid hans; have HQ6 := hid (HQ5.out.drew.trans (g1.out.chg.below (N := (W.alloc (.cells #[.int .i64 0, .int .i64 0, .slice none 0 0] 28)).heap.size) (fun k hk => by cases hk) HQ5.out.size)); have HB6 : Hid (Below W.heap.size W w6) := hid (HB0.out.trans (HQ6.out.mono HB0.out.size)); clear k0 k1 k2 k3 k4; obtain ⟨k0, k1, k2, k3, k4⟩ := HC.out w6 HB6.out; have z0 : w6.cell? ⟨W.heap.size, 0, none⟩ = some (.int .i64 0) := (HZ.out w6 HQ6.out).cell 0; have z1 : w6.cell? ⟨W.heap.size, 1, none⟩ = some (.int .i64 0) := (HZ.out w6 HQ6.out).cell 1; have z2 : w6.cell? ⟨W.heap.size, 2, none⟩ = some (.slice none 0 0) := (HZ.out w6 HQ6.out).cell 2; have f0 := (HZ.out w6 HQ6.out).free 0; have f1 := (HZ.out w6 HQ6.out).free 1; have f2 := (HZ.out w6 HQ6.out).free 2; clear hans g1)
    refine hK.out _ _ (⟨k0, k4⟩) (fun hHeld => ?_)
    clear hK K
    try simp only [Act.put, List.setIfInBounds_toArray, List.set_cons_zero, List.set_cons_succ]
    refine wpAnyH_take (i := 5) (oi := { dst := some 41, op := Op.build 28 #[(0, Operand.tmp 37), (1, Operand.tmp 38), (2, Operand.tmp 40)], type := 28, pos := "chain.go:102", after := #[{ on := 1, ground := Ground.data }, { on := 2, ground := Ground.data }, { on := 4, ground := Ground.data }], guard := none }) (v := ?_) rfl (by kernel_rfl) (by kernel_rfl) (by kernel_rfl) (fun _ _ _ h => h) (Or.inl ⟨by rfl, ?_⟩) hHeld ?_
    rotate_left
    · intro w hSw; (try dsimp only at hSw); go_simp; try with_reducible rfl
    try simp only [Act.put, List.setIfInBounds_toArray, List.set_cons_zero, List.set_cons_succ]
    refine wpAnyH_ready (rs := [6]) (by kernel_rfl) (by simp) ?_
    refine AllReadyH.cons rfl (fun K hK => ?_) (AllReadyH.nil)
    have HS8 := hid (HSET.out w6 (.slice ad2 m c2) HQ6.out)
    go_simp
    refine hK.out _ _ (HS8.out.1) (fun hHeld => ?_)
    clear hK K
    refine wpAnyH_done (by kernel_rfl) ?_ _

    go_wp2_with fail
    have m0 := (((HZ.out w6 HQ6.out).set 0 (.int .i64 o)).set 1 (.int .i64 a)).set 2 (.slice ad2 m c2)
    have s0 : (((w6.setCell ⟨W.heap.size, 0, none⟩ (.int .i64 o)).setCell ⟨W.heap.size, 1, none⟩ (.int .i64 a)).setCell ⟨W.heap.size, 2, none⟩ (.slice ad2 m c2)).cell? ⟨W.heap.size, 0, none⟩ = some (.int .i64 o) := m0.cell 0
    have s1 : (((w6.setCell ⟨W.heap.size, 0, none⟩ (.int .i64 o)).setCell ⟨W.heap.size, 1, none⟩ (.int .i64 a)).setCell ⟨W.heap.size, 2, none⟩ (.slice ad2 m c2)).cell? ⟨W.heap.size, 1, none⟩ = some (.int .i64 a) := m0.cell 1
    have s2 : (((w6.setCell ⟨W.heap.size, 0, none⟩ (.int .i64 o)).setCell ⟨W.heap.size, 1, none⟩ (.int .i64 a)).setCell ⟨W.heap.size, 2, none⟩ (.slice ad2 m c2)).cell? ⟨W.heap.size, 2, none⟩ = some (.slice ad2 m c2) := m0.cell 2
    have hcg : Chg [W.heap.size] w6 (((w6.setCell ⟨W.heap.size, 0, none⟩ (.int .i64 o)).setCell ⟨W.heap.size, 1, none⟩ (.int .i64 a)).setCell ⟨W.heap.size, 2, none⟩ (.slice ad2 m c2)) := (((Chg.refl _ w6).set (Or.inl (by simp)) _ _).set (Or.inl (by simp)) _ _).set (Or.inl (by simp)) _ _
    refine bodyPost_ret (v := .agg #[.int .i64 o, .int .i64 a, .slice ad2 m c2]) (by simp [results, Try.results49, go_sem, s0, s1, s2]) rfl ⟨Or.inl ⟨o, a, ad2, m, c2, rfl, HE.out, rfl, rfl, ?_⟩, HS8.out.2⟩
    rw [HD.out]
    exact (HCA.out.chg hcg (fun g hg => by simp at hg; have h1 := HQ5.out.size; simp at h1; show g < w5.heap.size; omega)).down (by have h1 := HQ5.out.size; simp at h1; show W.heap.size ≤ w5.heap.size; omega)
  | some k =>
    rw [hh] at HK
    simp only [Option.getD_some, Option.isSome_some] at HK
    have hkm : k < m := by have := (holdT_lt hh).1; omega
    have HD : Hid (l.drop (cutK l a) = l.drop k) := hid (by unfold cutK; rw [hh]; rfl)
    have hmc := (HA.out W (Below.refl _ _)).cap
    obtain ⟨b, off, rfl, -⟩ := (HA.out W (Below.refl _ _)).behind k hkm
    have HBh : Hid (∀ X, Below W.heap.size W X → CArg X (l.drop k) (fun i => A (k + i)) (some ⟨b, off + k * 3, none⟩) (m - k) (c - k)) := hid (fun X hX => by
      obtain ⟨b', off', e, h5⟩ := (HA.out X hX).behind k hkm
      cases e
      exact h5)
    have hkn : ((k : Int)).toNat = k := by omega
    have hck : ¬ c = k := by omega
    have hkle : k ≤ m := by omega
    go_enter Try.func49, Try.ntmps49
    go_wp2_with (go_at_call 30; refine HI1.out.mono ?_; rintro x w1 ⟨rfl, hb1⟩; have HQ1 := hid hb1; have HB1 : Hid (Below W.heap.size W w1) := hid (HB0.out.trans (hb1.mono HB0.out.size)); clear hb1 k0 k1 k2 k3 k4; obtain ⟨k0, k1, k2, k3, k4⟩ := HC.out w1 HB1.out; have HL1 := hid (HLF.out w1.drew HB1.out.drew))
    refine wp_region_held_drew (S := fun W => W.cell? ⟨ga, 0, none⟩ = some (.int .i64 a) ∧ W.cell? ⟨gc, 1, none⟩ = some (.int .i64 t) ∧ W.cell? ⟨gc, 2, none⟩ = some (.slice (some ⟨b, off, none⟩) m c)) (by kernel_rfl) (⟨k4, k1, k2⟩) (fun hHeld => ?_)
    refine wpAnyH_take (i := 0) (oi := { dst := some 10, op := Op.load 3 (Operand.tmp 2), type := 3, pos := "chain.go:97", after := #[], guard := none }) (v := ?_) rfl (by kernel_rfl) (by kernel_rfl) (by kernel_rfl) (fun _ _ _ h => h) (Or.inl ⟨by rfl, ?_⟩) hHeld ?_
    rotate_left
    · intro w hSw; (try dsimp only at hSw); go_simp; try with_reducible rfl
    try simp only [Act.put, List.setIfInBounds_toArray, List.set_cons_zero, List.set_cons_succ]
    refine wpAnyH_take (i := 1) (oi := { dst := some 11, op := Op.fieldAddr 28 (Operand.tmp 0) 1, type := 0, pos := "chain.go:97", after := #[], guard := none }) (v := ?_) rfl (by kernel_rfl) (by kernel_rfl) (by kernel_rfl) (fun _ _ _ h => h) (Or.inl ⟨by rfl, ?_⟩) hHeld ?_
    rotate_left
    · intro w hSw; (try dsimp only at hSw); go_simp; try with_reducible rfl
    try simp only [Act.put, List.setIfInBounds_toArray, List.set_cons_zero, List.set_cons_succ]
    refine wpAnyH_take (i := 2) (oi := { dst := some 12, op := Op.load 3 (Operand.tmp 11), type := 3, pos := "chain.go:97", after := #[{ on := 1, ground := Ground.data }], guard := none }) (v := ?_) rfl (by kernel_rfl) (by kernel_rfl) (by kernel_rfl) (fun _ _ _ h => h) (Or.inl ⟨by rfl, ?_⟩) hHeld ?_
    rotate_left
    · intro w hSw; (try dsimp only at hSw); go_simp; try with_reducible rfl
    try simp only [Act.put, List.setIfInBounds_toArray, List.set_cons_zero, List.set_cons_succ]
    refine wpAnyH_take (i := 3) (oi := { dst := some 13, op := Op.binOp BinOp.geq 3 (Operand.tmp 10) (Operand.tmp 12) 3, type := 4, pos := "chain.go:97", after := #[{ on := 0, ground := Ground.data }, { on := 2, ground := Ground.data }], guard := none }) (v := ?_) rfl (by kernel_rfl) (by kernel_rfl) (by kernel_rfl) (fun _ _ _ h => h) (Or.inl ⟨by rfl, ?_⟩) hHeld ?_
    rotate_left
    · intro w hSw; (try dsimp only at hSw); go_simp; try with_reducible rfl
    try simp only [Act.put, List.setIfInBounds_toArray, List.set_cons_zero, List.set_cons_succ]
    refine wpAnyH_take (i := 4) (oi := { dst := some 14, op := Op.move (Operand.tmp 13), type := 4, pos := "chain.go:97", after := #[{ on := 3, ground := Ground.data }], guard := none }) (v := ?_) rfl (by kernel_rfl) (by kernel_rfl) (by kernel_rfl) (fun _ _ _ h => h) (Or.inl ⟨by rfl, ?_⟩) hHeld ?_
    rotate_left
    · intro w hSw; (try dsimp only at hSw); go_simp; try with_reducible rfl
    try simp only [Act.put, List.setIfInBounds_toArray, List.set_cons_zero, List.set_cons_succ]
    refine wpAnyH_take (i := 5) (oi := { dst := some 15, op := Op.load 3 (Operand.tmp 2), type := 3, pos := "chain.go:97", after := #[{ on := 4, ground := Ground.guard }], guard := some (4, true) }) (v := ?_) rfl (by kernel_rfl) (by kernel_rfl) (by kernel_rfl) (fun _ _ _ h => h) (Or.inl ⟨by rfl, ?_⟩) hHeld ?_
    rotate_left
    · intro w hSw; (try dsimp only at hSw); go_simp; try with_reducible rfl
    try simp only [Act.put, List.setIfInBounds_toArray, List.set_cons_zero, List.set_cons_succ]
    refine wpAnyH_take (i := 6) (oi := { dst := some 16, op := Op.fieldAddr 28 (Operand.tmp 0) 2, type := 0, pos := "chain.go:97", after := #[{ on := 4, ground := Ground.guard }], guard := some (4, true) }) (v := ?_) rfl (by kernel_rfl) (by kernel_rfl) (by kernel_rfl) (fun _ _ _ h => h) (Or.inl ⟨by rfl, ?_⟩) hHeld ?_
    rotate_left
    · intro w hSw; (try dsimp only at hSw); go_simp; try with_reducible rfl
    try simp only [Act.put, List.setIfInBounds_toArray, List.set_cons_zero, List.set_cons_succ]
    refine wpAnyH_take (i := 7) (oi := { dst := some 17, op := Op.load 26 (Operand.tmp 16), type := 26, pos := "chain.go:97", after := #[{ on := 6, ground := Ground.data }, { on := 4, ground := Ground.guard }], guard := some (4, true) }) (v := ?_) rfl (by kernel_rfl) (by kernel_rfl) (by kernel_rfl) (fun _ _ _ h => h) (Or.inl ⟨by rfl, ?_⟩) hHeld ?_
    rotate_left
    · intro w hSw; (try dsimp only at hSw); go_simp; try with_reducible rfl
    try simp only [Act.put, List.setIfInBounds_toArray, List.set_cons_zero, List.set_cons_succ]
    refine wpAnyH_ready (rs := [8]) (by kernel_rfl) (by simp) ?_
    refine AllReadyH.cons rfl (fun K hK => ?_) (AllReadyH.nil)
    go_simp
    go_wp2_with (go_at_call 44; refine HL1.out.mono ?_; rintro x w3 ⟨rfl, hw3⟩; obtain rfl := hw3.symm)
    refine hK.out _ _ (⟨k4, k1, k2⟩) (fun hHeld => ?_)
    clear hK K
    try simp only [Act.put, List.setIfInBounds_toArray, List.set_cons_zero, List.set_cons_succ]
    refine wpAnyH_take (i := 9) (oi := { dst := some 19, op := Op.binOp BinOp.leq 3 (Operand.tmp 15) (Operand.tmp 18) 3, type := 4, pos := "chain.go:97", after := #[{ on := 5, ground := Ground.data }, { on := 8, ground := Ground.data }, { on := 4, ground := Ground.guard }], guard := some (4, true) }) (v := ?_) rfl (by kernel_rfl) (by kernel_rfl) (by kernel_rfl) (fun _ _ _ h => h) (Or.inl ⟨by rfl, ?_⟩) hHeld ?_
    rotate_left
    · intro w hSw; (try dsimp only at hSw); go_simp; try with_reducible rfl
    try simp only [Act.put, List.setIfInBounds_toArray, List.set_cons_zero, List.set_cons_succ]
    refine wpAnyH_take (i := 10) (oi := { dst := some 20, op := Op.pick (Operand.tmp 14) (Operand.tmp 19) (Operand.const (Value.bool false)), type := 4, pos := "chain.go:97", after := #[{ on := 4, ground := Ground.data }, { on := 9, ground := Ground.data }], guard := none }) (v := ?_) rfl (by kernel_rfl) (by kernel_rfl) (by kernel_rfl) (fun _ _ _ h => h) (Or.inl ⟨by rfl, ?_⟩) hHeld ?_
    rotate_left
    · intro w hSw; (try dsimp only at hSw); go_simp; try with_reducible rfl
    try simp only [Act.put, List.setIfInBounds_toArray, List.set_cons_zero, List.set_cons_succ]
    refine wpAnyH_ready (rs := [11]) (by kernel_rfl) (by simp) ?_
    refine AllReadyH.cons rfl (fun K hK => ?_) (AllReadyH.nil)
    go_simp
    go_wp2_with (go_at_call 31; refine (insist_ok 1 _).mono ?_; rintro x w4 ⟨rfl, hw4⟩; obtain rfl := hw4.symm)
    refine hK.out _ _ (⟨k4, k1, k2⟩) (fun hHeld => ?_)
    clear hK K
    try simp only [Act.put, List.setIfInBounds_toArray, List.set_cons_zero, List.set_cons_succ]
    refine wpAnyH_done (by kernel_rfl) ?_ _

    have HK1 := HK.out w1.drew HB1.out.drew
    go_wp2_with (go_at_call 42; refine HK1.mono ?_; rintro x w5 ⟨rfl, hb5⟩; have HQ5 : Hid (Below (W.alloc (.cells #[.int .i64 0, .int .i64 0, .slice none 0 0] 28)).heap.size (W.alloc (.cells #[.int .i64 0, .int .i64 0, .slice none 0 0] 28)) w5) := hid (HQ1.out.drew.trans (hb5.mono HQ1.out.drew.size)); clear hb5 k0 k1 k2 k3 k4; obtain ⟨k0, k1, k2, k3, k4⟩ := HC.out w5 (HB0.out.trans (HQ5.out.mono HB0.out.size)))
    have HA5 := HBh.out w5.drew (HB0.out.trans (HQ5.out.drew.mono HB0.out.size))
    have HG1 := HG0.out w5.drew _ _ _ _ _ HA5 (by omega) (fun i hi => HNI.out (k + i) (by omega))
    have HKL : Hid ((l.drop k).length = m - k) := hid (by rw [List.length_drop]; omega)
    have HKR := hid HA5.rng
    clear HA5
    refine wp_region_held_drew (S := fun W => W.cell? ⟨gc, 0, none⟩ = some (.int .i64 o) ∧ W.cell? ⟨ga, 0, none⟩ = some (.int .i64 a)) (by kernel_rfl) (⟨k0, k4⟩) (fun hHeld => ?_)
    refine wpAnyH_take (i := 0) (oi := { dst := some 36, op := Op.fieldAddr 28 (Operand.tmp 0) 0, type := 0, pos := "chain.go:102", after := #[], guard := none }) (v := ?_) rfl (by kernel_rfl) (by kernel_rfl) (by kernel_rfl) (fun _ _ _ h => h) (Or.inl ⟨by rfl, ?_⟩) hHeld ?_
    rotate_left
    · intro w hSw; (try dsimp only at hSw); go_simp; try with_reducible rfl
    try simp only [Act.put, List.setIfInBounds_toArray, List.set_cons_zero, List.set_cons_succ]
    refine wpAnyH_take (i := 1) (oi := { dst := some 37, op := Op.load 3 (Operand.tmp 36), type := 3, pos := "chain.go:102", after := #[{ on := 0, ground := Ground.data }], guard := none }) (v := ?_) rfl (by kernel_rfl) (by kernel_rfl) (by kernel_rfl) (fun _ _ _ h => h) (Or.inl ⟨by rfl, ?_⟩) hHeld ?_
    rotate_left
    · intro w hSw; (try dsimp only at hSw); go_simp; try with_reducible rfl
    try simp only [Act.put, List.setIfInBounds_toArray, List.set_cons_zero, List.set_cons_succ]
    refine wpAnyH_take (i := 2) (oi := { dst := some 38, op := Op.load 3 (Operand.tmp 2), type := 3, pos := "chain.go:102", after := #[], guard := none }) (v := ?_) rfl (by kernel_rfl) (by kernel_rfl) (by kernel_rfl) (fun _ _ _ h => h) (Or.inl ⟨by rfl, ?_⟩) hHeld ?_
    rotate_left
    · intro w hSw; (try dsimp only at hSw); go_simp; try with_reducible rfl
    try simp only [Act.put, List.setIfInBounds_toArray, List.set_cons_zero, List.set_cons_succ]
    refine wpAnyH_take (i := 3) (oi := { dst := some 39, op := Op.move (Operand.tmp 4), type := 26, pos := "chain.go:102", after := #[], guard := none }) (v := ?_) rfl (by kernel_rfl) (by kernel_rfl) (by kernel_rfl) (fun _ _ _ h => h) (Or.inl ⟨by rfl, ?_⟩) hHeld ?_
    rotate_left
    · intro w hSw; (try dsimp only at hSw); go_simp; try with_reducible rfl
    try simp only [Act.put, List.setIfInBounds_toArray, List.set_cons_zero, List.set_cons_succ]
    refine wpAnyH_ready (rs := [4]) (by kernel_rfl) (by simp) ?_
    refine AllReadyH.cons rfl (fun K hK => ?_) (AllReadyH.nil)
    go_simp
    go_wp2_with (go_at_call 46; refine HG1.mono ?_; rintro x w6 ⟨v1, A1, rfl, g1⟩; obtain ⟨ad2, c2, rfl, hans⟩ := g1.out.ans HKL.out HKR.out; have HCA := hid hans; have HQ6 := hid (HQ5.out.drew.trans (g1.out.chg.below (N := (W.alloc (.cells #[.int .i64 0, .int .i64 0, .slice none 0 0] 28)).heap.size) (fun k hk => by cases hk) HQ5.out.size)); have HB6 : Hid (Below W.heap.size W w6) := hid (HB0.out.trans (HQ6.out.mono HB0.out.size)); clear k0 k1 k2 k3 k4; obtain ⟨k0, k1, k2, k3, k4⟩ := HC.out w6 HB6.out; have z0 : w6.cell? ⟨W.heap.size, 0, none⟩ = some (.int .i64 0) := (HZ.out w6 HQ6.out).cell 0; have z1 : w6.cell? ⟨W.heap.size, 1, none⟩ = some (.int .i64 0) := (HZ.out w6 HQ6.out).cell 1; have z2 : w6.cell? ⟨W.heap.size, 2, none⟩ = some (.slice none 0 0) := (HZ.out w6 HQ6.out).cell 2; have f0 := (HZ.out w6 HQ6.out).free 0; have f1 := (HZ.out w6 HQ6.out).free 1; have f2 := (HZ.out w6 HQ6.out).free 2; clear hans g1)
    refine hK.out _ _ (⟨k0, k4⟩) (fun hHeld => ?_)
    clear hK K
    try simp only [Act.put, List.setIfInBounds_toArray, List.set_cons_zero, List.set_cons_succ]
    refine wpAnyH_take (i := 5) (oi := { dst := some 41, op := Op.build 28 #[(0, Operand.tmp 37), (1, Operand.tmp 38), (2, Operand.tmp 40)], type := 28, pos := "chain.go:102", after := #[{ on := 1, ground := Ground.data }, { on := 2, ground := Ground.data }, { on := 4, ground := Ground.data }], guard := none }) (v := ?_) rfl (by kernel_rfl) (by kernel_rfl) (by kernel_rfl) (fun _ _ _ h => h) (Or.inl ⟨by rfl, ?_⟩) hHeld ?_
    rotate_left
    · intro w hSw; (try dsimp only at hSw); go_simp; try with_reducible rfl
    try simp only [Act.put, List.setIfInBounds_toArray, List.set_cons_zero, List.set_cons_succ]
    refine wpAnyH_ready (rs := [6]) (by kernel_rfl) (by simp) ?_
    refine AllReadyH.cons rfl (fun K hK => ?_) (AllReadyH.nil)
    have HS8 := hid (HSET.out w6 (.slice ad2 (m - k) c2) HQ6.out)
    go_simp
    refine hK.out _ _ (HS8.out.1) (fun hHeld => ?_)
    clear hK K
    refine wpAnyH_done (by kernel_rfl) ?_ _

    go_wp2_with fail
    have m0 := (((HZ.out w6 HQ6.out).set 0 (.int .i64 o)).set 1 (.int .i64 a)).set 2 (.slice ad2 (m - k) c2)
    have s0 : (((w6.setCell ⟨W.heap.size, 0, none⟩ (.int .i64 o)).setCell ⟨W.heap.size, 1, none⟩ (.int .i64 a)).setCell ⟨W.heap.size, 2, none⟩ (.slice ad2 (m - k) c2)).cell? ⟨W.heap.size, 0, none⟩ = some (.int .i64 o) := m0.cell 0
    have s1 : (((w6.setCell ⟨W.heap.size, 0, none⟩ (.int .i64 o)).setCell ⟨W.heap.size, 1, none⟩ (.int .i64 a)).setCell ⟨W.heap.size, 2, none⟩ (.slice ad2 (m - k) c2)).cell? ⟨W.heap.size, 1, none⟩ = some (.int .i64 a) := m0.cell 1
    have s2 : (((w6.setCell ⟨W.heap.size, 0, none⟩ (.int .i64 o)).setCell ⟨W.heap.size, 1, none⟩ (.int .i64 a)).setCell ⟨W.heap.size, 2, none⟩ (.slice ad2 (m - k) c2)).cell? ⟨W.heap.size, 2, none⟩ = some (.slice ad2 (m - k) c2) := m0.cell 2
    have hcg : Chg [W.heap.size] w6 (((w6.setCell ⟨W.heap.size, 0, none⟩ (.int .i64 o)).setCell ⟨W.heap.size, 1, none⟩ (.int .i64 a)).setCell ⟨W.heap.size, 2, none⟩ (.slice ad2 (m - k) c2)) := (((Chg.refl _ w6).set (Or.inl (by simp)) _ _).set (Or.inl (by simp)) _ _).set (Or.inl (by simp)) _ _
    refine bodyPost_ret (v := .agg #[.int .i64 o, .int .i64 a, .slice ad2 (m - k) c2]) (by simp [results, Try.results49, go_sem, s0, s1, s2]) rfl ⟨Or.inl ⟨o, a, ad2, (m - k), c2, rfl, HE.out, rfl, rfl, ?_⟩, HS8.out.2⟩
    rw [HD.out]
    exact (HCA.out.chg hcg (fun g hg => by simp at hg; have h1 := HQ5.out.size; simp at h1; show g < w5.heap.size; omega)).down (by have h1 := HQ5.out.size; simp at h1; show W.heap.size ≤ w5.heap.size; omega)
theorem enters_cut1 : ∀ args w, (callFunc 49 args).run Try.prog w = .ok (.enter 49 args) w := fun _ _ => by kernel_rfl
end Go.Proofs.Ythadagpfmacemaa
