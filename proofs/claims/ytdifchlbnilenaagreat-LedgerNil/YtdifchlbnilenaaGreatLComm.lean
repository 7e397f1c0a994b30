/- Which rows are of an aborted transaction: has, isAborted; isThere. -/
import Derived.Test.YtdifchlbnilenaaGreatLMay
import Derived.Test.YtdifchlbnilenaaGreatLIdx
import Derived.Test.YtdifchlbnilenaaGreatLTake1
import Derived.Deep.RegionHeld3
import Derived.OrdersHeld
namespace Go.Proofs.YtdifchlbnilenaaGreat
open Go.RowKit Go.Shelf
variable {w w' : World} {L t M n N : Nat} {vr vo va : Value} {g : Lg}

set_option maxHeartbeats 1000000 in
theorem has_any (x : Gn) (r : Rw) (w : World) : Calls Tryz.prog 131 #[.agg #[.int .i64 x.prod, .int .i64 x.first, .int .i64 x.last], .agg #[.int .i64 r.off, .int .i64 r.prod, .bool r.tx, .string r.rc.key, .string r.rc.val, .bool r.rc.dead]] w fun e w' => e = .returned (.bool (hasG x r)) ∧ Below w.heap.size w w' := by
  obtain ⟨xp, xf, xl⟩ := x
  obtain ⟨ro, rp, rt, ⟨k, v, d⟩⟩ := r
  have HB := hid (((Below.refl _ w).alloc (Nat.le_refl _) (.cells #[.int .i64 xp, .int .i64 xf, .int .i64 xl] 130)).alloc (by simp) (.cells #[.int .i64 ro, .int .i64 rp, .bool rt, .string k, .string v, .bool d] 89))
  cases h1 : (rp == xp) with
  | false =>
    have HR := hid (show hasG ⟨xp, xf, xl⟩ ⟨ro, rp, rt, ⟨k, v, d⟩⟩ = false from by show ((rp == xp) && decide (xf ≤ ro) && decide (ro ≤ xl)) = false; rw [h1]; rfl)
    go_enter Tryz.func131, Tryz.ntmps131
    go_wp2_with fail
    go_ret
    exact ⟨by rw [HR.out]; rfl, HB.out⟩
  | true =>
  cases h2 : decide (xf ≤ ro) with
  | false =>
    have HR := hid (show hasG ⟨xp, xf, xl⟩ ⟨ro, rp, rt, ⟨k, v, d⟩⟩ = false from by show ((rp == xp) && decide (xf ≤ ro) && decide (ro ≤ xl)) = false; rw [h1, h2]; rfl)
    go_enter Tryz.func131, Tryz.ntmps131
    go_wp2_with fail
    go_ret
    exact ⟨by rw [HR.out]; rfl, HB.out⟩
  | true =>
  have HR := hid (show hasG ⟨xp, xf, xl⟩ ⟨ro, rp, rt, ⟨k, v, d⟩⟩ = decide (ro ≤ xl) from by show ((rp == xp) && decide (xf ≤ ro) && decide (ro ≤ xl)) = _; rw [h1, h2]; rfl)
  cases h3 : decide (ro ≤ xl) with
  | false =>
    rw [h3] at HR
    go_enter Tryz.func131, Tryz.ntmps131
    go_wp2_with fail
    go_ret
    exact ⟨by rw [HR.out]; rfl, HB.out⟩
  | true =>
    rw [h3] at HR
    go_enter Tryz.func131, Tryz.ntmps131
    go_wp2_with fail
    go_ret
    exact ⟨by rw [HR.out]; rfl, HB.out⟩
/-- A row in its box. -/
def RBox (w : World) (B : Nat) (r : Rw) : Prop := Blk w B #[.int .i64 r.off, .int .i64 r.prod, .bool r.tx, .string r.rc.key, .string r.rc.val, .bool r.rc.dead] 89
theorem isAborted1_any (x : Gn) (r : Rw) (gc : Nat) (w : World) (h : RBox w gc r) : Calls Tryz.prog 130 #[.agg #[.int .i64 x.prod, .int .i64 x.first, .int .i64 x.last], .pointer (some ⟨gc, 0, none⟩)] w fun e w' => e = .returned (.bool (hasG x r)) ∧ Below w.heap.size w w' := by
  obtain ⟨W0, hW0⟩ : ∃ W0, w.alloc (.cells #[.int .i64 x.prod, .int .i64 x.first, .int .i64 x.last] 130) = W0 := ⟨_, rfl⟩
  have b0 : Below w.heap.size w W0 := by rw [← hW0]; exact (Below.refl _ _).alloc (Nat.le_refl _) _
  have x0 : Blk W0 w.heap.size #[.int .i64 x.prod, .int .i64 x.first, .int .i64 x.last] 130 := by rw [← hW0]; exact heap_alloc_new w _
  have hr : RBox W0 gc r := Blk.later h b0
  have HH := hid (has_any x r W0)
  have HB := hid b0
  have d0 := x0.cell 0
  have d1 := x0.cell 1
  have d2 := x0.cell 2
  unfold RBox at hr
  have c0 := hr.cell 0
  have c1 := hr.cell 1
  have c2 := hr.cell 2
  have c3 := hr.cell 3
  have c4 := hr.cell 4
  have c5 := hr.cell 5
  simp only [List.getElem?_toArray, List.getElem?_cons_zero, List.getElem?_cons_succ] at c0 c1 c2 c3 c4 c5 d0 d1 d2
  clear h hr b0 x0
  generalize hasG x r = z at *
  obtain ⟨xp, xf, xl⟩ := x
  obtain ⟨ro, rp, rt, ⟨k, v, d⟩⟩ := r
  go_enter Tryz.func130, Tryz.ntmps130
  go_wp2_with (go_at_call 131; (with_reducible_and_instances (refine HH.out.mono ?_)); rintro e w1 ⟨rfl, hb1⟩; have HB1 := hid (HB.out.trans (hb1.mono HB.out.size)); clear hb1)
  go_ret
  exact ⟨rfl, HB1.out⟩
theorem isAborted_any (h : LPic0 w L t M n N vr vo va g) (r : Rw) : Calls Tryz.prog 97 #[.pointer (some ⟨L, 0, none⟩), .agg #[.int .i64 r.off, .int .i64 r.prod, .bool r.tx, .string r.rc.key, .string r.rc.val, .bool r.rc.dead]] w fun e w' => e = .returned (.bool (g.dead r)) ∧ Below w.heap.size w w' := by
  obtain ⟨W0, hW0⟩ : ∃ W0, w.alloc (.cells #[.int .i64 r.off, .int .i64 r.prod, .bool r.tx, .string r.rc.key, .string r.rc.val, .bool r.rc.dead] 89) = W0 := ⟨_, rfl⟩
  have b0 : Below w.heap.size w W0 := by rw [← hW0]; exact (Below.refl _ _).alloc (Nat.le_refl _) _
  have x0 : RBox W0 w.heap.size r := by rw [← hW0]; exact heap_alloc_new w _
  obtain ⟨aa, ca, hv, hA⟩ := h.gone.form kGn_ok.tofit
  have c5 := (h.later b0).c5
  rw [hv] at c5
  have HC := hid (containsGone w.heap.size (fun x => hasG x r) (hA.later b0) (fun W hW j hj => isAborted1_any _ r w.heap.size W (Blk.later x0 hW)))
  have e2 := Blk.cell x0 2
  simp only [List.getElem?_toArray, List.getElem?_cons_zero, List.getElem?_cons_succ] at e2
  have HB := hid b0
  have hmf : ∀ (fn : Fn) (first cap : Array Value) (w : World), (Instr.makeFunc fn first cap).run Tryz.prog w = .ok (.func fn first cap) w := fun _ _ _ _ => rfl
  have lx : w.heap.size < W0.heap.size := Blk.lt x0
  have lL := h.lt
  have HDd : Hid (g.dead r = (r.tx && g.gone.any (fun x => hasG x r))) := rfl
  clear h hA hv b0 x0
  generalize g.gone.length = m at *
  cases ht : r.tx with
  | false =>
    have HD2 : Hid (g.dead r = false) := by rw [HDd.out, ht]; exact rfl
    rw [ht] at e2 hW0
    clear HC ht
    go_enter Tryz.func97, Tryz.ntmps97
    go_wp2_with fail
    go_ret
    exact ⟨by rw [HD2.out]; rfl, HB.out⟩
  | true =>
    have HD2 : Hid (g.dead r = g.gone.any (fun x => hasG x r)) := by rw [HDd.out, ht]; exact rfl
    rw [ht] at e2 hW0
    clear ht
    generalize g.gone.any (fun x => hasG x r) = z at *
    go_enter Tryz.func97, Tryz.ntmps97
    go_wp2_with (go_at_call 129; (with_reducible_and_instances (refine HC.out.mono ?_)); rintro e w1 ⟨rfl, hb1⟩; have HB1 := hid (HB.out.trans (hb1.mono HB.out.size)); clear hb1)
    go_ret
    exact ⟨by rw [HD2.out]; rfl, HB1.out⟩
theorem isThere_any (r : Rw) (w : World) : Calls Tryz.prog 54 #[.agg #[.int .i64 r.off, .int .i64 r.prod, .bool r.tx, .string r.rc.key, .string r.rc.val, .bool r.rc.dead]] w fun e w' => e = .returned (.bool true) ∧ Below w.heap.size w w' := by
  have HB := hid ((Below.refl _ w).alloc (Nat.le_refl _) (.cells #[.int .i64 r.off, .int .i64 r.prod, .bool r.tx, .string r.rc.key, .string r.rc.val, .bool r.rc.dead] 89))
  obtain ⟨ro, rp, rt, ⟨k, v, d⟩⟩ := r
  go_enter Tryz.func54, Tryz.ntmps54
  go_wp2_with fail
  go_ret
  exact ⟨rfl, HB.out⟩
end Go.Proofs.YtdifchlbnilenaaGreat

/- isCommitted of a ledger (by genlcomm.py). -/
namespace Go.Proofs.YtdifchlbnilenaaGreat
open Go.RowKit Go.Shelf
variable {w w' : World} {L t M n N : Nat} {vr vo va : Value} {g : Lg}

/-- A row that is committed. -/
def Lg.comm (g : Lg) (r : Rw) : Bool := decide (r.off < g.stable) && !g.dead r
set_option maxHeartbeats 1000000 in
theorem isCommitted_any (h : LPic0 w L t M n N vr vo va g) (r : Rw) : Calls Tryz.prog 55 #[.pointer (some ⟨L, 0, none⟩), .agg #[.int .i64 r.off, .int .i64 r.prod, .bool r.tx, .string r.rc.key, .string r.rc.val, .bool r.rc.dead]] w fun e w' => e = .returned (.bool (g.comm r)) ∧ Below w.heap.size w w' := by
  obtain ⟨ro, rp, rt, ⟨rk, rv, rd⟩⟩ := r
  obtain ⟨W0, hW0⟩ : ∃ W0, w.alloc (.cells #[.int .i64 ro, .int .i64 rp, .bool rt, .string rk, .string rv, .bool rd] 89) = W0 := ⟨_, rfl⟩
  have b0 : Below w.heap.size w W0 := by rw [← hW0]; exact (Below.refl _ _).alloc (Nat.le_refl _) _
  have x0 : RBox W0 w.heap.size ⟨ro, rp, rt, ⟨rk, rv, rd⟩⟩ := by rw [← hW0]; exact heap_alloc_new w _
  have HS : Hid (∀ W, Below W0.heap.size W0 W → (W.cell? ⟨w.heap.size, 0, none⟩ = some (.int .i64 ro)) ∧ (W.cell? ⟨w.heap.size, 1, none⟩ = some (.int .i64 rp)) ∧ (W.cell? ⟨w.heap.size, 2, none⟩ = some (.bool rt)) ∧ (W.cell? ⟨w.heap.size, 3, none⟩ = some (.string rk)) ∧ (W.cell? ⟨w.heap.size, 4, none⟩ = some (.string rv)) ∧ (W.cell? ⟨w.heap.size, 5, none⟩ = some (.bool rd))) := fun W hW => by
    have hx : RBox W w.heap.size ⟨ro, rp, rt, ⟨rk, rv, rd⟩⟩ := Blk.later x0 hW
    exact ⟨Blk.cell hx 0, Blk.cell hx 1, Blk.cell hx 2, Blk.cell hx 3, Blk.cell hx 4, Blk.cell hx 5⟩
  have hp := (h.later b0).later (Below.refl _ W0).drew
  have HSt := hid (stable_any hp)
  have HAb := hid (isAborted_any hp ⟨ro, rp, rt, ⟨rk, rv, rd⟩⟩)
  have HB := hid b0
  have lx : w.heap.size < W0.heap.size := Blk.lt x0
  have HC : Hid (g.comm ⟨ro, rp, rt, ⟨rk, rv, rd⟩⟩ = (decide (ro < g.stable) && !g.dead ⟨ro, rp, rt, ⟨rk, rv, rd⟩⟩)) := rfl
  clear h hp b0 x0
  generalize g.dead ⟨ro, rp, rt, ⟨rk, rv, rd⟩⟩ = z at *
  generalize g.stable = st at *
  cases hlt : decide (ro < st) with
  | true =>
    have HC2 : Hid (g.comm ⟨ro, rp, rt, ⟨rk, rv, rd⟩⟩ = !z) := by rw [HC.out, hlt]; exact rfl
    go_enter Tryz.func55, Tryz.ntmps55
    go_wp2_with fail
    refine wp_region_held_drew (S := fun W => (W.cell? ⟨w.heap.size, 0, none⟩ = some (.int .i64 ro)) ∧ (W.cell? ⟨w.heap.size, 1, none⟩ = some (.int .i64 rp)) ∧ (W.cell? ⟨w.heap.size, 2, none⟩ = some (.bool rt)) ∧ (W.cell? ⟨w.heap.size, 3, none⟩ = some (.string rk)) ∧ (W.cell? ⟨w.heap.size, 4, none⟩ = some (.string rv)) ∧ (W.cell? ⟨w.heap.size, 5, none⟩ = some (.bool rd))) (by kernel_rfl) (HS.out _ (Below.refl _ W0).drew) (fun hHeld => ?_)
    refine wpAnyH_take (i := 0) (oi := { dst := some 5, op := Op.fieldAddr 89 (Operand.tmp 3) 0, type := 0, pos := "rows.go:47", after := #[], guard := none }) (v := ?_) rfl (by kernel_rfl) (by kernel_rfl) (by kernel_rfl) (fun _ _ _ h => h) (Or.inl ⟨by rfl, ?_⟩) hHeld ?_
    rotate_left
    · intro w hSw; (try dsimp only at hSw); go_simp; try with_reducible rfl
    try simp only [Act.put, List.setIfInBounds_toArray, List.set_cons_zero, List.set_cons_succ]
    refine wpAnyH_take (i := 1) (oi := { dst := some 6, op := Op.load 3 (Operand.tmp 5), type := 3, pos := "rows.go:47", after := #[{ on := 0, ground := Ground.data }], guard := none }) (v := ?_) rfl (by kernel_rfl) (by kernel_rfl) (by kernel_rfl) (fun _ _ _ h => h) (Or.inl ⟨by rfl, ?_⟩) hHeld ?_
    rotate_left
    · intro w hSw; (try dsimp only at hSw); go_simp; try with_reducible rfl
    try simp only [Act.put, List.setIfInBounds_toArray, List.set_cons_zero, List.set_cons_succ]
    refine wpAnyH_take (i := 2) (oi := { dst := some 7, op := Op.move (Operand.tmp 0), type := 46, pos := "rows.go:47", after := #[], guard := none }) (v := ?_) rfl (by kernel_rfl) (by kernel_rfl) (by kernel_rfl) (fun _ _ _ h => h) (Or.inl ⟨by rfl, ?_⟩) hHeld ?_
    rotate_left
    · intro w hSw; (try dsimp only at hSw); go_simp; try with_reducible rfl
    try simp only [Act.put, List.setIfInBounds_toArray, List.set_cons_zero, List.set_cons_succ]
    refine wpAnyH_ready (rs := [3]) (by kernel_rfl) (by simp) ?_
    refine AllReadyH.cons rfl (fun K hK => ?_) (AllReadyH.nil)
    go_simp
    go_wp2_with (go_at_call 31; (with_reducible_and_instances (refine HSt.out.mono ?_)); rintro x W1 ⟨rfl, hw1⟩; obtain rfl := hw1.symm)
    refine hK.out _ _ (HS.out _ (Below.refl _ W0).drew) (fun hHeld => ?_)
    clear hK K
    try simp only [Act.put, List.setIfInBounds_toArray, List.set_cons_zero, List.set_cons_succ]
    refine wpAnyH_take (i := 4) (oi := { dst := some 9, op := Op.binOp BinOp.lss 3 (Operand.tmp 6) (Operand.tmp 8) 3, type := 4, pos := "rows.go:47", after := #[{ on := 1, ground := Ground.data }, { on := 3, ground := Ground.data }], guard := none }) (v := ?_) rfl (by kernel_rfl) (by kernel_rfl) (by kernel_rfl) (fun _ _ _ h => h) (Or.inl ⟨by rfl, ?_⟩) hHeld ?_
    rotate_left
    · intro w hSw; (try dsimp only at hSw); go_simp; try with_reducible rfl
    try simp only [Act.put, List.setIfInBounds_toArray, List.set_cons_zero, List.set_cons_succ]
    refine wpAnyH_take (i := 5) (oi := { dst := some 10, op := Op.move (Operand.tmp 9), type := 4, pos := "rows.go:47", after := #[{ on := 4, ground := Ground.data }, { on := 3, ground := Ground.chain }], guard := none }) (v := ?_) rfl (by kernel_rfl) (by kernel_rfl) (by kernel_rfl) (fun _ _ _ h => h) (Or.inl ⟨by rfl, ?_⟩) hHeld ?_
    rotate_left
    · intro w hSw; (try dsimp only at hSw); go_simp; try with_reducible rfl
    try simp only [Act.put, List.setIfInBounds_toArray, List.set_cons_zero, List.set_cons_succ]
    refine wpAnyH_take (i := 6) (oi := { dst := some 11, op := Op.move (Operand.tmp 0), type := 46, pos := "rows.go:47", after := #[{ on := 5, ground := Ground.guard }], guard := some (5, true) }) (v := ?_) rfl (by kernel_rfl) (by kernel_rfl) (by kernel_rfl) (fun _ _ _ h => h) (Or.inl ⟨by rfl, ?_⟩) hHeld ?_
    rotate_left
    · intro w hSw; (try dsimp only at hSw); go_simp; try with_reducible rfl
    try simp only [Act.put, List.setIfInBounds_toArray, List.set_cons_zero, List.set_cons_succ]
    refine wpAnyH_take (i := 7) (oi := { dst := some 12, op := Op.load 89 (Operand.tmp 3), type := 89, pos := "rows.go:47", after := #[{ on := 5, ground := Ground.guard }], guard := some (5, true) }) (v := ?_) rfl (by kernel_rfl) (by kernel_rfl) (by kernel_rfl) (fun _ _ _ h => h) (Or.inl ⟨by rfl, ?_⟩) hHeld ?_
    rotate_left
    · intro w hSw; (try dsimp only at hSw); go_simp; try with_reducible rfl
    try simp only [Act.put, List.setIfInBounds_toArray, List.set_cons_zero, List.set_cons_succ]
    refine wpAnyH_ready (rs := [8]) (by kernel_rfl) (by simp) ?_
    refine AllReadyH.cons rfl (fun K hK => ?_) (AllReadyH.nil)
    go_simp
    go_wp2_with (go_at_call 97; (with_reducible_and_instances (refine HAb.out.mono ?_)); rintro x W2 ⟨rfl, hb2⟩; have HB2 := hid ((Below.refl _ W0).drew.trans hb2); clear hb2)
    refine hK.out _ _ (HS.out _ HB2.out) (fun hHeld => ?_)
    clear hK K
    try simp only [Act.put, List.setIfInBounds_toArray, List.set_cons_zero, List.set_cons_succ]
    refine wpAnyH_take (i := 9) (oi := { dst := some 14, op := Op.unOp UnOp.not 4 (Operand.tmp 13), type := 4, pos := "rows.go:47", after := #[{ on := 8, ground := Ground.data }, { on := 5, ground := Ground.guard }], guard := some (5, true) }) (v := ?_) rfl (by kernel_rfl) (by kernel_rfl) (by kernel_rfl) (fun _ _ _ h => h) (Or.inl ⟨by rfl, ?_⟩) hHeld ?_
    rotate_left
    · intro w hSw; (try dsimp only at hSw); go_simp; try with_reducible rfl
    try simp only [Act.put, List.setIfInBounds_toArray, List.set_cons_zero, List.set_cons_succ]
    refine wpAnyH_take (i := 10) (oi := { dst := some 15, op := Op.pick (Operand.tmp 10) (Operand.tmp 14) (Operand.const (Value.bool false)), type := 4, pos := "rows.go:47", after := #[{ on := 5, ground := Ground.data }, { on := 9, ground := Ground.data }], guard := none }) (v := ?_) rfl (by kernel_rfl) (by kernel_rfl) (by kernel_rfl) (fun _ _ _ h => h) (Or.inl ⟨by rfl, ?_⟩) hHeld ?_
    rotate_left
    · intro w hSw; (try dsimp only at hSw); go_simp; try with_reducible rfl
    try simp only [Act.put, List.setIfInBounds_toArray, List.set_cons_zero, List.set_cons_succ]
    refine wpAnyH_take (i := 11) (oi := { dst := some 4, op := Op.assign (Operand.tmp 15), type := 4, pos := "rows.go:47", after := #[{ on := 10, ground := Ground.data }, { on := 8, ground := Ground.chain }, { on := 0, ground := Ground.phase }, { on := 1, ground := Ground.phase }, { on := 2, ground := Ground.phase }, { on := 3, ground := Ground.phase }, { on := 4, ground := Ground.phase }, { on := 5, ground := Ground.phase }, { on := 6, ground := Ground.phase }, { on := 7, ground := Ground.phase }, { on := 8, ground := Ground.phase }, { on := 9, ground := Ground.phase }, { on := 10, ground := Ground.phase }], guard := none }) (v := ?_) rfl (by kernel_rfl) (by kernel_rfl) (by kernel_rfl) (fun _ _ _ h => h) (Or.inl ⟨by rfl, ?_⟩) hHeld ?_
    rotate_left
    · intro w hSw; (try dsimp only at hSw); go_simp; try with_reducible rfl
    try simp only [Act.put, List.setIfInBounds_toArray, List.set_cons_zero, List.set_cons_succ]
    refine wpAnyH_done (by kernel_rfl) ?_ _
    clear hHeld
    go_wp2_with fail
    go_ret
    exact ⟨by rw [HC2.out]; rfl, HB.out.trans (HB2.out.mono HB.out.size)⟩
  | false =>
    have HC2 : Hid (g.comm ⟨ro, rp, rt, ⟨rk, rv, rd⟩⟩ = false) := by rw [HC.out, hlt]; exact rfl
    go_enter Tryz.func55, Tryz.ntmps55
    go_wp2_with fail
    refine wp_region_held_drew (S := fun W => (W.cell? ⟨w.heap.size, 0, none⟩ = some (.int .i64 ro)) ∧ (W.cell? ⟨w.heap.size, 1, none⟩ = some (.int .i64 rp)) ∧ (W.cell? ⟨w.heap.size, 2, none⟩ = some (.bool rt)) ∧ (W.cell? ⟨w.heap.size, 3, none⟩ = some (.string rk)) ∧ (W.cell? ⟨w.heap.size, 4, none⟩ = some (.string rv)) ∧ (W.cell? ⟨w.heap.size, 5, none⟩ = some (.bool rd))) (by kernel_rfl) (HS.out _ (Below.refl _ W0).drew) (fun hHeld => ?_)
    refine wpAnyH_take (i := 0) (oi := { dst := some 5, op := Op.fieldAddr 89 (Operand.tmp 3) 0, type := 0, pos := "rows.go:47", after := #[], guard := none }) (v := ?_) rfl (by kernel_rfl) (by kernel_rfl) (by kernel_rfl) (fun _ _ _ h => h) (Or.inl ⟨by rfl, ?_⟩) hHeld ?_
    rotate_left
    · intro w hSw; (try dsimp only at hSw); go_simp; try with_reducible rfl
    try simp only [Act.put, List.setIfInBounds_toArray, List.set_cons_zero, List.set_cons_succ]
    refine wpAnyH_take (i := 1) (oi := { dst := some 6, op := Op.load 3 (Operand.tmp 5), type := 3, pos := "rows.go:47", after := #[{ on := 0, ground := Ground.data }], guard := none }) (v := ?_) rfl (by kernel_rfl) (by kernel_rfl) (by kernel_rfl) (fun _ _ _ h => h) (Or.inl ⟨by rfl, ?_⟩) hHeld ?_
    rotate_left
    · intro w hSw; (try dsimp only at hSw); go_simp; try with_reducible rfl
    try simp only [Act.put, List.setIfInBounds_toArray, List.set_cons_zero, List.set_cons_succ]
    refine wpAnyH_take (i := 2) (oi := { dst := some 7, op := Op.move (Operand.tmp 0), type := 46, pos := "rows.go:47", after := #[], guard := none }) (v := ?_) rfl (by kernel_rfl) (by kernel_rfl) (by kernel_rfl) (fun _ _ _ h => h) (Or.inl ⟨by rfl, ?_⟩) hHeld ?_
    rotate_left
    · intro w hSw; (try dsimp only at hSw); go_simp; try with_reducible rfl
    try simp only [Act.put, List.setIfInBounds_toArray, List.set_cons_zero, List.set_cons_succ]
    refine wpAnyH_ready (rs := [3]) (by kernel_rfl) (by simp) ?_
    refine AllReadyH.cons rfl (fun K hK => ?_) (AllReadyH.nil)
    go_simp
    go_wp2_with (go_at_call 31; (with_reducible_and_instances (refine HSt.out.mono ?_)); rintro x W1 ⟨rfl, hw1⟩; obtain rfl := hw1.symm)
    refine hK.out _ _ (HS.out _ (Below.refl _ W0).drew) (fun hHeld => ?_)
    clear hK K
    try simp only [Act.put, List.setIfInBounds_toArray, List.set_cons_zero, List.set_cons_succ]
    refine wpAnyH_take (i := 4) (oi := { dst := some 9, op := Op.binOp BinOp.lss 3 (Operand.tmp 6) (Operand.tmp 8) 3, type := 4, pos := "rows.go:47", after := #[{ on := 1, ground := Ground.data }, { on := 3, ground := Ground.data }], guard := none }) (v := ?_) rfl (by kernel_rfl) (by kernel_rfl) (by kernel_rfl) (fun _ _ _ h => h) (Or.inl ⟨by rfl, ?_⟩) hHeld ?_
    rotate_left
    · intro w hSw; (try dsimp only at hSw); go_simp; try with_reducible rfl
    try simp only [Act.put, List.setIfInBounds_toArray, List.set_cons_zero, List.set_cons_succ]
    refine wpAnyH_take (i := 5) (oi := { dst := some 10, op := Op.move (Operand.tmp 9), type := 4, pos := "rows.go:47", after := #[{ on := 4, ground := Ground.data }, { on := 3, ground := Ground.chain }], guard := none }) (v := ?_) rfl (by kernel_rfl) (by kernel_rfl) (by kernel_rfl) (fun _ _ _ h => h) (Or.inl ⟨by rfl, ?_⟩) hHeld ?_
    rotate_left
    · intro w hSw; (try dsimp only at hSw); go_simp; try with_reducible rfl
    try simp only [Act.put, List.setIfInBounds_toArray, List.set_cons_zero, List.set_cons_succ]
    refine wpAnyH_take (i := 6) (oi := { dst := some 11, op := Op.move (Operand.tmp 0), type := 46, pos := "rows.go:47", after := #[{ on := 5, ground := Ground.guard }], guard := some (5, true) }) (v := undef) rfl (by kernel_rfl) (by kernel_rfl) (by kernel_rfl) (fun _ _ _ h => h) (Or.inr ⟨by kernel_rfl, rfl⟩) hHeld ?_
    try simp only [Act.put, List.setIfInBounds_toArray, List.set_cons_zero, List.set_cons_succ]
    refine wpAnyH_take (i := 7) (oi := { dst := some 12, op := Op.load 89 (Operand.tmp 3), type := 89, pos := "rows.go:47", after := #[{ on := 5, ground := Ground.guard }], guard := some (5, true) }) (v := undef) rfl (by kernel_rfl) (by kernel_rfl) (by kernel_rfl) (fun _ _ _ h => h) (Or.inr ⟨by kernel_rfl, rfl⟩) hHeld ?_
    try simp only [Act.put, List.setIfInBounds_toArray, List.set_cons_zero, List.set_cons_succ]
    refine wpAnyH_take (i := 8) (oi := { dst := some 13, op := Op.call { callee := Callee.value (Operand.func 97), args := #[Operand.tmp 11, Operand.tmp 12], argTypes := #[46, 89] }, type := 4, pos := "rows.go:47", after := #[{ on := 6, ground := Ground.data }, { on := 7, ground := Ground.data }, { on := 5, ground := Ground.chain }, { on := 5, ground := Ground.guard }], guard := some (5, true) }) (v := undef) rfl (by kernel_rfl) (by kernel_rfl) (by kernel_rfl) (fun _ _ _ h => h) (Or.inr ⟨by kernel_rfl, rfl⟩) hHeld ?_
    try simp only [Act.put, List.setIfInBounds_toArray, List.set_cons_zero, List.set_cons_succ]
    refine wpAnyH_take (i := 9) (oi := { dst := some 14, op := Op.unOp UnOp.not 4 (Operand.tmp 13), type := 4, pos := "rows.go:47", after := #[{ on := 8, ground := Ground.data }, { on := 5, ground := Ground.guard }], guard := some (5, true) }) (v := undef) rfl (by kernel_rfl) (by kernel_rfl) (by kernel_rfl) (fun _ _ _ h => h) (Or.inr ⟨by kernel_rfl, rfl⟩) hHeld ?_
    try simp only [Act.put, List.setIfInBounds_toArray, List.set_cons_zero, List.set_cons_succ]
    refine wpAnyH_take (i := 10) (oi := { dst := some 15, op := Op.pick (Operand.tmp 10) (Operand.tmp 14) (Operand.const (Value.bool false)), type := 4, pos := "rows.go:47", after := #[{ on := 5, ground := Ground.data }, { on := 9, ground := Ground.data }], guard := none }) (v := ?_) rfl (by kernel_rfl) (by kernel_rfl) (by kernel_rfl) (fun _ _ _ h => h) (Or.inl ⟨by rfl, ?_⟩) hHeld ?_
    rotate_left
    · intro w hSw; (try dsimp only at hSw); go_simp; try with_reducible rfl
    try simp only [Act.put, List.setIfInBounds_toArray, List.set_cons_zero, List.set_cons_succ]
    refine wpAnyH_take (i := 11) (oi := { dst := some 4, op := Op.assign (Operand.tmp 15), type := 4, pos := "rows.go:47", after := #[{ on := 10, ground := Ground.data }, { on := 8, ground := Ground.chain }, { on := 0, ground := Ground.phase }, { on := 1, ground := Ground.phase }, { on := 2, ground := Ground.phase }, { on := 3, ground := Ground.phase }, { on := 4, ground := Ground.phase }, { on := 5, ground := Ground.phase }, { on := 6, ground := Ground.phase }, { on := 7, ground := Ground.phase }, { on := 8, ground := Ground.phase }, { on := 9, ground := Ground.phase }, { on := 10, ground := Ground.phase }], guard := none }) (v := ?_) rfl (by kernel_rfl) (by kernel_rfl) (by kernel_rfl) (fun _ _ _ h => h) (Or.inl ⟨by rfl, ?_⟩) hHeld ?_
    rotate_left
    · intro w hSw; (try dsimp only at hSw); go_simp; try with_reducible rfl
    try simp only [Act.put, List.setIfInBounds_toArray, List.set_cons_zero, List.set_cons_succ]
    refine wpAnyH_done (by kernel_rfl) ?_ _
    clear hHeld
    go_wp2_with fail
    go_ret
    exact ⟨by rw [HC2.out]; rfl, HB.out.trans (Below.refl _ W0).drew |>.mono (Nat.le_refl _)⟩
end Go.Proofs.YtdifchlbnilenaaGreat
