/- Which rows are of an aborted transaction: has, isAborted; isThere. choose, as plain data. choose of Rows, over what the function tells (by genlchoose.py). rowsFrom of a ledger: slices.BinarySearchFunc of its rows. -/
import Derived.Test.YtfgamkcnnijloaaGreatPZSm
import Derived.Test.YtfgamkcnnijloaaGreatPZFd
import Derived.Test.YtfgamkcnnijloaaGreatPZTk
import Derived.Test.YtfgamkcnnijloaaGreatPZN
import Derived.WalkLawsBesides
namespace Go.Proofs.YtfgamkcnnijloaaGreat
open Go.RowKit Go.Shelf
variable {w w' : World} {L t M n N : Nat} {vr vo va : Value} {g : Lg}

set_option maxHeartbeats 1000000 in
theorem has_any (x : Gn) (r : Rw) (w : World) : Calls Tryz.prog 84 #[.agg #[.int .i64 x.prod, .int .i64 x.first, .int .i64 x.last], .agg #[.int .i64 r.off, .int .i64 r.prod, .bool r.tx, .string r.rc.key, .string r.rc.val, .bool r.rc.dead]] w fun e w' => e = .returned (.bool (hasG x r)) ∧ Below w.heap.size w w' := by
  obtain ⟨xp, xf, xl⟩ := x
  obtain ⟨ro, rp, rt, ⟨k, v, d⟩⟩ := r
  have HB := hid (((Below.refl _ w).alloc (Nat.le_refl _) (.cells #[.int .i64 xp, .int .i64 xf, .int .i64 xl] 75)).alloc (by simp) (.cells #[.int .i64 ro, .int .i64 rp, .bool rt, .string k, .string v, .bool d] 51))
  cases h1 : (rp == xp) with
  | false =>
    have HR := hid (show hasG ⟨xp, xf, xl⟩ ⟨ro, rp, rt, ⟨k, v, d⟩⟩ = false from by show ((rp == xp) && decide (xf ≤ ro) && decide (ro ≤ xl)) = false; rw [h1]; rfl)
    go_enter Tryz.func84, Tryz.ntmps84
    go_wp2_with fail
    go_ret
    exact ⟨by rw [HR.out]; rfl, HB.out⟩
  | true =>
  cases h2 : decide (xf ≤ ro) with
  | false =>
    have HR := hid (show hasG ⟨xp, xf, xl⟩ ⟨ro, rp, rt, ⟨k, v, d⟩⟩ = false from by show ((rp == xp) && decide (xf ≤ ro) && decide (ro ≤ xl)) = false; rw [h1, h2]; rfl)
    go_enter Tryz.func84, Tryz.ntmps84
    go_wp2_with fail
    go_ret
    exact ⟨by rw [HR.out]; rfl, HB.out⟩
  | true =>
  have HR := hid (show hasG ⟨xp, xf, xl⟩ ⟨ro, rp, rt, ⟨k, v, d⟩⟩ = decide (ro ≤ xl) from by show ((rp == xp) && decide (xf ≤ ro) && decide (ro ≤ xl)) = _; rw [h1, h2]; rfl)
  cases h3 : decide (ro ≤ xl) with
  | false =>
    rw [h3] at HR
    go_enter Tryz.func84, Tryz.ntmps84
    go_wp2_with fail
    go_ret
    exact ⟨by rw [HR.out]; rfl, HB.out⟩
  | true =>
    rw [h3] at HR
    go_enter Tryz.func84, Tryz.ntmps84
    go_wp2_with fail
    go_ret
    exact ⟨by rw [HR.out]; rfl, HB.out⟩
/-- A row in its box. -/
def RwBox (w : World) (B : Nat) (r : Rw) : Prop := Blk w B #[.int .i64 r.off, .int .i64 r.prod, .bool r.tx, .string r.rc.key, .string r.rc.val, .bool r.rc.dead] 51
theorem isAborted1_any (x : Gn) (r : Rw) (gc : Nat) (w : World) (h : RwBox w gc r) : Calls Tryz.prog 83 #[.agg #[.int .i64 x.prod, .int .i64 x.first, .int .i64 x.last], .pointer (some ⟨gc, 0, none⟩)] w fun e w' => e = .returned (.bool (hasG x r)) ∧ Below w.heap.size w w' := by
  obtain ⟨W0, hW0⟩ : ∃ W0, w.alloc (.cells #[.int .i64 x.prod, .int .i64 x.first, .int .i64 x.last] 75) = W0 := ⟨_, rfl⟩
  have b0 : Below w.heap.size w W0 := by rw [← hW0]; exact (Below.refl _ _).alloc (Nat.le_refl _) _
  have x0 : Blk W0 w.heap.size #[.int .i64 x.prod, .int .i64 x.first, .int .i64 x.last] 75 := by rw [← hW0]; exact heap_alloc_new w _
  have hr : RwBox W0 gc r := Blk.later h b0
  have HH := hid (has_any x r W0)
  have HB := hid b0
  have d0 := x0.cell 0
  have d1 := x0.cell 1
  have d2 := x0.cell 2
  unfold RwBox at hr
  have c0 := hr.cell 0
  have c1 := hr.cell 1
  have c2 := hr.cell 2
  have c3 := hr.cell 3
  have c4 := hr.cell 4
  have c5 := hr.cell 5
  simp only [List.getElem?_toArray, List.getElem?_cons_zero, List.getElem?_cons_succ] at c0 c1 c2 c3 c4 c5 d0 d1 d2
  clear h hr b0 x0
  generalize hasG x r = z at *
  obtain ⟨xp, xf, xl⟩ := x
  obtain ⟨ro, rp, rt, ⟨k, v, d⟩⟩ := r
  go_enter Tryz.func83, Tryz.ntmps83
  go_wp2_with (go_at_call 84; (with_reducible_and_instances (refine HH.out.mono ?_)); rintro e w1 ⟨rfl, hb1⟩; have HB1 := hid (HB.out.trans (hb1.mono HB.out.size)); clear hb1)
  go_ret
  exact ⟨rfl, HB1.out⟩
theorem isAborted_any (h : LPic0 w L t M n N vr vo va g) (r : Rw) : Calls Tryz.prog 53 #[.pointer (some ⟨L, 0, none⟩), .agg #[.int .i64 r.off, .int .i64 r.prod, .bool r.tx, .string r.rc.key, .string r.rc.val, .bool r.rc.dead]] w fun e w' => e = .returned (.bool (g.dead r)) ∧ Below w.heap.size w w' := by
  obtain ⟨W0, hW0⟩ : ∃ W0, w.alloc (.cells #[.int .i64 r.off, .int .i64 r.prod, .bool r.tx, .string r.rc.key, .string r.rc.val, .bool r.rc.dead] 51) = W0 := ⟨_, rfl⟩
  have b0 : Below w.heap.size w W0 := by rw [← hW0]; exact (Below.refl _ _).alloc (Nat.le_refl _) _
  have x0 : RwBox W0 w.heap.size r := by rw [← hW0]; exact heap_alloc_new w _
  obtain ⟨aa, ca, hv, hA⟩ := h.gone.form kGn_ok.tofit
  have c5 := (h.later b0).c5
  rw [hv] at c5
  have HC := hid (containsGone w.heap.size (fun x => hasG x r) (hA.later b0) (fun W hW j hj => isAborted1_any _ r w.heap.size W (Blk.later x0 hW)))
  have e2 := Blk.cell x0 2
  simp only [List.getElem?_toArray, List.getElem?_cons_zero, List.getElem?_cons_succ] at e2
  have HB := hid b0
  have hmf : ∀ (fn : Fn) (first cap : Array Value) (w : World), (Instr.makeFunc fn first cap).run Tryz.prog w = .ok (.func fn first cap) w := fun _ _ _ _ => rfl
  have lx : w.heap.size < W0.heap.size := Blk.lt x0
  have lL := h.lt
  have HDd : Hid (g.dead r = (r.tx && g.gone.any (fun x => hasG x r))) := rfl
  clear h hA hv b0 x0
  generalize g.gone.length = m at *
  cases ht : r.tx with
  | false =>
    have HD2 : Hid (g.dead r = false) := by rw [HDd.out, ht]; exact rfl
    rw [ht] at e2 hW0
    clear HC ht
    go_enter Tryz.func53, Tryz.ntmps53
    go_wp2_with fail
    go_ret
    exact ⟨by rw [HD2.out]; rfl, HB.out⟩
  | true =>
    have HD2 : Hid (g.dead r = g.gone.any (fun x => hasG x r)) := by rw [HDd.out, ht]; exact rfl
    rw [ht] at e2 hW0
    clear ht
    generalize g.gone.any (fun x => hasG x r) = z at *
    go_enter Tryz.func53, Tryz.ntmps53
    go_wp2_with (go_at_call 82; (with_reducible_and_instances (refine HC.out.mono ?_)); rintro e w1 ⟨rfl, hb1⟩; have HB1 := hid (HB.out.trans (hb1.mono HB.out.size)); clear hb1)
    go_ret
    exact ⟨by rw [HD2.out]; rfl, HB1.out⟩
theorem isThere_any (r : Rw) (w : World) : Calls Tryz.prog 32 #[.agg #[.int .i64 r.off, .int .i64 r.prod, .bool r.tx, .string r.rc.key, .string r.rc.val, .bool r.rc.dead]] w fun e w' => e = .returned (.bool true) ∧ Below w.heap.size w w' := by
  have HB := hid ((Below.refl _ w).alloc (Nat.le_refl _) (.cells #[.int .i64 r.off, .int .i64 r.prod, .bool r.tx, .string r.rc.key, .string r.rc.val, .bool r.rc.dead] 51))
  obtain ⟨ro, rp, rt, ⟨k, v, d⟩⟩ := r
  go_enter Tryz.func32, Tryz.ntmps32
  go_wp2_with fail
  go_ret
  exact ⟨rfl, HB.out⟩
end Go.Proofs.YtfgamkcnnijloaaGreat
namespace Go.Proofs.YtfgamkcnnijloaaGreat
variable {α : Type} {p : α → Bool}
theorem choose_le (m : Nat) (l : List α) : (chooseN p m l).length ≤ m := by
  induction l generalizing m with
  | nil => cases m <;> simp [chooseN]
  | cons a l ih =>
    cases m with
    | zero => simp [chooseN]
    | succ m =>
      unfold chooseN
      split
      · have := ih m; simp; omega
      · exact ih (m + 1)
theorem choose_cons (m : Nat) (a : α) (l : List α) : chooseN p (m + 1) (a :: l) = if p a = true then a :: chooseN p m l else chooseN p (m + 1) l := rfl
theorem choose_app (m : Nat) (l k : List α) : chooseN p m (l ++ k) = chooseN p m l ++ chooseN p (m - (chooseN p m l).length) k := by
  induction l generalizing m with
  | nil => cases m <;> simp [chooseN]
  | cons a l ih =>
    cases m with
    | zero => cases k <;> simp [chooseN]
    | succ m =>
      rw [List.cons_append, choose_cons, choose_cons]
      cases hp : p a with
      | true =>
        rw [if_pos rfl, if_pos rfl, ih m, List.length_cons, List.cons_append]
        rw [show m + 1 - ((chooseN p m l).length + 1) = m - (chooseN p m l).length by omega]
      | false =>
        rw [if_neg (by simp), if_neg (by simp)]
        exact ih (m + 1)
theorem choose_zero (l : List α) : chooseN p 0 l = [] := by cases l <;> rfl
/-- Enough were chosen. -/
theorem choose_full {m : Nat} {l k : List α} (h : (chooseN p m l).length = m) : chooseN p m (l ++ k) = chooseN p m l := by
  rw [choose_app, h, Nat.sub_self, choose_zero, List.append_nil]
theorem choose_hit {m : Nat} {l : List α} {a : α} (h : (chooseN p m l).length ≠ m) (hp : p a = true) : chooseN p m (l ++ [a]) = chooseN p m l ++ [a] := by
  have := choose_le (p := p) m l
  obtain ⟨q, hq⟩ : ∃ q, m - (chooseN p m l).length = q + 1 := ⟨m - (chooseN p m l).length - 1, by omega⟩
  rw [choose_app, hq]
  rw [choose_cons, if_pos hp]
  cases q <;> simp [chooseN]
theorem choose_miss {m : Nat} {l : List α} {a : α} (hp : p a = false) : chooseN p m (l ++ [a]) = chooseN p m l := by
  rw [choose_app]
  cases m - (chooseN p m l).length with
  | zero => simp [chooseN]
  | succ q => rw [choose_cons, if_neg (by rw [hp]; simp)]; simp [chooseN]
theorem take_snoc_any (l : List α) (z : α) (j : Nat) (h : j < l.length) : l.take (j + 1) = l.take j ++ [l.getD j z] := by
  rw [List.take_succ_eq_append_getElem h, List.getD_eq_getElem?_getD, List.getElem?_eq_getElem h]; rfl
end Go.Proofs.YtfgamkcnnijloaaGreat
namespace Go.Proofs.YtfgamkcnnijloaaGreat
open Go.RowKit Go.Shelf
variable {w w' : World} {ad : Option Addr} {m c : Nat}

theorem rw_rowP (W : World) (x : Rw) : RowK kRw (W.alloc (.cells #[.int .i64 x.off, .int .i64 x.prod, .bool x.tx, .string x.rc.key, .string x.rc.val, .bool x.rc.dead] 51)) (some ⟨W.heap.size, 0, none⟩) [x] := rw_row W x
theorem chosen_step {w W w5 : World} {v v' : Value} {l l' : List Rw} {o : Obj} (hb : Below w.heap.size w W) (hO : OwnK kRw W w.heap.size v l) (hown : OwnK kRw w5 w.heap.size v' l') (hg : (W.alloc o).grownBy w5 v.ownBlock) : Below w.heap.size w w5 ∧ ∃ a c, v' = .slice a l'.length c := by
  refine ⟨?_, ?_⟩
  · refine (hb.alloc hb.size o).grown hg (by simp; have := hb.size; omega) (fun k hk => (hO.block k hk).1)
  · obtain ⟨a, c, h, -⟩ := hown.form kRw_ok.tofit
    exact ⟨a, c, h⟩
set_option maxHeartbeats 2000000 in
theorem chooseThere {l : List Rw} (p : Rw → Bool) (h : ArgK kRw w l ad m c) (most : Nat) (hmo : most ≤ 9223372036854775807) (hby : m * 64 ≤ 140737488355328) (hp : ∀ W, Below w.heap.size w W → ∀ j, j < m → Calls Tryz.prog 32 #[.agg #[.int .i64 (l.getD j rw0).off, .int .i64 (l.getD j rw0).prod, .bool (l.getD j rw0).tx, .string (l.getD j rw0).rc.key, .string (l.getD j rw0).rc.val, .bool (l.getD j rw0).rc.dead]] W fun e w' => e = .returned (.bool (p (l.getD j rw0))) ∧ Below W.heap.size W w') :
    Calls Tryz.prog 30 #[.slice ad m c, .int .i64 (most : Int), .func (.func 32) #[] #[]] w fun e w' => ∃ v, e = .returned v ∧ OwnK kRw w' w.heap.size v (chooseN p most l) ∧ Below w.heap.size w w' := by
  have H := hid h
  have HPp := hid hp
  have hm : m ≤ 9223372036854775807 := by have := h.cap; have := h.room; unfold maxLen at this; omega
  have HBy := hid hby
  clear h hp hby
  go_enter Tryz.func30, Tryz.ntmps30
  go_wp2_with fail
  go_loopw [7, 12] (fun v i wr => ∃ (j k : Nat), j ≤ m ∧ k ≤ j ∧ i = .int .i64 (j : Int) ∧ (∃ a c, v = .slice a k c) ∧ Hid ((chooseN p most (l.take j)).length = k) ∧ Hid (OwnK kRw wr w.heap.size v (chooseN p most (l.take j))) ∧ Hid (Below w.heap.size w wr)) (fun _ i _ => m - (intOf i).toNat)
  case atStart => exact ⟨0, 0, by omega, by omega, rfl, ⟨none, 0, rfl⟩, (by rw [List.take_zero]; cases most <;> exact rfl), (by rw [List.take_zero]; cases most <;> exact OwnK.nil _ _), Below.refl _ _⟩
  case round =>
    obtain ⟨j, k, hj, hkj, rfl, ⟨av, cv, rfl⟩, HK, HO, HB⟩ := hrel
    by_cases hlt : j < m
    · have H2 := H.out.later HB.out
      obtain ⟨b, off, rfl, hs, hc⟩ := H2.cells (by omega)
      have HL : Hid (j < l.length) := by rw [H.out.len]; exact hlt
      have HTk := hid (take_snoc_any l rw0 j HL.out)
      have r0 : wr.cell? ⟨b, off + j * 6, none⟩ = some (.int .i64 (l.getD j rw0).off) := hc j hlt 0 (by decide)
      have r1 : wr.cell? ⟨b, off + j * 6 + 1, none⟩ = some (.int .i64 (l.getD j rw0).prod) := hc j hlt 1 (by decide)
      have r2 : wr.cell? ⟨b, off + j * 6 + 2, none⟩ = some (.bool (l.getD j rw0).tx) := hc j hlt 2 (by decide)
      have r3 : wr.cell? ⟨b, off + j * 6 + 3, none⟩ = some (.string (l.getD j rw0).rc.key) := hc j hlt 3 (by decide)
      have r4 : wr.cell? ⟨b, off + j * 6 + 4, none⟩ = some (.string (l.getD j rw0).rc.val) := hc j hlt 4 (by decide)
      have r5 : wr.cell? ⟨b, off + j * 6 + 5, none⟩ = some (.bool (l.getD j rw0).rc.dead) := hc j hlt 5 (by decide)
      obtain ⟨W1, hW1⟩ : ∃ W1, wr.alloc (.cells #[.int .i64 (l.getD j rw0).off, .int .i64 (l.getD j rw0).prod, .bool (l.getD j rw0).tx, .string (l.getD j rw0).rc.key, .string (l.getD j rw0).rc.val, .bool (l.getD j rw0).rc.dead] 51) = W1 := ⟨_, rfl⟩
      have b1 : Below wr.heap.size wr W1 := by rw [← hW1]; exact (Below.refl _ _).alloc (Nat.le_refl _) _
      have x1 : RwBox W1 wr.heap.size (l.getD j rw0) := by rw [← hW1]; exact heap_alloc_new wr _
      have HB1 := hid (HB.out.trans (b1.mono HB.out.size))
      have HO1 := hid (HO.out.later b1)
      have HC := hid (HPp.out W1 HB1.out j hlt)
      have HX1 := hid x1
      have lx : wr.heap.size < W1.heap.size := Blk.lt x1
      have hszb : w.heap.size ≤ wr.heap.size := HB.out.size
      have HAt : Hid (l.getD j rw0 = l.getD j rw0) := rfl
      clear hc hs H2 b1 x1
      obtain ⟨y, hy⟩ : ∃ y, l.getD j rw0 = y := ⟨_, rfl⟩
      rw [hy] at r0 r1 r2 r3 r4 r5 hW1 HC HTk HX1
      clear HAt hy
      obtain ⟨ro, rp, rt, ⟨rk, rv, rd⟩⟩ := y
      by_cases hfull : k = most
      · subst hfull
        have HFin : Hid (chooseN p k l = chooseN p k (l.take j)) := by
          have e : l = l.take j ++ l.drop j := (List.take_append_drop j l).symm
          have := choose_full (k := l.drop j) HK.out
          rw [← e] at this
          exact this
        have hke : ((k : Int) == (k : Int)) = true := by simp
        clear HC
        go_wp2_with fail
        go_ret
        exact ⟨_, rfl, by rw [HFin.out]; exact HO1.out, HB1.out⟩
      · have hkn : ((k : Int) == (most : Int)) = false := by simp; omega
        have HNf : Hid ((chooseN p most (l.take j)).length ≠ most) := by rw [HK.out]; exact hfull
        have d0 := Blk.cell HX1.out 0
        have d1 := Blk.cell HX1.out 1
        have d2 := Blk.cell HX1.out 2
        have d3 := Blk.cell HX1.out 3
        have d4 := Blk.cell HX1.out 4
        have d5 := Blk.cell HX1.out 5
        simp only [List.getElem?_toArray, List.getElem?_cons_zero, List.getElem?_cons_succ] at d0 d1 d2 d3 d4 d5
        clear hfull
        cases hpy : p ⟨ro, rp, rt, ⟨rk, rv, rd⟩⟩ with
        | true =>
          rw [hpy] at HC
          have HN2 := hid (choose_hit HNf.out hpy)
          rw [← HTk.out] at HN2
          clear hpy
          go_wp2_with (first
            | (go_at_call 32; (with_reducible_and_instances (refine HC.out.mono ?_)); rintro e w2 ⟨rfl, hb2⟩; have hx2 : RwBox w2 wr.heap.size ⟨ro, rp, rt, ⟨rk, rv, rd⟩⟩ := Blk.later HX1.out hb2; have e0 := Blk.cell hx2 0; have e1 := Blk.cell hx2 1; have e2 := Blk.cell hx2 2; have e3 := Blk.cell hx2 3; have e4 := Blk.cell hx2 4; have e5 := Blk.cell hx2 5; simp only [List.getElem?_toArray, List.getElem?_cons_zero, List.getElem?_cons_succ] at e0 e1 e2 e3 e4 e5; have HB2 := hid (HB1.out.trans (hb2.mono HB1.out.size)); have HO2 := hid (HO1.out.later hb2); clear hx2 hb2; have HRw := hid (rw_rowP w2 ⟨ro, rp, rt, ⟨rk, rv, rd⟩⟩); have HO3 := hid (HO2.out.later ((Below.refl _ w2).alloc (Nat.le_refl _) (.cells #[.int .i64 ro, .int .i64 rp, .bool rt, .string rk, .string rv, .bool rd] 51))); have hs2 := HB2.out.size)
            | (at_builtin; refine app_kd kRw_ok rfl (.tmp 23) (.tmp 25) rfl w.heap.size (.slice av k cv) (chooseN p most (l.take j)) rfl HO3.out (some ⟨w2.heap.size, 0, none⟩) 1 1 [⟨ro, rp, rt, ⟨rk, rv, rd⟩⟩] rfl rfl (fun e => by cases e) HRw.out (by rw [HK.out]; unfold maxLen; omega) (by rw [HK.out]; exact Nat.le_trans (Nat.mul_le_mul_right 64 (by omega)) HBy.out) (by simp; omega) ?_; intro v5 w5 hO5 hg5; obtain ⟨hB5, ⟨a5, c5, hv5⟩⟩ := chosen_step HB2.out HO2.out hO5 hg5; rw [List.length_append, HK.out] at hv5; subst hv5; have HB5 := hid hB5; have HO5 := hid hO5; clear hO5 hg5 hB5))
          refine ⟨⟨j + 1, k + 1, by omega, by omega, by go_num, ⟨a5, c5, rfl⟩, (by rw [HN2.out, List.length_append, HK.out]; exact rfl), (by rw [HN2.out]; exact HO5.out), HB5⟩, by simp [intOf]; omega⟩
        | false =>
          rw [hpy] at HC
          have HN2 := hid (choose_miss (m := most) (l := l.take j) hpy)
          rw [← HTk.out] at HN2
          clear hpy
          go_wp2_with (go_at_call 32; (with_reducible_and_instances (refine HC.out.mono ?_)); rintro e w2 ⟨rfl, hb2⟩; have HB2 := hid (HB1.out.trans (hb2.mono HB1.out.size)); have HO2 := hid (HO1.out.later hb2); clear hb2)
          refine ⟨⟨j + 1, k, by omega, by omega, by go_num, ⟨av, cv, rfl⟩, (by rw [HN2.out]; exact HK.out), (by rw [HN2.out]; exact HO2.out), HB2⟩, by simp [intOf]; omega⟩
    · obtain rfl : j = m := by omega
      have HFin : Hid (l.take j = l) := List.take_of_length_le (by rw [H.out.len]; exact Nat.le_refl _)
      go_wp2_with fail
      go_ret
      exact ⟨_, rfl, by rw [← HFin.out]; exact HO.out, HB.out⟩
set_option maxHeartbeats 2000000 in
theorem chooseComm {l : List Rw} (L : Nat) (p : Rw → Bool) (h : ArgK kRw w l ad m c) (most : Nat) (hmo : most ≤ 9223372036854775807) (hby : m * 64 ≤ 140737488355328) (hp : ∀ W, Below w.heap.size w W → ∀ j, j < m → Calls Tryz.prog 33 #[.pointer (some ⟨L, 0, none⟩), .agg #[.int .i64 (l.getD j rw0).off, .int .i64 (l.getD j rw0).prod, .bool (l.getD j rw0).tx, .string (l.getD j rw0).rc.key, .string (l.getD j rw0).rc.val, .bool (l.getD j rw0).rc.dead]] W fun e w' => e = .returned (.bool (p (l.getD j rw0))) ∧ Below W.heap.size W w') :
    Calls Tryz.prog 30 #[.slice ad m c, .int .i64 (most : Int), .func (.func 33) #[.pointer (some ⟨L, 0, none⟩)] #[]] w fun e w' => ∃ v, e = .returned v ∧ OwnK kRw w' w.heap.size v (chooseN p most l) ∧ Below w.heap.size w w' := by
  have H := hid h
  have HPp := hid hp
  have hm : m ≤ 9223372036854775807 := by have := h.cap; have := h.room; unfold maxLen at this; omega
  have HBy := hid hby
  clear h hp hby
  go_enter Tryz.func30, Tryz.ntmps30
  go_wp2_with fail
  go_loopw [7, 12] (fun v i wr => ∃ (j k : Nat), j ≤ m ∧ k ≤ j ∧ i = .int .i64 (j : Int) ∧ (∃ a c, v = .slice a k c) ∧ Hid ((chooseN p most (l.take j)).length = k) ∧ Hid (OwnK kRw wr w.heap.size v (chooseN p most (l.take j))) ∧ Hid (Below w.heap.size w wr)) (fun _ i _ => m - (intOf i).toNat)
  case atStart => exact ⟨0, 0, by omega, by omega, rfl, ⟨none, 0, rfl⟩, (by rw [List.take_zero]; cases most <;> exact rfl), (by rw [List.take_zero]; cases most <;> exact OwnK.nil _ _), Below.refl _ _⟩
  case round =>
    obtain ⟨j, k, hj, hkj, rfl, ⟨av, cv, rfl⟩, HK, HO, HB⟩ := hrel
    by_cases hlt : j < m
    · have H2 := H.out.later HB.out
      obtain ⟨b, off, rfl, hs, hc⟩ := H2.cells (by omega)
      have HL : Hid (j < l.length) := by rw [H.out.len]; exact hlt
      have HTk := hid (take_snoc_any l rw0 j HL.out)
      have r0 : wr.cell? ⟨b, off + j * 6, none⟩ = some (.int .i64 (l.getD j rw0).off) := hc j hlt 0 (by decide)
      have r1 : wr.cell? ⟨b, off + j * 6 + 1, none⟩ = some (.int .i64 (l.getD j rw0).prod) := hc j hlt 1 (by decide)
      have r2 : wr.cell? ⟨b, off + j * 6 + 2, none⟩ = some (.bool (l.getD j rw0).tx) := hc j hlt 2 (by decide)
      have r3 : wr.cell? ⟨b, off + j * 6 + 3, none⟩ = some (.string (l.getD j rw0).rc.key) := hc j hlt 3 (by decide)
      have r4 : wr.cell? ⟨b, off + j * 6 + 4, none⟩ = some (.string (l.getD j rw0).rc.val) := hc j hlt 4 (by decide)
      have r5 : wr.cell? ⟨b, off + j * 6 + 5, none⟩ = some (.bool (l.getD j rw0).rc.dead) := hc j hlt 5 (by decide)
      obtain ⟨W1, hW1⟩ : ∃ W1, wr.alloc (.cells #[.int .i64 (l.getD j rw0).off, .int .i64 (l.getD j rw0).prod, .bool (l.getD j rw0).tx, .string (l.getD j rw0).rc.key, .string (l.getD j rw0).rc.val, .bool (l.getD j rw0).rc.dead] 51) = W1 := ⟨_, rfl⟩
      have b1 : Below wr.heap.size wr W1 := by rw [← hW1]; exact (Below.refl _ _).alloc (Nat.le_refl _) _
      have x1 : RwBox W1 wr.heap.size (l.getD j rw0) := by rw [← hW1]; exact heap_alloc_new wr _
      have HB1 := hid (HB.out.trans (b1.mono HB.out.size))
      have HO1 := hid (HO.out.later b1)
      have HC := hid (HPp.out W1 HB1.out j hlt)
      have HX1 := hid x1
      have lx : wr.heap.size < W1.heap.size := Blk.lt x1
      have hszb : w.heap.size ≤ wr.heap.size := HB.out.size
      have HAt : Hid (l.getD j rw0 = l.getD j rw0) := rfl
      clear hc hs H2 b1 x1
      obtain ⟨y, hy⟩ : ∃ y, l.getD j rw0 = y := ⟨_, rfl⟩
      rw [hy] at r0 r1 r2 r3 r4 r5 hW1 HC HTk HX1
      clear HAt hy
      obtain ⟨ro, rp, rt, ⟨rk, rv, rd⟩⟩ := y
      by_cases hfull : k = most
      · subst hfull
        have HFin : Hid (chooseN p k l = chooseN p k (l.take j)) := by
          have e : l = l.take j ++ l.drop j := (List.take_append_drop j l).symm
          have := choose_full (k := l.drop j) HK.out
          rw [← e] at this
          exact this
        have hke : ((k : Int) == (k : Int)) = true := by simp
        clear HC
        go_wp2_with fail
        go_ret
        exact ⟨_, rfl, by rw [HFin.out]; exact HO1.out, HB1.out⟩
      · have hkn : ((k : Int) == (most : Int)) = false := by simp; omega
        have HNf : Hid ((chooseN p most (l.take j)).length ≠ most) := by rw [HK.out]; exact hfull
        have d0 := Blk.cell HX1.out 0
        have d1 := Blk.cell HX1.out 1
        have d2 := Blk.cell HX1.out 2
        have d3 := Blk.cell HX1.out 3
        have d4 := Blk.cell HX1.out 4
        have d5 := Blk.cell HX1.out 5
        simp only [List.getElem?_toArray, List.getElem?_cons_zero, List.getElem?_cons_succ] at d0 d1 d2 d3 d4 d5
        clear hfull
        cases hpy : p ⟨ro, rp, rt, ⟨rk, rv, rd⟩⟩ with
        | true =>
          rw [hpy] at HC
          have HN2 := hid (choose_hit HNf.out hpy)
          rw [← HTk.out] at HN2
          clear hpy
          go_wp2_with (first
            | (go_at_call 33; (with_reducible_and_instances (refine HC.out.mono ?_)); rintro e w2 ⟨rfl, hb2⟩; have hx2 : RwBox w2 wr.heap.size ⟨ro, rp, rt, ⟨rk, rv, rd⟩⟩ := Blk.later HX1.out hb2; have e0 := Blk.cell hx2 0; have e1 := Blk.cell hx2 1; have e2 := Blk.cell hx2 2; have e3 := Blk.cell hx2 3; have e4 := Blk.cell hx2 4; have e5 := Blk.cell hx2 5; simp only [List.getElem?_toArray, List.getElem?_cons_zero, List.getElem?_cons_succ] at e0 e1 e2 e3 e4 e5; have HB2 := hid (HB1.out.trans (hb2.mono HB1.out.size)); have HO2 := hid (HO1.out.later hb2); clear hx2 hb2; have HRw := hid (rw_rowP w2 ⟨ro, rp, rt, ⟨rk, rv, rd⟩⟩); have HO3 := hid (HO2.out.later ((Below.refl _ w2).alloc (Nat.le_refl _) (.cells #[.int .i64 ro, .int .i64 rp, .bool rt, .string rk, .string rv, .bool rd] 51))); have hs2 := HB2.out.size)
            | (at_builtin; refine app_kd kRw_ok rfl (.tmp 23) (.tmp 25) rfl w.heap.size (.slice av k cv) (chooseN p most (l.take j)) rfl HO3.out (some ⟨w2.heap.size, 0, none⟩) 1 1 [⟨ro, rp, rt, ⟨rk, rv, rd⟩⟩] rfl rfl (fun e => by cases e) HRw.out (by rw [HK.out]; unfold maxLen; omega) (by rw [HK.out]; exact Nat.le_trans (Nat.mul_le_mul_right 64 (by omega)) HBy.out) (by simp; omega) ?_; intro v5 w5 hO5 hg5; obtain ⟨hB5, ⟨a5, c5, hv5⟩⟩ := chosen_step HB2.out HO2.out hO5 hg5; rw [List.length_append, HK.out] at hv5; subst hv5; have HB5 := hid hB5; have HO5 := hid hO5; clear hO5 hg5 hB5))
          refine ⟨⟨j + 1, k + 1, by omega, by omega, by go_num, ⟨a5, c5, rfl⟩, (by rw [HN2.out, List.length_append, HK.out]; exact rfl), (by rw [HN2.out]; exact HO5.out), HB5⟩, by simp [intOf]; omega⟩
        | false =>
          rw [hpy] at HC
          have HN2 := hid (choose_miss (m := most) (l := l.take j) hpy)
          rw [← HTk.out] at HN2
          clear hpy
          go_wp2_with (go_at_call 33; (with_reducible_and_instances (refine HC.out.mono ?_)); rintro e w2 ⟨rfl, hb2⟩; have HB2 := hid (HB1.out.trans (hb2.mono HB1.out.size)); have HO2 := hid (HO1.out.later hb2); clear hb2)
          refine ⟨⟨j + 1, k, by omega, by omega, by go_num, ⟨av, cv, rfl⟩, (by rw [HN2.out]; exact HK.out), (by rw [HN2.out]; exact HO2.out), HB2⟩, by simp [intOf]; omega⟩
    · obtain rfl : j = m := by omega
      have HFin : Hid (l.take j = l) := List.take_of_length_le (by rw [H.out.len]; exact Nat.le_refl _)
      go_wp2_with fail
      go_ret
      exact ⟨_, rfl, by rw [← HFin.out]; exact HO.out, HB.out⟩
end Go.Proofs.YtfgamkcnnijloaaGreat
namespace Go.Proofs.YtfgamkcnnijloaaGreat
open Go.RowKit Go.Shelf
variable {w w' : World} {L t M n N : Nat} {vr vo va : Value} {g : Lg} {ad : Option Addr} {m c : Nat}

/-- What cmp.Compare answers. -/
def cmpI (x y : Int) : Int := if x < y then -1 else if y < x then 1 else 0
theorem isNaN_any (x : Int) (w : World) : Calls Tryz.prog 85 #[.int .i64 x] w fun e w' => e = .returned (.bool false) ∧ w' = w := by
  have hq : (x == x) = true := by simp
  go_enter Tryz.func85, Tryz.ntmps85
  go_wp2_with fail
  go_ret
  exact ⟨by first | rfl | simp, rfl⟩
theorem compare_any (x y : Int) (w : World) : Calls Tryz.prog 57 #[.int .i64 x, .int .i64 y] w fun e w' => e = .returned (.int .i64 (cmpI x y)) ∧ w' = w := by
  rcases Int.lt_or_le x y with h1 | h1
  · have HC : Hid (cmpI x y = -1) := if_pos h1
    have hd : decide (x < y) = true := by simpa using h1
    go_enter Tryz.func57, Tryz.ntmps57
    go_wp2_with (go_at_call 85; refine (isNaN_any _ _).mono ?_; rintro e w1 ⟨rfl, hw1⟩; obtain rfl := hw1.symm)
    go_ret
    exact ⟨by rw [HC.out]; rfl, rfl⟩
  · have hd : decide (x < y) = false := by simp; omega
    rcases Int.lt_or_le y x with h2 | h2
    · have HC : Hid (cmpI x y = 1) := by unfold cmpI; rw [if_neg (by omega), if_pos h2]; exact rfl
      have hd2 : decide (y < x) = true := by simpa using h2
      go_enter Tryz.func57, Tryz.ntmps57
      go_wp2_with (go_at_call 85; refine (isNaN_any _ _).mono ?_; rintro e w1 ⟨rfl, hw1⟩; obtain rfl := hw1.symm)
      go_ret
      exact ⟨by rw [HC.out]; rfl, rfl⟩
    · have HC : Hid (cmpI x y = 0) := by unfold cmpI; rw [if_neg (by omega), if_neg (by omega)]; exact rfl
      have hd2 : decide (y < x) = false := by simp; omega
      go_enter Tryz.func57, Tryz.ntmps57
      go_wp2_with (go_at_call 85; refine (isNaN_any _ _).mono ?_; rintro e w1 ⟨rfl, hw1⟩; obtain rfl := hw1.symm)
      go_ret
      exact ⟨by rw [HC.out]; rfl, rfl⟩
theorem rowsFrom1_any (r : Rw) (x : Int) (w : World) : Calls Tryz.prog 56 #[.agg #[.int .i64 r.off, .int .i64 r.prod, .bool r.tx, .string r.rc.key, .string r.rc.val, .bool r.rc.dead], .int .i64 x] w fun e w' => e = .returned (.int .i64 (cmpI r.off x)) ∧ Below w.heap.size w w' := by
  have HB := hid ((Below.refl _ w).alloc (Nat.le_refl _) (.cells #[.int .i64 r.off, .int .i64 r.prod, .bool r.tx, .string r.rc.key, .string r.rc.val, .bool r.rc.dead] 51))
  obtain ⟨ro, rp, rt, ⟨k, v, d⟩⟩ := r
  have HC := hid (compare_any ro x (w.alloc (.cells #[.int .i64 ro, .int .i64 rp, .bool rt, .string k, .string v, .bool d] 51)))
  generalize cmpI ro x = z at *
  go_enter Tryz.func56, Tryz.ntmps56
  go_wp2_with (go_at_call 57; (with_reducible_and_instances (refine HC.out.mono ?_)); rintro e w1 ⟨rfl, hw1⟩; obtain rfl := hw1.symm)
  go_ret
  exact ⟨rfl, HB.out⟩
/-- How many rows lie ahead of an offset. -/
def cutN (x : Int) (l : List Rw) : Nat := (l.filter (fun r => decide (r.off < x))).length
theorem cut_of {x : Int} {l : List Rw} {i : Nat} (hi : i ≤ l.length) (h1 : ∀ k, k < i → (l.getD k rw0).off < x) (h2 : ∀ k, i ≤ k → k < l.length → x ≤ (l.getD k rw0).off) : cutN x l = i ∧ l.drop i = l.filter (fun r => decide (x ≤ r.off)) := by
  have e : l = l.take i ++ l.drop i := (List.take_append_drop i l).symm
  have a1 : ∀ r ∈ l.take i, r.off < x := fun r hr => by
    obtain ⟨k, hk, hr2⟩ := List.mem_iff_getElem.1 hr
    rw [List.length_take] at hk
    have := h1 k (by omega)
    rw [List.getD_eq_getElem?_getD, List.getElem?_eq_getElem (by omega)] at this
    rw [List.getElem_take] at hr2
    rw [← hr2]; exact this
  have a2 : ∀ r ∈ l.drop i, x ≤ r.off := fun r hr => by
    obtain ⟨k, hk, hr2⟩ := List.mem_iff_getElem.1 hr
    rw [List.length_drop] at hk
    have := h2 (i + k) (by omega) (by omega)
    rw [List.getD_eq_getElem?_getD, List.getElem?_eq_getElem (by omega)] at this
    rw [List.getElem_drop] at hr2
    rw [← hr2]; exact this
  have f1 : (l.take i).filter (fun r => decide (r.off < x)) = l.take i := List.filter_eq_self.2 (fun r hr => by simpa using a1 r hr)
  have f2 : (l.drop i).filter (fun r => decide (r.off < x)) = [] := List.filter_eq_nil_iff.2 (fun r hr => by have := a2 r hr; simp; omega)
  have f3 : (l.take i).filter (fun r => decide (x ≤ r.off)) = [] := List.filter_eq_nil_iff.2 (fun r hr => by have := a1 r hr; simp; omega)
  have f4 : (l.drop i).filter (fun r => decide (x ≤ r.off)) = l.drop i := List.filter_eq_self.2 (fun r hr => by simpa using a2 r hr)
  constructor
  · unfold cutN
    rw [e, List.filter_append, f1, f2, List.append_nil, List.length_take]
    omega
  · conv => rhs; rw [e, List.filter_append, f3, f4, List.nil_append]
theorem rise_at {l : List Rw} (h : l.Pairwise (fun a b => a.off < b.off)) {i j : Nat} (hij : i < j) (hj : j < l.length) : (l.getD i rw0).off < (l.getD j rw0).off := by
  have := List.pairwise_iff_getElem.1 h i j (by omega) hj hij
  rw [List.getD_eq_getElem?_getD, List.getElem?_eq_getElem (by omega), List.getD_eq_getElem?_getD, List.getElem?_eq_getElem hj]
  exact this
set_option maxRecDepth 20000 in
set_option maxHeartbeats 2000000 in
theorem search_any {l : List Rw} (h : ArgK kRw w l ad m c) (hs : l.Pairwise (fun a b => a.off < b.off)) (hsz : m < 4611686018427387904) (x : Int) : Calls Tryz.prog 55 #[.slice ad m c, .int .i64 x, .func (.func 56) #[] #[]] w fun e w' => (∃ b, e = .returned (.tuple #[.int .i64 (cutN x l : Int), .bool b])) ∧ cutN x l ≤ m ∧ l.drop (cutN x l) = l.filter (fun r => decide (x ≤ r.off)) ∧ Below w.heap.size w w' := by
  have H := hid h
  have HSo := hid hs
  clear h hs
  go_enter Tryz.func55, Tryz.ntmps55
  go_wp2_with fail
  go_loopw [9, 10] (fun vi vj wr => ∃ (i j : Nat), i ≤ j ∧ j ≤ m ∧ vi = .int .i64 (i : Int) ∧ vj = .int .i64 (j : Int) ∧ Hid (∀ k, k < i → (l.getD k rw0).off < x) ∧ Hid (∀ k, j ≤ k → k < l.length → x ≤ (l.getD k rw0).off) ∧ Hid (Below w.heap.size w wr)) (fun vi vj _ => (intOf vj).toNat - (intOf vi).toNat)
  case atStart => exact ⟨0, m, by omega, by omega, rfl, rfl, (fun k hk => by omega), (fun k h1 h2 => by have := H.out.len; omega), Below.refl _ _⟩
  case round =>
    obtain ⟨i, j, hij, hjm, rfl, rfl, H1, H2, HB⟩ := hrel
    by_cases hlt : i < j
    · have hA := H.out.later HB.out
      obtain ⟨b, off, rfl, hbs, hc⟩ := hA.cells (by omega)
      obtain ⟨mid, hmid⟩ : ∃ mid, (i + j) / 2 = mid := ⟨_, rfl⟩
      have hmi : ((i : Int) + (j : Int)) / 2 = (mid : Int) := by omega
      have hmm : mid < m := by omega
      have HMid : Hid (i ≤ mid ∧ mid < j ∧ mid < l.length) := ⟨by omega, by omega, by rw [H.out.len]; exact hmm⟩
      have r0 : wr.cell? ⟨b, off + mid * 6, none⟩ = some (.int .i64 (l.getD mid rw0).off) := hc mid hmm 0 (by decide)
      have r1 : wr.cell? ⟨b, off + mid * 6 + 1, none⟩ = some (.int .i64 (l.getD mid rw0).prod) := hc mid hmm 1 (by decide)
      have r2 : wr.cell? ⟨b, off + mid * 6 + 2, none⟩ = some (.bool (l.getD mid rw0).tx) := hc mid hmm 2 (by decide)
      have r3 : wr.cell? ⟨b, off + mid * 6 + 3, none⟩ = some (.string (l.getD mid rw0).rc.key) := hc mid hmm 3 (by decide)
      have r4 : wr.cell? ⟨b, off + mid * 6 + 4, none⟩ = some (.string (l.getD mid rw0).rc.val) := hc mid hmm 4 (by decide)
      have r5 : wr.cell? ⟨b, off + mid * 6 + 5, none⟩ = some (.bool (l.getD mid rw0).rc.dead) := hc mid hmm 5 (by decide)
      have HC := hid (rowsFrom1_any (l.getD mid rw0) x wr)
      have hLess : (cmpI (l.getD mid rw0).off x < 0) ↔ (l.getD mid rw0).off < x := by unfold cmpI; split <;> (try split) <;> omega
      have HLess := hid hLess
      have HUp : Hid ((l.getD mid rw0).off < x → ∀ k, k < mid + 1 → (l.getD k rw0).off < x) := fun hx k hk => by
        by_cases e : k = mid
        · rw [e]; exact hx
        · have := rise_at HSo.out (show k < mid by omega) HMid.out.2.2; omega
      have HDn : Hid (¬ (l.getD mid rw0).off < x → ∀ k, mid ≤ k → k < l.length → x ≤ (l.getD k rw0).off) := fun hx k h1 h2 => by
        by_cases e : k = mid
        · rw [e]; omega
        · have := rise_at HSo.out (show mid < k by omega) h2; omega
      clear hc hbs hA hmid hLess
      obtain ⟨y, hy⟩ : ∃ y, l.getD mid rw0 = y := ⟨_, rfl⟩
      rw [hy] at r0 r1 r2 r3 r4 r5 HC HLess HUp HDn
      clear hy
      obtain ⟨ro, rp, rt, ⟨rk, rv, rd⟩⟩ := y
      dsimp only at r0 r1 r2 r3 r4 r5 HC HLess HUp HDn
      generalize cmpI ro x = z at *
      rcases Int.lt_or_le z 0 with hz | hz
      · have HU2 := hid (HUp.out (HLess.out.1 hz))
        clear HUp HDn HLess
        go_wp2_with (go_at_call 56; (with_reducible_and_instances (refine HC.out.mono ?_)); rintro e w1 ⟨rfl, hb⟩; have HB2 := hid (HB.out.trans (hb.mono HB.out.size)); clear hb)
        refine ⟨⟨mid + 1, j, by have := HMid.out; omega, hjm, by go_num, rfl, HU2, H2, HB2⟩, by have := HMid.out; simp [intOf]; omega⟩
      · have HD2 := hid (HDn.out (fun hh => by have := HLess.out.2 hh; omega))
        clear HUp HDn HLess
        go_wp2_with (go_at_call 56; (with_reducible_and_instances (refine HC.out.mono ?_)); rintro e w1 ⟨rfl, hb⟩; have HB2 := hid (HB.out.trans (hb.mono HB.out.size)); clear hb)
        refine ⟨⟨i, mid, by have := HMid.out; omega, by omega, rfl, rfl, H1, HD2, HB2⟩, by have := HMid.out; simp [intOf]; omega⟩
    · obtain rfl : j = i := by omega
      have HCut := hid (cut_of (x := x) (l := l) (i := j) (by rw [H.out.len]; exact hjm) H1.out H2.out)
      by_cases hjl : j < m
      · have hA := H.out.later HB.out
        obtain ⟨b, off, rfl, hbs, hc⟩ := hA.cells (by omega)
        have r0 : wr.cell? ⟨b, off + j * 6, none⟩ = some (.int .i64 (l.getD j rw0).off) := hc j hjl 0 (by decide)
        have r1 : wr.cell? ⟨b, off + j * 6 + 1, none⟩ = some (.int .i64 (l.getD j rw0).prod) := hc j hjl 1 (by decide)
        have r2 : wr.cell? ⟨b, off + j * 6 + 2, none⟩ = some (.bool (l.getD j rw0).tx) := hc j hjl 2 (by decide)
        have r3 : wr.cell? ⟨b, off + j * 6 + 3, none⟩ = some (.string (l.getD j rw0).rc.key) := hc j hjl 3 (by decide)
        have r4 : wr.cell? ⟨b, off + j * 6 + 4, none⟩ = some (.string (l.getD j rw0).rc.val) := hc j hjl 4 (by decide)
        have r5 : wr.cell? ⟨b, off + j * 6 + 5, none⟩ = some (.bool (l.getD j rw0).rc.dead) := hc j hjl 5 (by decide)
        have HC := hid (rowsFrom1_any (l.getD j rw0) x wr)
        clear hc hbs hA
        generalize cmpI (l.getD j rw0).off x = z at *
        generalize l.getD j rw0 = y at *
        obtain ⟨ro, rp, rt, ⟨rk, rv, rd⟩⟩ := y
        dsimp only at r0 r1 r2 r3 r4 r5 HC
        go_wp2_with (go_at_call 56; (with_reducible_and_instances (refine HC.out.mono ?_)); rintro e w1 ⟨rfl, hb⟩; have HB2 := hid (HB.out.trans (hb.mono HB.out.size)); clear hb)
        refine bodyPost_ret (results_tmp2 Tryz.results55 _ _ _) rfl ⟨⟨_, by rw [HCut.out.1]; rfl⟩, by rw [HCut.out.1]; exact hjm, by rw [HCut.out.1]; exact HCut.out.2, HB2.out⟩
      · obtain rfl : j = m := by omega
        go_wp2_with fail
        refine bodyPost_ret (results_tmp2 Tryz.results55 _ _ _) rfl ⟨⟨_, by rw [HCut.out.1]; rfl⟩, by rw [HCut.out.1]; exact hjm, by rw [HCut.out.1]; exact HCut.out.2, HB.out⟩
theorem ArgK.drop {α : Type} {K : Kd α} {l : List α} (h : ArgK K w l ad m c) (k : Nat) (hk : k ≤ m) : ArgK K w (l.drop k) (if c = k then ad else ad.map (fun x => x.add (k * K.sz))) (m - k) (c - k) := by
  have hl := h.len
  refine ⟨by rw [List.length_drop, hl], ?_, by have := h.cap; omega, by have := h.room; omega, ?_⟩
  · intro e
    cases ad with
    | none => have := h.nil rfl; omega
    | some a =>
      by_cases hc : c = k
      · rw [if_pos hc] at e; cases e
      · rw [if_neg hc] at e; simp at e
  · by_cases h0 : l.drop k = []
    · exact Or.inl h0
    · rcases h.row with h1 | ⟨b, off, e, hb, hcl⟩
      · rw [h1] at h0; simp at h0
      · have hlt : k < m := by
          rcases Nat.lt_or_ge k m with h2 | h2
          · exact h2
          · exact absurd (List.drop_eq_nil_of_le (by omega)) h0
        have hck : c ≠ k := by have := h.cap; omega
        subst e
        refine Or.inr ⟨b, off + k * K.sz, by rw [if_neg hck]; simp [addr_add], hb, fun i hi c' hc' => ?_⟩
        rw [List.length_drop] at hi
        have := hcl (k + i) (by omega) c' hc'
        rw [Nat.add_mul, ← Nat.add_assoc] at this
        rw [this]
        congr 2
        simp [List.getD_eq_getElem?_getD, List.getElem?_drop]
set_option maxRecDepth 20000 in
theorem rowsFrom_any (h : LPic w L t M n N vr vo va g) (hsz : g.rows.length < 4611686018427387904) (x : Int) : Calls Tryz.prog 34 #[.pointer (some ⟨L, 0, none⟩), .int .i64 x] w fun e w' => ∃ ad m c, e = .returned (.slice ad m c) ∧ ArgK kRw w' (g.rows.filter (fun r => decide (x ≤ r.off))) ad m c ∧ Below w.heap.size w w' := by
  obtain ⟨ar, cr, hv, hA⟩ := h.rows.form kRw_ok.tofit
  have c3 := h.c3
  rw [hv] at c3
  have HS := hid (search_any hA h.ok.rise hsz x)
  have HA := hid hA
  have HP := hid h
  have lL := h.lt
  have hcap := hA.cap
  have hroom : cr ≤ 9223372036854775807 := by have := hA.room; unfold maxLen at this; omega
  have hnil := hA.nil
  clear h hv hA
  generalize g.rows.length = m at *
  obtain ⟨q, hq⟩ : ∃ q, cutN x g.rows = q := ⟨_, rfl⟩
  rw [hq] at HS
  clear hq
  cases ar with
  | none =>
    obtain ⟨rfl, rfl⟩ := hnil rfl
    go_enter Tryz.func34, Tryz.ntmps34
    go_wp2_with (go_at_call 55; (with_reducible_and_instances (refine HS.out.mono ?_)); rintro e w1 ⟨⟨bb, rfl⟩, hq1, hq2, hb1⟩; obtain rfl : q = 0 := (by omega); have HB1 := hid hb1; have HQ2 := hid hq2; have e3 := (hb1.cell (p := ⟨L, 3, none⟩) lL).trans c3; have HA1 := hid (HA.out.later hb1); clear hq2 hb1)
    go_ret
    refine ⟨_, _, _, rfl, ?_, HB1.out⟩
    rw [← HQ2.out, List.drop_zero]
    exact HA1.out
  | some a =>
    obtain ⟨blk, off, sp⟩ := a
    by_cases hm0 : m = 0
    · subst hm0
      have hl0 : g.rows = [] := List.eq_nil_of_length_eq_zero HA.out.len
      go_enter Tryz.func34, Tryz.ntmps34
      go_wp2_with (go_at_call 55; (with_reducible_and_instances (refine HS.out.mono ?_)); rintro e w1 ⟨⟨bb, rfl⟩, hq1, hq2, hb1⟩; obtain rfl : q = 0 := (by omega); have HB1 := hid hb1; have HQ2 := hid hq2; have e3 := (hb1.cell (p := ⟨L, 3, none⟩) lL).trans c3; have HA1 := hid (HA.out.later hb1); clear hq2 hb1)
      go_ret
      refine ⟨_, _, _, rfl, ?_, HB1.out⟩
      rw [← HQ2.out, List.drop_zero]
      exact HA1.out
    · obtain ⟨b2, off2, e2, -, -⟩ := HA.out.cells (by omega)
      cases e2
      by_cases hcq : cr = q
      · subst hcq
        go_enter Tryz.func34, Tryz.ntmps34
        go_wp2_with (go_at_call 55; (with_reducible_and_instances (refine HS.out.mono ?_)); rintro e w1 ⟨⟨bb, rfl⟩, hq1, hq2, hb1⟩; have HB1 := hid hb1; have HQ2 := hid hq2; have e3 := (hb1.cell (p := ⟨L, 3, none⟩) lL).trans c3; have HA1 := hid (HA.out.later hb1); clear hq2 hb1)
        go_ret
        refine ⟨_, _, _, rfl, ?_, HB1.out⟩
        rw [← HQ2.out]
        have hd := HA1.out.drop cr hq1
        rw [if_pos rfl, Nat.sub_self, show m - cr = 0 by omega] at hd
        exact hd
      · go_enter Tryz.func34, Tryz.ntmps34
        go_wp2_with (go_at_call 55; (with_reducible_and_instances (refine HS.out.mono ?_)); rintro e w1 ⟨⟨bb, rfl⟩, hq1, hq2, hb1⟩; have HB1 := hid hb1; have HQ2 := hid hq2; have e3 := (hb1.cell (p := ⟨L, 3, none⟩) lL).trans c3; have HA1 := hid (HA.out.later hb1); have hqc : q ≤ cr := (by omega); clear hq2 hb1)
        go_ret
        refine ⟨_, _, _, rfl, ?_, HB1.out⟩
        rw [← HQ2.out]
        have hd := HA1.out.drop q hq1
        rw [if_neg hcq] at hd
        simp only [Option.map_some, addr_add] at hd
        exact hd
end Go.Proofs.YtfgamkcnnijloaaGreat
