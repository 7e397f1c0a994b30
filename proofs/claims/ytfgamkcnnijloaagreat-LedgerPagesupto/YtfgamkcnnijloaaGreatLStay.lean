/- staying: which rows a Retain or a Compact leaves there, as a function that choose may ask. -/
import Derived.Test.YtfgamkcnnijloaaGreatLStay0
namespace Go.Proofs.YtfgamkcnnijloaaGreat
open Go.RowKit Go.Shelf
variable {w w' : World} {L t M n N : Nat} {vr vo va : Value} {g : Lg}

/-- A function value that choose may ask, which tells p of rows of short keys. -/
def ChS (w : World) (fv : Value) (p : Rw → Bool) : Prop :=
  ∀ W, Below w.heap.size w W → ∀ (l : List Rw) (ad : Option Addr) (m c most : Nat), ArgK kRw W l ad m c → (∀ r ∈ l, r.rc.key.size ≤ 65536) → most ≤ 9223372036854775807 → m * 64 ≤ 140737488355328 →
    Calls Tryz.prog 30 #[.slice ad m c, .int .i64 (most : Int), fv] W fun e W' => ∃ v, e = .returned v ∧ OwnK kRw W' W.heap.size v (chooseN p most l) ∧ Below W.heap.size W W'
theorem ChS.later {fv : Value} {p : Rw → Bool} (h : ChS w fv p) (hb : Below w.heap.size w w') : ChS w' fv p := fun W hW => h W (hb.trans (hW.mono hb.size))
theorem getD_memK {l : List Rw} {j : Nat} (h : j < l.length) : l.getD j rw0 ∈ l := by
  rw [List.getD_eq_getElem?_getD, List.getElem?_eq_getElem h]
  exact List.getElem_mem _
theorem chS_ret {xb : Nat} {kd nn k p e q : Int} {tx : Bool} {ad : Option Addr} {len cap : Nat} (h : EBox w xb kd nn k p e q tx ad len cap) : ChS w (.func (.func 52) #[] #[.pointer (some ⟨xb, 0, none⟩)]) (fun r => decide (nn ≤ r.off)) := by
  intro W hW l ad m c most ha hk hmo hby
  refine chooseRet xb (fun r => decide (nn ≤ r.off)) ha most hmo hby (fun X hX j hj => ?_)
  exact staying1_any (l.getD j rw0) xb X (Blk.later (Blk.later h hW) hX)
theorem chS_stay {lb xb M n : Nat} {kd nn k p e q : Int} {tx : Bool} {ad : Option Addr} {len cap : Nat} (h : EBox w xb kd nn k p e q tx ad len cap) (hl : Blk w lb #[.map (some M)] TMk) (hm : MapF w 9 M n (latF (fun r => decide (r.off < nn) && !g.dead r) g.rows (fun _ => none))) : ChS w (.func (.func 54) #[] #[.pointer (some ⟨lb, 0, none⟩), .pointer (some ⟨xb, 0, none⟩)]) (fun r => g.stays nn r) := by
  intro W hW l ad m c most ha hk hmo hby
  refine chooseStay lb xb (fun r => g.stays nn r) ha most hmo hby (fun X hX j hj => ?_)
  have hb := hW.trans (hX.mono hW.size)
  refine staying2_any g (l.getD j rw0) lb xb M n X (Blk.later h hb) (hl.later hb) (hm.keep (hb.block M hm.lt)) ?_
  have hj2 : j < l.length := by rw [ha.len]; exact hj
  have := hk _ (getD_memK hj2)
  unfold maxLen
  omega
set_option maxHeartbeats 2000000 in
theorem staying_ret (nn k p e q : Int) (tx : Bool) (ad : Option Addr) (len cap : Nat) (w : World) (L : Nat) : Calls Tryz.prog 31 #[.pointer (some ⟨L, 0, none⟩), .agg #[.int .i64 2, .int .i64 nn, .int .i64 k, .int .i64 p, .int .i64 e, .int .i64 q, .bool tx, .slice ad len cap]] w fun x w' => ∃ fv, x = .returned fv ∧ ChS w' fv (fun r => decide (nn ≤ r.off)) ∧ Below w.heap.size w w' := by
  obtain ⟨W0, hW0⟩ : ∃ W0, w.alloc (.cells #[.int .i64 2, .int .i64 nn, .int .i64 k, .int .i64 p, .int .i64 e, .int .i64 q, .bool tx, .slice ad len cap] TEt) = W0 := ⟨_, rfl⟩
  have b0 : Below w.heap.size w W0 := by rw [← hW0]; exact (Below.refl _ _).alloc (Nat.le_refl _) _
  have X0 : EBox W0 w.heap.size 2 nn k p e q tx ad len cap := by rw [← hW0]; exact heap_alloc_new w _
  have HC := hid (chS_ret X0)
  have HB := hid b0
  have c0 := Blk.cell X0 0
  have lx := Blk.lt X0
  simp only [List.getElem?_toArray, List.getElem?_cons_zero] at c0
  clear b0 X0
  go_enter Tryz.func31, Tryz.ntmps31
  go_wp2_with fail
  go_ret
  exact ⟨_, rfl, HC.out, HB.out⟩
set_option maxHeartbeats 4000000 in
theorem staying_keep (h : LPic0 w L t M n N vr vo va g) (hks : LKeys g) (nn k p e q : Int) (tx : Bool) (ad : Option Addr) (len cap : Nat) : Calls Tryz.prog 31 #[.pointer (some ⟨L, 0, none⟩), .agg #[.int .i64 3, .int .i64 nn, .int .i64 k, .int .i64 p, .int .i64 e, .int .i64 q, .bool tx, .slice ad len cap]] w fun x w' => ∃ fv, x = .returned fv ∧ ChS w' fv (fun r => g.stays nn r) ∧ Below w.heap.size w w' := by
  obtain ⟨W0, hW0⟩ : ∃ W0, w.alloc (.cells #[.int .i64 3, .int .i64 nn, .int .i64 k, .int .i64 p, .int .i64 e, .int .i64 q, .bool tx, .slice ad len cap] TEt) = W0 := ⟨_, rfl⟩
  obtain ⟨W1, hW1⟩ : ∃ W1, (W0.alloc (.map #[] 0)).alloc (.cells #[.map (some W0.heap.size)] TMk) = W1 := ⟨_, rfl⟩
  have b0 : Below w.heap.size w W0 := by rw [← hW0]; exact (Below.refl _ _).alloc (Nat.le_refl _) _
  have s0 : W0.heap.size = w.heap.size + 1 := by rw [← hW0]; simp
  have bm : Below W0.heap.size W0 (W0.alloc (.map #[] 0)) := (Below.refl _ _).alloc (Nat.le_refl _) _
  have bn : Below (W0.alloc (.map #[] 0)).heap.size (W0.alloc (.map #[] 0)) W1 := by rw [← hW1]; exact (Below.refl _ _).alloc (Nat.le_refl _) _
  have b1 : Below w.heap.size w W1 := b0.trans ((bm.trans (bn.mono bm.size)).mono b0.size)
  have s1 : W1.heap.size = w.heap.size + 3 := by rw [← hW1]; simp [s0]
  have X0 : EBox W0 w.heap.size 3 nn k p e q tx ad len cap := by rw [← hW0]; exact heap_alloc_new w _
  have X1 : EBox W1 w.heap.size 3 nn k p e q tx ad len cap := Blk.later (Blk.later X0 bm) bn
  have Lb : Blk W1 (W0.heap.size + 1) #[.map (some W0.heap.size)] TMk := by
    have h := heap_alloc_new (W0.alloc (.map #[] 0)) (.cells #[.map (some W0.heap.size)] TMk)
    rw [hW1, World.size_alloc] at h
    exact h
  have Mp : MapF W1 9 W0.heap.size 0 (fun _ => none) := by
    refine MapF.empty ?_
    have h : (W0.alloc (.map #[] 0)).heap[W0.heap.size]? = some (.map #[] 0) := World.alloc_heap_new W0 _
    rw [bn.block _ (by simp)]
    exact h
  obtain ⟨ar, cr, hvr, hAr⟩ := h.rows.form kRw_ok.tofit
  subst hvr
  obtain ⟨m, hm⟩ : ∃ m, g.rows.length = m := ⟨_, rfl⟩
  rw [hm] at hAr
  have HM := hid hm
  have HP := hid h
  have HA := hid hAr
  have HK := hid hks
  have HB1 := hid b1
  have c0 := Blk.cell X0 0
  have lx0 := Blk.lt X0
  have q3 := (h.later b1).c3
  have lq := (h.later b1).lt
  simp only [List.getElem?_toArray, List.getElem?_cons_zero] at c0
  rw [hm] at q3
  have HX1 := hid X1
  have HLb := hid Lb
  have HMp := hid Mp
  have HMl := hid (show m ≤ maxLen by have := hAr.cap; have := hAr.room; omega)
  have hml : m ≤ 9223372036854775807 := by have := hAr.cap; have := hAr.room; unfold maxLen at this; omega
  have HS0 := hid s0
  have hmm : ∀ (t : TypeId) (w : World), (Instr.makeMap t none).run Tryz.prog w = .ok (.map (some w.heap.size)) (w.alloc (.map #[] 0)) := fun t w => run_makeMap _ w
  clear b0 bm bn b1 X0 X1 Lb Mp h hm hAr hks s0 s1
  go_enter Tryz.func31, Tryz.ntmps31
  go_wp2_with fail
  go_loopw [18] (fun i wr => ∃ j : Nat, j ≤ m ∧ i = .int .i64 (j : Int) ∧ Hid (Below w.heap.size w wr) ∧ Hid (EBox wr w.heap.size 3 nn k p e q tx ad len cap) ∧ Hid (Blk wr (W0.heap.size + 1) #[.map (some W0.heap.size)] TMk) ∧ Hid (MapF wr 9 W0.heap.size j (latF (fun r => decide (r.off < nn) && !g.dead r) (g.rows.take j) (fun _ => none)))) (fun i _ => m - (intOf i).toNat)
  case atStart => exact ⟨0, Nat.zero_le _, rfl, HB1, HX1, HLb, (by rw [List.take_zero]; exact HMp)⟩
  case round =>
    clear hmm HX1 HLb HMp HB1 q3 lq c0 lx0
    obtain ⟨j, hj, rfl, HBj, HXj, HLj, HMj⟩ := hrel
    by_cases hlt : j < m
    · have hA2 := HA.out.later HBj.out
      obtain ⟨b, off, rfl, hs, hc⟩ := hA2.cells (by omega)
      have HTk := hid (take_snoc_any g.rows rw0 j (by rw [HM.out]; exact hlt))
      have HKy := hid (HK.out _ (getD_memK (l := g.rows) (j := j) (by rw [HM.out]; exact hlt)))
      have r0 : wr.cell? ⟨b, off + j * 6, none⟩ = some (.int .i64 (g.rows.getD j rw0).off) := hc j hlt 0 (by decide)
      have r1 : wr.cell? ⟨b, off + j * 6 + 1, none⟩ = some (.int .i64 (g.rows.getD j rw0).prod) := hc j hlt 1 (by decide)
      have r2 : wr.cell? ⟨b, off + j * 6 + 2, none⟩ = some (.bool (g.rows.getD j rw0).tx) := hc j hlt 2 (by decide)
      have r3 : wr.cell? ⟨b, off + j * 6 + 3, none⟩ = some (.string (g.rows.getD j rw0).rc.key) := hc j hlt 3 (by decide)
      have r4 : wr.cell? ⟨b, off + j * 6 + 4, none⟩ = some (.string (g.rows.getD j rw0).rc.val) := hc j hlt 4 (by decide)
      have r5 : wr.cell? ⟨b, off + j * 6 + 5, none⟩ = some (.bool (g.rows.getD j rw0).rc.dead) := hc j hlt 5 (by decide)
      obtain ⟨y, hy⟩ : ∃ y, g.rows.getD j rw0 = y := ⟨_, rfl⟩
      rw [hy] at r0 r1 r2 r3 r4 r5 HTk HKy
      have HSn : Hid (latF (fun r => decide (r.off < nn) && !g.dead r) (g.rows.take (j + 1)) (fun _ => none) = if (decide (y.off < nn) && !g.dead y) = true then updF (latF (fun r => decide (r.off < nn) && !g.dead r) (g.rows.take j) (fun _ => none)) (kLit y.rc.key) (some (.int .i64 y.off)) else latF (fun r => decide (r.off < nn) && !g.dead r) (g.rows.take j) (fun _ => none)) := hid (by rw [HTk.out, latF_snoc])
      have HAb : Hid (∀ W, Below wr.heap.size wr W → Calls Tryz.prog 53 #[.pointer (some ⟨L, 0, none⟩), .agg #[.int .i64 y.off, .int .i64 y.prod, .bool y.tx, .string y.rc.key, .string y.rc.val, .bool y.rc.dead]] W fun e w' => e = .returned (.bool (g.dead y)) ∧ Below W.heap.size W w') := hid (fun W hW => isAborted_any (HP.out.later (HBj.out.trans (hW.mono HBj.out.size))) y)
      clear hc hs hA2 hy
      obtain ⟨W2, hW2⟩ : ∃ W2, wr.alloc (.cells #[.int .i64 y.off, .int .i64 y.prod, .bool y.tx, .string y.rc.key, .string y.rc.val, .bool y.rc.dead] 51) = W2 := ⟨_, rfl⟩
      have b2 : Below wr.heap.size wr W2 := by rw [← hW2]; exact (Below.refl _ _).alloc (Nat.le_refl _) _
      have x2 : RwBox W2 wr.heap.size y := by rw [← hW2]; exact heap_alloc_new wr _
      have HB2 := hid b2
      have HX2 := hid x2
      have lx : wr.heap.size < W2.heap.size := Blk.lt x2
      have HCc : Hid (∀ W, Below W2.heap.size W2 W → W.cell? ⟨wr.heap.size, 0, none⟩ = some (.int .i64 y.off) ∧ W.cell? ⟨wr.heap.size, 1, none⟩ = some (.int .i64 y.prod) ∧ W.cell? ⟨wr.heap.size, 2, none⟩ = some (.bool y.tx) ∧ W.cell? ⟨wr.heap.size, 3, none⟩ = some (.string y.rc.key) ∧ W.cell? ⟨wr.heap.size, 4, none⟩ = some (.string y.rc.val) ∧ W.cell? ⟨wr.heap.size, 5, none⟩ = some (.bool y.rc.dead)) := hid (fun W hW => by
        have h := Blk.later x2 hW
        exact ⟨Blk.cell h 0, Blk.cell h 1, Blk.cell h 2, Blk.cell h 3, Blk.cell h 4, Blk.cell h 5⟩)
      have e1 := (Blk.later HXj.out b2).cell 1
      have le := (Blk.later HXj.out b2).lt
      simp only [List.getElem?_toArray, List.getElem?_cons_zero, List.getElem?_cons_succ] at e1
      obtain ⟨d0, d1, d2, d3, d4, d5⟩ := HCc.out W2 (Below.refl _ _)
      have hAb2 := HAb.out W2 b2
      have HA2 := hid hAb2
      have HMj2 : Hid (∀ W, Below wr.heap.size wr W → MapF W 9 W0.heap.size j (latF (fun r => decide (r.off < nn) && !g.dead r) (g.rows.take j) (fun _ => none))) := hid (fun W hW => HMj.out.keep (hW.block _ HMj.out.lt))
      have HEnd : Hid (∀ W, Below wr.heap.size wr W → Below w.heap.size w W ∧ EBox W w.heap.size 3 nn k p e q tx ad len cap ∧ Blk W (W0.heap.size + 1) #[.map (some W0.heap.size)] TMk) := hid (fun W hW => ⟨HBj.out.trans (hW.mono HBj.out.size), Blk.later HXj.out hW, HLj.out.later hW⟩)
      clear x2 b2 hAb2 HAb HXj HLj HMj HBj
      obtain ⟨ro, rp, rt, ⟨rk, rv, rd⟩⟩ := y
      dsimp only at *
      generalize hdd : g.dead ⟨ro, rp, rt, ⟨rk, rv, rd⟩⟩ = dd at *
      cases hlo : decide (ro < nn) with
      | false =>
        rw [hlo] at HSn
        have HSn2 := hid (HSn.out.trans (if_neg (by simp)))
        clear HSn hdd
        go_wp2_with fail
        go_roundw
        case measure => simp [intOf]; omega
        case rel =>
          refine ⟨j + 1, by omega, by go_num, (HEnd.out _ HB2.out).1, (HEnd.out _ HB2.out).2.1, (HEnd.out _ HB2.out).2.2, ?_⟩
          rw [HSn2.out]
          exact (HMj2.out _ HB2.out).mono (by omega)
      | true =>
        rw [hlo] at HSn
        cases dd with
        | true =>
          have HSn2 := hid (HSn.out.trans (if_neg (by simp)))
          clear HSn hdd
          go_wp2_with (go_at_call 53; (with_reducible_and_instances (refine HA2.out.mono ?_)); rintro r W3 ⟨rfl, hb3⟩; have HB3 := hid (HB2.out.trans (hb3.mono HB2.out.size)); clear hb3)
          go_roundw
          case measure => simp [intOf]; omega
          case rel =>
            refine ⟨j + 1, by omega, by go_num, (HEnd.out _ HB3.out).1, (HEnd.out _ HB3.out).2.1, (HEnd.out _ HB3.out).2.2, ?_⟩
            rw [HSn2.out]
            exact (HMj2.out _ HB3.out).mono (by omega)
        | false =>
          have HSn2 := hid (HSn.out.trans (if_pos (by simp)))
          clear HSn hdd
          go_wp2_with (go_at_call 53; (with_reducible_and_instances (refine HA2.out.mono ?_)); rintro r W3 ⟨rfl, hb3⟩; have HB3 := hid (HB2.out.trans (hb3.mono HB2.out.size)); obtain ⟨t0, t1, t2, t3, t4, t5⟩ := HCc.out W3 hb3; have u0 := (HEnd.out _ HB3.out).2.2.cell 0; simp only [List.getElem?_toArray, List.getElem?_cons_zero] at u0; obtain ⟨W4, hr4, hM4, hc4⟩ := (HMj2.out _ HB3.out).store keyB Tryz.underlying104 (by have := HMl.out; omega) (key := .string rk) (val := .int .i64 ro) (keyOf_b rk (by unfold maxLen; have := HKy.out; omega)); have HM4 := hid hM4; have HC4 := hid hc4; clear hb3 hM4 hc4)
          have hs0 := HS0.out
          have hw1 : w.heap.size ≤ W3.heap.size := (HEnd.out _ HB3.out).1.size
          go_roundw
          case measure => simp [intOf]; omega
          case rel =>
            refine ⟨j + 1, by omega, by go_num, (HEnd.out _ HB3.out).1.trans (HC4.out.below (fun g hg => by simp at hg; omega) hw1), Blk.chg (HEnd.out _ HB3.out).2.1 HC4.out (by simp; omega), (HEnd.out _ HB3.out).2.2.chg HC4.out (by simp), ?_⟩
            rw [HSn2.out]
            exact HM4.out
    · obtain rfl : j = m := by omega
      have HFin : Hid (g.rows.take j = g.rows) := List.take_of_length_le (by rw [HM.out]; exact Nat.le_refl _)
      go_wp2_with fail
      go_ret
      refine ⟨_, rfl, ?_, HBj.out⟩
      refine chS_stay HXj.out HLj.out (n := j) ?_
      have h := HMj.out
      rw [HFin.out] at h
      exact h
end Go.Proofs.YtfgamkcnnijloaaGreat
