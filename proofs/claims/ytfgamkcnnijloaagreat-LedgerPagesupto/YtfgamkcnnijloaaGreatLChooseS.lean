/- choose of Rows over staying's closures, choose of Gones over Apply's (by genlret13.py). -/
import Derived.Test.YtfgamkcnnijloaaGreatPZAb
namespace Go.Proofs.YtfgamkcnnijloaaGreat
open Go.RowKit Go.Shelf
variable {w w' : World} {ad : Option Addr} {m c : Nat}

def GBox (w : World) (B : Nat) (x : Gn) : Prop := Blk w B #[.int .i64 x.prod, .int .i64 x.first, .int .i64 x.last] 75
theorem gn_rowP (W : World) (x : Gn) : RowK kGn (W.alloc (.cells #[.int .i64 x.prod, .int .i64 x.first, .int .i64 x.last] 75)) (some ⟨W.heap.size, 0, none⟩) [x] := by
  refine Or.inr ⟨W.heap.size, 0, rfl, by simp, fun i hi c hc => ?_⟩
  obtain rfl : i = 0 := by simpa using hi
  have hb : Blk (W.alloc (.cells #[.int .i64 x.prod, .int .i64 x.first, .int .i64 x.last] 75)) W.heap.size #[.int .i64 x.prod, .int .i64 x.first, .int .i64 x.last] 75 := heap_alloc_new W _
  rw [show 0 + 0 * kGn.sz + c = c by simp]
  exact (hb.cell c).trans (by rw [List.getElem?_toArray]; rfl)
theorem chosen_stepG {w W w5 : World} {v v' : Value} {l l' : List Gn} {o : Obj} (hb : Below w.heap.size w W) (hO : OwnK kGn W w.heap.size v l) (hown : OwnK kGn w5 w.heap.size v' l') (hg : (W.alloc o).grownBy w5 v.ownBlock) : Below w.heap.size w w5 ∧ ∃ a c, v' = .slice a l'.length c := by
  refine ⟨?_, ?_⟩
  · refine (hb.alloc hb.size o).grown hg (by simp; have := hb.size; omega) (fun k hk => (hO.block k hk).1)
  · obtain ⟨a, c, h, -⟩ := hown.form kGn_ok.tofit
    exact ⟨a, c, h⟩
set_option maxHeartbeats 2000000 in
theorem chooseRet {l : List Rw} (xb : Nat) (p : Rw → Bool) (h : ArgK kRw w l ad m c) (most : Nat) (hmo : most ≤ 9223372036854775807) (hby : m * 64 ≤ 140737488355328) (hp : ∀ W, Below w.heap.size w W → ∀ j, j < m → Calls Tryz.prog 52 #[.agg #[.int .i64 (l.getD j rw0).off, .int .i64 (l.getD j rw0).prod, .bool (l.getD j rw0).tx, .string (l.getD j rw0).rc.key, .string (l.getD j rw0).rc.val, .bool (l.getD j rw0).rc.dead], .pointer (some ⟨xb, 0, none⟩)] W fun e w' => e = .returned (.bool (p (l.getD j rw0))) ∧ Below W.heap.size W w') :
    Calls Tryz.prog 30 #[.slice ad m c, .int .i64 (most : Int), .func (.func 52) #[] #[.pointer (some ⟨xb, 0, none⟩)]] w fun e w' => ∃ v, e = .returned v ∧ OwnK kRw w' w.heap.size v (chooseN p most l) ∧ Below w.heap.size w w' := by
  have H := hid h
  have HPp := hid hp
  have hm : m ≤ 9223372036854775807 := by have := h.cap; have := h.room; unfold maxLen at this; omega
  have HBy := hid hby
  clear h hp hby
  go_enter Tryz.func30, Tryz.ntmps30
  go_wp2_with fail
  go_loopw [7, 12] (fun v i wr => ∃ (j k : Nat), j ≤ m ∧ k ≤ j ∧ i = .int .i64 (j : Int) ∧ (∃ a c, v = .slice a k c) ∧ Hid ((chooseN p most (l.take j)).length = k) ∧ Hid (OwnK kRw wr w.heap.size v (chooseN p most (l.take j))) ∧ Hid (Below w.heap.size w wr)) (fun _ i _ => m - (intOf i).toNat)
  case atStart => exact ⟨0, 0, by omega, by omega, rfl, ⟨none, 0, rfl⟩, (by rw [List.take_zero]; cases most <;> exact rfl), (by rw [List.take_zero]; cases most <;> exact OwnK.nil _ _), Below.refl _ _⟩
  case round =>
    obtain ⟨j, k, hj, hkj, rfl, ⟨av, cv, rfl⟩, HK, HO, HB⟩ := hrel
    by_cases hlt : j < m
    · have H2 := H.out.later HB.out
      obtain ⟨b, off, rfl, hs, hc⟩ := H2.cells (by omega)
      have HL : Hid (j < l.length) := by rw [H.out.len]; exact hlt
      have HTk := hid (take_snoc_any l rw0 j HL.out)
      have r0 : wr.cell? ⟨b, off + j * 6, none⟩ = some (.int .i64 (l.getD j rw0).off) := hc j hlt 0 (by decide)
      have r1 : wr.cell? ⟨b, off + j * 6 + 1, none⟩ = some (.int .i64 (l.getD j rw0).prod) := hc j hlt 1 (by decide)
      have r2 : wr.cell? ⟨b, off + j * 6 + 2, none⟩ = some (.bool (l.getD j rw0).tx) := hc j hlt 2 (by decide)
      have r3 : wr.cell? ⟨b, off + j * 6 + 3, none⟩ = some (.string (l.getD j rw0).rc.key) := hc j hlt 3 (by decide)
      have r4 : wr.cell? ⟨b, off + j * 6 + 4, none⟩ = some (.string (l.getD j rw0).rc.val) := hc j hlt 4 (by decide)
      have r5 : wr.cell? ⟨b, off + j * 6 + 5, none⟩ = some (.bool (l.getD j rw0).rc.dead) := hc j hlt 5 (by decide)
      obtain ⟨W1, hW1⟩ : ∃ W1, wr.alloc (.cells #[.int .i64 (l.getD j rw0).off, .int .i64 (l.getD j rw0).prod, .bool (l.getD j rw0).tx, .string (l.getD j rw0).rc.key, .string (l.getD j rw0).rc.val, .bool (l.getD j rw0).rc.dead] 51) = W1 := ⟨_, rfl⟩
      have b1 : Below wr.heap.size wr W1 := by rw [← hW1]; exact (Below.refl _ _).alloc (Nat.le_refl _) _
      have x1 : RwBox W1 wr.heap.size (l.getD j rw0) := by rw [← hW1]; exact heap_alloc_new wr _
      have HB1 := hid (HB.out.trans (b1.mono HB.out.size))
      have HO1 := hid (HO.out.later b1)
      have HC := hid (HPp.out W1 HB1.out j hlt)
      have HX1 := hid x1
      have lx : wr.heap.size < W1.heap.size := Blk.lt x1
      have hszb : w.heap.size ≤ wr.heap.size := HB.out.size
      have HAt : Hid (l.getD j rw0 = l.getD j rw0) := rfl
      clear hc hs H2 b1 x1
      obtain ⟨y, hy⟩ : ∃ y, l.getD j rw0 = y := ⟨_, rfl⟩
      rw [hy] at r0 r1 r2 r3 r4 r5 hW1 HC HTk HX1
      clear HAt hy
      obtain ⟨ro, rp, rt, ⟨rk, rv, rd⟩⟩ := y
      by_cases hfull : k = most
      · subst hfull
        have HFin : Hid (chooseN p k l = chooseN p k (l.take j)) := by
          have e : l = l.take j ++ l.drop j := (List.take_append_drop j l).symm
          have := choose_full (k := l.drop j) HK.out
          rw [← e] at this
          exact this
        have hke : ((k : Int) == (k : Int)) = true := by simp
        clear HC
        go_wp2_with fail
        go_ret
        exact ⟨_, rfl, by rw [HFin.out]; exact HO1.out, HB1.out⟩
      · have hkn : ((k : Int) == (most : Int)) = false := by simp; omega
        have HNf : Hid ((chooseN p most (l.take j)).length ≠ most) := by rw [HK.out]; exact hfull
        have d0 := Blk.cell HX1.out 0
        have d1 := Blk.cell HX1.out 1
        have d2 := Blk.cell HX1.out 2
        have d3 := Blk.cell HX1.out 3
        have d4 := Blk.cell HX1.out 4
        have d5 := Blk.cell HX1.out 5
        simp only [List.getElem?_toArray, List.getElem?_cons_zero, List.getElem?_cons_succ] at d0 d1 d2 d3 d4 d5
        clear hfull
        cases hpy : p ⟨ro, rp, rt, ⟨rk, rv, rd⟩⟩ with
        | true =>
          rw [hpy] at HC
          have HN2 := hid (choose_hit HNf.out hpy)
          rw [← HTk.out] at HN2
          clear hpy
          go_wp2_with (first
            | (go_at_call 52; (with_reducible_and_instances (refine HC.out.mono ?_)); rintro e w2 ⟨rfl, hb2⟩; have hx2 : RwBox w2 wr.heap.size ⟨ro, rp, rt, ⟨rk, rv, rd⟩⟩ := Blk.later HX1.out hb2; have e0 := Blk.cell hx2 0; have e1 := Blk.cell hx2 1; have e2 := Blk.cell hx2 2; have e3 := Blk.cell hx2 3; have e4 := Blk.cell hx2 4; have e5 := Blk.cell hx2 5; simp only [List.getElem?_toArray, List.getElem?_cons_zero, List.getElem?_cons_succ] at e0 e1 e2 e3 e4 e5; have HB2 := hid (HB1.out.trans (hb2.mono HB1.out.size)); have HO2 := hid (HO1.out.later hb2); clear hx2 hb2; have HRw := hid (rw_rowP w2 ⟨ro, rp, rt, ⟨rk, rv, rd⟩⟩); have HO3 := hid (HO2.out.later ((Below.refl _ w2).alloc (Nat.le_refl _) (.cells #[.int .i64 ro, .int .i64 rp, .bool rt, .string rk, .string rv, .bool rd] 51))); have hs2 := HB2.out.size)
            | (at_builtin; refine app_kd kRw_ok rfl (.tmp 23) (.tmp 25) rfl w.heap.size (.slice av k cv) (chooseN p most (l.take j)) rfl HO3.out (some ⟨w2.heap.size, 0, none⟩) 1 1 [⟨ro, rp, rt, ⟨rk, rv, rd⟩⟩] rfl rfl (fun e => by cases e) HRw.out (by rw [HK.out]; unfold maxLen; omega) (by rw [HK.out]; exact Nat.le_trans (Nat.mul_le_mul_right 64 (by omega)) HBy.out) (by simp; omega) ?_; intro v5 w5 hO5 hg5; obtain ⟨hB5, ⟨a5, c5, hv5⟩⟩ := chosen_step HB2.out HO2.out hO5 hg5; rw [List.length_append, HK.out] at hv5; subst hv5; have HB5 := hid hB5; have HO5 := hid hO5; clear hO5 hg5 hB5))
          refine ⟨⟨j + 1, k + 1, by omega, by omega, by go_num, ⟨a5, c5, rfl⟩, (by rw [HN2.out, List.length_append, HK.out]; exact rfl), (by rw [HN2.out]; exact HO5.out), HB5⟩, by simp [intOf]; omega⟩
        | false =>
          rw [hpy] at HC
          have HN2 := hid (choose_miss (m := most) (l := l.take j) hpy)
          rw [← HTk.out] at HN2
          clear hpy
          go_wp2_with (go_at_call 52; (with_reducible_and_instances (refine HC.out.mono ?_)); rintro e w2 ⟨rfl, hb2⟩; have HB2 := hid (HB1.out.trans (hb2.mono HB1.out.size)); have HO2 := hid (HO1.out.later hb2); clear hb2)
          refine ⟨⟨j + 1, k, by omega, by omega, by go_num, ⟨av, cv, rfl⟩, (by rw [HN2.out]; exact HK.out), (by rw [HN2.out]; exact HO2.out), HB2⟩, by simp [intOf]; omega⟩
    · obtain rfl : j = m := by omega
      have HFin : Hid (l.take j = l) := List.take_of_length_le (by rw [H.out.len]; exact Nat.le_refl _)
      go_wp2_with fail
      go_ret
      exact ⟨_, rfl, by rw [← HFin.out]; exact HO.out, HB.out⟩
set_option maxHeartbeats 2000000 in
theorem chooseStay {l : List Rw} (lb xb : Nat) (p : Rw → Bool) (h : ArgK kRw w l ad m c) (most : Nat) (hmo : most ≤ 9223372036854775807) (hby : m * 64 ≤ 140737488355328) (hp : ∀ W, Below w.heap.size w W → ∀ j, j < m → Calls Tryz.prog 54 #[.agg #[.int .i64 (l.getD j rw0).off, .int .i64 (l.getD j rw0).prod, .bool (l.getD j rw0).tx, .string (l.getD j rw0).rc.key, .string (l.getD j rw0).rc.val, .bool (l.getD j rw0).rc.dead], .pointer (some ⟨lb, 0, none⟩), .pointer (some ⟨xb, 0, none⟩)] W fun e w' => e = .returned (.bool (p (l.getD j rw0))) ∧ Below W.heap.size W w') :
    Calls Tryz.prog 30 #[.slice ad m c, .int .i64 (most : Int), .func (.func 54) #[] #[.pointer (some ⟨lb, 0, none⟩), .pointer (some ⟨xb, 0, none⟩)]] w fun e w' => ∃ v, e = .returned v ∧ OwnK kRw w' w.heap.size v (chooseN p most l) ∧ Below w.heap.size w w' := by
  have H := hid h
  have HPp := hid hp
  have hm : m ≤ 9223372036854775807 := by have := h.cap; have := h.room; unfold maxLen at this; omega
  have HBy := hid hby
  clear h hp hby
  go_enter Tryz.func30, Tryz.ntmps30
  go_wp2_with fail
  go_loopw [7, 12] (fun v i wr => ∃ (j k : Nat), j ≤ m ∧ k ≤ j ∧ i = .int .i64 (j : Int) ∧ (∃ a c, v = .slice a k c) ∧ Hid ((chooseN p most (l.take j)).length = k) ∧ Hid (OwnK kRw wr w.heap.size v (chooseN p most (l.take j))) ∧ Hid (Below w.heap.size w wr)) (fun _ i _ => m - (intOf i).toNat)
  case atStart => exact ⟨0, 0, by omega, by omega, rfl, ⟨none, 0, rfl⟩, (by rw [List.take_zero]; cases most <;> exact rfl), (by rw [List.take_zero]; cases most <;> exact OwnK.nil _ _), Below.refl _ _⟩
  case round =>
    obtain ⟨j, k, hj, hkj, rfl, ⟨av, cv, rfl⟩, HK, HO, HB⟩ := hrel
    by_cases hlt : j < m
    · have H2 := H.out.later HB.out
      obtain ⟨b, off, rfl, hs, hc⟩ := H2.cells (by omega)
      have HL : Hid (j < l.length) := by rw [H.out.len]; exact hlt
      have HTk := hid (take_snoc_any l rw0 j HL.out)
      have r0 : wr.cell? ⟨b, off + j * 6, none⟩ = some (.int .i64 (l.getD j rw0).off) := hc j hlt 0 (by decide)
      have r1 : wr.cell? ⟨b, off + j * 6 + 1, none⟩ = some (.int .i64 (l.getD j rw0).prod) := hc j hlt 1 (by decide)
      have r2 : wr.cell? ⟨b, off + j * 6 + 2, none⟩ = some (.bool (l.getD j rw0).tx) := hc j hlt 2 (by decide)
      have r3 : wr.cell? ⟨b, off + j * 6 + 3, none⟩ = some (.string (l.getD j rw0).rc.key) := hc j hlt 3 (by decide)
      have r4 : wr.cell? ⟨b, off + j * 6 + 4, none⟩ = some (.string (l.getD j rw0).rc.val) := hc j hlt 4 (by decide)
      have r5 : wr.cell? ⟨b, off + j * 6 + 5, none⟩ = some (.bool (l.getD j rw0).rc.dead) := hc j hlt 5 (by decide)
      obtain ⟨W1, hW1⟩ : ∃ W1, wr.alloc (.cells #[.int .i64 (l.getD j rw0).off, .int .i64 (l.getD j rw0).prod, .bool (l.getD j rw0).tx, .string (l.getD j rw0).rc.key, .string (l.getD j rw0).rc.val, .bool (l.getD j rw0).rc.dead] 51) = W1 := ⟨_, rfl⟩
      have b1 : Below wr.heap.size wr W1 := by rw [← hW1]; exact (Below.refl _ _).alloc (Nat.le_refl _) _
      have x1 : RwBox W1 wr.heap.size (l.getD j rw0) := by rw [← hW1]; exact heap_alloc_new wr _
      have HB1 := hid (HB.out.trans (b1.mono HB.out.size))
      have HO1 := hid (HO.out.later b1)
      have HC := hid (HPp.out W1 HB1.out j hlt)
      have HX1 := hid x1
      have lx : wr.heap.size < W1.heap.size := Blk.lt x1
      have hszb : w.heap.size ≤ wr.heap.size := HB.out.size
      have HAt : Hid (l.getD j rw0 = l.getD j rw0) := rfl
      clear hc hs H2 b1 x1
      obtain ⟨y, hy⟩ : ∃ y, l.getD j rw0 = y := ⟨_, rfl⟩
      rw [hy] at r0 r1 r2 r3 r4 r5 hW1 HC HTk HX1
      clear HAt hy
      obtain ⟨ro, rp, rt, ⟨rk, rv, rd⟩⟩ := y
      by_cases hfull : k = most
      · subst hfull
        have HFin : Hid (chooseN p k l = chooseN p k (l.take j)) := by
          have e : l = l.take j ++ l.drop j := (List.take_append_drop j l).symm
          have := choose_full (k := l.drop j) HK.out
          rw [← e] at this
          exact this
        have hke : ((k : Int) == (k : Int)) = true := by simp
        clear HC
        go_wp2_with fail
        go_ret
        exact ⟨_, rfl, by rw [HFin.out]; exact HO1.out, HB1.out⟩
      · have hkn : ((k : Int) == (most : Int)) = false := by simp; omega
        have HNf : Hid ((chooseN p most (l.take j)).length ≠ most) := by rw [HK.out]; exact hfull
        have d0 := Blk.cell HX1.out 0
        have d1 := Blk.cell HX1.out 1
        have d2 := Blk.cell HX1.out 2
        have d3 := Blk.cell HX1.out 3
        have d4 := Blk.cell HX1.out 4
        have d5 := Blk.cell HX1.out 5
        simp only [List.getElem?_toArray, List.getElem?_cons_zero, List.getElem?_cons_succ] at d0 d1 d2 d3 d4 d5
        clear hfull
        cases hpy : p ⟨ro, rp, rt, ⟨rk, rv, rd⟩⟩ with
        | true =>
          rw [hpy] at HC
          have HN2 := hid (choose_hit HNf.out hpy)
          rw [← HTk.out] at HN2
          clear hpy
          go_wp2_with (first
            | (go_at_call 54; (with_reducible_and_instances (refine HC.out.mono ?_)); rintro e w2 ⟨rfl, hb2⟩; have hx2 : RwBox w2 wr.heap.size ⟨ro, rp, rt, ⟨rk, rv, rd⟩⟩ := Blk.later HX1.out hb2; have e0 := Blk.cell hx2 0; have e1 := Blk.cell hx2 1; have e2 := Blk.cell hx2 2; have e3 := Blk.cell hx2 3; have e4 := Blk.cell hx2 4; have e5 := Blk.cell hx2 5; simp only [List.getElem?_toArray, List.getElem?_cons_zero, List.getElem?_cons_succ] at e0 e1 e2 e3 e4 e5; have HB2 := hid (HB1.out.trans (hb2.mono HB1.out.size)); have HO2 := hid (HO1.out.later hb2); clear hx2 hb2; have HRw := hid (rw_rowP w2 ⟨ro, rp, rt, ⟨rk, rv, rd⟩⟩); have HO3 := hid (HO2.out.later ((Below.refl _ w2).alloc (Nat.le_refl _) (.cells #[.int .i64 ro, .int .i64 rp, .bool rt, .string rk, .string rv, .bool rd] 51))); have hs2 := HB2.out.size)
            | (at_builtin; refine app_kd kRw_ok rfl (.tmp 23) (.tmp 25) rfl w.heap.size (.slice av k cv) (chooseN p most (l.take j)) rfl HO3.out (some ⟨w2.heap.size, 0, none⟩) 1 1 [⟨ro, rp, rt, ⟨rk, rv, rd⟩⟩] rfl rfl (fun e => by cases e) HRw.out (by rw [HK.out]; unfold maxLen; omega) (by rw [HK.out]; exact Nat.le_trans (Nat.mul_le_mul_right 64 (by omega)) HBy.out) (by simp; omega) ?_; intro v5 w5 hO5 hg5; obtain ⟨hB5, ⟨a5, c5, hv5⟩⟩ := chosen_step HB2.out HO2.out hO5 hg5; rw [List.length_append, HK.out] at hv5; subst hv5; have HB5 := hid hB5; have HO5 := hid hO5; clear hO5 hg5 hB5))
          refine ⟨⟨j + 1, k + 1, by omega, by omega, by go_num, ⟨a5, c5, rfl⟩, (by rw [HN2.out, List.length_append, HK.out]; exact rfl), (by rw [HN2.out]; exact HO5.out), HB5⟩, by simp [intOf]; omega⟩
        | false =>
          rw [hpy] at HC
          have HN2 := hid (choose_miss (m := most) (l := l.take j) hpy)
          rw [← HTk.out] at HN2
          clear hpy
          go_wp2_with (go_at_call 54; (with_reducible_and_instances (refine HC.out.mono ?_)); rintro e w2 ⟨rfl, hb2⟩; have HB2 := hid (HB1.out.trans (hb2.mono HB1.out.size)); have HO2 := hid (HO1.out.later hb2); clear hb2)
          refine ⟨⟨j + 1, k, by omega, by omega, by go_num, ⟨av, cv, rfl⟩, (by rw [HN2.out]; exact HK.out), (by rw [HN2.out]; exact HO2.out), HB2⟩, by simp [intOf]; omega⟩
    · obtain rfl : j = m := by omega
      have HFin : Hid (l.take j = l) := List.take_of_length_le (by rw [H.out.len]; exact Nat.le_refl _)
      go_wp2_with fail
      go_ret
      exact ⟨_, rfl, by rw [← HFin.out]; exact HO.out, HB.out⟩
set_option maxHeartbeats 2000000 in
theorem chooseGone {l : List Gn} (xb : Nat) (p : Gn → Bool) (h : ArgK kGn w l ad m c) (most : Nat) (hmo : most ≤ 9223372036854775807) (hby : m * 24 ≤ 140737488355328) (hp : ∀ W, Below w.heap.size w W → ∀ j, j < m → Calls Tryz.prog 29 #[.agg #[.int .i64 (l.getD j gn0).prod, .int .i64 (l.getD j gn0).first, .int .i64 (l.getD j gn0).last], .pointer (some ⟨xb, 0, none⟩)] W fun e w' => e = .returned (.bool (p (l.getD j gn0))) ∧ Below W.heap.size W w') :
    Calls Tryz.prog 28 #[.slice ad m c, .int .i64 (most : Int), .func (.func 29) #[] #[.pointer (some ⟨xb, 0, none⟩)]] w fun e w' => ∃ v, e = .returned v ∧ OwnK kGn w' w.heap.size v (chooseN p most l) ∧ Below w.heap.size w w' := by
  have H := hid h
  have HPp := hid hp
  have hm : m ≤ 9223372036854775807 := by have := h.cap; have := h.room; unfold maxLen at this; omega
  have HBy := hid hby
  clear h hp hby
  go_enter Tryz.func28, Tryz.ntmps28
  go_wp2_with fail
  go_loopw [7, 12] (fun v i wr => ∃ (j k : Nat), j ≤ m ∧ k ≤ j ∧ i = .int .i64 (j : Int) ∧ (∃ a c, v = .slice a k c) ∧ Hid ((chooseN p most (l.take j)).length = k) ∧ Hid (OwnK kGn wr w.heap.size v (chooseN p most (l.take j))) ∧ Hid (Below w.heap.size w wr)) (fun _ i _ => m - (intOf i).toNat)
  case atStart => exact ⟨0, 0, by omega, by omega, rfl, ⟨none, 0, rfl⟩, (by rw [List.take_zero]; cases most <;> exact rfl), (by rw [List.take_zero]; cases most <;> exact OwnK.nil _ _), Below.refl _ _⟩
  case round =>
    obtain ⟨j, k, hj, hkj, rfl, ⟨av, cv, rfl⟩, HK, HO, HB⟩ := hrel
    by_cases hlt : j < m
    · have H2 := H.out.later HB.out
      obtain ⟨b, off, rfl, hs, hc⟩ := H2.cells (by omega)
      have HL : Hid (j < l.length) := by rw [H.out.len]; exact hlt
      have HTk := hid (take_snoc_any l gn0 j HL.out)
      have r0 : wr.cell? ⟨b, off + j * 3, none⟩ = some (.int .i64 (l.getD j gn0).prod) := hc j hlt 0 (by decide)
      have r1 : wr.cell? ⟨b, off + j * 3 + 1, none⟩ = some (.int .i64 (l.getD j gn0).first) := hc j hlt 1 (by decide)
      have r2 : wr.cell? ⟨b, off + j * 3 + 2, none⟩ = some (.int .i64 (l.getD j gn0).last) := hc j hlt 2 (by decide)
      obtain ⟨W1, hW1⟩ : ∃ W1, wr.alloc (.cells #[.int .i64 (l.getD j gn0).prod, .int .i64 (l.getD j gn0).first, .int .i64 (l.getD j gn0).last] 75) = W1 := ⟨_, rfl⟩
      have b1 : Below wr.heap.size wr W1 := by rw [← hW1]; exact (Below.refl _ _).alloc (Nat.le_refl _) _
      have x1 : GBox W1 wr.heap.size (l.getD j gn0) := by rw [← hW1]; exact heap_alloc_new wr _
      have HB1 := hid (HB.out.trans (b1.mono HB.out.size))
      have HO1 := hid (HO.out.later b1)
      have HC := hid (HPp.out W1 HB1.out j hlt)
      have HX1 := hid x1
      have lx : wr.heap.size < W1.heap.size := Blk.lt x1
      have hszb : w.heap.size ≤ wr.heap.size := HB.out.size
      have HAt : Hid (l.getD j gn0 = l.getD j gn0) := rfl
      clear hc hs H2 b1 x1
      obtain ⟨y, hy⟩ : ∃ y, l.getD j gn0 = y := ⟨_, rfl⟩
      rw [hy] at r0 r1 r2 hW1 HC HTk HX1
      clear HAt hy
      obtain ⟨gp, gf, gl⟩ := y
      by_cases hfull : k = most
      · subst hfull
        have HFin : Hid (chooseN p k l = chooseN p k (l.take j)) := by
          have e : l = l.take j ++ l.drop j := (List.take_append_drop j l).symm
          have := choose_full (k := l.drop j) HK.out
          rw [← e] at this
          exact this
        have hke : ((k : Int) == (k : Int)) = true := by simp
        clear HC
        go_wp2_with fail
        go_ret
        exact ⟨_, rfl, by rw [HFin.out]; exact HO1.out, HB1.out⟩
      · have hkn : ((k : Int) == (most : Int)) = false := by simp; omega
        have HNf : Hid ((chooseN p most (l.take j)).length ≠ most) := by rw [HK.out]; exact hfull
        have d0 := Blk.cell HX1.out 0
        have d1 := Blk.cell HX1.out 1
        have d2 := Blk.cell HX1.out 2
        simp only [List.getElem?_toArray, List.getElem?_cons_zero, List.getElem?_cons_succ] at d0 d1 d2
        clear hfull
        cases hpy : p ⟨gp, gf, gl⟩ with
        | true =>
          rw [hpy] at HC
          have HN2 := hid (choose_hit HNf.out hpy)
          rw [← HTk.out] at HN2
          clear hpy
          go_wp2_with (first
            | (go_at_call 29; (with_reducible_and_instances (refine HC.out.mono ?_)); rintro e w2 ⟨rfl, hb2⟩; have hx2 : GBox w2 wr.heap.size ⟨gp, gf, gl⟩ := Blk.later HX1.out hb2; have e0 := Blk.cell hx2 0; have e1 := Blk.cell hx2 1; have e2 := Blk.cell hx2 2; simp only [List.getElem?_toArray, List.getElem?_cons_zero, List.getElem?_cons_succ] at e0 e1 e2; have HB2 := hid (HB1.out.trans (hb2.mono HB1.out.size)); have HO2 := hid (HO1.out.later hb2); clear hx2 hb2; have HRw := hid (gn_rowP w2 ⟨gp, gf, gl⟩); have HO3 := hid (HO2.out.later ((Below.refl _ w2).alloc (Nat.le_refl _) (.cells #[.int .i64 gp, .int .i64 gf, .int .i64 gl] 75))); have hs2 := HB2.out.size)
            | (at_builtin; refine app_kd kGn_ok rfl (.tmp 23) (.tmp 25) rfl w.heap.size (.slice av k cv) (chooseN p most (l.take j)) rfl HO3.out (some ⟨w2.heap.size, 0, none⟩) 1 1 [⟨gp, gf, gl⟩] rfl rfl (fun e => by cases e) HRw.out (by rw [HK.out]; unfold maxLen; omega) (by rw [HK.out]; exact Nat.le_trans (Nat.mul_le_mul_right 24 (by omega)) HBy.out) (by simp; omega) ?_; intro v5 w5 hO5 hg5; obtain ⟨hB5, ⟨a5, c5, hv5⟩⟩ := chosen_stepG HB2.out HO2.out hO5 hg5; rw [List.length_append, HK.out] at hv5; subst hv5; have HB5 := hid hB5; have HO5 := hid hO5; clear hO5 hg5 hB5))
          refine ⟨⟨j + 1, k + 1, by omega, by omega, by go_num, ⟨a5, c5, rfl⟩, (by rw [HN2.out, List.length_append, HK.out]; exact rfl), (by rw [HN2.out]; exact HO5.out), HB5⟩, by simp [intOf]; omega⟩
        | false =>
          rw [hpy] at HC
          have HN2 := hid (choose_miss (m := most) (l := l.take j) hpy)
          rw [← HTk.out] at HN2
          clear hpy
          go_wp2_with (go_at_call 29; (with_reducible_and_instances (refine HC.out.mono ?_)); rintro e w2 ⟨rfl, hb2⟩; have HB2 := hid (HB1.out.trans (hb2.mono HB1.out.size)); have HO2 := hid (HO1.out.later hb2); clear hb2)
          refine ⟨⟨j + 1, k, by omega, by omega, by go_num, ⟨av, cv, rfl⟩, (by rw [HN2.out]; exact HK.out), (by rw [HN2.out]; exact HO2.out), HB2⟩, by simp [intOf]; omega⟩
    · obtain rfl : j = m := by omega
      have HFin : Hid (l.take j = l) := List.take_of_length_le (by rw [H.out.len]; exact Nat.le_refl _)
      go_wp2_with fail
      go_ret
      exact ⟨_, rfl, by rw [← HFin.out]; exact HO.out, HB.out⟩
end Go.Proofs.YtfgamkcnnijloaaGreat
