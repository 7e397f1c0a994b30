/- The walk of GroupBytes (regs.py SEAT GBytesW.src GBytesW.lean.t; by mkbytesw). -/
import Derived.Test.YtiiepmljcjbflaaGreatGReadsW
import Derived.Test.YtiiepmljcjbflaaGreatGTellP
import Derived.Test.YtiiepmljcjbflaaGreatGTellQ
import Derived.Test.YtiiepmljcjbflaaGreatPGXLent
namespace Go.Proofs.YtiiepmljcjbflaaGreat
open Go.RowKit
variable {w : World} {ad : Option Addr} {len cap : Nat} {l : List Nat}

theorem ev_neqG (x y : Ev) (W : World) : (binOp .neq TEv (.agg (evA x)) (.agg (evA y))).run Tryz.prog W = .ok (.bool (!decide (x = y))) W := by
  have h := ev_eql x y W
  simp only [binOp, Sem.run_bind] at h ⊢
  cases hr : Sem.run Tryz.prog (Op.equal TEv (Value.agg (evA x)) (Value.agg (evA y))) W <;> rw [hr] at h <;> simp_all
theorem ev_nguard (x y : Operand) (xs ys : Array Value) (w : World) : (eqGuard .neq TEv x y (.agg xs) (.agg ys)).run Tryz.prog w = .ok () w := run_eqGuard_agg w .neq _ x y xs ys (by kernel_rfl)
theorem exec_neq {a : Act} {o : Oper} (x y : Ev) (p q : Operand) (ho : o.op = .binOp .neq TEv p q TEv) (h1 : a.eval p = .agg (evA x)) (h2 : a.eval q = .agg (evA y)) : (execOp a.eval o).run Tryz.prog w = .ok (.value (.bool (!decide (x = y)))) w := by
  unfold execOp
  simp only [ho, h1, h2, Sem.run_bind, ev_neqG, ev_nguard, Sem.run_pure, Result.andThen_ok]
/-- What PutEvent tells. -/
def putB (x : Ev) : List Nat := if x.may then tellE x else []
def putErr (x : Ev) : Int := if x.may then 0 else 1
theorem putB_len (x : Ev) : (putB x).length ≤ 1000 := by
  unfold putB
  by_cases h : x.may
  · rw [if_pos h]
    have hn := (may_fit h).name
    unfold tellE
    rw [frameBs_length, bodyT_len]
    omega
  · rw [if_neg h]; simp
set_option maxRecDepth 100000 in
set_option maxHeartbeats 8000000 in
theorem bytesG_walk (x : Ev) (hp : Part.ok w ⟨ad, len, cap, l⟩) (hlc : len ≤ cap) (hm : len ≤ 140737488351232) :
    Calls Tryz.prog 3 #[.agg (evA x), .slice ad len cap] w fun r w' => r = .returned (.bool true) ∧ Below w.heap.size w w' := by
  have HP := hid hp
  have hl : l.length = len := hp.1
  have HL := hid hl
  have hE : (if x.may then (0 : Int) else 1) = putErr x := rfl
  have hB : (if x.may then tellE x else []) = putB x := rfl
  have HPu := hid (fun W => putT_any x W)
  have HRu := hid (fun W => rputT_any x W)
  rw [hE, hB] at HPu HRu
  have HMy : Hid (x.may → putErr x = 0 ∧ putB x = tellE x ∧ ∀ y e, GotT (putB x) y e → y = x ∧ e = 0) := hid (fun h => by
    have h1 : putErr x = 0 := if_pos h
    have h2 : putB x = tellE x := if_pos h
    refine ⟨h1, h2, fun y e hg => ?_⟩
    rw [h2] at hg
    exact hg.uniq (Or.inl ⟨rfl, h, rfl⟩))
  have HMn : Hid (¬ x.may → putErr x = 1) := hid (fun h => if_neg h)
  have hbl := putB_len x
  obtain ⟨E, hE2⟩ : ∃ E, putErr x = E := ⟨_, rfl⟩
  obtain ⟨B, hB2⟩ : ∃ B, putB x = B := ⟨_, rfl⟩
  rw [hE2, hB2] at HPu HRu HMy
  rw [hE2] at HMn
  rw [hB2] at hbl
  obtain ⟨mB, hmB⟩ : ∃ mB, B.length = mB := ⟨_, rfl⟩
  rw [hmB] at hbl
  have HmB := hid hmB
  obtain ⟨bs, hbs⟩ : ∃ bs, bstr B = bs := ⟨_, rfl⟩
  have Hbs := hid hbs
  have HO := hid (fun X => own15_any x X)
  have HEqX : Hid (∀ (a : Act) (o : Oper) (W : World), o.op = .binOp .neq TEv (.tmp 78) (.tmp 80) TEv → a.eval (.tmp 78) = .agg (evA x) → a.eval (.tmp 80) = .agg (evA x) → (execOp a.eval o).run Tryz.prog W = .ok (.value (.bool false)) W) := hid (fun a o W h1 h2 h3 => by
    have h := exec_neq (w := W) x x (.tmp 78) (.tmp 80) h1 h2 h3
    rw [decide_eq_true rfl] at h
    exact h)
  obtain ⟨k, nm, ge, pa, of, pr, ep, nw, ys⟩ := x
  obtain ⟨t, ht⟩ : ∃ t, nmS nm = t := ⟨_, rfl⟩
  have hEv : evA ⟨k, nm, ge, pa, of, pr, ep, nw, ys⟩ = #[.int .i64 k, .string t, .int .i64 ge, .int .i64 pa, .int .i64 of, .int .i64 pr, .int .i64 ep, .int .i64 nw, .bool ys] := by rw [← ht]
  rw [hEv] at HPu HRu HO
  have HEv := hid hEv
  rw [hEv]
  clear hE hB hE2 hB2 hmB hbs hEv ht
  obtain ⟨W0, hW0⟩ : ∃ W0, w.alloc (.cells #[.int .i64 k, .string t, .int .i64 ge, .int .i64 pa, .int .i64 of, .int .i64 pr, .int .i64 ep, .int .i64 nw, .bool ys] REv) = W0 := ⟨_, rfl⟩
  have b0 : Below w.heap.size w W0 := by rw [← hW0]; exact (Below.refl _ _).alloc (Nat.le_refl _) _
  have x0 : Blk W0 w.heap.size #[.int .i64 k, .string t, .int .i64 ge, .int .i64 pa, .int .i64 of, .int .i64 pr, .int .i64 ep, .int .i64 nw, .bool ys] REv := by rw [← hW0]; exact heap_alloc_new w _
  have HB0 := hid b0
  have HXB := hid x0
  have hz0 : w.heap.size < W0.heap.size := x0.lt
  have HX0 : Hid (∀ W, Below W0.heap.size W0 W → (W.cell? ⟨w.heap.size, 0, none⟩ = some (.int .i64 k) ∧ W.cell? ⟨w.heap.size, 1, none⟩ = some (.string t) ∧ W.cell? ⟨w.heap.size, 2, none⟩ = some (.int .i64 ge) ∧ W.cell? ⟨w.heap.size, 3, none⟩ = some (.int .i64 pa) ∧ W.cell? ⟨w.heap.size, 4, none⟩ = some (.int .i64 of) ∧ W.cell? ⟨w.heap.size, 5, none⟩ = some (.int .i64 pr) ∧ W.cell? ⟨w.heap.size, 6, none⟩ = some (.int .i64 ep) ∧ W.cell? ⟨w.heap.size, 7, none⟩ = some (.int .i64 nw) ∧ W.cell? ⟨w.heap.size, 8, none⟩ = some (.bool ys))) := hid (fun W hW => by
    have hx := x0.later hW
    exact ⟨hx.cell 0, hx.cell 1, hx.cell 2, hx.cell 3, hx.cell 4, hx.cell 5, hx.cell 6, hx.cell 7, hx.cell 8⟩)
  have HLe := hid (lent_any ad len cap l W0 (hp.later b0) hm)
  clear b0 x0 hp
  go_enter Tryz.func3, Tryz.ntmps3
  go_upto_region 6 with (first
    | (go_at_call 6; (with_reducible_and_instances (refine HLe.out.mono ?_)); rintro r w1 ⟨g, c, rfl, hc1, hc2, own1, b1⟩; have HO1 := hid own1; have HB1 := hid b1; obtain ⟨e0, e1, e2, e3, e4, e5, e6, e7, e8⟩ := HX0.out w1 b1; clear own1 b1)
    | (go_at_call 8; (with_reducible_and_instances (refine (HO.out w1).mono ?_)); rintro r w2 ⟨rfl, b2⟩; have HB2 := hid b2; clear b2)
    | (go_at_call 7; (with_reducible_and_instances (refine (HPu.out w2).mono ?_)); rintro r w3 ⟨⟨v3, rfl, o3⟩, b3⟩; obtain ⟨a2, c2, hv2, hq2, hcc2, -⟩ := o3.slice mB HmB.out; subst hv2; have HQ2 := hid hq2; have HC2 := hid hcc2; have HB3 := hid (HB2.out.trans (b3.mono HB2.out.size)); obtain ⟨k0, k1, k2, k3, k4, k5, k6, k7, k8⟩ := HX0.out w3 (HB1.out.trans (HB3.out.mono HB1.out.size)); clear o3 b3 hq2 hcc2 e0 e1 e2 e3 e4 e5 e6 e7)
    | (go_at_call 9; (with_reducible_and_instances (refine (HRu.out w3).mono ?_)); rintro r w4 ⟨⟨v4, rfl, o4⟩, b4⟩; obtain ⟨a3, c3, hv3, hq3, -, -⟩ := o4.slice mB HmB.out; subst hv3; have HQ3 := hid hq3; have HB34 := hid b4; have HB4 := hid (HB3.out.trans (b4.mono HB3.out.size)); have HGt := hid (getT_any (some ⟨g, 0, none⟩) len c l w4 ((HO1.out.later HB4.out).cut HL.out (by simp [HL.out])) (by omega) (by omega)); clear o4 b4 hq3 k0 k1 k2 k3 k4 k5 k6 k7)
    | (go_at_call 10; (with_reducible_and_instances (refine HGt.out.mono ?_)); rintro r w5 ⟨y, f, rfl, hG, b5⟩; have HG := hid hG; have HB5 := hid b5; have hnx : Below w5.heap.size w5 (w5.alloc (.cells (evA y) TEv)) := (Below.refl _ _).alloc (Nat.le_refl _) _; have HN5 := hid hnx; have HRg := hid (rgetT_any ad len cap l (w5.alloc (.cells (evA y) TEv)) (HP.out.later (HB0.out.trans ((HB1.out.trans ((HB4.out.trans ((b5.trans (hnx.mono b5.size)).mono HB4.out.size)).mono HB1.out.size)).mono HB0.out.size))) hlc (by omega)); clear hG b5 hnx)
    | (go_at_call 11; (with_reducible_and_instances (refine HRg.out.mono ?_)); rintro r w6 ⟨z, f2, rfl, hG, b6⟩; obtain ⟨rfl, rfl⟩ := HG.out.uniq hG; have HB6 := hid b6; clear hG b6))
  obtain ⟨w8, hw8⟩ : ∃ w8, w6.alloc (.cells (evA y) REv) = w8 := ⟨_, rfl⟩
  rw [hw8]
  have n6 : Below w6.heap.size w6 w8 := by rw [← hw8]; exact (Below.refl _ _).alloc (Nat.le_refl _) _
  have t5 : Below (w5.alloc (.cells (evA y) TEv)).heap.size (w5.alloc (.cells (evA y) TEv)) w8 := HB6.out.trans (n6.mono HB6.out.size)
  have HT5 : Hid (Below w5.heap.size w5 w8) := hid (HN5.out.trans (t5.mono HN5.out.size))
  have HT4 : Hid (Below w4.heap.size w4 w8) := hid (HB5.out.trans (HT5.out.mono HB5.out.size))
  have HT1 : Hid (Below w1.heap.size w1 w8) := hid (HB4.out.trans (HT4.out.mono HB4.out.size))
  have HT0 : Hid (Below W0.heap.size W0 w8) := hid (HB1.out.trans (HT1.out.mono HB1.out.size))
  have HK10 : Hid (Blk w8 w5.heap.size (evA y) TEv) := hid ((show Blk (w5.alloc (.cells (evA y) TEv)) w5.heap.size _ _ from heap_alloc_new w5 _).later t5)
  have HK12 : Hid (Blk w8 w6.heap.size (evA y) REv) := hid (by rw [← hw8]; exact heap_alloc_new w6 _)
  have HQ2' : Hid (Part.ok w8 ⟨a2, mB, c2, B⟩) := hid (HQ2.out.later (HB34.out.trans (HT4.out.mono HB34.out.size)))
  have HQ3' : Hid (Part.ok w8 ⟨a3, mB, c3, B⟩) := hid (HQ3.out.later HT4.out)
  have HOg : Hid (Own w8 W0.heap.size (.slice (some ⟨g, 0, none⟩) (len + 2) c) (l ++ [201, 202])) := hid (HO1.out.later HT1.out)
  have HOy := hid (fun X => own15_any y X)
  have HEqY : Hid (∀ (a : Act) (o : Oper) (W : World), o.op = .binOp .neq TEv (.tmp 49) (.tmp 51) TEv → a.eval (.tmp 49) = .agg (evA y) → a.eval (.tmp 51) = .agg (evA y) → (execOp a.eval o).run Tryz.prog W = .ok (.value (.bool false)) W) := hid (fun a o W h1 h2 h3 => by
    have h := exec_neq (w := W) y y (.tmp 49) (.tmp 51) h1 h2 h3
    rw [decide_eq_true rfl] at h
    exact h)
  have hg10 : w.heap.size < w5.heap.size := by have h1 := HB1.out.size; have h2 := HB4.out.size; have h3 := HB5.out.size; omega
  clear n6 t5 hw8 HB6 HN5 HB5 HB34 HB4 HB3 HB2 HQ2 HQ3 HG HRg HGt HPu HRu HLe
  generalize w5.heap.size = g10 at *
  generalize w6.heap.size = g12 at *
  obtain ⟨yk, ynm, yg, yp, yo, yr, ye, yw, yy⟩ := y
  obtain ⟨yt, hyt⟩ : ∃ yt, nmS ynm = yt := ⟨_, rfl⟩
  have hEy : evA ⟨yk, ynm, yg, yp, yo, yr, ye, yw, yy⟩ = #[.int .i64 yk, .string yt, .int .i64 yg, .int .i64 yp, .int .i64 yo, .int .i64 yr, .int .i64 ye, .int .i64 yw, .bool yy] := by rw [← hyt]
  rw [hEy] at HK10 HK12 HOy HEqY
  (try rw [hEy])
  clear hEy hyt
  have HS6 : Hid (∀ W, Below w8.heap.size w8 W → (W.cell? ⟨g10, 0, none⟩ = some (.int .i64 yk) ∧ W.cell? ⟨g10, 1, none⟩ = some (.string yt) ∧ W.cell? ⟨g10, 2, none⟩ = some (.int .i64 yg) ∧ W.cell? ⟨g10, 3, none⟩ = some (.int .i64 yp) ∧ W.cell? ⟨g10, 4, none⟩ = some (.int .i64 yo) ∧ W.cell? ⟨g10, 5, none⟩ = some (.int .i64 yr) ∧ W.cell? ⟨g10, 6, none⟩ = some (.int .i64 ye) ∧ W.cell? ⟨g10, 7, none⟩ = some (.int .i64 yw) ∧ W.cell? ⟨g10, 8, none⟩ = some (.bool yy)) ∧ (W.cell? ⟨g12, 0, none⟩ = some (.int .i64 yk) ∧ W.cell? ⟨g12, 1, none⟩ = some (.string yt) ∧ W.cell? ⟨g12, 2, none⟩ = some (.int .i64 yg) ∧ W.cell? ⟨g12, 3, none⟩ = some (.int .i64 yp) ∧ W.cell? ⟨g12, 4, none⟩ = some (.int .i64 yo) ∧ W.cell? ⟨g12, 5, none⟩ = some (.int .i64 yr) ∧ W.cell? ⟨g12, 6, none⟩ = some (.int .i64 ye) ∧ W.cell? ⟨g12, 7, none⟩ = some (.int .i64 yw) ∧ W.cell? ⟨g12, 8, none⟩ = some (.bool yy)) ∧ (convert 24 9 (.slice a2 mB c2)).run Tryz.prog W = .ok (.string bs) W ∧ (convert 24 9 (.slice a3 mB c3)).run Tryz.prog W = .ok (.string bs) W) := hid (fun W hW => by
    have h10 := HK10.out.later hW
    have h12 := HK12.out.later hW
    have e2 := conv_any (HQ2'.out.later hW).2.2 mB c2 HmB.out
    have e3 := conv_any (HQ3'.out.later hW).2.2 mB c3 HmB.out
    rw [Hbs.out] at e2 e3
    exact ⟨⟨h10.cell 0, h10.cell 1, h10.cell 2, h10.cell 3, h10.cell 4, h10.cell 5, h10.cell 6, h10.cell 7, h10.cell 8⟩, ⟨h12.cell 0, h12.cell 1, h12.cell 2, h12.cell 3, h12.cell 4, h12.cell 5, h12.cell 6, h12.cell 7, h12.cell 8⟩, e2, e3⟩)
  have HSt : Hid (∀ W, Below w8.heap.size w8 W → Calls Tryz.prog 13 #[.slice (some ⟨g, 0, none⟩) len c, .slice ad len cap] W fun e w' => e = .returned (.bool true) ∧ Below W.heap.size W w') := hid (fun W hW => stays_any g c ad len cap W0.heap.size l W hc1 hm (HOg.out.later hW) (HP.out.later (HB0.out.trans ((HT0.out.trans (hW.mono HT0.out.size)).mono HB0.out.size))))
  refine wp_region_held_drew (S := fun W => (W.cell? ⟨g10, 0, none⟩ = some (.int .i64 yk) ∧ W.cell? ⟨g10, 1, none⟩ = some (.string yt) ∧ W.cell? ⟨g10, 2, none⟩ = some (.int .i64 yg) ∧ W.cell? ⟨g10, 3, none⟩ = some (.int .i64 yp) ∧ W.cell? ⟨g10, 4, none⟩ = some (.int .i64 yo) ∧ W.cell? ⟨g10, 5, none⟩ = some (.int .i64 yr) ∧ W.cell? ⟨g10, 6, none⟩ = some (.int .i64 ye) ∧ W.cell? ⟨g10, 7, none⟩ = some (.int .i64 yw) ∧ W.cell? ⟨g10, 8, none⟩ = some (.bool yy)) ∧ (W.cell? ⟨g12, 0, none⟩ = some (.int .i64 yk) ∧ W.cell? ⟨g12, 1, none⟩ = some (.string yt) ∧ W.cell? ⟨g12, 2, none⟩ = some (.int .i64 yg) ∧ W.cell? ⟨g12, 3, none⟩ = some (.int .i64 yp) ∧ W.cell? ⟨g12, 4, none⟩ = some (.int .i64 yo) ∧ W.cell? ⟨g12, 5, none⟩ = some (.int .i64 yr) ∧ W.cell? ⟨g12, 6, none⟩ = some (.int .i64 ye) ∧ W.cell? ⟨g12, 7, none⟩ = some (.int .i64 yw) ∧ W.cell? ⟨g12, 8, none⟩ = some (.bool yy)) ∧ (convert 24 9 (.slice a2 mB c2)).run Tryz.prog W = .ok (.string bs) W ∧ (convert 24 9 (.slice a3 mB c3)).run Tryz.prog W = .ok (.string bs) W) (by kernel_rfl) (HS6.out _ (Below.refl _ _).drew) (fun hHeld => ?_)
  refine wpAnyH_take (i := 0) (oi := { dst := some 37, op := Op.move (Operand.tmp 6), type := 24, pos := "law.go:65", after := #[], guard := none }) (v := ?_) rfl (by kernel_rfl) (by kernel_rfl) (by kernel_rfl) (fun _ _ _ h => h) (Or.inl ⟨by rfl, ?_⟩) hHeld ?_
  rotate_left
  · intro w hSw; (try dsimp only at hSw); go_simp; try with_reducible rfl
  try simp only [Act.put, List.setIfInBounds_toArray, List.set_cons_zero, List.set_cons_succ]
  refine wpAnyH_take (i := 1) (oi := { dst := some 38, op := Op.convert 24 9 (Operand.tmp 37), type := 9, pos := "law.go:65", after := #[{ on := 0, ground := Ground.data }], guard := none }) (v := ?_) rfl (by kernel_rfl) (by kernel_rfl) (by kernel_rfl) (fun _ _ _ h => h) (Or.inl ⟨by rfl, ?_⟩) hHeld ?_
  rotate_left
  · intro w hSw; (try dsimp only at hSw); go_simp; try with_reducible rfl
  try simp only [Act.put, List.setIfInBounds_toArray, List.set_cons_zero, List.set_cons_succ]
  refine wpAnyH_take (i := 2) (oi := { dst := some 39, op := Op.move (Operand.tmp 8), type := 24, pos := "law.go:65", after := #[], guard := none }) (v := ?_) rfl (by kernel_rfl) (by kernel_rfl) (by kernel_rfl) (fun _ _ _ h => h) (Or.inl ⟨by rfl, ?_⟩) hHeld ?_
  rotate_left
  · intro w hSw; (try dsimp only at hSw); go_simp; try with_reducible rfl
  try simp only [Act.put, List.setIfInBounds_toArray, List.set_cons_zero, List.set_cons_succ]
  refine wpAnyH_take (i := 3) (oi := { dst := some 40, op := Op.convert 24 9 (Operand.tmp 39), type := 9, pos := "law.go:65", after := #[{ on := 2, ground := Ground.data }], guard := none }) (v := ?_) rfl (by kernel_rfl) (by kernel_rfl) (by kernel_rfl) (fun _ _ _ h => h) (Or.inl ⟨by rfl, ?_⟩) hHeld ?_
  rotate_left
  · intro w hSw; (try dsimp only at hSw); go_simp; try with_reducible rfl
  try simp only [Act.put, List.setIfInBounds_toArray, List.set_cons_zero, List.set_cons_succ]
  refine wpAnyH_take (i := 4) (oi := { dst := some 41, op := Op.binOp BinOp.neq 9 (Operand.tmp 38) (Operand.tmp 40) 9, type := 4, pos := "law.go:65", after := #[{ on := 1, ground := Ground.data }, { on := 3, ground := Ground.data }], guard := none }) (v := .bool false) rfl (by kernel_rfl) (by kernel_rfl) (by kernel_rfl) (fun _ _ _ h => h) (Or.inl ⟨by rfl, ?_⟩) hHeld ?_
  · intro w hSw; (try dsimp only at hSw); go_simp
  try simp only [Act.put, List.setIfInBounds_toArray, List.set_cons_zero, List.set_cons_succ]
  refine wpAnyH_take (i := 5) (oi := { dst := some 42, op := Op.move (Operand.tmp 41), type := 4, pos := "law.go:65", after := #[{ on := 4, ground := Ground.data }], guard := none }) (v := ?_) rfl (by kernel_rfl) (by kernel_rfl) (by kernel_rfl) (fun _ _ _ h => h) (Or.inl ⟨by rfl, ?_⟩) hHeld ?_
  rotate_left
  · intro w hSw; (try dsimp only at hSw); go_simp; try with_reducible rfl
  try simp only [Act.put, List.setIfInBounds_toArray, List.set_cons_zero, List.set_cons_succ]
  refine wpAnyH_take (i := 6) (oi := { dst := some 43, op := Op.move (Operand.tmp 7), type := 26, pos := "law.go:65", after := #[{ on := 5, ground := Ground.guard }], guard := some (5, false) }) (v := ?_) rfl (by kernel_rfl) (by kernel_rfl) (by kernel_rfl) (fun _ _ _ h => h) (Or.inl ⟨by rfl, ?_⟩) hHeld ?_
  rotate_left
  · intro w hSw; (try dsimp only at hSw); go_simp; try with_reducible rfl
  try simp only [Act.put, List.setIfInBounds_toArray, List.set_cons_zero, List.set_cons_succ]
  refine wpAnyH_take (i := 8) (oi := { dst := some 45, op := Op.move (Operand.tmp 9), type := 3, pos := "law.go:65", after := #[{ on := 5, ground := Ground.guard }], guard := some (5, false) }) (v := ?_) rfl (by kernel_rfl) (by kernel_rfl) (by kernel_rfl) (fun _ _ _ h => h) (Or.inl ⟨by rfl, ?_⟩) hHeld ?_
  rotate_left
  · intro w hSw; (try dsimp only at hSw); go_simp; try with_reducible rfl
  try simp only [Act.put, List.setIfInBounds_toArray, List.set_cons_zero, List.set_cons_succ]
  refine wpAnyH_ready (rs := [7]) (by kernel_rfl) (by simp) ?_
  refine AllReadyH.cons rfl (fun K hK => ?_) (AllReadyH.nil)
  go_simp
  go_wp2_with (go_at_call 12; (with_reducible_and_instances (refine (num15_any _ _).mono ?_)); rintro r w99 ⟨rfl, hw99⟩; obtain rfl := hw99.symm)
  refine hK.out _ _ (HS6.out _ (Below.refl _ _).drew) (fun hHeld => ?_)
  clear hK K
  try simp only [Act.put, List.setIfInBounds_toArray, List.set_cons_zero, List.set_cons_succ]
  refine wpAnyH_take (i := 9) (oi := { dst := some 46, op := Op.binOp BinOp.neq 3 (Operand.tmp 44) (Operand.tmp 45) 3, type := 4, pos := "law.go:65", after := #[{ on := 7, ground := Ground.data }, { on := 8, ground := Ground.data }, { on := 5, ground := Ground.guard }], guard := some (5, false) }) (v := .bool false) rfl (by kernel_rfl) (by kernel_rfl) (by kernel_rfl) (fun _ _ _ h => h) (Or.inl ⟨by rfl, ?_⟩) hHeld ?_
  · intro w hSw; (try dsimp only at hSw); go_simp
  try simp only [Act.put, List.setIfInBounds_toArray, List.set_cons_zero, List.set_cons_succ]
  refine wpAnyH_take (i := 10) (oi := { dst := some 47, op := Op.pick (Operand.tmp 42) (Operand.const (Value.bool true)) (Operand.tmp 46), type := 4, pos := "law.go:65", after := #[{ on := 5, ground := Ground.data }, { on := 9, ground := Ground.data }], guard := none }) (v := ?_) rfl (by kernel_rfl) (by kernel_rfl) (by kernel_rfl) (fun _ _ _ h => h) (Or.inl ⟨by rfl, ?_⟩) hHeld ?_
  rotate_left
  · intro w hSw; (try dsimp only at hSw); go_simp; try with_reducible rfl
  try simp only [Act.put, List.setIfInBounds_toArray, List.set_cons_zero, List.set_cons_succ]
  refine wpAnyH_take (i := 11) (oi := { dst := some 48, op := Op.move (Operand.tmp 47), type := 4, pos := "law.go:65", after := #[{ on := 10, ground := Ground.data }, { on := 7, ground := Ground.chain }], guard := none }) (v := ?_) rfl (by kernel_rfl) (by kernel_rfl) (by kernel_rfl) (fun _ _ _ h => h) (Or.inl ⟨by rfl, ?_⟩) hHeld ?_
  rotate_left
  · intro w hSw; (try dsimp only at hSw); go_simp; try with_reducible rfl
  try simp only [Act.put, List.setIfInBounds_toArray, List.set_cons_zero, List.set_cons_succ]
  refine wpAnyH_take (i := 12) (oi := { dst := some 49, op := Op.load 29 (Operand.tmp 10), type := 29, pos := "law.go:65", after := #[{ on := 11, ground := Ground.guard }], guard := some (11, false) }) (v := ?_) rfl (by kernel_rfl) (by kernel_rfl) (by kernel_rfl) (fun _ _ _ h => h) (Or.inl ⟨by rfl, ?_⟩) hHeld ?_
  rotate_left
  · intro w hSw; (try dsimp only at hSw); go_simp; try with_reducible rfl
  try simp only [Act.put, List.setIfInBounds_toArray, List.set_cons_zero, List.set_cons_succ]
  refine wpAnyH_take (i := 13) (oi := { dst := some 50, op := Op.load 23 (Operand.tmp 12), type := 23, pos := "law.go:65", after := #[{ on := 11, ground := Ground.guard }], guard := some (11, false) }) (v := ?_) rfl (by kernel_rfl) (by kernel_rfl) (by kernel_rfl) (fun _ _ _ h => h) (Or.inl ⟨by rfl, ?_⟩) hHeld ?_
  rotate_left
  · intro w hSw; (try dsimp only at hSw); go_simp; try with_reducible rfl
  try simp only [Act.put, List.setIfInBounds_toArray, List.set_cons_zero, List.set_cons_succ]
  refine wpAnyH_ready (rs := [14]) (by kernel_rfl) (by simp) ?_
  refine AllReadyH.cons rfl (fun K hK => ?_) (AllReadyH.nil)
  go_simp
  go_wp2_with (go_at_call 8; refine (HOy.out _).mono ?_; rintro r x1 ⟨rfl, hb⟩; have Hx1 : Hid (Below w8.heap.size w8 x1) := hid (((Below.refl w8.heap.size w8).drew).trans hb); clear hb)
  refine hK.out _ _ (HS6.out _ Hx1.out) (fun hHeld => ?_)
  clear hK K
  try simp only [Act.put, List.setIfInBounds_toArray, List.set_cons_zero, List.set_cons_succ]
  refine wpAnyH_take (i := 15) (oi := { dst := some 52, op := Op.binOp BinOp.neq 29 (Operand.tmp 49) (Operand.tmp 51) 29, type := 4, pos := "law.go:65", after := #[{ on := 12, ground := Ground.data }, { on := 14, ground := Ground.data }, { on := 11, ground := Ground.guard }], guard := some (11, false) }) (v := .bool false) rfl (by kernel_rfl) (by kernel_rfl) (by kernel_rfl) (fun _ _ _ h => h) (Or.inl ⟨by rfl, ?_⟩) hHeld ?_
  · intro w hSw; exact HEqY.out _ _ w (by rfl) (by rfl) (by rfl)
  try simp only [Act.put, List.setIfInBounds_toArray, List.set_cons_zero, List.set_cons_succ]
  refine wpAnyH_take (i := 16) (oi := { dst := some 53, op := Op.pick (Operand.tmp 48) (Operand.const (Value.bool true)) (Operand.tmp 52), type := 4, pos := "law.go:65", after := #[{ on := 11, ground := Ground.data }, { on := 15, ground := Ground.data }], guard := none }) (v := ?_) rfl (by kernel_rfl) (by kernel_rfl) (by kernel_rfl) (fun _ _ _ h => h) (Or.inl ⟨by rfl, ?_⟩) hHeld ?_
  rotate_left
  · intro w hSw; (try dsimp only at hSw); go_simp; try with_reducible rfl
  try simp only [Act.put, List.setIfInBounds_toArray, List.set_cons_zero, List.set_cons_succ]
  refine wpAnyH_take (i := 17) (oi := { dst := some 54, op := Op.move (Operand.tmp 53), type := 4, pos := "law.go:65", after := #[{ on := 16, ground := Ground.data }, { on := 14, ground := Ground.chain }], guard := none }) (v := ?_) rfl (by kernel_rfl) (by kernel_rfl) (by kernel_rfl) (fun _ _ _ h => h) (Or.inl ⟨by rfl, ?_⟩) hHeld ?_
  rotate_left
  · intro w hSw; (try dsimp only at hSw); go_simp; try with_reducible rfl
  try simp only [Act.put, List.setIfInBounds_toArray, List.set_cons_zero, List.set_cons_succ]
  refine wpAnyH_take (i := 18) (oi := { dst := some 55, op := Op.move (Operand.tmp 11), type := 26, pos := "law.go:65", after := #[{ on := 17, ground := Ground.guard }], guard := some (17, false) }) (v := ?_) rfl (by kernel_rfl) (by kernel_rfl) (by kernel_rfl) (fun _ _ _ h => h) (Or.inl ⟨by rfl, ?_⟩) hHeld ?_
  rotate_left
  · intro w hSw; (try dsimp only at hSw); go_simp; try with_reducible rfl
  try simp only [Act.put, List.setIfInBounds_toArray, List.set_cons_zero, List.set_cons_succ]
  refine wpAnyH_take (i := 20) (oi := { dst := some 57, op := Op.move (Operand.tmp 13), type := 3, pos := "law.go:65", after := #[{ on := 17, ground := Ground.guard }], guard := some (17, false) }) (v := ?_) rfl (by kernel_rfl) (by kernel_rfl) (by kernel_rfl) (fun _ _ _ h => h) (Or.inl ⟨by rfl, ?_⟩) hHeld ?_
  rotate_left
  · intro w hSw; (try dsimp only at hSw); go_simp; try with_reducible rfl
  try simp only [Act.put, List.setIfInBounds_toArray, List.set_cons_zero, List.set_cons_succ]
  refine wpAnyH_ready (rs := [19]) (by kernel_rfl) (by simp) ?_
  refine AllReadyH.cons rfl (fun K hK => ?_) (AllReadyH.nil)
  go_simp
  go_wp2_with (go_at_call 12; (with_reducible_and_instances (refine (num15_any _ _).mono ?_)); rintro r w99 ⟨rfl, hw99⟩; obtain rfl := hw99.symm)
  refine hK.out _ _ (HS6.out _ Hx1.out) (fun hHeld => ?_)
  clear hK K
  try simp only [Act.put, List.setIfInBounds_toArray, List.set_cons_zero, List.set_cons_succ]
  refine wpAnyH_take (i := 21) (oi := { dst := some 58, op := Op.binOp BinOp.neq 3 (Operand.tmp 56) (Operand.tmp 57) 3, type := 4, pos := "law.go:65", after := #[{ on := 19, ground := Ground.data }, { on := 20, ground := Ground.data }, { on := 17, ground := Ground.guard }], guard := some (17, false) }) (v := .bool false) rfl (by kernel_rfl) (by kernel_rfl) (by kernel_rfl) (fun _ _ _ h => h) (Or.inl ⟨by rfl, ?_⟩) hHeld ?_
  · intro w hSw; (try dsimp only at hSw); go_simp
  try simp only [Act.put, List.setIfInBounds_toArray, List.set_cons_zero, List.set_cons_succ]
  refine wpAnyH_take (i := 22) (oi := { dst := some 59, op := Op.pick (Operand.tmp 54) (Operand.const (Value.bool true)) (Operand.tmp 58), type := 4, pos := "law.go:65", after := #[{ on := 17, ground := Ground.data }, { on := 21, ground := Ground.data }], guard := none }) (v := ?_) rfl (by kernel_rfl) (by kernel_rfl) (by kernel_rfl) (fun _ _ _ h => h) (Or.inl ⟨by rfl, ?_⟩) hHeld ?_
  rotate_left
  · intro w hSw; (try dsimp only at hSw); go_simp; try with_reducible rfl
  try simp only [Act.put, List.setIfInBounds_toArray, List.set_cons_zero, List.set_cons_succ]
  refine wpAnyH_take (i := 23) (oi := { dst := some 60, op := Op.move (Operand.tmp 59), type := 4, pos := "law.go:65", after := #[{ on := 22, ground := Ground.data }, { on := 19, ground := Ground.chain }], guard := none }) (v := ?_) rfl (by kernel_rfl) (by kernel_rfl) (by kernel_rfl) (fun _ _ _ h => h) (Or.inl ⟨by rfl, ?_⟩) hHeld ?_
  rotate_left
  · intro w hSw; (try dsimp only at hSw); go_simp; try with_reducible rfl
  try simp only [Act.put, List.setIfInBounds_toArray, List.set_cons_zero, List.set_cons_succ]
  refine wpAnyH_take (i := 24) (oi := { dst := some 61, op := Op.move (Operand.tmp 5), type := 24, pos := "law.go:65", after := #[{ on := 23, ground := Ground.guard }], guard := some (23, false) }) (v := ?_) rfl (by kernel_rfl) (by kernel_rfl) (by kernel_rfl) (fun _ _ _ h => h) (Or.inl ⟨by rfl, ?_⟩) hHeld ?_
  rotate_left
  · intro w hSw; (try dsimp only at hSw); go_simp; try with_reducible rfl
  try simp only [Act.put, List.setIfInBounds_toArray, List.set_cons_zero, List.set_cons_succ]
  refine wpAnyH_take (i := 25) (oi := { dst := some 62, op := Op.move (Operand.tmp 1), type := 24, pos := "law.go:65", after := #[{ on := 23, ground := Ground.guard }], guard := some (23, false) }) (v := ?_) rfl (by kernel_rfl) (by kernel_rfl) (by kernel_rfl) (fun _ _ _ h => h) (Or.inl ⟨by rfl, ?_⟩) hHeld ?_
  rotate_left
  · intro w hSw; (try dsimp only at hSw); go_simp; try with_reducible rfl
  try simp only [Act.put, List.setIfInBounds_toArray, List.set_cons_zero, List.set_cons_succ]
  refine wpAnyH_ready (rs := [26]) (by kernel_rfl) (by simp) ?_
  refine AllReadyH.cons rfl (fun K hK => ?_) (AllReadyH.nil)
  go_simp
  go_wp2_with (go_at_call 13; refine (HSt.out _ Hx1.out).mono ?_; rintro r x2 ⟨rfl, hb⟩; have Hx2 : Hid (Below w8.heap.size w8 x2) := hid (Hx1.out.trans (hb.mono Hx1.out.size)); clear hb)
  refine hK.out _ _ (HS6.out _ Hx2.out) (fun hHeld => ?_)
  clear hK K
  try simp only [Act.put, List.setIfInBounds_toArray, List.set_cons_zero, List.set_cons_succ]
  refine wpAnyH_take (i := 27) (oi := { dst := some 64, op := Op.unOp UnOp.not 4 (Operand.tmp 63), type := 4, pos := "law.go:65", after := #[{ on := 26, ground := Ground.data }, { on := 23, ground := Ground.guard }], guard := some (23, false) }) (v := ?_) rfl (by kernel_rfl) (by kernel_rfl) (by kernel_rfl) (fun _ _ _ h => h) (Or.inl ⟨by rfl, ?_⟩) hHeld ?_
  rotate_left
  · intro w hSw; (try dsimp only at hSw); go_simp; try with_reducible rfl
  try simp only [Act.put, List.setIfInBounds_toArray, List.set_cons_zero, List.set_cons_succ]
  refine wpAnyH_take (i := 28) (oi := { dst := some 65, op := Op.pick (Operand.tmp 60) (Operand.const (Value.bool true)) (Operand.tmp 64), type := 4, pos := "law.go:65", after := #[{ on := 23, ground := Ground.data }, { on := 27, ground := Ground.data }], guard := none }) (v := ?_) rfl (by kernel_rfl) (by kernel_rfl) (by kernel_rfl) (fun _ _ _ h => h) (Or.inl ⟨by rfl, ?_⟩) hHeld ?_
  rotate_left
  · intro w hSw; (try dsimp only at hSw); go_simp; try with_reducible rfl
  try simp only [Act.put, List.setIfInBounds_toArray, List.set_cons_zero, List.set_cons_succ]
  refine wpAnyH_done (by kernel_rfl) ?_ _
  clear hHeld
  have HX2B : Hid (Below w.heap.size w x2) := hid (HB0.out.trans ((HT0.out.trans (Hx2.out.mono HT0.out.size)).mono HB0.out.size))
  have HKn := hid (fun X => knows15 X)
  by_cases hmay : Ev.may ⟨k, nm, ge, pa, of, pr, ep, nw, ys⟩
  · obtain ⟨rfl, -, hun⟩ := HMy.out hmay
    have HUn := hid hun
    have HGb : Hid (∀ W, Below x2.heap.size x2 W → Calls Tryz.prog 10 #[.slice a2 mB c2] W (GetQ B W)) := hid (fun W hW => getT_any a2 mB c2 B W ((HQ2'.out.later Hx2.out).later hW) HC2.out (by omega))
    have HKx := hid (HK10.out.later Hx2.out)
    have hgx : g10 < x2.heap.size := HKx.out.lt
    clear hmay hun HMy HMn
    go_upto_region 10 with (first
      | (go_at_call 12; (with_reducible_and_instances (refine (num15_any _ _).mono ?_)); rintro r w99 ⟨rfl, hw99⟩; obtain rfl := hw99.symm)
      | (go_at_call 10; (with_reducible_and_instances (refine (HGb.out x2 (Below.refl _ _)).mono ?_)); rintro r x3 ⟨y3, e3, rfl, hG3, hb3⟩; obtain ⟨rfl, rfl⟩ := HUn.out y3 e3 hG3; have HB3 := hid hb3; have HK3 := hid (HKx.out.later hb3); clear hG3 hb3)
      | (refine store_ev ⟨k, nm, ge, pa, of, pr, ep, nw, ys⟩ rfl (.tmp 10) (.tmp 72) rfl rfl rfl HK3.out rfl ?_; intro W9 hx9 hc9; have HX9 := hid hx9; have HC9 := hid hc9; clear hx9 hc9))
    have HXW : Hid (Blk W9 w.heap.size #[.int .i64 k, .string t, .int .i64 ge, .int .i64 pa, .int .i64 of, .int .i64 pr, .int .i64 ep, .int .i64 nw, .bool ys] REv) := hid ((((HXB.out.later HT0.out).later Hx2.out).later HB3.out).chg HC9.out (by simp; omega))
    have HS10 : Hid (∀ W, Below W9.heap.size W9 W → (W.cell? ⟨g10, 0, none⟩ = some (.int .i64 k) ∧ W.cell? ⟨g10, 1, none⟩ = some (.string t) ∧ W.cell? ⟨g10, 2, none⟩ = some (.int .i64 ge) ∧ W.cell? ⟨g10, 3, none⟩ = some (.int .i64 pa) ∧ W.cell? ⟨g10, 4, none⟩ = some (.int .i64 of) ∧ W.cell? ⟨g10, 5, none⟩ = some (.int .i64 pr) ∧ W.cell? ⟨g10, 6, none⟩ = some (.int .i64 ep) ∧ W.cell? ⟨g10, 7, none⟩ = some (.int .i64 nw) ∧ W.cell? ⟨g10, 8, none⟩ = some (.bool ys)) ∧ (W.cell? ⟨w.heap.size, 0, none⟩ = some (.int .i64 k) ∧ W.cell? ⟨w.heap.size, 1, none⟩ = some (.string t) ∧ W.cell? ⟨w.heap.size, 2, none⟩ = some (.int .i64 ge) ∧ W.cell? ⟨w.heap.size, 3, none⟩ = some (.int .i64 pa) ∧ W.cell? ⟨w.heap.size, 4, none⟩ = some (.int .i64 of) ∧ W.cell? ⟨w.heap.size, 5, none⟩ = some (.int .i64 pr) ∧ W.cell? ⟨w.heap.size, 6, none⟩ = some (.int .i64 ep) ∧ W.cell? ⟨w.heap.size, 7, none⟩ = some (.int .i64 nw) ∧ W.cell? ⟨w.heap.size, 8, none⟩ = some (.bool ys))) := hid (fun W hW => by
      have h10 := HX9.out.later hW
      have h0 := HXW.out.later hW
      rw [HEv.out] at h10
      exact ⟨⟨h10.cell 0, h10.cell 1, h10.cell 2, h10.cell 3, h10.cell 4, h10.cell 5, h10.cell 6, h10.cell 7, h10.cell 8⟩, ⟨h0.cell 0, h0.cell 1, h0.cell 2, h0.cell 3, h0.cell 4, h0.cell 5, h0.cell 6, h0.cell 7, h0.cell 8⟩⟩)
    have HB9 : Hid (Below w.heap.size w W9) := hid ((HX2B.out.trans (HB3.out.mono HX2B.out.size)).trans (HC9.out.below (fun q hq => by simp at hq; omega) (by have h1 := HX2B.out.size; have h2 := HB3.out.size; omega)))
    refine wp_region_held_drew (S := fun W => (W.cell? ⟨g10, 0, none⟩ = some (.int .i64 k) ∧ W.cell? ⟨g10, 1, none⟩ = some (.string t) ∧ W.cell? ⟨g10, 2, none⟩ = some (.int .i64 ge) ∧ W.cell? ⟨g10, 3, none⟩ = some (.int .i64 pa) ∧ W.cell? ⟨g10, 4, none⟩ = some (.int .i64 of) ∧ W.cell? ⟨g10, 5, none⟩ = some (.int .i64 pr) ∧ W.cell? ⟨g10, 6, none⟩ = some (.int .i64 ep) ∧ W.cell? ⟨g10, 7, none⟩ = some (.int .i64 nw) ∧ W.cell? ⟨g10, 8, none⟩ = some (.bool ys)) ∧ (W.cell? ⟨w.heap.size, 0, none⟩ = some (.int .i64 k) ∧ W.cell? ⟨w.heap.size, 1, none⟩ = some (.string t) ∧ W.cell? ⟨w.heap.size, 2, none⟩ = some (.int .i64 ge) ∧ W.cell? ⟨w.heap.size, 3, none⟩ = some (.int .i64 pa) ∧ W.cell? ⟨w.heap.size, 4, none⟩ = some (.int .i64 of) ∧ W.cell? ⟨w.heap.size, 5, none⟩ = some (.int .i64 pr) ∧ W.cell? ⟨w.heap.size, 6, none⟩ = some (.int .i64 ep) ∧ W.cell? ⟨w.heap.size, 7, none⟩ = some (.int .i64 nw) ∧ W.cell? ⟨w.heap.size, 8, none⟩ = some (.bool ys))) (by kernel_rfl) (HS10.out _ (Below.refl _ _).drew) (fun hHeld => ?_)
    refine wpAnyH_take (i := 0) (oi := { dst := some 74, op := Op.move (Operand.tmp 11), type := 26, pos := "law.go:70", after := #[], guard := none }) (v := ?_) rfl (by kernel_rfl) (by kernel_rfl) (by kernel_rfl) (fun _ _ _ h => h) (Or.inl ⟨by rfl, ?_⟩) hHeld ?_
    rotate_left
    · intro w hSw; (try dsimp only at hSw); go_simp; try with_reducible rfl
    try simp only [Act.put, List.setIfInBounds_toArray, List.set_cons_zero, List.set_cons_succ]
    refine wpAnyH_ready (rs := [1]) (by kernel_rfl) (by simp) ?_
    refine AllReadyH.cons rfl (fun K hK => ?_) (AllReadyH.nil)
    go_simp
    go_wp2_with (go_at_call 12; (with_reducible_and_instances (refine (num15_any _ _).mono ?_)); rintro r w99 ⟨rfl, hw99⟩; obtain rfl := hw99.symm)
    refine hK.out _ _ (HS10.out _ (Below.refl _ _).drew) (fun hHeld => ?_)
    clear hK K
    try simp only [Act.put, List.setIfInBounds_toArray, List.set_cons_zero, List.set_cons_succ]
    refine wpAnyH_take (i := 2) (oi := { dst := some 76, op := Op.binOp BinOp.neq 3 (Operand.tmp 75) (Operand.const (Value.int IntKind.i64 0)) 3, type := 4, pos := "law.go:70", after := #[{ on := 1, ground := Ground.data }], guard := none }) (v := ?_) rfl (by kernel_rfl) (by kernel_rfl) (by kernel_rfl) (fun _ _ _ h => h) (Or.inl ⟨by rfl, ?_⟩) hHeld ?_
    rotate_left
    · intro w hSw; (try dsimp only at hSw); go_simp; try with_reducible rfl
    try simp only [Act.put, List.setIfInBounds_toArray, List.set_cons_zero, List.set_cons_succ]
    refine wpAnyH_take (i := 3) (oi := { dst := some 77, op := Op.move (Operand.tmp 76), type := 4, pos := "law.go:70", after := #[{ on := 2, ground := Ground.data }, { on := 1, ground := Ground.chain }], guard := none }) (v := ?_) rfl (by kernel_rfl) (by kernel_rfl) (by kernel_rfl) (fun _ _ _ h => h) (Or.inl ⟨by rfl, ?_⟩) hHeld ?_
    rotate_left
    · intro w hSw; (try dsimp only at hSw); go_simp; try with_reducible rfl
    try simp only [Act.put, List.setIfInBounds_toArray, List.set_cons_zero, List.set_cons_succ]
    refine wpAnyH_take (i := 4) (oi := { dst := some 78, op := Op.load 29 (Operand.tmp 10), type := 29, pos := "law.go:70", after := #[{ on := 3, ground := Ground.guard }], guard := some (3, false) }) (v := ?_) rfl (by kernel_rfl) (by kernel_rfl) (by kernel_rfl) (fun _ _ _ h => h) (Or.inl ⟨by rfl, ?_⟩) hHeld ?_
    rotate_left
    · intro w hSw; (try dsimp only at hSw); go_simp; try with_reducible rfl
    try simp only [Act.put, List.setIfInBounds_toArray, List.set_cons_zero, List.set_cons_succ]
    refine wpAnyH_take (i := 5) (oi := { dst := some 79, op := Op.load 23 (Operand.tmp 2), type := 23, pos := "law.go:70", after := #[{ on := 3, ground := Ground.guard }], guard := some (3, false) }) (v := ?_) rfl (by kernel_rfl) (by kernel_rfl) (by kernel_rfl) (fun _ _ _ h => h) (Or.inl ⟨by rfl, ?_⟩) hHeld ?_
    rotate_left
    · intro w hSw; (try dsimp only at hSw); go_simp; try with_reducible rfl
    try simp only [Act.put, List.setIfInBounds_toArray, List.set_cons_zero, List.set_cons_succ]
    refine wpAnyH_ready (rs := [6]) (by kernel_rfl) (by simp) ?_
    refine AllReadyH.cons rfl (fun K hK => ?_) (AllReadyH.nil)
    go_simp
    go_wp2_with (go_at_call 8; refine (HO.out _).mono ?_; rintro r x5 ⟨rfl, hb⟩; have Hx5 : Hid (Below W9.heap.size W9 x5) := hid (((Below.refl W9.heap.size W9).drew).trans hb); clear hb)
    refine hK.out _ _ (HS10.out _ Hx5.out) (fun hHeld => ?_)
    clear hK K
    try simp only [Act.put, List.setIfInBounds_toArray, List.set_cons_zero, List.set_cons_succ]
    refine wpAnyH_take (i := 7) (oi := { dst := some 81, op := Op.binOp BinOp.neq 29 (Operand.tmp 78) (Operand.tmp 80) 29, type := 4, pos := "law.go:70", after := #[{ on := 4, ground := Ground.data }, { on := 6, ground := Ground.data }, { on := 3, ground := Ground.guard }], guard := some (3, false) }) (v := .bool false) rfl (by kernel_rfl) (by kernel_rfl) (by kernel_rfl) (fun _ _ _ h => h) (Or.inl ⟨by rfl, ?_⟩) hHeld ?_
    · intro w hSw; exact HEqX.out _ _ w (by rfl) (by rw [HEv.out]; rfl) (by rw [HEv.out]; rfl)
    try simp only [Act.put, List.setIfInBounds_toArray, List.set_cons_zero, List.set_cons_succ]
    refine wpAnyH_take (i := 8) (oi := { dst := some 82, op := Op.pick (Operand.tmp 77) (Operand.const (Value.bool true)) (Operand.tmp 81), type := 4, pos := "law.go:70", after := #[{ on := 3, ground := Ground.data }, { on := 7, ground := Ground.data }], guard := none }) (v := ?_) rfl (by kernel_rfl) (by kernel_rfl) (by kernel_rfl) (fun _ _ _ h => h) (Or.inl ⟨by rfl, ?_⟩) hHeld ?_
    rotate_left
    · intro w hSw; (try dsimp only at hSw); go_simp; try with_reducible rfl
    try simp only [Act.put, List.setIfInBounds_toArray, List.set_cons_zero, List.set_cons_succ]
    refine wpAnyH_done (by kernel_rfl) ?_ _
    clear hHeld
    go_wp2_with (go_at_call 14; (with_reducible_and_instances (refine (HKn.out x5).mono ?_)); rintro r x4 ⟨rfl, hb⟩; have HB4 := hid (HB9.out.trans ((Hx5.out.trans (hb.mono Hx5.out.size)).mono HB9.out.size)); clear hb)
    go_ret
    exact ⟨rfl, HB4.out⟩
  · have hE1 := HMn.out hmay
    subst hE1
    clear hmay HMy HMn
    go_wp2_with (first
      | (go_at_call 12; (with_reducible_and_instances (refine (num15_any _ _).mono ?_)); rintro r w99 ⟨rfl, hw99⟩; obtain rfl := hw99.symm)
      | (go_at_call 14; (with_reducible_and_instances (refine (HKn.out x2).mono ?_)); rintro r x4 ⟨rfl, hb⟩; have HB4 := hid (HX2B.out.trans (hb.mono HX2B.out.size)); clear hb))
    go_ret
    exact ⟨rfl, HB4.out⟩
end Go.Proofs.YtiiepmljcjbflaaGreat
