/- The walk of GroupReads (regs.py SEAT GReadsW.src GReadsW.lean.t). -/
import Derived.Test.YtiiepmljcjbflaaGreatRGet15
import Derived.Test.YtiiepmljcjbflaaGreatGOwn15
import Derived.Test.YtiiepmljcjbflaaGreatGEq
namespace Go.Proofs.YtiiepmljcjbflaaGreat
open Go.RowKit
variable {w : World} {ad : Option Addr} {len cap : Nat} {l : List Nat}

theorem ev_eguard (x y : Operand) (xs ys : Array Value) (w : World) : (eqGuard .eql TEv x y (.agg xs) (.agg ys)).run Tryz.prog w = .ok () w := run_eqGuard_agg w .eql _ x y xs ys (by kernel_rfl)
theorem exec_evq {a : Act} {o : Oper} (x y : Ev) (p q : Operand) (ho : o.op = .binOp .eql TEv p q TEv) (h1 : a.eval p = .agg (evA x)) (h2 : a.eval q = .agg (evA y)) : (execOp a.eval o).run Tryz.prog w = .ok (.value (.bool (decide (x = y)))) w := by
  unfold execOp
  simp only [ho, h1, h2, Sem.run_bind, ev_eql, ev_eguard, Sem.run_pure, Result.andThen_ok]
theorem empty_ownT (W : World) (base : Nat) (hb : base ≤ W.heap.size) : (W.alloc (.cells #[] 5)).ownsRow base 5 1 (.slice (some ⟨W.heap.size, 0, none⟩) 0 0) 0 (([] : List Nat).map bv) :=
  ⟨rfl, Or.inr ⟨W.heap.size, 0, #[], rfl, hb, heap_alloc_new W _, Nat.le_refl _, by unfold maxLen; omega, rfl, rfl⟩⟩
theorem cells9 {W : World} {g : Nat} {T : TypeId} {x : Ev} (h : Blk W g (evA x) T) : W.cell? ⟨g, 0, none⟩ = some (.int .i64 x.kind) ∧ W.cell? ⟨g, 1, none⟩ = some (.string (nmS x.mem)) ∧ W.cell? ⟨g, 2, none⟩ = some (.int .i64 x.gen) ∧ W.cell? ⟨g, 3, none⟩ = some (.int .i64 x.part) ∧ W.cell? ⟨g, 4, none⟩ = some (.int .i64 x.off) ∧ W.cell? ⟨g, 5, none⟩ = some (.int .i64 x.prod) ∧ W.cell? ⟨g, 6, none⟩ = some (.int .i64 x.ep) ∧ W.cell? ⟨g, 7, none⟩ = some (.int .i64 x.now) ∧ W.cell? ⟨g, 8, none⟩ = some (.bool x.yes) := ⟨h.cell 0, h.cell 1, h.cell 2, h.cell 3, h.cell 4, h.cell 5, h.cell 6, h.cell 7, h.cell 8⟩
set_option maxRecDepth 100000 in
set_option maxHeartbeats 4000000 in
theorem readsG_walk (hp : Part.ok w ⟨ad, len, cap, l⟩) (hlc : len ≤ cap) (hm : len ≤ 140737488351232) :
    Calls Tryz.prog 5 #[.slice ad len cap] w fun r w' => r = .returned (.bool true) ∧ Below w.heap.size w w' := by
  have HP := hid hp
  have b0 : Below w.heap.size w (w.alloc (.cells #[] 5)) := (Below.refl _ _).alloc (Nat.le_refl _) _
  have HD1 : Hid (∀ (X : World) (v : Value), X.ownsRow w.heap.size 5 1 v len (l.map bv) → ∃ adp cp, v = .slice adp len cp ∧ Hid (Calls Tryz.prog 10 #[.slice adp len cp] X (GetQ l X))) := hid (fun X v ho => by
    have hown : Own X w.heap.size v l := ⟨hp.2.2.1, by rw [hp.1]; exact ho⟩
    obtain ⟨adp, cp, hv, hok, hcap, -⟩ := hown.slice len hp.1
    exact ⟨adp, cp, hv, hid (getT_any adp len cp l X hok hcap (by omega))⟩)
  have HD2 : Hid (∀ X, Below w.heap.size w X → Calls Tryz.prog 11 #[.slice ad len cap] X (GetQ l X)) := hid (fun X hX => rgetT_any ad len cap l X (hp.later hX) hlc (by omega))
  clear hp
  go_enter Tryz.func5, Tryz.ntmps5
  go_upto_region 3 with (first
    | (at_builtin; refine app_any rfl _ _ rfl w.heap.size (.slice (some ⟨w.heap.size, 0, none⟩) 0 0) 0 [] rfl (empty_ownT w w.heap.size (Nat.le_refl _)) ad len cap l rfl HP.out.1 HP.out.2.1 (HP.out.2.2.later b0) (by omega) (by simp) ?_; intro v1 w1 hown1 hg1; have B1 := hid (b0.grown hg1 (by simp) (by intro k hk; simp [Value.ownBlock] at hk; omega)); simp only [Nat.zero_add, List.nil_append] at hown1; obtain ⟨adp, cp, rfl, HDC⟩ := HD1.out w1 v1 hown1; clear hg1 hown1)
    | (go_at_call 10; refine HDC.out.mono ?_; rintro r w2 ⟨x, e, rfl, hG, hb⟩; have HG := hid hG; have B2 := hid (B1.out.trans (hb.mono B1.out.size)); clear hG hb)
    | (go_at_call 11; refine (HD2.out _ (B2.out.alloc B2.out.size _)).mono ?_; rintro r w3 ⟨y, f, rfl, hG, hb⟩; obtain ⟨rfl, rfl⟩ := HG.out.uniq hG; have HB3 := hid hb; clear hG hb))
  obtain ⟨w8, hw8⟩ : ∃ w8, w3.alloc (.cells (evA x) REv) = w8 := ⟨_, rfl⟩
  rw [hw8]
  have n2 : Below w2.heap.size w2 (w2.alloc (.cells (evA x) TEv)) := (Below.refl _ _).alloc (Nat.le_refl _) _
  have n3 : Below w3.heap.size w3 w8 := by rw [← hw8]; exact (Below.refl _ _).alloc (Nat.le_refl _) _
  have t2 : Below (w2.alloc (.cells (evA x) TEv)).heap.size (w2.alloc (.cells (evA x) TEv)) w8 := HB3.out.trans (n3.mono HB3.out.size)
  have HB8 : Hid (Below w.heap.size w w8) := hid (B2.out.trans ((n2.trans (t2.mono n2.size)).mono B2.out.size))
  have HK2 : Hid (Blk w8 w2.heap.size (evA x) TEv) := hid ((show Blk (w2.alloc (.cells (evA x) TEv)) w2.heap.size _ _ from heap_alloc_new w2 _).later t2)
  have HK3 : Hid (Blk w8 w3.heap.size (evA x) REv) := hid (by rw [← hw8]; exact heap_alloc_new w3 _)
  clear n2 n3 t2 hw8 HB3 B1 B2 HD1 HD2 HDC HP b0 HG
  generalize w2.heap.size = g2 at *
  generalize w3.heap.size = g3 at *
  have HO := hid (fun X => own15_any x X)
  have HEq : Hid (∀ (a : Act) (o : Oper) (W : World), o.op = .binOp .eql TEv (.tmp 19) (.tmp 21) TEv → a.eval (.tmp 19) = .agg (evA x) → a.eval (.tmp 21) = .agg (evA x) → (execOp a.eval o).run Tryz.prog W = .ok (.value (.bool true)) W) := hid (fun a o W h1 h2 h3 => by
    have h := exec_evq (w := W) x x (.tmp 19) (.tmp 21) h1 h2 h3
    rw [decide_eq_true rfl] at h
    exact h)
  obtain ⟨k, nm, ge, pa, of, pr, ep, nw, ys⟩ := x
  have HC2 : Hid (∀ W, Below w8.heap.size w8 W → _) := hid (fun W hW => cells9 (HK2.out.later hW))
  have HC3 : Hid (∀ W, Below w8.heap.size w8 W → _) := hid (fun W hW => cells9 (HK3.out.later hW))
  dsimp only [evA] at HO HC2 HC3 HEq HK2 HK3 ⊢
  generalize nmS nm = t at *
  have HKn := hid (fun X => knows15 X)
  refine wp_region_held_drew (S := fun W => (W.cell? ⟨g2, 0, none⟩ = some (.int .i64 k) ∧ W.cell? ⟨g2, 1, none⟩ = some (.string t) ∧ W.cell? ⟨g2, 2, none⟩ = some (.int .i64 ge) ∧ W.cell? ⟨g2, 3, none⟩ = some (.int .i64 pa) ∧ W.cell? ⟨g2, 4, none⟩ = some (.int .i64 of) ∧ W.cell? ⟨g2, 5, none⟩ = some (.int .i64 pr) ∧ W.cell? ⟨g2, 6, none⟩ = some (.int .i64 ep) ∧ W.cell? ⟨g2, 7, none⟩ = some (.int .i64 nw) ∧ W.cell? ⟨g2, 8, none⟩ = some (.bool ys)) ∧ (W.cell? ⟨g3, 0, none⟩ = some (.int .i64 k) ∧ W.cell? ⟨g3, 1, none⟩ = some (.string t) ∧ W.cell? ⟨g3, 2, none⟩ = some (.int .i64 ge) ∧ W.cell? ⟨g3, 3, none⟩ = some (.int .i64 pa) ∧ W.cell? ⟨g3, 4, none⟩ = some (.int .i64 of) ∧ W.cell? ⟨g3, 5, none⟩ = some (.int .i64 pr) ∧ W.cell? ⟨g3, 6, none⟩ = some (.int .i64 ep) ∧ W.cell? ⟨g3, 7, none⟩ = some (.int .i64 nw) ∧ W.cell? ⟨g3, 8, none⟩ = some (.bool ys))) (by kernel_rfl) (⟨HC2.out _ (Below.refl _ _).drew, HC3.out _ (Below.refl _ _).drew⟩) (fun hHeld => ?_)
  refine wpAnyH_take (i := 0) (oi := { dst := some 19, op := Op.load 29 (Operand.tmp 3), type := 29, pos := "law.go:308", after := #[], guard := none }) (v := ?_) rfl (by kernel_rfl) (by kernel_rfl) (by kernel_rfl) (fun _ _ _ h => h) (Or.inl ⟨by rfl, ?_⟩) hHeld ?_
  rotate_left
  · intro w hSw; (try dsimp only at hSw); go_simp; try with_reducible rfl
  try simp only [Act.put, List.setIfInBounds_toArray, List.set_cons_zero, List.set_cons_succ]
  refine wpAnyH_take (i := 1) (oi := { dst := some 20, op := Op.load 23 (Operand.tmp 5), type := 23, pos := "law.go:308", after := #[], guard := none }) (v := ?_) rfl (by kernel_rfl) (by kernel_rfl) (by kernel_rfl) (fun _ _ _ h => h) (Or.inl ⟨by rfl, ?_⟩) hHeld ?_
  rotate_left
  · intro w hSw; (try dsimp only at hSw); go_simp; try with_reducible rfl
  try simp only [Act.put, List.setIfInBounds_toArray, List.set_cons_zero, List.set_cons_succ]
  refine wpAnyH_ready (rs := [2]) (by kernel_rfl) (by simp) ?_
  refine AllReadyH.cons rfl (fun K hK => ?_) (AllReadyH.nil)
  go_simp
  go_wp2_with (go_at_call 8; refine (HO.out _).mono ?_; rintro r x1 ⟨rfl, hb⟩; have Hx1 : Hid (Below w8.heap.size w8 x1) := hid (((Below.refl w8.heap.size w8).drew).trans hb); clear hb)
  refine hK.out _ _ (⟨HC2.out _ Hx1.out, HC3.out _ Hx1.out⟩) (fun hHeld => ?_)
  clear hK K
  try simp only [Act.put, List.setIfInBounds_toArray, List.set_cons_zero, List.set_cons_succ]
  refine wpAnyH_take (i := 3) (oi := { dst := some 22, op := Op.binOp BinOp.eql 29 (Operand.tmp 19) (Operand.tmp 21) 29, type := 4, pos := "law.go:308", after := #[{ on := 0, ground := Ground.data }, { on := 2, ground := Ground.data }], guard := none }) (v := .bool true) rfl (by kernel_rfl) (by kernel_rfl) (by kernel_rfl) (fun _ _ _ h => h) (Or.inl ⟨by rfl, ?_⟩) hHeld ?_
  · intro w hSw; exact HEq.out _ _ w (by rfl) (by rfl) (by rfl)
  try simp only [Act.put, List.setIfInBounds_toArray, List.set_cons_zero, List.set_cons_succ]
  refine wpAnyH_take (i := 4) (oi := { dst := some 23, op := Op.move (Operand.tmp 22), type := 4, pos := "law.go:308", after := #[{ on := 3, ground := Ground.data }, { on := 2, ground := Ground.chain }], guard := none }) (v := ?_) rfl (by kernel_rfl) (by kernel_rfl) (by kernel_rfl) (fun _ _ _ h => h) (Or.inl ⟨by rfl, ?_⟩) hHeld ?_
  rotate_left
  · intro w hSw; (try dsimp only at hSw); go_simp; try with_reducible rfl
  try simp only [Act.put, List.setIfInBounds_toArray, List.set_cons_zero, List.set_cons_succ]
  refine wpAnyH_take (i := 5) (oi := { dst := some 24, op := Op.move (Operand.tmp 4), type := 26, pos := "law.go:308", after := #[{ on := 4, ground := Ground.guard }], guard := some (4, true) }) (v := ?_) rfl (by kernel_rfl) (by kernel_rfl) (by kernel_rfl) (fun _ _ _ h => h) (Or.inl ⟨by rfl, ?_⟩) hHeld ?_
  rotate_left
  · intro w hSw; (try dsimp only at hSw); go_simp; try with_reducible rfl
  try simp only [Act.put, List.setIfInBounds_toArray, List.set_cons_zero, List.set_cons_succ]
  refine wpAnyH_take (i := 7) (oi := { dst := some 26, op := Op.move (Operand.tmp 6), type := 3, pos := "law.go:308", after := #[{ on := 4, ground := Ground.guard }], guard := some (4, true) }) (v := ?_) rfl (by kernel_rfl) (by kernel_rfl) (by kernel_rfl) (fun _ _ _ h => h) (Or.inl ⟨by rfl, ?_⟩) hHeld ?_
  rotate_left
  · intro w hSw; (try dsimp only at hSw); go_simp; try with_reducible rfl
  try simp only [Act.put, List.setIfInBounds_toArray, List.set_cons_zero, List.set_cons_succ]
  refine wpAnyH_ready (rs := [6]) (by kernel_rfl) (by simp) ?_
  refine AllReadyH.cons rfl (fun K hK => ?_) (AllReadyH.nil)
  go_simp
  go_wp2_with (go_at_call 12; (with_reducible_and_instances (refine (num15_any _ _).mono ?_)); rintro r w9 ⟨rfl, hw9⟩; obtain rfl := hw9.symm)
  refine hK.out _ _ (⟨HC2.out _ Hx1.out, HC3.out _ Hx1.out⟩) (fun hHeld => ?_)
  clear hK K
  try simp only [Act.put, List.setIfInBounds_toArray, List.set_cons_zero, List.set_cons_succ]
  refine wpAnyH_take (i := 8) (oi := { dst := some 27, op := Op.binOp BinOp.eql 3 (Operand.tmp 25) (Operand.tmp 26) 3, type := 4, pos := "law.go:308", after := #[{ on := 6, ground := Ground.data }, { on := 7, ground := Ground.data }, { on := 4, ground := Ground.guard }], guard := some (4, true) }) (v := ?_) rfl (by kernel_rfl) (by kernel_rfl) (by kernel_rfl) (fun _ _ _ h => h) (Or.inl ⟨by rfl, ?_⟩) hHeld ?_
  rotate_left
  · intro w hSw; (try dsimp only at hSw); go_simp; try with_reducible rfl
  try simp only [Act.put, List.setIfInBounds_toArray, List.set_cons_zero, List.set_cons_succ]
  refine wpAnyH_take (i := 9) (oi := { dst := some 28, op := Op.pick (Operand.tmp 23) (Operand.tmp 27) (Operand.const (Value.bool false)), type := 4, pos := "law.go:308", after := #[{ on := 4, ground := Ground.data }, { on := 8, ground := Ground.data }], guard := none }) (v := ?_) rfl (by kernel_rfl) (by kernel_rfl) (by kernel_rfl) (fun _ _ _ h => h) (Or.inl ⟨by rfl, ?_⟩) hHeld ?_
  rotate_left
  · intro w hSw; (try dsimp only at hSw); go_simp; try with_reducible rfl
  try simp only [Act.put, List.setIfInBounds_toArray, List.set_cons_zero, List.set_cons_succ]
  refine wpAnyH_take (i := 10) (oi := { dst := some 29, op := Op.move (Operand.tmp 28), type := 4, pos := "law.go:308", after := #[{ on := 9, ground := Ground.data }, { on := 6, ground := Ground.chain }], guard := none }) (v := ?_) rfl (by kernel_rfl) (by kernel_rfl) (by kernel_rfl) (fun _ _ _ h => h) (Or.inl ⟨by rfl, ?_⟩) hHeld ?_
  rotate_left
  · intro w hSw; (try dsimp only at hSw); go_simp; try with_reducible rfl
  try simp only [Act.put, List.setIfInBounds_toArray, List.set_cons_zero, List.set_cons_succ]
  refine wpAnyH_ready (rs := [11]) (by kernel_rfl) (by simp) ?_
  refine AllReadyH.cons rfl (fun K hK => ?_) (AllReadyH.nil)
  go_simp
  go_wp2_with (go_at_call 14; refine (HKn.out _).mono ?_; rintro r x2 ⟨rfl, hb⟩; have Hx2 : Hid (Below w8.heap.size w8 x2) := hid (Hx1.out.trans (hb.mono Hx1.out.size)); clear hb)
  refine hK.out _ _ (⟨HC2.out _ Hx2.out, HC3.out _ Hx2.out⟩) (fun hHeld => ?_)
  clear hK K
  try simp only [Act.put, List.setIfInBounds_toArray, List.set_cons_zero, List.set_cons_succ]
  refine wpAnyH_take (i := 12) (oi := { dst := some 31, op := Op.pick (Operand.tmp 29) (Operand.tmp 30) (Operand.const (Value.bool false)), type := 4, pos := "law.go:308", after := #[{ on := 10, ground := Ground.data }, { on := 11, ground := Ground.data }], guard := none }) (v := ?_) rfl (by kernel_rfl) (by kernel_rfl) (by kernel_rfl) (fun _ _ _ h => h) (Or.inl ⟨by rfl, ?_⟩) hHeld ?_
  rotate_left
  · intro w hSw; (try dsimp only at hSw); go_simp; try with_reducible rfl
  try simp only [Act.put, List.setIfInBounds_toArray, List.set_cons_zero, List.set_cons_succ]
  refine wpAnyH_take (i := 13) (oi := { dst := some 2, op := Op.assign (Operand.tmp 31), type := 4, pos := "law.go:308", after := #[{ on := 12, ground := Ground.data }, { on := 11, ground := Ground.chain }, { on := 0, ground := Ground.phase }, { on := 1, ground := Ground.phase }, { on := 2, ground := Ground.phase }, { on := 3, ground := Ground.phase }, { on := 4, ground := Ground.phase }, { on := 5, ground := Ground.phase }, { on := 6, ground := Ground.phase }, { on := 7, ground := Ground.phase }, { on := 8, ground := Ground.phase }, { on := 9, ground := Ground.phase }, { on := 10, ground := Ground.phase }, { on := 11, ground := Ground.phase }, { on := 12, ground := Ground.phase }], guard := none }) (v := ?_) rfl (by kernel_rfl) (by kernel_rfl) (by kernel_rfl) (fun _ _ _ h => h) (Or.inl ⟨by rfl, ?_⟩) hHeld ?_
  rotate_left
  · intro w hSw; (try dsimp only at hSw); go_simp; try with_reducible rfl
  try simp only [Act.put, List.setIfInBounds_toArray, List.set_cons_zero, List.set_cons_succ]
  refine wpAnyH_done (by kernel_rfl) ?_ _
  clear hHeld
  go_wp2_with fail
  go_ret
  exact ⟨rfl, HB8.out.trans (Hx2.out.mono HB8.out.size)⟩
end Go.Proofs.YtiiepmljcjbflaaGreat
