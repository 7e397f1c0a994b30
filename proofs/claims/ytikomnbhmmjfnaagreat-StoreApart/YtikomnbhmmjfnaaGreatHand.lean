/- A region that draws its order, walked by hand: what is taken first, what is carried out, a call. No function of the program is named here. -/
import Derived.Test.YtikomnbhmmjfnaaGreatDiskN
import Derived.Deep.RegionHeld
import Derived.Shelf.Abstract
namespace Go.Proofs.YtikomnbhmmjfnaaGreat
open Go.RowKit
variable {w w' : World} {ops : Array Oper} {Q : Exit → Act → World → Prop} {S : World → Prop} {fuel : Nat} {listed : Array Bool} {a : Act} {md : Region.Mode} {rs : List Nat}

theorem takeG (i : Nat) (v : Value) (a' : Act) {oi : Oper} (hi : ops[i]? = some oi) (ha : a.put oi.dst v = a') (hs : Region.noSelect ops = true) (hf : Region.free md ops listed i = true) (hr : (Region.ready md ops listed).contains i = true)
    (hQ : ∀ c a w, Q (.panic c) (a.put oi.dst v) w → Q (.panic c) a w) (hg : Region.wanted oi (yielded ops a.tmps) = true) (hy : ∀ w, S w → (execOp a.eval oi).run Tryz.prog w = .ok (.value v) w) (hS : S w)
    (h : wpAnyH Tryz.prog md ops Q S fuel (listed.setIfInBounds i true) a' w) : wpAnyH Tryz.prog md ops Q S (fuel + 1) listed a w := by
  subst ha
  exact wpAnyH_take hi hs hf hr hQ (Or.inl ⟨hg, hy⟩) hS h
theorem stepG {i : Nat} {o : Oper} (v : Value) (w' : World) (a' : Act) (ho : ops[i]? = some o) (ha : a.put o.dst v = a') (hg : Region.wanted o (yielded ops a.tmps) = true) (hr : (execOp a.eval o).run Tryz.prog w = .ok (.value v) w') (hS : S w')
    (h : wpAnyH Tryz.prog md ops Q S fuel (listed.setIfInBounds i true) a' w') (hs : AllReadyH Tryz.prog md ops Q S fuel listed a w rs) : AllReadyH Tryz.prog md ops Q S fuel listed a w (i :: rs) := by
  subst ha
  exact AllReadyH.cons ho (fun K' hK => by
    rw [if_pos hg]
    unfold Oper.wp
    rw [hr]
    exact hK.out _ _ hS (fun _ => h)) hs
/-- A call of a function by its contract. -/
theorem callG {i : Nat} {o : Oper} {f : Nat} {args : Array Value} {R : Ending → World → Prop} (ho : ops[i]? = some o) (hg : Region.wanted o (yielded ops a.tmps) = true) (hr : (execOp a.eval o).run Tryz.prog w = .ok (.enter f args) w) (hc : Calls Tryz.prog f args w R)
    (h : ∀ e w', R e w' → ∃ v, e = .returned v ∧ S w' ∧ wpAnyH Tryz.prog md ops Q S fuel (listed.setIfInBounds i true) (a.put o.dst v) w') (hs : AllReadyH Tryz.prog md ops Q S fuel listed a w rs) : AllReadyH Tryz.prog md ops Q S fuel listed a w (i :: rs) :=
  AllReadyH.cons ho (fun K' hK => by
    rw [if_pos hg]
    unfold Oper.wp
    rw [hr]
    refine hc.mono (fun e w' hR => ?_)
    obtain ⟨v, rfl, hS, h2⟩ := h e w' hR
    exact hK.out _ _ hS (fun _ => h2)) hs
theorem exec_call {o : Oper} {ev : Operand → Value} (f : Nat) (xs : Array Operand) (ts : Array TypeId) (ho : o.op = .call { callee := .value (.func f), args := xs, argTypes := ts }) (args : Array Value) (hx : xs.map ev = args) (hf : ev (.func f) = .func (.func f) #[] #[]) (he : ∀ args w, (callFunc f args).run Tryz.prog w = .ok (.enter f args) w) :
    (execOp ev o).run Tryz.prog w = .ok (.enter f args) w := by
  subst hx
  simp [execOp, ho, resolve, invoke, hf, he, Deferred.ofValue]
theorem exec_call1 {o : Oper} {ev : Operand → Value} (f : Nat) (x : Operand) (ts : Array TypeId) (ho : o.op = .call { callee := .value (.func f), args := #[x], argTypes := ts }) (v : Value) (hx : ev x = v) (hf : ev (.func f) = .func (.func f) #[] #[]) (he : ∀ args w, (callFunc f args).run Tryz.prog w = .ok (.enter f args) w) :
    (execOp ev o).run Tryz.prog w = .ok (.enter f #[v]) w := exec_call f #[x] ts ho #[v] (by simp [hx]) hf he
theorem exec_conv {o : Oper} {ev : Operand → Value} (x : Operand) (ho : o.op = .convert 28 9 x) (u t : Value) (hx : ev x = u) (hr : (convert 28 9 u).run Tryz.prog w = .ok t w) : (execOp ev o).run Tryz.prog w = .ok (.value t) w := by
  simp [execOp, ho, hx, hr, Result.andThen]
end Go.Proofs.YtikomnbhmmjfnaaGreat
