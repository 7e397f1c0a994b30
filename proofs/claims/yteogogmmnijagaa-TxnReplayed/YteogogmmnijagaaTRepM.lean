/- What TxnReplayed asks: two books beside each other that hold the same; markers held against themselves. -/
import Derived.Test.YteogogmmnijagaaTTellP
import Derived.Test.YteogogmmnijagaaTByG
import Derived.Test.YteogogmmnijagaaTSame
namespace Go.Proofs.Yteogogmmnijagaa
open Go.RowKit
variable {w w' : World} {N ga gb : Nat} {A B : Bk}

/-- Two books that a caller made, apart from each other. -/
def Two (N : Nat) (w : World) (ga gb : Nat) (A B : Bk) : Prop := ∃ Fa Fb, BAt w Fa ga A ∧ BAt w Fb gb B ∧ (∀ q ∈ Fa, N ≤ q ∧ q ∉ Fb) ∧ ∀ q ∈ Fb, N ≤ q
theorem Two.a (h : Two N w ga gb A B) : BOf N w ga A := by obtain ⟨Fa, Fb, h1, h2, h3, h4⟩ := h; exact ⟨Fa, h1, fun q hq => (h3 q hq).1⟩
theorem Two.b (h : Two N w ga gb A B) : BOf N w gb B := by obtain ⟨Fa, Fb, h1, h2, h3, h4⟩ := h; exact ⟨Fb, h2, h4⟩
theorem Two.later (h : Two N w ga gb A B) (hb : Below w.heap.size w w') : Two N w' ga gb A B := by
  obtain ⟨Fa, Fb, h1, h2, h3, h4⟩ := h
  exact ⟨Fa, Fb, h1.later hb, h2.later hb, h3, h4⟩
theorem Two.new (ha : BOf N w ga A) (hb : Below w.heap.size w w') (hB : BOf w.heap.size w' gb B) (hN : N ≤ w.heap.size) : Two N w' ga gb A B := by
  obtain ⟨Fa, h1, h2⟩ := ha
  obtain ⟨Fb, h3, h4⟩ := hB
  exact ⟨Fa, Fb, h1.later hb, h3, fun q hq => ⟨h2 q hq, fun hm => by have := h1.2.2 q hq; have := h4 q hm; omega⟩, fun q hq => Nat.le_trans hN (h4 q hq)⟩
theorem Two.applyA (h : Two N w ga gb A B) (hN : N ≤ w.heap.size) (x : Ev) : Calls Try.prog 8 #[.pointer (some ⟨ga, 0, none⟩), .agg (evA x)] w fun e w' => e = .returned (.int .i64 (A.dec x).2) ∧ Two N w' ga gb (A.app x) B ∧ Below N w w' := by
  obtain ⟨Fa, Fb, h1, h2, h3, h4⟩ := h
  refine (h1.apply x).mono ?_
  rintro e w' ⟨rfl, F', k1, k2, k3⟩
  refine ⟨rfl, ⟨F', Fb, k1, h2.chg k2 (fun q hq hm => (h3 q hm).2 hq), fun q hq => ?_, h4⟩, k2.below (fun k hk => (h3 k hk).1) hN⟩
  rcases k3 q hq with h5 | h5
  · exact h3 q h5
  · exact ⟨Nat.le_trans hN h5, fun hm => by have := h2.2.2 q hm; omega⟩
theorem Two.applyB (h : Two N w ga gb A B) (hN : N ≤ w.heap.size) (x : Ev) : Calls Try.prog 8 #[.pointer (some ⟨gb, 0, none⟩), .agg (evA x)] w fun e w' => e = .returned (.int .i64 (B.dec x).2) ∧ Two N w' ga gb A (B.app x) ∧ Below N w w' := by
  obtain ⟨Fa, Fb, h1, h2, h3, h4⟩ := h
  refine (h2.apply x).mono ?_
  rintro e w' ⟨rfl, F', k1, k2, k3⟩
  have h6 : ∀ q ∈ F', N ≤ q := fun q hq => (k3 q hq).elim (h4 q) (fun h5 => Nat.le_trans hN h5)
  refine ⟨rfl, ⟨Fa, F', h1.chg k2 (fun q hq => (h3 q hq).2), k1, fun q hq => ⟨(h3 q hq).1, fun hm => ?_⟩, h6⟩, k2.below (fun k hk => h4 k hk) hN⟩
  rcases k3 q hm with h5 | h5
  · exact (h3 q hq).2 h5
  · have := h1.2.2 q hq; omega
theorem dec_mayT {x : Ev} (h : A.dec x = (false, 0)) : x.may := by
  by_cases hm : x.may
  · exact hm
  · unfold Bk.dec at h
    rw [if_neg hm] at h
    exact absurd (congrArg Prod.snd h) (by decide)
abbrev TTd : TypeId := 47
theorem td_fields : Try.prog.underlying TTd = some (.struct (Try.prog.fieldsOf TTd)) := by simp [Program.fieldsOf, Try.underlying47]
theorem td_held : Try.prog.stoodInHeld TTd = false := by kernel_rfl
set_option maxRecDepth 100000 in
theorem td_self (p e q : Int) (y : Bool) (W : World) : (binOp .neq TTd (.agg #[.int .i64 p, .int .i64 e, .int .i64 q, .bool y]) (.agg #[.int .i64 p, .int .i64 e, .int .i64 q, .bool y])).run Try.prog W = .ok (.bool false) W := by
  have h : (Op.equalIn (9999 + 1) TTd (.agg #[.int .i64 p, .int .i64 e, .int .i64 q, .bool y]) (.agg #[.int .i64 p, .int .i64 e, .int .i64 q, .bool y])).run Try.prog W = .ok true W := by
    rw [run_equalIn_struct _ _ _ _ _ td_fields td_held]
    simp only [Program.fieldsOf, Try.underlying47]
    simp [Op.eqFields, go_sem, Try.underlying3, Try.underlying4]
  have h2 : (binOp .eql TTd (.agg #[.int .i64 p, .int .i64 e, .int .i64 q, .bool y]) (.agg #[.int .i64 p, .int .i64 e, .int .i64 q, .bool y])).run Try.prog W = .ok (.bool true) W := by
    rw [run_eql_struct, show (10000 : Nat) = 9999 + 1 from rfl, h]
    rfl
  simp only [binOp, Sem.run_bind] at h2 ⊢
  cases hr : Sem.run Try.prog (Op.equal TTd (.agg #[.int .i64 p, .int .i64 e, .int .i64 q, .bool y]) (.agg #[.int .i64 p, .int .i64 e, .int .i64 q, .bool y])) W <;> rw [hr] at h2 <;> simp_all
theorem td_guard : Try.prog.eqGuardType Try.prog.depth TTd = false := by kernel_rfl
theorem exec_td {a : Act} {o : Oper} {p e q : Int} {y : Bool} (i j : Operand) (ho : o.op = .binOp .neq TTd i j TTd) (h1 : a.eval i = .agg #[.int .i64 p, .int .i64 e, .int .i64 q, .bool y]) (h2 : a.eval j = .agg #[.int .i64 p, .int .i64 e, .int .i64 q, .bool y]) : (execOp a.eval o).run Try.prog w = .ok (.value (.bool false)) w := by
  unfold execOp
  simp only [ho, h1, h2, Sem.run_bind, td_self, run_eqGuard_agg w .neq TTd i j _ _ td_guard, Sem.run_pure, Result.andThen_ok]
theorem exec_neq_wide {a : Act} {o : Oper} (B : Bk) (L : List Value) (hL : stL B = L) (p q : Operand) (ho : o.op = .binOp .neq TSs p q TSs) (h1 : a.eval p = .agg L.toArray) (h2 : a.eval q = .agg L.toArray) :
    (execOp a.eval o).run Try.prog w = .ok (.value (.bool false)) w := by
  subst hL
  have h := sts_same B w
  simp only [binOp, Sem.run_bind] at h
  unfold execOp
  simp only [ho, h1, h2, Sem.run_bind, Sem.run_pure, binOp, run_eqGuard_agg w .neq TSs p q _ _ sts_guard, Result.andThen_ok]
  cases hr : Sem.run Try.prog (Op.equal TSs (Value.agg (stL B).toArray) (Value.agg (stL B).toArray)) w <;> rw [hr] at h <;> simp_all
end Go.Proofs.Yteogogmmnijagaa
