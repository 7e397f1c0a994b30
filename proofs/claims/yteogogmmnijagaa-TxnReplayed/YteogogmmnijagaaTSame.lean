/- Six states held against themselves; what is loaded whole in a drawn region. -/
import Derived.Test.YteogogmmnijagaaTKnows
import Derived.Test.YteogogmmnijagaaOpenEvs
import Derived.Laws.StructEq
import Derived.DeepKeys
import Derived.ChangeKeysEq
namespace Go.Proofs.Yteogogmmnijagaa
open Go.RowKit
variable {w w' W : World} {g : Nat} {B : Bk}

abbrev TSt : TypeId := 43
theorem st_fields : Try.prog.underlying TSt = some (.struct (Try.prog.fieldsOf TSt)) := by simp [Program.fieldsOf, Try.underlying43]
theorem st_held : Try.prog.stoodInHeld TSt = false := by kernel_rfl
theorem sts_guard : Try.prog.eqGuardType Try.prog.depth TSs = false := by kernel_rfl
theorem items_self (d : Nat) (e : TypeId) (n : Nat) (xs : Array Value) (w : World) : ∀ is : List Nat, (∀ i ∈ is, ∃ a, (part e xs (i * n)).run Try.prog w = .ok a w ∧ (Op.equalIn d e a a).run Try.prog w = .ok true w) → (Op.eqItems d e n xs xs is).run Try.prog w = .ok true w
  | [], _ => by simp [Op.eqItems]
  | i :: is, h => by
    obtain ⟨a, h1, h2⟩ := h i (by simp)
    have ih := items_self d e n xs w is (fun j hj => h j (by simp [hj]))
    simp [Op.eqItems, h1, h2, ih]
theorem part_st (xs : Array Value) (off : Nat) (w : World) : (part TSt xs off).run Try.prog w = .ok (.agg (xs.extract off (off + 3))) w := by
  simp [part, isAgg, run_underlying st_fields]
theorem st_cells3 : Try.prog.cellsOf TSt = 3 := by kernel_rfl
theorem ex_get (xs : Array Value) (p n j : Nat) (hj : j < n) (h : p + n ≤ xs.size) : (xs.extract p (p + n))[j]? = xs[p + j]? := by
  rw [Array.getElem?_extract, if_pos (by omega)]
set_option maxRecDepth 100000 in
theorem st_self (s e : Int) (b : Bool) (w : World) : (Op.equalIn (9998 + 1) TSt (.agg #[.int .i64 s, .int .i64 e, .bool b]) (.agg #[.int .i64 s, .int .i64 e, .bool b])).run Try.prog w = .ok true w := by
  rw [run_equalIn_struct _ _ _ _ _ st_fields st_held]
  simp only [Program.fieldsOf, Try.underlying43]
  simp [Op.eqFields, go_sem, Try.underlying3, Try.underlying4]
set_option maxRecDepth 100000 in
theorem sts_same (B : Bk) (w : World) : (binOp .eql TSs (.agg (stL B).toArray) (.agg (stL B).toArray)).run Try.prog w = .ok (.bool true) w := by
  obtain ⟨i, hi⟩ : ∃ i, Try.prog.info? TSt = some i := Option.isSome_iff_exists.1 (by kernel_rfl)
  have hE : (Op.equalIn (9999 + 1) TSs (.agg (stL B).toArray) (.agg (stL B).toArray)).run Try.prog w = .ok true w := by
    rw [run_equalIn_array w 9999 _ _ Try.underlying44 hi, st_cells3]
    refine items_self _ _ _ _ _ _ (fun j hj => ?_)
    have hj6 : j < 6 := List.mem_range.1 hj
    refine ⟨_, part_st _ _ w, ?_⟩
    have e : (stL B).toArray.extract (j * 3) (j * 3 + 3) = #[.int .i64 (B.at j).st, .int .i64 (B.at j).ep, .bool (decide (j < B.ps.length))] := by
      obtain ⟨g0, g1, g2⟩ := stL_get B hj6
      have hsz : (stL B).toArray.size = 18 := by rw [List.size_toArray, stL_len]
      refine Array.ext (by rw [Array.size_extract, hsz]; simp; omega) (fun c hc1 hc2 => ?_)
      have hc3 : c < 3 := by simpa using hc2
      have e1 := ex_get (stL B).toArray (j * 3) 3 c hc3 (by omega)
      rw [Array.getElem?_eq_getElem hc1, List.getElem?_toArray] at e1
      rcases (show c = 0 ∨ c = 1 ∨ c = 2 by omega) with rfl | rfl | rfl
      · exact Option.some.inj (e1.trans (by simpa using g0))
      · exact Option.some.inj (e1.trans g1)
      · exact Option.some.inj (e1.trans g2)
    rw [e]
    exact st_self _ _ _ w
  rw [run_eql_struct, show (10000 : Nat) = 9999 + 1 from rfl, hE]
  rfl
theorem exec_load_wide {a : Act} {o : Oper} (ty : TypeId) (x : Operand) (ho : o.op = .load ty x) (d : TypeDesc) (hu : Try.prog.underlying ty = some d) (hd : isWide d = true)
    (l : List Value) (hi : (Try.prog.info? ty).map (·.size) = some l.length) (g off : Nat) (hx : a.eval x = .pointer (some ⟨g, off, none⟩)) (hc : ∀ j, j < l.length → w.cell? ⟨g, off + j, none⟩ = l[j]?) :
    (execOp a.eval o).run Try.prog w = .ok (.value (.agg l.toArray)) w := by
  unfold execOp
  simp only [ho, hx, Instr.loadAt, Instr.sureAddr, Sem.run_bind, Sem.run_pure, Result.andThen_ok, run_loadVar_cells w ty d hu hd l hi g off hc]
theorem exec_eql_wide {a : Act} {o : Oper} (B : Bk) (L : List Value) (hL : stL B = L) (p q : Operand) (ho : o.op = .binOp .eql TSs p q TSs) (h1 : a.eval p = .agg L.toArray) (h2 : a.eval q = .agg L.toArray) :
    (execOp a.eval o).run Try.prog w = .ok (.value (.bool true)) w := by
  subst hL
  unfold execOp
  simp only [ho, h1, h2, Sem.run_bind, Sem.run_pure, sts_same, run_eqGuard_agg w .eql TSs p q _ _ sts_guard, Result.andThen_ok]
theorem setRow_chg (w : World) (b : Nat) (cs : Array Value) : Chg [b] w (w.setRow b cs) :=
  ⟨rfl, rfl, rfl, by simp, fun k _ hn => setRow_other _ _ _ _ (fun e => hn (by simp [e]))⟩
/-- The cells of the k-th of six states that lie in a block. -/
theorem st_cells {b k : Nat} (h : Blk W b (stL B).toArray TSs) (hk : k < 6) : W.cell? ⟨b, k * 3, none⟩ = some (.int .i64 (B.at k).st) ∧ W.cell? ⟨b, k * 3 + 1, none⟩ = some (.int .i64 (B.at k).ep) ∧ W.cell? ⟨b, k * 3 + 2, none⟩ = some (.bool (decide (k < B.ps.length))) := by
  obtain ⟨g0, g1, g2⟩ := stL_get B hk
  exact ⟨(h.cell _).trans (by rw [List.getElem?_toArray]; exact g0), (h.cell _).trans (by rw [List.getElem?_toArray]; exact g1), (h.cell _).trans (by rw [List.getElem?_toArray]; exact g2)⟩
/-- states, its answer as some list. -/
structure StsAt (B : Bk) (L : List Value) : Prop where
  eq : stL B = L
theorem StsAt.len {L : List Value} (h : StsAt B L) : L.length = 18 := by rw [← h.eq]; exact stL_len B
theorem StsAt.one {L : List Value} (h : StsAt B L) : ∀ v ∈ L, v.oneCell' = true := by rw [← h.eq]; exact stL_one B
theorem StsAt.call {L : List Value} {N : Nat} (h : StsAt B L) (hb : BOf N W g B) : Calls Try.prog 13 #[.pointer (some ⟨g, 0, none⟩)] W fun e w' => e = .returned (.agg L.toArray) ∧ Below W.heap.size W w' := by
  rw [← h.eq]
  exact states_any hb
/-! ### What an event of another epoch is answered (P1607) -/
theorem isA_at {n : Int} (h : B.isA n = true) : ∃ i : Nat, n = i ∧ i < B.ps.length ∧ B.epA n = (B.at i).ep := by
  have h1 : 0 ≤ n ∧ n < B.ps.length := of_decide_eq_true h
  refine ⟨n.toNat, by omega, by omega, ?_⟩
  unfold Bk.epA
  rw [if_pos h1]
theorem dec_wr {x : Ev} (hk : x.kind ≠ 1 ∧ x.kind ≠ 5) (hm : x.may) : ∃ f, B.dec x = B.askW x f ∧ ∀ p y, (f p y).2 ≠ 50 := by
  have h5 := hm.1
  unfold Bk.dec Bk.ask
  rw [if_pos hm, if_neg hk.1]
  by_cases k2 : x.kind = 2
  · rw [if_pos k2]
    refine ⟨ask2, rfl, fun p y => ?_⟩
    unfold ask2
    split
    · simp
    · split
      · simp
      · split <;> simp
  · rw [if_neg k2]
    by_cases k3 : x.kind = 3
    · rw [if_pos k3]
      refine ⟨ask3, rfl, fun p y => ?_⟩
      unfold ask3
      split
      · simp
      · split <;> simp
    · rw [if_neg k3, if_pos (by omega)]
      exact ⟨ask4, rfl, fun p y => by simp [ask4]⟩
theorem fence_none {x : Ev} (hk : x.kind ≠ 1 ∧ x.kind ≠ 5) (hn : B.isA x.prod = false) : (B.dec x).2 ≠ 0 := by
  by_cases hm : x.may
  · obtain ⟨f, e, -⟩ := dec_wr (B := B) hk hm
    have hn' : ¬ (0 ≤ x.prod ∧ x.prod < B.ps.length) := of_decide_eq_false hn
    rw [e]
    unfold Bk.askW Bk.wr
    rw [if_neg hn', if_neg (by decide)]
    decide
  · unfold Bk.dec; rw [if_neg hm]; decide
theorem fence_same {x : Ev} (hk : x.kind ≠ 1 ∧ x.kind ≠ 5) : B.isA x.prod = true → B.epA x.prod = x.ep → (B.dec x).2 ≠ 50 := by
  intro hi he
  by_cases hm : x.may
  · obtain ⟨f, e, hf⟩ := dec_wr (B := B) hk hm
    obtain ⟨i, h1, h2, h3⟩ := isA_at hi
    have h4 : 0 ≤ x.prod ∧ x.prod < B.ps.length := of_decide_eq_true hi
    have h5 : x.prod.toNat = i := by omega
    rw [e]
    unfold Bk.askW Bk.wr
    rw [if_pos h4, h5, if_pos (h3.symm.trans he), if_pos rfl]
    exact hf _ _
  · unfold Bk.dec; rw [if_neg hm]; decide
theorem fence_other {x : Ev} (hk : x.kind ≠ 1 ∧ x.kind ≠ 5) : B.isA x.prod = true → B.epA x.prod ≠ x.ep → (B.dec x).2 ≠ 0 ∧ B.app x = B := by
  intro hi he
  have h0 : (B.dec x).2 ≠ 0 := by
    by_cases hm : x.may
    · obtain ⟨f, e, hf⟩ := dec_wr (B := B) hk hm
      obtain ⟨i, h1, h2, h3⟩ := isA_at hi
      have h4 : 0 ≤ x.prod ∧ x.prod < B.ps.length := of_decide_eq_true hi
      have h5 : x.prod.toNat = i := by omega
      rw [e]
      unfold Bk.askW Bk.wr
      rw [if_pos h4, h5, if_neg (fun q => he (h3.trans q)), if_neg (by decide)]
      decide
    · unfold Bk.dec; rw [if_neg hm]; decide
  exact ⟨h0, app_no (fun e => h0 (by rw [e]))⟩
end Go.Proofs.Yteogogmmnijagaa
