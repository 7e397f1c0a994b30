/- How an event that came in is read. -/
import Derived.Test.YtiiepmljcjbflaaGreatOpen
import Derived.Test.YtiiepmljcjbflaaGreatPGEv
import Derived.OpenShut
import Derived.ShutString
import Derived.ChangeOld
namespace Go.Proofs.YtiiepmljcjbflaaGreat
open Go.RowKit
open Go.ChangeShapes Go.WideShapes Go.ChangeAt
open Go.ChangeMaps (open_string shut_string)

theorem Tryz.cellsEv : Tryz.prog.cellsOf 23 = 9 := by kernel_rfl
theorem Tryz.cellsEi : Tryz.prog.cellsOf 3 = 1 := by kernel_rfl
theorem Tryz.cellsEs : Tryz.prog.cellsOf 9 = 1 := by kernel_rfl
theorem Tryz.cellsEb : Tryz.prog.cellsOf 4 = 1 := by kernel_rfl
variable {H : Type} {enc : TypeId × Value → H} {W : World}
theorem list9 {α : Type} {cs : List α} (h : cs.length = 9) : ∃ c0 c1 c2 c3 c4 c5 c6 c7 c8, cs = [c0, c1, c2, c3, c4, c5, c6, c7, c8] := by
  match cs, h with
  | [c0, c1, c2, c3, c4, c5, c6, c7, c8], _ => exact ⟨c0, c1, c2, c3, c4, c5, c6, c7, c8, rfl⟩
theorem array9 {α : Type} {cs : Array α} (h : cs.size = 9) : ∃ c0 c1 c2 c3 c4 c5 c6 c7 c8, cs = #[c0, c1, c2, c3, c4, c5, c6, c7, c8] := by
  obtain ⟨l⟩ := cs
  obtain ⟨c0, c1, c2, c3, c4, c5, c6, c7, c8, rfl⟩ := list9 (show l.length = 9 from h)
  exact ⟨c0, c1, c2, c3, c4, c5, c6, c7, c8, rfl⟩
theorem trod9 {P : Program} {t : TypeId} {f0 f1 f2 f3 f4 f5 f6 f7 f8 : Field} {fuel : Nat} {cs : List Value} {x : DataW H × List MemPlace} (ht : P.underlying t = some (.struct #[f0, f1, f2, f3, f4, f5, f6, f7, f8])) (h : DataW.trod enc P W 0 (fun _ => true) true fuel t cs = some x) :
    ∃ y0 y1 y2 y3 y4 y5 y6 y7 y8 n, DataW.trod enc P W 0 (fun _ => true) true n f0.type ((cs.drop f0.offset).take (P.cellsOf f0.type)) = some y0 ∧ DataW.trod enc P W 0 (fun _ => true) true n f1.type ((cs.drop f1.offset).take (P.cellsOf f1.type)) = some y1 ∧ DataW.trod enc P W 0 (fun _ => true) true n f2.type ((cs.drop f2.offset).take (P.cellsOf f2.type)) = some y2 ∧ DataW.trod enc P W 0 (fun _ => true) true n f3.type ((cs.drop f3.offset).take (P.cellsOf f3.type)) = some y3 ∧ DataW.trod enc P W 0 (fun _ => true) true n f4.type ((cs.drop f4.offset).take (P.cellsOf f4.type)) = some y4 ∧ DataW.trod enc P W 0 (fun _ => true) true n f5.type ((cs.drop f5.offset).take (P.cellsOf f5.type)) = some y5 ∧ DataW.trod enc P W 0 (fun _ => true) true n f6.type ((cs.drop f6.offset).take (P.cellsOf f6.type)) = some y6 ∧ DataW.trod enc P W 0 (fun _ => true) true n f7.type ((cs.drop f7.offset).take (P.cellsOf f7.type)) = some y7 ∧ DataW.trod enc P W 0 (fun _ => true) true n f8.type ((cs.drop f8.offset).take (P.cellsOf f8.type)) = some y8 := by
  obtain ⟨xs, n, _, rfl, _, hlen, hf⟩ := DataW.trod_struct ht h
  obtain ⟨y0, y1, y2, y3, y4, y5, y6, y7, y8, rfl⟩ := list9 (hlen.trans rfl)
  exact ⟨y0, y1, y2, y3, y4, y5, y6, y7, y8, n, by simpa using hf 0 f0 rfl, by simpa using hf 1 f1 rfl, by simpa using hf 2 f2 rfl, by simpa using hf 3 f3 rfl, by simpa using hf 4 f4 rfl, by simpa using hf 5 f5 rfl, by simpa using hf 6 f6 rfl, by simpa using hf 7 f7 rfl, by simpa using hf 8 f8 rfl⟩
/-- Numbers that a word holds. -/
def i64P (n : Int) : Prop := -9223372036854775808 ≤ n ∧ n ≤ 9223372036854775807
/-- An event as it can come in. -/
structure Ev.came (x : Ev) : Prop where
  name : x.mem.length ≤ maxLen
  kind : i64P x.kind
  gen : i64P x.gen
  part : i64P x.part
  off : i64P x.off
  prod : i64P x.prod
  ep : i64P x.ep
  now : i64P x.now
set_option maxRecDepth 100000 in
theorem open_evC {n : Nat} {c0 c1 c2 c3 c4 c5 c6 c7 c8 : Value} {x : DataW H × List MemPlace} (h : DataW.trod enc Tryz.prog W 0 (fun _ => true) true n 23 [c0, c1, c2, c3, c4, c5, c6, c7, c8] = some x) : ∃ x : Ev, x.came ∧ [c0, c1, c2, c3, c4, c5, c6, c7, c8] = (evA x).toList := by
  obtain ⟨y0, y1, y2, y3, y4, y5, y6, y7, y8, m, f0, f1, f2, f3, f4, f5, f6, f7, f8⟩ := trod9 Tryz.underlying23 h
  simp only [Tryz.cellsEi, Tryz.cellsEs, Tryz.cellsEb, List.drop_zero, List.drop_succ_cons, List.take_succ_cons, List.take_zero] at f0 f1 f2 f3 f4 f5 f6 f7 f8
  obtain ⟨n0, e0, w0⟩ := DataW.trod_int Tryz.underlying3 f0
  obtain ⟨n2, e2, w2⟩ := DataW.trod_int Tryz.underlying3 f2
  obtain ⟨n3, e3, w3⟩ := DataW.trod_int Tryz.underlying3 f3
  obtain ⟨n4, e4, w4⟩ := DataW.trod_int Tryz.underlying3 f4
  obtain ⟨n5, e5, w5⟩ := DataW.trod_int Tryz.underlying3 f5
  obtain ⟨n6, e6, w6⟩ := DataW.trod_int Tryz.underlying3 f6
  obtain ⟨n7, e7, w7⟩ := DataW.trod_int Tryz.underlying3 f7
  obtain ⟨s, e1, -, w1⟩ := DataW.trod_string Tryz.underlying9 f1
  obtain ⟨b, e8, -⟩ := DataW.trod_bool Tryz.underlying4 f8
  simp only [List.cons.injEq, and_true] at e0 e1 e2 e3 e4 e5 e6 e7 e8
  subst e0 e1 e2 e3 e4 e5 e6 e7 e8
  refine ⟨⟨n0, s.data.toList, n2, n3, n4, n5, n6, n7, b⟩, ?_, rfl⟩
  have hw : ∀ {n : Int}, (Lit.int .i64 n).wf = true → i64P n := fun {n} hw => by
    have e1 : IntKind.i64.min = -9223372036854775808 := rfl
    have e2 : IntKind.i64.max = 9223372036854775807 := rfl
    simp [Lit.wf, e1, e2] at hw
    exact hw
  exact ⟨by simpa using w1, hw w0.2, hw w2.2, hw w3.2, hw w4.2, hw w5.2, hw w6.2, hw w7.2⟩
set_option maxRecDepth 100000 in
theorem open_event {r : Reach} {b0 : Nat} {v : Value} {d : DataW H} {p : List MemPlace} (hv : Value.okWide Tryz.prog W r b0 23 v) (h : DataW.Trod enc Tryz.prog W 0 (fun _ => true) true 23 v d p) : ∃ x : Ev, x.came ∧ v = .agg (evA x) := by
  obtain ⟨cs, rfl, hsz⟩ := okWide_struct Tryz.underlying23 hv
  rw [Tryz.cellsEv] at hsz
  obtain ⟨c0, c1, c2, c3, c4, c5, c6, c7, c8, rfl⟩ := array9 hsz
  obtain ⟨fuel, hf⟩ := h
  obtain ⟨x, hx, e⟩ := open_evC hf
  refine ⟨x, hx, ?_⟩
  have e2 : #[c0, c1, c2, c3, c4, c5, c6, c7, c8] = evA x := congrArg List.toArray e
  rw [e2]
end Go.Proofs.YtiiepmljcjbflaaGreat
