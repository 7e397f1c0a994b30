/- An event of package group as plain data. No function of the program is named here. What is small of the events of package group: insist, isName, isMembers, numbers. -/
import Derived.Test.YtipgociofjokeaaGreatAOwn
import Derived.WalkLawsBesides
namespace Go.Proofs.YtipgociofjokeaaGreat
open Go.RowKit

/-- An event. -/
structure Ev where
  kind : Int
  mem : Nm
  gen : Int
  part : Int
  off : Int
  prod : Int
  ep : Int
  now : Int
  yes : Bool
deriving DecidableEq
/-- What a Kind takes of an event. -/
def Ev.taken (x : Ev) : Ev :=
  if x.kind = 1 then ⟨x.kind, x.mem, 0, 0, 0, 0, 0, x.now, false⟩
  else if x.kind = 2 then ⟨x.kind, x.mem, 0, 0, 0, 0, 0, x.now, false⟩
  else if x.kind = 3 then ⟨x.kind, x.mem, x.gen, 0, 0, 0, 0, x.now, false⟩
  else if x.kind = 4 then ⟨x.kind, x.mem, x.gen, x.part, x.off, 0, 0, 0, false⟩
  else if x.kind = 5 then ⟨x.kind, [], 0, 0, 0, 0, 0, x.now, false⟩
  else if x.kind = 6 then ⟨x.kind, x.mem, x.gen, x.part, x.off, x.prod, x.ep, 0, false⟩
  else if x.kind = 7 then ⟨x.kind, [], 0, 0, 0, x.prod, x.ep, 0, x.yes⟩
  else ⟨x.kind, [], 0, 0, 0, 0, 0, 0, false⟩
def inN (n : Int) : Prop := 0 ≤ n ∧ n < 281474976710656
instance (n : Int) : Decidable (inN n) := by unfold inN; infer_instance
def nameOk (s : Nm) : Bool := decide (1 ≤ s.length) && decide (s.length ≤ 64)
def Ev.isM (x : Ev) : Bool := !(x.kind == 5) && !(x.kind == 7)
/-- May an event be? -/
def Ev.may (x : Ev) : Prop := (1 ≤ x.kind ∧ x.kind < 8) ∧ x = x.taken ∧ nameOk x.mem = x.isM ∧ (inN x.gen ∧ inN x.part ∧ inN x.off ∧ inN x.prod ∧ inN x.ep ∧ inN x.now) ∧ x.part < 32 ∧ x.ep ≤ 2147483647
instance (x : Ev) : Decidable x.may := by unfold Ev.may; infer_instance
end Go.Proofs.YtipgociofjokeaaGreat
namespace Go.Proofs.YtipgociofjokeaaGreat
open Go.RowKit
variable {w w' : World}

/-- What a refusal raises. -/
abbrev refusal (y : Int) : List PanicEntry := [{ v := .iface 69 (.agg #[.int .i64 y]), recovered := false }]
theorem insist_ok (y : Int) (w : World) : Calls Tryz.prog 22 #[.bool true, .int .i64 y] w fun e w' => e = .returned (.tuple #[]) ∧ w' = w := by
  go_enter Tryz.func22, Tryz.ntmps22
  go_wp2_with fail
  go_end0
  exact ⟨rfl, rfl⟩
theorem insist_no (y : Int) (w : World) : Calls Tryz.prog 22 #[.bool false, .int .i64 y] w fun e w' => e = .panicked (refusal y) ∧ w' = w := by
  go_enter Tryz.func22, Tryz.ntmps22
  go_wp2_with fail
  exact ⟨rfl, rfl, rfl⟩
/-- How an insist ends. -/
def insC (b : Bool) (y : Int) : Ending := if b then .returned (.tuple #[]) else .panicked (refusal y)
theorem insC_no {p : Prop} [Decidable p] {y : Int} (h : ¬ p) : insC (decide p) y = .panicked (refusal y) := by unfold insC; rw [decide_eq_false h]; rfl
theorem insC_ok {p : Prop} [Decidable p] {y : Int} (h : p) : insC (decide p) y = .returned (.tuple #[]) := by unfold insC; rw [decide_eq_true h]; rfl
/-- How a decider ends. -/
def decC (y : Int) (d : Bool) : Ending := if y = 0 then .returned (.bool d) else .panicked (refusal y)
/-- An event's cells. -/
abbrev evA (x : Ev) : Array Value := #[.int .i64 x.kind, .string (nmS x.mem), .int .i64 x.gen, .int .i64 x.part, .int .i64 x.off, .int .i64 x.prod, .int .i64 x.ep, .int .i64 x.now, .bool x.yes]
abbrev TEv : TypeId := 31
abbrev TEn : TypeId := 24
theorem isName_any (s : Nm) (w : World) : Calls Tryz.prog 37 #[.string (nmS s)] w fun e w' => e = .returned (.bool (nameOk s)) ∧ w' = w := by
  have hz : (nmS s).size = s.length := by simp [nmS, ByteArray.size]
  have HV : Hid (nameOk s = (decide (1 ≤ s.length) && decide (s.length ≤ 64))) := hid rfl
  by_cases h : 1 ≤ s.length
  · have d1 : decide (1 ≤ s.length) = true := by simpa using h
    generalize nmS s = t at *
    generalize s.length = m at *
    subst hz
    go_enter Tryz.func37, Tryz.ntmps37
    go_wp2_with fail
    go_ret
    exact ⟨by rw [HV.out, d1]; simp; omega, rfl⟩
  · have d1 : decide (1 ≤ s.length) = false := by simpa using h
    generalize nmS s = t at *
    generalize s.length = m at *
    subst hz
    go_enter Tryz.func37, Tryz.ntmps37
    go_wp2_with fail
    go_ret
    exact ⟨by rw [HV.out, d1]; simp, rfl⟩
theorem isMembers_any (x : Ev) (w : World) : Calls Tryz.prog 38 #[.agg (evA x)] w fun e w' => e = .returned (.bool x.isM) ∧ w' = w.alloc (.cells (evA x) TEv) := by
  obtain ⟨k, s, a, b, c, d, e, f, y⟩ := x
  show Calls Tryz.prog 38 #[.agg #[.int .i64 k, .string (nmS s), .int .i64 a, .int .i64 b, .int .i64 c, .int .i64 d, .int .i64 e, .int .i64 f, .bool y]] w fun r w' => r = .returned (.bool (!(k == 5) && !(k == 7))) ∧ w' = w.alloc (.cells #[.int .i64 k, .string (nmS s), .int .i64 a, .int .i64 b, .int .i64 c, .int .i64 d, .int .i64 e, .int .i64 f, .bool y] TEv)
  generalize nmS s = t
  by_cases h : k = 5
  · subst h
    go_enter Tryz.func38, Tryz.ntmps38
    go_wp2_with fail
    go_ret
    exact ⟨rfl, rfl⟩
  · have h5 : (k == 5) = false := by simpa using h
    rw [h5]
    go_enter Tryz.func38, Tryz.ntmps38
    go_wp2_with fail
    go_ret
    exact ⟨by simp [h, bne], rfl⟩
theorem numbers_any (x : Ev) (w : World) : Calls Tryz.prog 39 #[.agg (evA x)] w fun e w' => e = .returned (.agg #[.int .i64 x.gen, .int .i64 x.part, .int .i64 x.off, .int .i64 x.prod, .int .i64 x.ep, .int .i64 x.now]) ∧ Below w.heap.size w w' := by
  obtain ⟨k, s, a, b, c, d, e, f, y⟩ := x
  show Calls Tryz.prog 39 #[.agg #[.int .i64 k, .string (nmS s), .int .i64 a, .int .i64 b, .int .i64 c, .int .i64 d, .int .i64 e, .int .i64 f, .bool y]] w fun r w' => r = .returned (.agg #[.int .i64 a, .int .i64 b, .int .i64 c, .int .i64 d, .int .i64 e, .int .i64 f]) ∧ Below w.heap.size w w'
  generalize nmS s = t
  go_enter Tryz.func39, Tryz.ntmps39
  go_wp2_with fail
  refine bodyPost_ret (v := .agg #[.int .i64 a, .int .i64 b, .int .i64 c, .int .i64 d, .int .i64 e, .int .i64 f]) (by simp [results, Tryz.results39, go_sem]) rfl ⟨rfl, ?_⟩
  exact ((Below.refl _ w).alloc (Nat.le_refl _) _).alloc (by simp) _
end Go.Proofs.YtipgociofjokeaaGreat
