/- An event of package txn as plain data. No function of the program is named here. -/
import Derived.Test.YteogogmmnijagaaAOwn
namespace Go.Proofs.Yteogogmmnijagaa
open Go.RowKit

/-- An event. -/
structure Ev where
  kind : Int
  name : Nm
  prod : Int
  ep : Int
  place : Int
  tmo : Int
  now : Int
  yes : Bool
deriving DecidableEq
/-- What a Kind takes of an event. -/
def Ev.taken (x : Ev) : Ev :=
  if x.kind = 1 then ⟨x.kind, x.name, 0, 0, 0, x.tmo, x.now, false⟩
  else if x.kind = 2 then ⟨x.kind, [], x.prod, x.ep, x.place, 0, x.now, false⟩
  else if x.kind = 3 then ⟨x.kind, [], x.prod, x.ep, 0, 0, 0, x.yes⟩
  else if x.kind = 4 then ⟨x.kind, [], x.prod, x.ep, x.place, 0, 0, false⟩
  else if x.kind = 5 then ⟨x.kind, [], 0, 0, 0, 0, x.now, false⟩
  else ⟨x.kind, [], 0, 0, 0, 0, 0, false⟩
def inN (n : Int) : Prop := 0 ≤ n ∧ n < 281474976710656
instance (n : Int) : Decidable (inN n) := by unfold inN; infer_instance
def nameOk (s : Nm) : Bool := decide (1 ≤ s.length) && decide (s.length ≤ 64)
def tmoOk (n : Int) : Bool := decide (1 ≤ n) && decide (n ≤ 3600)
/-- May an event be? -/
def Ev.may (x : Ev) : Prop := (1 ≤ x.kind ∧ x.kind ≤ 5) ∧ x = x.taken ∧ (x.kind = 1 → nameOk x.name = true ∧ tmoOk x.tmo = true) ∧ (inN x.prod ∧ inN x.ep ∧ inN x.place ∧ inN x.tmo ∧ inN x.now) ∧ x.ep ≤ 2147483647
instance (x : Ev) : Decidable x.may := by unfold Ev.may; infer_instance
end Go.Proofs.Yteogogmmnijagaa
