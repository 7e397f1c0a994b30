/- Chapter 2 over plain lists: a batch that may be (P202). -/
import Derived.Test.YtobaeiicacpbnaaFoot
namespace Go.Proofs.Ytobaeiicacpbnaa
open Go.RowKit

theorem hid {p : Prop} (h : p) : Hid p := h
theorem once {T G : Prop} (main : T → G) (rest : T) : G := main rest
structure Rec where
  key : ByteArray
  val : ByteArray
  dead : Bool
structure Bat where
  kind : Int
  prod : Int
  epoch : Int
  seq : Int
  txn : Bool
  recs : List Rec
/-- The batch beside an error. -/
def bat0 : Bat := ⟨0, 0, 0, 0, false, []⟩
def Bat.marker (b : Bat) : Bool := b.kind == 2 || b.kind == 3
/-- How many offsets it takes. -/
def lenN (b : Bat) : Int := if b.marker then 1 else b.recs.length
def recsSize : List Rec → Nat
  | [] => 0
  | r :: rs => 5 + r.key.size + r.val.size + recsSize rs
def sizeN (b : Bat) : Nat := 18 + recsSize b.recs
/-- Kind, Producer, Epoch, InTxn, and the Seq of a marker or of nobody. -/
def argOk (b : Bat) : Bool :=
  (b.kind == 1 || b.marker) &&
  (if b.prod == -1 then !b.marker && b.epoch == 0 && b.seq == 0 && !b.txn
   else decide (0 ≤ b.prod) && decide (b.prod < 281474976710656) && decide (0 ≤ b.epoch) && decide (b.epoch < 2147483648) && !(b.marker && (b.seq != 0 || b.txn)))
/-- How many Records. -/
def manyOk (b : Bat) : Bool := if b.marker then b.recs.length == 0 else b.recs.length != 0 && decide (b.recs.length ≤ 64)
def recOk (r : Rec) : Bool := decide (r.key.size ≤ 1000) && decide (r.val.size ≤ 4000) && !(r.dead && r.val.size != 0)
def seqOk (b : Bat) : Bool := decide (0 ≤ b.seq) && decide (b.seq ≤ 2147483648 - lenN b)
/-- P202. -/
def checkN (b : Bat) : Int :=
  if argOk b then
    (if manyOk b && b.recs.all recOk then (if seqOk b then (if sizeN b ≤ 65536 then 0 else 6) else 53) else 6)
  else 1
theorem recOk_parts {r : Rec} (h : recOk r = true) : r.key.size ≤ 1000 ∧ r.val.size ≤ 4000 := by
  simp only [recOk, Bool.and_eq_true, decide_eq_true_eq] at h
  exact ⟨h.1.1, h.1.2⟩
end Go.Proofs.Ytobaeiicacpbnaa
