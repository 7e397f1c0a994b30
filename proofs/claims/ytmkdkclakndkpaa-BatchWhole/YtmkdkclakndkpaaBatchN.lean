/- Chapter 2 as functions over plain lists: a batch that may be (P202), its bytes (P203), bytes as a batch (P204). -/
import Derived.Test.YtmkdkclakndkpaaTextN
import Derived.Test.YtmkdkclakndkpaaGetTextN
namespace Go.Proofs.Ytmkdkclakndkpaa
open Go.RowKit

structure Rec where
  key : ByteArray
  val : ByteArray
  dead : Bool
structure Bat where
  kind : Int
  prod : Int
  epoch : Int
  seq : Int
  txn : Bool
  recs : List Rec
/-- The batch beside an error. -/
def bat0 : Bat := ⟨0, 0, 0, 0, false, []⟩
def Bat.marker (b : Bat) : Bool := b.kind == 2 || b.kind == 3
/-- How many offsets it takes. -/
def lenN (b : Bat) : Int := if b.marker then 1 else b.recs.length
def recsSize : List Rec → Nat
  | [] => 0
  | r :: rs => 5 + r.key.size + r.val.size + recsSize rs
def sizeN (b : Bat) : Nat := 18 + recsSize b.recs
/-- Kind, Producer, Epoch, InTxn, and the Seq of a marker or of nobody. -/
def argOk (b : Bat) : Bool :=
  (b.kind == 1 || b.marker) &&
  (if b.prod == -1 then !b.marker && b.epoch == 0 && b.seq == 0 && !b.txn
   else decide (0 ≤ b.prod) && decide (b.prod < 281474976710656) && decide (0 ≤ b.epoch) && decide (b.epoch < 2147483648) && !(b.marker && (b.seq != 0 || b.txn)))
/-- How many Records. -/
def manyOk (b : Bat) : Bool := if b.marker then b.recs.length == 0 else b.recs.length != 0 && decide (b.recs.length ≤ 64)
def recOk (r : Rec) : Bool := decide (r.key.size ≤ 1000) && decide (r.val.size ≤ 4000) && !(r.dead && r.val.size != 0)
def seqOk (b : Bat) : Bool := decide (0 ≤ b.seq) && decide (b.seq ≤ 2147483648 - lenN b)
/-- P202. -/
def checkN (b : Bat) : Int :=
  if argOk b then
    (if manyOk b && b.recs.all recOk then (if seqOk b then (if sizeN b ≤ 65536 then 0 else 6) else 53) else 6)
  else 1
/-- The bytes of a Record. -/
def recBs (r : Rec) : List Nat := [if r.dead then 1 else 0] ++ ((spellN r.key.size 2 ++ sbytes r.key) ++ (spellN r.val.size 2 ++ sbytes r.val))
def recsBs : List Rec → List Nat
  | [] => []
  | r :: rs => recBs r ++ recsBs rs
def flagsN (b : Bat) : Nat := (if b.prod == -1 then 0 else 1) + (if b.txn then 2 else 0)
def prodN (b : Bat) : Nat := if b.prod == -1 then 0 else b.prod.toNat
def headBs (b : Bat) : List Nat := [b.kind.toNat, flagsN b] ++ (spellN (prodN b) 6 ++ (spellN b.epoch.toNat 4 ++ (spellN b.seq.toNat 4 ++ spellN b.recs.length 2)))
/-- P203: the bytes of a batch that may be. -/
def writeN (b : Bat) : List Nat := headBs b ++ recsBs b.recs
/-- P203, Encode: the error's number and the bytes. -/
def encodeN (b : Bat) : Int × List Nat := if checkN b = 0 then (0, writeN b) else (checkN b, [])
/-- The Record at p, and the place behind it, if it is all there. -/
def recAt (l : List Nat) (p : Nat) : Option (Rec × Nat) :=
  if p + 3 + lenAt l (p + 1) ≤ l.length then
    (if p + 3 + lenAt l (p + 1) + 2 + lenAt l (p + 3 + lenAt l (p + 1)) ≤ l.length then
      some (⟨bstr ((l.drop (p + 3)).take (lenAt l (p + 1))), bstr ((l.drop (p + 3 + lenAt l (p + 1) + 2)).take (lenAt l (p + 3 + lenAt l (p + 1)))), l.getD p 0 != 0⟩, p + 3 + lenAt l (p + 1) + 2 + lenAt l (p + 3 + lenAt l (p + 1)))
     else none)
  else none
/-- n Records from p on, and the place behind them, if they are all there. -/
def readN (l : List Nat) (p : Nat) : Nat → Option (List Rec × Nat)
  | 0 => some ([], p)
  | n + 1 => match readN l p n with
    | none => none
    | some (rs, q) => match recAt l q with
      | none => none
      | some (r, q') => some (rs ++ [r], q')
/-- How many Records are told. -/
def toldRecs (l : List Nat) : Nat := valN ((l.drop 16).take 2)
/-- What 18 bytes and some Records are as a batch. -/
def batOf (l : List Nat) (rs : List Rec) : Bat :=
  ⟨(l.getD 0 0 : Nat), if l.getD 1 0 % 2 = 1 then ((valN ((l.drop 2).take 6) : Nat) : Int) else -1, (valN ((l.drop 8).take 4) : Nat), (valN ((l.drop 12).take 4) : Nat), l.getD 1 0 / 2 % 2 == 1, rs⟩
open Classical in
/-- P204, Decode: the batch and the error's number. -/
noncomputable def decodeN (l : List Nat) : Bat × Int :=
  if l.length < 18 then (bat0, 20)
  else match readN l 18 (toldRecs l) with
    | none => (bat0, 20)
    | some (rs, _) => if checkN (batOf l rs) = 0 ∧ writeN (batOf l rs) = l then (batOf l rs, 0) else (bat0, 22)
theorem recOk_parts {r : Rec} (h : recOk r = true) : r.key.size ≤ 1000 ∧ r.val.size ≤ 4000 := by
  simp only [recOk, Bool.and_eq_true, decide_eq_true_eq] at h
  exact ⟨h.1.1, h.1.2⟩
end Go.Proofs.Ytmkdkclakndkpaa
