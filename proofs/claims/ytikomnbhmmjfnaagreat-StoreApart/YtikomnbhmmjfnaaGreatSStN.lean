/- Chapter 4 as functions over plain data: a store's state, what an entry does, how an entry comes onto the disk (P402 to P405). -/
import Derived.Test.YtikomnbhmmjfnaaGreatStoreN
import Derived.Test.YtikomnbhmmjfnaaGreatDiskN
namespace Go.Proofs.YtikomnbhmmjfnaaGreat
open Go.RowKit

/-- What a loglet has beside its slots. -/
structure LSt where
  tail : Nat
  trim : Nat
  sealed : Bool
def l0 : LSt := ⟨0, 0, false⟩
/-- A store: its disk, its slots, its loglets, how many entries there are, the block behind them, whether it has fallen. -/
structure SSt where
  d : DSt
  slots : Nat → Nat → Option (List Nat)
  logs : Nat → Option LSt
  num : Nat
  fin : Nat
  fallen : Bool
def SSt.log (s : SSt) (id : Nat) : LSt := (s.logs id).getD l0
/-- An entry. -/
structure Ent where
  kind : Nat
  loglet : Nat
  pos : Nat
  data : List Nat
def Ent.text (e : Ent) : List Nat := entryN e.kind e.loglet e.pos e.data
def Ent.parts (e : Ent) : Nat := partsN (13 + e.data.length)
theorem Ent.text_length (e : Ent) : e.text.length = 13 + e.data.length := entryN_length _ _ _ _
theorem Ent.parts_pos (e : Ent) : 1 ≤ e.parts := by unfold Ent.parts partsN; omega
/-- Blocks, written one behind the other: were all, and the disk. -/
def writesD (d : DSt) : List (Nat × List Nat) → Bool × DSt
  | [] => (true, d)
  | x :: r => if (writeD d x.1 x.2).1 = 0 then writesD (writeD d x.1 x.2).2 r else (false, (writeD d x.1 x.2).2)
/-- The first k of them. -/
def midD (d : DSt) (xs : List (Nat × List Nat)) (k : Nat) : DSt := (writesD d (xs.take k)).2
/-- Blocks that are to last. -/
def lastsD (d : DSt) (xs : List (Nat × List Nat)) : Bool × DSt :=
  if (writesD d xs).1 then (if xs = [] then (true, d) else (decide ((syncD (writesD d xs).2).1 = 0), (syncD (writesD d xs).2).2)) else (false, (writesD d xs).2)
theorem writesD_append (d : DSt) (xs ys : List (Nat × List Nat)) : writesD d (xs ++ ys) = if (writesD d xs).1 then writesD (writesD d xs).2 ys else writesD d xs := by
  induction xs generalizing d with
  | nil => simp [writesD]
  | cons x r ih =>
    simp only [List.cons_append, writesD]
    split
    · rw [ih]
    · simp
theorem writesD_snoc (d : DSt) (xs : List (Nat × List Nat)) (x : Nat × List Nat) (h : (writesD d xs).1 = true) : writesD d (xs ++ [x]) = (decide ((writeD (writesD d xs).2 x.1 x.2).1 = 0), (writeD (writesD d xs).2 x.1 x.2).2) := by
  rw [writesD_append, if_pos h]
  simp only [writesD]
  split
  · rename_i h1; simp [h1]
  · rename_i h1; simp [h1]
theorem writesD_take (d : DSt) (xs : List (Nat × List Nat)) (k : Nat) (h : (writesD d (xs.take (k + 1))).1 = true) : (writesD d (xs.take k)).1 = true := by
  by_cases hk : k < xs.length
  · rw [List.take_succ_eq_append_getElem hk, writesD_append] at h
    by_cases h1 : (writesD d (xs.take k)).1 = true
    · exact h1
    · rw [if_neg h1] at h; exact absurd h h1
  · rw [List.take_of_length_le (by omega)] at h ⊢; exact h
theorem writesD_stop (d : DSt) (xs : List (Nat × List Nat)) (k : Nat) (h : (writesD d (xs.take k)).1 = false) : writesD d xs = writesD d (xs.take k) := by
  have e : xs = xs.take k ++ xs.drop k := (List.take_append_drop k xs).symm
  conv => lhs; rw [e, writesD_append]
  rw [h]; rfl
theorem writesD_length (d : DSt) (xs : List (Nat × List Nat)) : (writesD d xs).2.bs.length = d.bs.length := by
  induction xs generalizing d with
  | nil => rfl
  | cons x r ih =>
    simp only [writesD]
    split
    · rw [ih, writeD_length]
    · exact writeD_length _ _ _
theorem lastsD_length (d : DSt) (xs : List (Nat × List Nat)) : (lastsD d xs).2.bs.length = d.bs.length := by
  unfold lastsD
  split
  · split
    · rfl
    · rw [syncD_length, writesD_length]
  · exact writesD_length _ _
/-- The blocks of an entry, at their places. -/
def rowAt (at_ : Nat) (bs : List (List Nat)) : List (Nat × List Nat) := bs.zipIdx.map fun x => (at_ + x.2, x.1)
theorem rowAt_length (p : Nat) (bs : List (List Nat)) : (rowAt p bs).length = bs.length := by simp [rowAt]
theorem rowAt_at (p : Nat) (bs : List (List Nat)) (k : Nat) : (rowAt p bs)[k]? = bs[k]?.map fun b => (p + k, b) := by
  simp only [rowAt, List.getElem?_map, List.getElem?_zipIdx]
  cases bs[k]? <;> simp
def SSt.setLog (s : SSt) (id : Nat) (x : LSt) : SSt := { s with logs := fun j => if j = id then some x else s.logs j }
def SSt.setSlot (s : SSt) (l p : Nat) (x : Option (List Nat)) : SSt := { s with slots := fun i q => if i = l ∧ q = p then x else s.slots i q }
def SSt.fill (s : SSt) (l p : Nat) (data : List Nat) : SSt :=
  if s.slots l p = none ∧ (s.log l).trim ≤ p then (s.setLog l ⟨max (s.log l).tail (p + 1), (s.log l).trim, (s.log l).sealed⟩).setSlot l p (some data)
  else s.setLog l ⟨max (s.log l).tail (p + 1), (s.log l).trim, (s.log l).sealed⟩
def SSt.sealL (s : SSt) (l : Nat) : SSt := s.setLog l ⟨(s.log l).tail, (s.log l).trim, true⟩
def SSt.giveUp (s : SSt) (l p : Nat) : SSt :=
  { s.setLog l ⟨max (s.log l).tail p, max (s.log l).trim p, (s.log l).sealed⟩ with slots := fun i q => if i = l ∧ (s.log l).trim ≤ q ∧ q < p then none else s.slots i q }
/-- What an entry says is done. -/
def SSt.doE (s : SSt) (e : Ent) : SSt := if e.kind = 1 then s.fill e.loglet e.pos e.data else if e.kind = 2 then s.sealL e.loglet else s.giveUp e.loglet e.pos
def SSt.takeE (s : SSt) (e : Ent) : SSt := { s.doE e with num := s.num + 1, fin := s.fin + e.parts }
/-- The blocks of an entry of this store. -/
def SSt.rowE (s : SSt) (e : Ent) : List (Nat × List Nat) := rowAt s.fin (blocksN s.num e.text)
/-- An entry is written, and done. -/
def SSt.record (s : SSt) (e : Ent) : Int × SSt :=
  if s.d.bs.length < s.fin + e.parts then (7, s)
  else if (lastsD s.d (s.rowE e)).1 then (0, ({ s with d := (lastsD s.d (s.rowE e)).2 } : SSt).takeE e)
  else (8, { s with d := (lastsD s.d (s.rowE e)).2, fallen := true })
def isLogletN (n : Int) : Bool := decide (0 ≤ n) && decide (n < 281474976710656)
def isPlaceN (n : Int) : Bool := decide (0 ≤ n) && decide (n < 4096)
def isTrimN (n : Int) : Bool := decide (0 ≤ n) && decide (n ≤ 4096)
def SSt.down (s : SSt) : Bool := s.fallen || s.d.off
/-- P403. -/
def SSt.put (s : SSt) (l p : Int) (data : List Nat) (repair : Bool) : Int × SSt :=
  if isLogletN l && isPlaceN p then
    (if 65536 < data.length then (6, s)
     else if s.down then (8, s)
     else if p.toNat < (s.log l.toNat).trim then (32, s)
     else match s.slots l.toNat p.toNat with
       | some was => if was = data then (0, s) else (31, s)
       | none => if (s.log l.toNat).sealed && !repair then (30, s) else s.record ⟨1, l.toNat, p.toNat, data⟩)
  else (1, s)
/-- P404. -/
def SSt.seal (s : SSt) (l : Int) : Int × SSt :=
  if isLogletN l then (if s.down then (8, s) else if (s.log l.toNat).sealed then (0, s) else s.record ⟨2, l.toNat, 0, []⟩) else (1, s)
def SSt.trim (s : SSt) (l p : Int) : Int × SSt :=
  if isLogletN l && isTrimN p then (if s.down then (8, s) else if p.toNat ≤ (s.log l.toNat).trim then (0, s) else s.record ⟨3, l.toNat, p.toNat, []⟩) else (1, s)
/-- P405. -/
def SSt.get (s : SSt) (l p : Int) : List Nat × Int :=
  if isLogletN l && isPlaceN p then
    (if p.toNat < (s.log l.toNat).trim then ([], 32) else match s.slots l.toNat p.toNat with
      | some d => (d, 0)
      | none => ([], 3))
  else ([], 1)
def SSt.free (s : SSt) : Nat := s.d.bs.length - s.fin
/-- The state that a loglet of any number has: none but the default at one that can't be. -/
def SSt.look (s : SSt) (l : Int) : LSt := if 0 ≤ l then s.log l.toNat else l0
end Go.Proofs.YtikomnbhmmjfnaaGreat
