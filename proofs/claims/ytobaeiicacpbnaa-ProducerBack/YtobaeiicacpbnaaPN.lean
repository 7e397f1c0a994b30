/- Chapter 12 as plain data: what the program has of a producer, what becomes of a batch (P1202), what is noted (P1203). -/
import Derived.Test.YtobaeiicacpbnaaBatchN
namespace Go.Proofs.Ytobaeiicacpbnaa
open Go.RowKit

structure Dn where
  seq : Int
  len : Int
  off : Int
def dn0 : Dn := ⟨0, 0, 0⟩
/-- What the program has of a producer: five places that turn round. -/
structure PSt where
  epoch : Int
  next : Int
  slot : Nat → Dn
  old : Nat
  cnt : Nat
def ps0 : PSt := ⟨0, 0, fun _ => dn0, 0, 0⟩
/-- Its cells. -/
def psL (s : PSt) : List Value :=
  [.int .i64 s.epoch, .int .i64 s.next,
   .int .i64 (s.slot 0).seq, .int .i64 (s.slot 0).len, .int .i64 (s.slot 0).off,
   .int .i64 (s.slot 1).seq, .int .i64 (s.slot 1).len, .int .i64 (s.slot 1).off,
   .int .i64 (s.slot 2).seq, .int .i64 (s.slot 2).len, .int .i64 (s.slot 2).off,
   .int .i64 (s.slot 3).seq, .int .i64 (s.slot 3).len, .int .i64 (s.slot 3).off,
   .int .i64 (s.slot 4).seq, .int .i64 (s.slot 4).len, .int .i64 (s.slot 4).off,
   .int .i64 (s.old : Int), .int .i64 (s.cnt : Int)]
/-- Such a thing as a value. -/
def psV (s : PSt) : Value := .agg (psL s).toArray
structure PSt.ok (s : PSt) : Prop where
  old : s.old < 5
  cnt : s.cnt ≤ 5
theorem ps0_ok : ps0.ok := ⟨by decide, by decide⟩
/-- Where the batch lies that came i behind the oldest one. -/
def PSt.place (s : PSt) (i : Nat) : Nat := (s.old + i) % 5
theorem PSt.place_lt (s : PSt) (i : Nat) : s.place i < 5 := Nat.mod_lt _ (by decide)
def PSt.at (s : PSt) (i : Nat) : Dn := s.slot (s.place i)
/-- The last batches, the oldest first. -/
def PSt.last (s : PSt) : List Dn := (List.range s.cnt).map s.at
theorem PSt.last_len (s : PSt) : s.last.length = s.cnt := by simp [PSt.last]
theorem PSt.last_at (s : PSt) (i : Nat) (h : i < s.cnt) : s.last[i]? = some (s.at i) := by simp [PSt.last, List.getElem?_range h]
def PSt.put (s : PSt) (p : Nat) (d : Dn) : PSt := { s with slot := fun i => if i = p then d else s.slot i }
/-- One batch more. -/
def PSt.add (s : PSt) (d : Dn) : PSt :=
  if s.cnt < 5 then { s.put (s.place s.cnt) d with cnt := s.cnt + 1 } else { s.put (s.place s.cnt) d with old := s.place 1 }
/-- The last batches with one more. -/
def addL (l : List Dn) (d : Dn) : List Dn := if l.length < 5 then l ++ [d] else l.tail ++ [d]
theorem add_ok {s : PSt} (h : s.ok) (d : Dn) : (s.add d).ok := by
  unfold PSt.add
  split
  · exact ⟨h.old, by simp only; omega⟩
  · exact ⟨s.place_lt 1, h.cnt⟩
theorem add_epoch (s : PSt) (d : Dn) : (s.add d).epoch = s.epoch := by unfold PSt.add; split <;> rfl
theorem add_next (s : PSt) (d : Dn) : (s.add d).next = s.next := by unfold PSt.add; split <;> rfl
theorem add_last {s : PSt} (h : s.ok) (d : Dn) : (s.add d).last = addL s.last d := by
  have h1 := h.old
  have h2 := h.cnt
  apply List.ext_getElem?
  intro i
  unfold addL
  rw [PSt.last_len]
  by_cases hc : s.cnt < 5
  · rw [if_pos hc]
    have e : s.add d = { s.put (s.place s.cnt) d with cnt := s.cnt + 1 } := by unfold PSt.add; rw [if_pos hc]
    by_cases hi : i < s.cnt + 1
    · rw [PSt.last_at _ i (by rw [e]; exact hi), e]
      by_cases hj : i < s.cnt
      · rw [List.getElem?_append_left (by rw [PSt.last_len]; exact hj), PSt.last_at _ i hj]
        have hne : s.place i ≠ s.place s.cnt := by unfold PSt.place; omega
        show some (if s.place i = s.place s.cnt then d else s.slot (s.place i)) = some (s.slot (s.place i))
        rw [if_neg hne]
      · obtain rfl : i = s.cnt := by omega
        rw [List.getElem?_append_right (by rw [PSt.last_len]; omega), PSt.last_len, Nat.sub_self]
        simp [PSt.at, PSt.put, PSt.place]
    · rw [List.getElem?_eq_none (by rw [PSt.last_len, e]; simp only; omega), List.getElem?_eq_none (by simp [PSt.last_len]; omega)]
  · rw [if_neg hc]
    have hc5 : s.cnt = 5 := by omega
    have e : s.add d = { s.put (s.place s.cnt) d with old := s.place 1 } := by unfold PSt.add; rw [if_neg hc]
    by_cases hi : i < 5
    · rw [PSt.last_at _ i (by rw [e]; show i < s.cnt; omega), e]
      by_cases hj : i < 4
      · rw [List.getElem?_append_left (by simp [PSt.last_len]; omega), List.getElem?_tail, PSt.last_at _ (i + 1) (by omega)]
        have hne : (s.place 1 + i) % 5 ≠ s.place s.cnt := by unfold PSt.place; omega
        have hee : (s.place 1 + i) % 5 = s.place (i + 1) := by unfold PSt.place; omega
        simp only [PSt.at, PSt.put]
        show some (if (s.place 1 + i) % 5 = s.place s.cnt then d else s.slot ((s.place 1 + i) % 5)) = _
        rw [if_neg hne, hee]
      · obtain rfl : i = 4 := by omega
        rw [List.getElem?_append_right (by simp [PSt.last_len]; omega)]
        simp only [List.length_tail, PSt.last_len, hc5, PSt.at, PSt.put]
        have hee : (s.place 1 + 4) % 5 = s.place 5 := by unfold PSt.place; omega
        show some (if (s.place 1 + 4) % 5 = s.place 5 then d else s.slot ((s.place 1 + 4) % 5)) = _
        rw [if_pos hee]
        rfl
    · rw [List.getElem?_eq_none (by rw [PSt.last_len, e]; show s.cnt ≤ i; omega), List.getElem?_eq_none (by simp [PSt.last_len]; omega)]
/-- The first of some batches with this Seq and Len. -/
def findD (seq len : Int) : List Dn → Option Dn
  | [] => none
  | d :: l => if d.seq = seq ∧ d.len = len then some d else findD seq len l
/-- What becomes of a batch of the producer's own epoch. -/
def decS (next : Int) (l : List Dn) (seq len : Int) : Int × Bool × Int :=
  if seq = next then (0, false, 0) else match findD seq len l with
    | some d => (d.off, true, 0)
    | none => if seq < next then (0, false, 52) else (0, false, 51)
/-- A table: what is known of each producer. -/
abbrev Tb : Type := Int → Option PSt
def Tb.get (T : Tb) (p : Int) : PSt := (T p).getD ps0
/-- P1202. -/
def decN (T : Tb) (b : Bat) : Int × Bool × Int :=
  if checkN b ≠ 0 then (0, false, checkN b)
  else if b.prod = -1 then (0, false, 0)
  else if b.epoch < (T.get b.prod).epoch then (0, false, 50)
  else if b.kind ≠ 1 then (0, false, 0)
  else if (T.get b.prod).epoch < b.epoch then decS 0 [] b.seq b.recs.length
  else decS (T.get b.prod).next (T.get b.prod).last b.seq b.recs.length
/-- What a producer's state is behind a batch that is noted. -/
def notS (s : PSt) (b : Bat) (o : Int) : PSt :=
  if b.kind ≠ 1 then { (if s.epoch = b.epoch then s else ps0) with epoch := b.epoch }
  else ({ (if s.epoch = b.epoch then s else ps0) with epoch := b.epoch, next := (if s.epoch = b.epoch then s else ps0).next + b.recs.length } : PSt).add ⟨b.seq, b.recs.length, o⟩
def Tb.set (T : Tb) (p : Int) (s : PSt) : Tb := fun q => if q = p then some s else T q
/-- P1203: the error's number, and the table. -/
def notN (T : Tb) (b : Bat) (o : Int) : Int × Tb :=
  if o < 0 ∨ 281474976710656 < o then (1, T)
  else if (decN T b).2.2 ≠ 0 then ((decN T b).2.2, T)
  else if (decN T b).2.1 = true ∨ b.prod = -1 then (0, T)
  else (0, T.set b.prod (notS (T.get b.prod) b o))
end Go.Proofs.Ytobaeiicacpbnaa
