/- Chapter 12 as plain data: what the program has of a producer, what becomes of a batch (P1202), what is noted (P1203). -/
import Derived.Test.YtdifchlbnilenaaGreatLen
namespace Go.Proofs.YtdifchlbnilenaaGreat
open Go.RowKit

structure Dn where
  seq : Int
  len : Int
  off : Int
def dn0 : Dn := ⟨0, 0, 0⟩
/-- What the program has of a producer: five places that turn round. -/
structure PSt where
  epoch : Int
  next : Int
  slot : Nat → Dn
  old : Nat
  cnt : Nat
def ps0 : PSt := ⟨0, 0, fun _ => dn0, 0, 0⟩
/-- Its cells. -/
def psL (s : PSt) : List Value :=
  [.int .i64 s.epoch, .int .i64 s.next,
   .int .i64 (s.slot 0).seq, .int .i64 (s.slot 0).len, .int .i64 (s.slot 0).off,
   .int .i64 (s.slot 1).seq, .int .i64 (s.slot 1).len, .int .i64 (s.slot 1).off,
   .int .i64 (s.slot 2).seq, .int .i64 (s.slot 2).len, .int .i64 (s.slot 2).off,
   .int .i64 (s.slot 3).seq, .int .i64 (s.slot 3).len, .int .i64 (s.slot 3).off,
   .int .i64 (s.slot 4).seq, .int .i64 (s.slot 4).len, .int .i64 (s.slot 4).off,
   .int .i64 (s.old : Int), .int .i64 (s.cnt : Int)]
/-- Such a thing as a value. -/
def psV (s : PSt) : Value := .agg (psL s).toArray
structure PSt.ok (s : PSt) : Prop where
  old : s.old < 5
  cnt : s.cnt ≤ 5
theorem ps0_ok : ps0.ok := ⟨by decide, by decide⟩
/-- Where the batch lies that came i behind the oldest one. -/
def PSt.place (s : PSt) (i : Nat) : Nat := (s.old + i) % 5
theorem PSt.place_lt (s : PSt) (i : Nat) : s.place i < 5 := Nat.mod_lt _ (by decide)
def PSt.at (s : PSt) (i : Nat) : Dn := s.slot (s.place i)
/-- The last batches, the oldest first. -/
def PSt.last (s : PSt) : List Dn := (List.range s.cnt).map s.at
theorem PSt.last_len (s : PSt) : s.last.length = s.cnt := by simp [PSt.last]
theorem PSt.last_at (s : PSt) (i : Nat) (h : i < s.cnt) : s.last[i]? = some (s.at i) := by simp [PSt.last, List.getElem?_range h]
def PSt.put (s : PSt) (p : Nat) (d : Dn) : PSt := { s with slot := fun i => if i = p then d else s.slot i }
/-- One batch more. -/
def PSt.add (s : PSt) (d : Dn) : PSt :=
  if s.cnt < 5 then { s.put (s.place s.cnt) d with cnt := s.cnt + 1 } else { s.put (s.place s.cnt) d with old := s.place 1 }
/-- The last batches with one more. -/
def addL (l : List Dn) (d : Dn) : List Dn := if l.length < 5 then l ++ [d] else l.tail ++ [d]
theorem add_ok {s : PSt} (h : s.ok) (d : Dn) : (s.add d).ok := by
  unfold PSt.add
  split
  · exact ⟨h.old, by simp only; omega⟩
  · exact ⟨s.place_lt 1, h.cnt⟩
theorem add_epoch (s : PSt) (d : Dn) : (s.add d).epoch = s.epoch := by unfold PSt.add; split <;> rfl
theorem add_next (s : PSt) (d : Dn) : (s.add d).next = s.next := by unfold PSt.add; split <;> rfl
theorem add_last {s : PSt} (h : s.ok) (d : Dn) : (s.add d).last = addL s.last d := by
  have h1 := h.old
  have h2 := h.cnt
  apply List.ext_getElem?
  intro i
  unfold addL
  rw [PSt.last_len]
  by_cases hc : s.cnt < 5
  · rw [if_pos hc]
    have e : s.add d = { s.put (s.place s.cnt) d with cnt := s.cnt + 1 } := by unfold PSt.add; rw [if_pos hc]
    by_cases hi : i < s.cnt + 1
    · rw [PSt.last_at _ i (by rw [e]; exact hi), e]
      by_cases hj : i < s.cnt
      · rw [List.getElem?_append_left (by rw [PSt.last_len]; exact hj), PSt.last_at _ i hj]
        have hne : s.place i ≠ s.place s.cnt := by unfold PSt.place; omega
        show some (if s.place i = s.place s.cnt then d else s.slot (s.place i)) = some (s.slot (s.place i))
        rw [if_neg hne]
      · obtain rfl : i = s.cnt := by omega
        rw [List.getElem?_append_right (by rw [PSt.last_len]; omega), PSt.last_len, Nat.sub_self]
        simp [PSt.at, PSt.put, PSt.place]
    · rw [List.getElem?_eq_none (by rw [PSt.last_len, e]; simp only; omega), List.getElem?_eq_none (by simp [PSt.last_len]; omega)]
  · rw [if_neg hc]
    have hc5 : s.cnt = 5 := by omega
    have e : s.add d = { s.put (s.place s.cnt) d with old := s.place 1 } := by unfold PSt.add; rw [if_neg hc]
    by_cases hi : i < 5
    · rw [PSt.last_at _ i (by rw [e]; show i < s.cnt; omega), e]
      by_cases hj : i < 4
      · rw [List.getElem?_append_left (by simp [PSt.last_len]; omega), List.getElem?_tail, PSt.last_at _ (i + 1) (by omega)]
        have hne : (s.place 1 + i) % 5 ≠ s.place s.cnt := by unfold PSt.place; omega
        have hee : (s.place 1 + i) % 5 = s.place (i + 1) := by unfold PSt.place; omega
        simp only [PSt.at, PSt.put]
        show some (if (s.place 1 + i) % 5 = s.place s.cnt then d else s.slot ((s.place 1 + i) % 5)) = _
        rw [if_neg hne, hee]
      · obtain rfl : i = 4 := by omega
        rw [List.getElem?_append_right (by simp [PSt.last_len]; omega)]
        simp only [List.length_tail, PSt.last_len, hc5, PSt.at, PSt.put]
        have hee : (s.place 1 + 4) % 5 = s.place 5 := by unfold PSt.place; omega
        show some (if (s.place 1 + 4) % 5 = s.place 5 then d else s.slot ((s.place 1 + 4) % 5)) = _
        rw [if_pos hee]
        rfl
    · rw [List.getElem?_eq_none (by rw [PSt.last_len, e]; show s.cnt ≤ i; omega), List.getElem?_eq_none (by simp [PSt.last_len]; omega)]
/-- The first of some batches with this Seq and Len. -/
def findD (seq len : Int) : List Dn → Option Dn
  | [] => none
  | d :: l => if d.seq = seq ∧ d.len = len then some d else findD seq len l
/-- What becomes of a batch of the producer's own epoch. -/
def decS (next : Int) (l : List Dn) (seq len : Int) : Int × Bool × Int :=
  if seq = next then (0, false, 0) else match findD seq len l with
    | some d => (d.off, true, 0)
    | none => if seq < next then (0, false, 52) else (0, false, 51)
/-- A table: what is known of each producer. -/
abbrev Tb : Type := Int → Option PSt
def Tb.get (T : Tb) (p : Int) : PSt := (T p).getD ps0
/-- P1202. -/
def decN (T : Tb) (b : Bat) : Int × Bool × Int :=
  if checkN b ≠ 0 then (0, false, checkN b)
  else if b.prod = -1 then (0, false, 0)
  else if b.epoch < (T.get b.prod).epoch then (0, false, 50)
  else if b.kind ≠ 1 then (0, false, 0)
  else if (T.get b.prod).epoch < b.epoch then decS 0 [] b.seq b.recs.length
  else decS (T.get b.prod).next (T.get b.prod).last b.seq b.recs.length
/-- What a producer's state is behind a batch that is noted. -/
def notS (s : PSt) (b : Bat) (o : Int) : PSt :=
  if b.kind ≠ 1 then { (if s.epoch = b.epoch then s else ps0) with epoch := b.epoch }
  else ({ (if s.epoch = b.epoch then s else ps0) with epoch := b.epoch, next := (if s.epoch = b.epoch then s else ps0).next + b.recs.length } : PSt).add ⟨b.seq, b.recs.length, o⟩
def Tb.set (T : Tb) (p : Int) (s : PSt) : Tb := fun q => if q = p then some s else T q
/-- P1203: the error's number, and the table. -/
def notN (T : Tb) (b : Bat) (o : Int) : Int × Tb :=
  if o < 0 ∨ 281474976710656 < o then (1, T)
  else if (decN T b).2.2 ≠ 0 then ((decN T b).2.2, T)
  else if (decN T b).2.1 = true ∨ b.prod = -1 then (0, T)
  else (0, T.set b.prod (notS (T.get b.prod) b o))
end Go.Proofs.YtdifchlbnilenaaGreat

/- Chapter 13 as plain data: a ledger, what becomes of an entry (P1303), what is done (P1304), what is told (P1306). -/
namespace Go.Proofs.YtdifchlbnilenaaGreat
open Go.RowKit

/-- A row: a record at its offset. -/
structure Rw where
  off : Int
  prod : Int
  tx : Bool
  rc : Rec
/-- A transaction that is open. -/
structure Tx where
  prod : Int
  first : Int
/-- One that was aborted. -/
structure Gn where
  prod : Int
  first : Int
  last : Int
/-- A ledger. -/
structure Lg where
  start : Int
  fin : Int
  rows : List Rw
  opn : List Tx
  gone : List Gn
  tb : Tb
/-- An entry. -/
structure Et where
  kind : Int
  n : Int
  b : Bat
def lg0 : Lg := ⟨0, 0, [], [], [], fun _ => none⟩
/-- A batch of nothing. -/
def bareB (b : Bat) : Bool := b.kind == 0 && b.prod == 0 && b.epoch == 0 && b.seq == 0 && !b.txn && b.recs.length == 0
/-- An entry that may be. -/
def mayE (x : Et) : Bool :=
  if x.kind = 1 then x.n == 0 && checkN x.b == 0
  else if x.kind = 2 ∨ x.kind = 3 then decide (0 ≤ x.n) && decide (x.n ≤ 281474976710656) && bareB x.b
  else false
/-- What is stable. -/
def Lg.stable (g : Lg) : Int := match g.opn with
  | [] => g.fin
  | t :: _ => t.first
/-- Where a producer's open transaction lies. -/
def idxN {α : Type} (p : α → Bool) : List α → Option Nat
  | [] => none
  | a :: l => if p a = true then some 0 else (idxN p l).map (· + 1)
def idxI {α : Type} (p : α → Bool) (l : List α) : Int := match idxN p l with
  | some i => (i : Int)
  | none => -1
theorem idx_none {α : Type} {p : α → Bool} {l : List α} {z : α} (h : ∀ i, i < l.length → p (l.getD i z) = false) : idxN p l = none := by
  induction l with
  | nil => rfl
  | cons a l ih =>
    have h0 := h 0 (by simp)
    have h1 := ih (fun i hi => by have := h (i + 1) (by simp; omega); simpa using this)
    simp only [List.getD_cons_zero] at h0
    unfold idxN
    rw [h0, h1]; rfl
theorem idx_hit {α : Type} {p : α → Bool} {l : List α} {z : α} {j : Nat} (h : ∀ i, i < j → p (l.getD i z) = false) (hj : j < l.length) (hp : p (l.getD j z) = true) : idxN p l = some j := by
  induction l generalizing j with
  | nil => simp at hj
  | cons a l ih =>
    unfold idxN
    cases j with
    | zero => simp only [List.getD_cons_zero] at hp; rw [if_pos hp]
    | succ j =>
      have h0 := h 0 (by omega)
      simp only [List.getD_cons_zero] at h0
      have h1 := ih (j := j) (fun i hi => by have := h (i + 1) (by omega); simpa using this) (by simp at hj; omega) (by simpa using hp)
      rw [h0, h1]
      rfl
theorem idx_any {α : Type} (p : α → Bool) (l : List α) : (idxN p l).isSome = l.any p := by
  induction l with
  | nil => rfl
  | cons a l ih =>
    unfold idxN
    rw [List.any_cons, ← ih]
    cases p a with
    | true => rfl
    | false => cases idxN p l <;> rfl
theorem idxI_ge {α : Type} (p : α → Bool) (l : List α) : decide (0 ≤ idxI p l) = l.any p := by
  rw [← idx_any]
  unfold idxI
  cases idxN p l with
  | none => rfl
  | some i => simp
theorem idx_lt {α : Type} {p : α → Bool} {l : List α} {i : Nat} (h : idxN p l = some i) : i < l.length := by
  induction l generalizing i with
  | nil => cases h
  | cons a l ih =>
    unfold idxN at h
    cases hp : p a with
    | true => rw [hp] at h; simp at h; subst h; simp
    | false =>
      rw [hp] at h
      cases hq : idxN p l with
      | none => rw [hq] at h; cases h
      | some k => rw [hq] at h; simp at h; subst h; have := ih hq; simp; omega
def opAt (id : Int) (l : List Tx) : Option Nat := idxN (fun t => t.prod == id) l
def hasG (x : Gn) (r : Rw) : Bool := r.prod == x.prod && decide (x.first ≤ r.off) && decide (r.off ≤ x.last)
/-- A row of an aborted transaction. -/
def Lg.dead (g : Lg) (r : Rw) : Bool := r.tx && g.gone.any (fun x => hasG x r)
/-- A producer is known with this epoch. -/
def knownT (T : Tb) (p e : Int) : Bool := match T p with
  | some s => s.epoch == e
  | none => false
/-- P1303, of a batch. -/
def decB (g : Lg) (b : Bat) : Int × Bool × Int :=
  if (decN g.tb b).2.2 ≠ 0 ∨ (decN g.tb b).2.1 = true then decN g.tb b
  else if b.kind ≠ 1 ∧ opAt b.prod g.opn = none ∧ knownT g.tb b.prod b.epoch = true then (-1, true, 0)
  else if b.kind = 1 ∧ (opAt b.prod g.opn).isSome = true ∧ b.txn = false then (0, false, 54)
  else if 281474976710656 < g.fin + lenN b then (0, false, 53)
  else (g.fin, false, 0)
/-- The offset of the latest row below n with a key, that is of no aborted transaction. -/
def Lg.latest (g : Lg) (n : Int) (k : ByteArray) : Option Int := ((g.rows.filter (fun r => decide (r.off < n) && !g.dead r && r.rc.key == k)).getLast?).map (·.off)
/-- Does a row stay behind Compact of n? -/
def Lg.stays (g : Lg) (n : Int) (r : Rw) : Bool := decide (n ≤ r.off) || g.latest n r.rc.key == some r.off
/-- The rows that stay. -/
def Lg.left (g : Lg) (x : Et) : List Rw := if x.kind = 2 then g.rows.filter (fun r => decide (x.n ≤ r.off)) else g.rows.filter (fun r => g.stays x.n r)
/-- P1303. -/
def decE (g : Lg) (x : Et) : Int × Bool × Int :=
  if mayE x = false then (0, false, 1)
  else if x.kind = 1 then decB g x.b
  else if g.stable < x.n then (0, false, 11)
  else if x.kind = 2 then (0, decide (x.n ≤ g.start), 0)
  else (0, (g.left x).length == g.rows.length, 0)
/-- The rows of a batch. -/
def rowsB (o : Int) (b : Bat) : List Rec → List Rw
  | [] => []
  | r :: l => ⟨o, b.prod, b.txn, r⟩ :: rowsB (o + 1) b l
/-- P1304, of a batch that is taken. -/
def takeB (g : Lg) (b : Bat) : Lg :=
  { g with
    fin := g.fin + lenN b
    rows := g.rows ++ rowsB g.fin b b.recs
    tb := (notN g.tb b g.fin).2
    opn := if b.kind ≠ 1 then (match opAt b.prod g.opn with | some i => g.opn.eraseIdx i | none => g.opn) else if b.txn = true ∧ opAt b.prod g.opn = none then g.opn ++ [⟨b.prod, g.fin⟩] else g.opn
    gone := if b.kind = 3 then (match opAt b.prod g.opn with | some i => g.gone ++ [⟨(g.opn.getD i ⟨0, 0⟩).prod, (g.opn.getD i ⟨0, 0⟩).first, g.fin⟩] | none => g.gone) else g.gone }
/-- P1304: what is done. -/
def appG (g : Lg) (x : Et) : Lg :=
  if (decE g x).2.2 ≠ 0 ∨ (decE g x).2.1 = true then g
  else if x.kind = 1 then takeB g x.b
  else if x.kind = 2 then { g with start := x.n, rows := g.left x, gone := g.gone.filter (fun y => decide (x.n ≤ y.last)) }
  else { g with rows := g.left x }
/-- At most m of some rows that are told. -/
def chooseN {α : Type} (p : α → Bool) : Nat → List α → List α
  | 0, _ => []
  | _, [] => []
  | m + 1, r :: l => if p r = true then r :: chooseN p m l else chooseN p (m + 1) l
/-- P1306. -/
def fetG (g : Lg) (a m : Int) (c : Bool) : List Rw × Int × Int :=
  if a < 0 ∨ m < 0 then ([], 0, 1)
  else if a < g.start then ([], 0, 32)
  else if g.fin < a then ([], 0, 11)
  else if m = 0 then ([], a, 0)
  else
    let l := chooseN (fun r => !c || (decide (r.off < g.stable) && !g.dead r)) m.toNat (g.rows.filter (fun r => decide (a ≤ r.off)))
    let nx := if c then g.stable else g.fin
    if l.length = m.toNat then (l, (l.getLast?.map (·.off)).getD 0 + 1, 0) else (l, if a < nx then nx else a, 0)
end Go.Proofs.YtdifchlbnilenaaGreat

/- choose, as plain data. -/
namespace Go.Proofs.YtdifchlbnilenaaGreat
variable {α : Type} {p : α → Bool}
theorem choose_le (m : Nat) (l : List α) : (chooseN p m l).length ≤ m := by
  induction l generalizing m with
  | nil => cases m <;> simp [chooseN]
  | cons a l ih =>
    cases m with
    | zero => simp [chooseN]
    | succ m =>
      unfold chooseN
      split
      · have := ih m; simp; omega
      · exact ih (m + 1)
theorem choose_sub (m : Nat) (l : List α) : (chooseN p m l).length ≤ l.length := by
  induction l generalizing m with
  | nil => cases m <;> simp [chooseN]
  | cons a l ih =>
    cases m with
    | zero => simp [chooseN]
    | succ m =>
      unfold chooseN
      split
      · have := ih m; simp; omega
      · have := ih (m + 1); simp; omega
theorem choose_cons (m : Nat) (a : α) (l : List α) : chooseN p (m + 1) (a :: l) = if p a = true then a :: chooseN p m l else chooseN p (m + 1) l := rfl
theorem choose_app (m : Nat) (l k : List α) : chooseN p m (l ++ k) = chooseN p m l ++ chooseN p (m - (chooseN p m l).length) k := by
  induction l generalizing m with
  | nil => cases m <;> simp [chooseN]
  | cons a l ih =>
    cases m with
    | zero => cases k <;> simp [chooseN]
    | succ m =>
      rw [List.cons_append, choose_cons, choose_cons]
      cases hp : p a with
      | true =>
        rw [if_pos rfl, if_pos rfl, ih m, List.length_cons, List.cons_append]
        rw [show m + 1 - ((chooseN p m l).length + 1) = m - (chooseN p m l).length by omega]
      | false =>
        rw [if_neg (by simp), if_neg (by simp)]
        exact ih (m + 1)
theorem choose_zero (l : List α) : chooseN p 0 l = [] := by cases l <;> rfl
/-- Enough were chosen. -/
theorem choose_full {m : Nat} {l k : List α} (h : (chooseN p m l).length = m) : chooseN p m (l ++ k) = chooseN p m l := by
  rw [choose_app, h, Nat.sub_self, choose_zero, List.append_nil]
theorem choose_hit {m : Nat} {l : List α} {a : α} (h : (chooseN p m l).length ≠ m) (hp : p a = true) : chooseN p m (l ++ [a]) = chooseN p m l ++ [a] := by
  have := choose_le (p := p) m l
  obtain ⟨q, hq⟩ : ∃ q, m - (chooseN p m l).length = q + 1 := ⟨m - (chooseN p m l).length - 1, by omega⟩
  rw [choose_app, hq]
  rw [choose_cons, if_pos hp]
  cases q <;> simp [chooseN]
theorem choose_miss {m : Nat} {l : List α} {a : α} (hp : p a = false) : chooseN p m (l ++ [a]) = chooseN p m l := by
  rw [choose_app]
  cases m - (chooseN p m l).length with
  | zero => simp [chooseN]
  | succ q => rw [choose_cons, if_neg (by rw [hp]; simp)]; simp [chooseN]
theorem take_snoc_any (l : List α) (z : α) (j : Nat) (h : j < l.length) : l.take (j + 1) = l.take j ++ [l.getD j z] := by
  rw [List.take_succ_eq_append_getElem h, List.getD_eq_getElem?_getD, List.getElem?_eq_getElem h]; rfl
end Go.Proofs.YtdifchlbnilenaaGreat
