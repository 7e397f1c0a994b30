/- Values of many cells: loaded, stored, made. No function of the program is named here. Chapter 12 as plain data: what the program has of a producer, what becomes of a batch (P1202), what is noted (P1203). Chapter 13 as plain data: a ledger, what becomes of an entry (P1303), what is done (P1304), what is told (P1306). Slices of structs whose cells are one value each, whatever the struct: as they lie somewhere, as they are of the call's own. -/
import Derived.Test.YtfgamkcnnijloaaGreatPZRange
import Derived.Deep.WholeRow
import Derived.Deep.OwnRows
import Derived.Deep.DeepAppendWide
import Derived.Laws.CopyRow
import Derived.Laws.CopyOwn
import Derived.Maps.OwnSet
import Derived.OrdersHeld
import Derived.Test.YtfgamkcnnijloaaGreatPZRec
namespace Go.Proofs.YtfgamkcnnijloaaGreat
open Go.RowKit

/-! ### The operations as runs -/
def isWide : TypeDesc → Bool
  | .struct _ | .array _ _ => true
  | _ => false
section
variable {P : Program}
theorem run_loadVar_cells (w : World) (ty : TypeId) (d : TypeDesc) (hu : P.underlying ty = some d) (hd : isWide d = true)
    (l : List Value) (hi : (P.info? ty).map (·.size) = some l.length) (g off : Nat) (hc : ∀ j, j < l.length → w.cell? ⟨g, off + j, none⟩ = l[j]?) :
    (loadVar ty ⟨g, off, none⟩).run P w = .ok (.agg l.toArray) w := by
  have hl : (loadCells ⟨g, off, none⟩ l.length).run P w = .ok l.toArray w :=
    run_loadCells_list (P := P) w ⟨g, off, none⟩ l (fun j v hv => by
      have hj : j < l.length := (List.getElem?_eq_some_iff.1 hv).1
      rw [addr_add, hc j hj, hv])
  cases hq : P.info? ty with
  | none => simp [hq] at hi
  | some i =>
    have hs : i.size = l.length := by simpa [hq] using hi
    have hagg : (isAgg ty).run P w = .ok true w := by
      unfold isAgg
      rw [Sem.run_bind, run_underlying hu w]
      cases d <;> simp_all [isWide]
    simp [loadVar, Sem.run_bind, hagg, sizeOf, typeInfo, hq, hs, hl]
theorem run_storeVar_cells (w : World) (ty : TypeId) (l : List Value) (hi : (P.info? ty).map (·.size) = some l.length) (g off : Nat) (t : TypeId) (cur : Array Value)
    (hg : w.heap[g]? = some (.cells cur t (0, 0))) (hfit : off + l.length ≤ cur.size) (h1 : ∀ v ∈ l, v.oneCell' = true) :
    (storeVar ty ⟨g, off, none⟩ (.agg l.toArray)).run P w = .ok () (w.setRow g (cur.toList.take off ++ l ++ cur.toList.drop (off + l.length)).toArray) := by
  have hst := run_storeCells_at P g off t l 0 cur w hg (by simpa using hfit) h1
  cases hq : P.info? ty with
  | none => simp [hq] at hi
  | some i =>
    have hs : i.size = l.length := by simpa [hq] using hi
    simp [storeVar, sizeOf, typeInfo, hq, Value.cells, hs]
    simpa using hst
end
variable {ops : Array Oper} {rest : List Oper} {o : Oper} {a : Act} {w : World} {Q : Exit → Act → World → Prop}
theorem store_wide (hgd : o.guard = none) (ty : TypeId) (x y : Operand) (ho : o.op = .store ty x y) (l : List Value) (hi : (Tryz.prog.info? ty).map (·.size) = some l.length) (g off : Nat) (hx : a.eval x = .pointer (some ⟨g, off, none⟩)) (hy : a.eval y = .agg l.toArray)
    (t : TypeId) (cur : Array Value) (hg : w.heap[g]? = some (.cells cur t (0, 0))) (hfit : off + l.length ≤ cur.size) (h1 : ∀ v ∈ l, v.oneCell' = true)
    (h : wpList Tryz.prog ops Q rest (a.put o.dst undef) (w.setRow g (cur.toList.take off ++ l ++ cur.toList.drop (off + l.length)).toArray)) : wpList Tryz.prog ops Q (o :: rest) a w := by
  refine wpList_plain hgd fun K hK => ?_
  unfold Oper.wp execOp
  simp only [ho, hx, hy, Instr.storeAt, Instr.sureAddr, Sem.run_bind, Sem.run_pure, Result.andThen_ok, run_storeVar_cells w ty l hi g off t cur hg hfit h1]
  exact hK _ _ h
end Go.Proofs.YtfgamkcnnijloaaGreat
namespace Go.Proofs.YtfgamkcnnijloaaGreat
open Go.RowKit

structure Dn where
  seq : Int
  len : Int
  off : Int
def dn0 : Dn := ⟨0, 0, 0⟩
/-- What the program has of a producer: five places that turn round. -/
structure PSt where
  epoch : Int
  next : Int
  slot : Nat → Dn
  old : Nat
  cnt : Nat
def ps0 : PSt := ⟨0, 0, fun _ => dn0, 0, 0⟩
/-- Its cells. -/
def psL (s : PSt) : List Value :=
  [.int .i64 s.epoch, .int .i64 s.next,
   .int .i64 (s.slot 0).seq, .int .i64 (s.slot 0).len, .int .i64 (s.slot 0).off,
   .int .i64 (s.slot 1).seq, .int .i64 (s.slot 1).len, .int .i64 (s.slot 1).off,
   .int .i64 (s.slot 2).seq, .int .i64 (s.slot 2).len, .int .i64 (s.slot 2).off,
   .int .i64 (s.slot 3).seq, .int .i64 (s.slot 3).len, .int .i64 (s.slot 3).off,
   .int .i64 (s.slot 4).seq, .int .i64 (s.slot 4).len, .int .i64 (s.slot 4).off,
   .int .i64 (s.old : Int), .int .i64 (s.cnt : Int)]
/-- Such a thing as a value. -/
def psV (s : PSt) : Value := .agg (psL s).toArray
structure PSt.ok (s : PSt) : Prop where
  old : s.old < 5
  cnt : s.cnt ≤ 5
theorem ps0_ok : ps0.ok := ⟨by decide, by decide⟩
/-- Where the batch lies that came i behind the oldest one. -/
def PSt.place (s : PSt) (i : Nat) : Nat := (s.old + i) % 5
theorem PSt.place_lt (s : PSt) (i : Nat) : s.place i < 5 := Nat.mod_lt _ (by decide)
def PSt.at (s : PSt) (i : Nat) : Dn := s.slot (s.place i)
/-- The last batches, the oldest first. -/
def PSt.last (s : PSt) : List Dn := (List.range s.cnt).map s.at
theorem PSt.last_len (s : PSt) : s.last.length = s.cnt := by simp [PSt.last]
theorem PSt.last_at (s : PSt) (i : Nat) (h : i < s.cnt) : s.last[i]? = some (s.at i) := by simp [PSt.last, List.getElem?_range h]
def PSt.put (s : PSt) (p : Nat) (d : Dn) : PSt := { s with slot := fun i => if i = p then d else s.slot i }
/-- One batch more. -/
def PSt.add (s : PSt) (d : Dn) : PSt :=
  if s.cnt < 5 then { s.put (s.place s.cnt) d with cnt := s.cnt + 1 } else { s.put (s.place s.cnt) d with old := s.place 1 }
/-- The last batches with one more. -/
def addL (l : List Dn) (d : Dn) : List Dn := if l.length < 5 then l ++ [d] else l.tail ++ [d]
theorem add_ok {s : PSt} (h : s.ok) (d : Dn) : (s.add d).ok := by
  unfold PSt.add
  split
  · exact ⟨h.old, by simp only; omega⟩
  · exact ⟨s.place_lt 1, h.cnt⟩
/-- The first of some batches with this Seq and Len. -/
def findD (seq len : Int) : List Dn → Option Dn
  | [] => none
  | d :: l => if d.seq = seq ∧ d.len = len then some d else findD seq len l
/-- What becomes of a batch of the producer's own epoch. -/
def decS (next : Int) (l : List Dn) (seq len : Int) : Int × Bool × Int :=
  if seq = next then (0, false, 0) else match findD seq len l with
    | some d => (d.off, true, 0)
    | none => if seq < next then (0, false, 52) else (0, false, 51)
/-- A table: what is known of each producer. -/
abbrev Tb : Type := Int → Option PSt
def Tb.get (T : Tb) (p : Int) : PSt := (T p).getD ps0
/-- P1202. -/
def decN (T : Tb) (b : Bat) : Int × Bool × Int :=
  if checkN b ≠ 0 then (0, false, checkN b)
  else if b.prod = -1 then (0, false, 0)
  else if b.epoch < (T.get b.prod).epoch then (0, false, 50)
  else if b.kind ≠ 1 then (0, false, 0)
  else if (T.get b.prod).epoch < b.epoch then decS 0 [] b.seq b.recs.length
  else decS (T.get b.prod).next (T.get b.prod).last b.seq b.recs.length
/-- What a producer's state is behind a batch that is noted. -/
def notS (s : PSt) (b : Bat) (o : Int) : PSt :=
  if b.kind ≠ 1 then { (if s.epoch = b.epoch then s else ps0) with epoch := b.epoch }
  else ({ (if s.epoch = b.epoch then s else ps0) with epoch := b.epoch, next := (if s.epoch = b.epoch then s else ps0).next + b.recs.length } : PSt).add ⟨b.seq, b.recs.length, o⟩
def Tb.set (T : Tb) (p : Int) (s : PSt) : Tb := fun q => if q = p then some s else T q
/-- P1203: the error's number, and the table. -/
def notN (T : Tb) (b : Bat) (o : Int) : Int × Tb :=
  if o < 0 ∨ 281474976710656 < o then (1, T)
  else if (decN T b).2.2 ≠ 0 then ((decN T b).2.2, T)
  else if (decN T b).2.1 = true ∨ b.prod = -1 then (0, T)
  else (0, T.set b.prod (notS (T.get b.prod) b o))
end Go.Proofs.YtfgamkcnnijloaaGreat
namespace Go.Proofs.YtfgamkcnnijloaaGreat
open Go.RowKit

/-- A row: a record at its offset. -/
structure Rw where
  off : Int
  prod : Int
  tx : Bool
  rc : Rec
/-- A transaction that is open. -/
structure Tx where
  prod : Int
  first : Int
/-- One that was aborted. -/
structure Gn where
  prod : Int
  first : Int
  last : Int
/-- A ledger. -/
structure Lg where
  start : Int
  fin : Int
  rows : List Rw
  opn : List Tx
  gone : List Gn
  tb : Tb
/-- An entry. -/
structure Et where
  kind : Int
  n : Int
  b : Bat
def lg0 : Lg := ⟨0, 0, [], [], [], fun _ => none⟩
/-- A batch of nothing. -/
def bareB (b : Bat) : Bool := b.kind == 0 && b.prod == 0 && b.epoch == 0 && b.seq == 0 && !b.txn && b.recs.length == 0
/-- An entry that may be. -/
def mayE (x : Et) : Bool :=
  if x.kind = 1 then x.n == 0 && checkN x.b == 0
  else if x.kind = 2 ∨ x.kind = 3 then decide (0 ≤ x.n) && decide (x.n ≤ 281474976710656) && bareB x.b
  else false
/-- What is stable. -/
def Lg.stable (g : Lg) : Int := match g.opn with
  | [] => g.fin
  | t :: _ => t.first
/-- Where a producer's open transaction lies. -/
def idxN {α : Type} (p : α → Bool) : List α → Option Nat
  | [] => none
  | a :: l => if p a = true then some 0 else (idxN p l).map (· + 1)
def idxI {α : Type} (p : α → Bool) (l : List α) : Int := match idxN p l with
  | some i => (i : Int)
  | none => -1
theorem idx_none {α : Type} {p : α → Bool} {l : List α} {z : α} (h : ∀ i, i < l.length → p (l.getD i z) = false) : idxN p l = none := by
  induction l with
  | nil => rfl
  | cons a l ih =>
    have h0 := h 0 (by simp)
    have h1 := ih (fun i hi => by have := h (i + 1) (by simp; omega); simpa using this)
    simp only [List.getD_cons_zero] at h0
    unfold idxN
    rw [h0, h1]; rfl
theorem idx_hit {α : Type} {p : α → Bool} {l : List α} {z : α} {j : Nat} (h : ∀ i, i < j → p (l.getD i z) = false) (hj : j < l.length) (hp : p (l.getD j z) = true) : idxN p l = some j := by
  induction l generalizing j with
  | nil => simp at hj
  | cons a l ih =>
    unfold idxN
    cases j with
    | zero => simp only [List.getD_cons_zero] at hp; rw [if_pos hp]
    | succ j =>
      have h0 := h 0 (by omega)
      simp only [List.getD_cons_zero] at h0
      have h1 := ih (j := j) (fun i hi => by have := h (i + 1) (by omega); simpa using this) (by simp at hj; omega) (by simpa using hp)
      rw [h0, h1]
      rfl
theorem idx_any {α : Type} (p : α → Bool) (l : List α) : (idxN p l).isSome = l.any p := by
  induction l with
  | nil => rfl
  | cons a l ih =>
    unfold idxN
    rw [List.any_cons, ← ih]
    cases p a with
    | true => rfl
    | false => cases idxN p l <;> rfl
theorem idxI_ge {α : Type} (p : α → Bool) (l : List α) : decide (0 ≤ idxI p l) = l.any p := by
  rw [← idx_any]
  unfold idxI
  cases idxN p l with
  | none => rfl
  | some i => simp
theorem idx_lt {α : Type} {p : α → Bool} {l : List α} {i : Nat} (h : idxN p l = some i) : i < l.length := by
  induction l generalizing i with
  | nil => cases h
  | cons a l ih =>
    unfold idxN at h
    cases hp : p a with
    | true => rw [hp] at h; simp at h; subst h; simp
    | false =>
      rw [hp] at h
      cases hq : idxN p l with
      | none => rw [hq] at h; cases h
      | some k => rw [hq] at h; simp at h; subst h; have := ih hq; simp; omega
def opAt (id : Int) (l : List Tx) : Option Nat := idxN (fun t => t.prod == id) l
def hasG (x : Gn) (r : Rw) : Bool := r.prod == x.prod && decide (x.first ≤ r.off) && decide (r.off ≤ x.last)
/-- A row of an aborted transaction. -/
def Lg.dead (g : Lg) (r : Rw) : Bool := r.tx && g.gone.any (fun x => hasG x r)
/-- A producer is known with this epoch. -/
def knownT (T : Tb) (p e : Int) : Bool := match T p with
  | some s => s.epoch == e
  | none => false
/-- P1303, of a batch. -/
def decB (g : Lg) (b : Bat) : Int × Bool × Int :=
  if (decN g.tb b).2.2 ≠ 0 ∨ (decN g.tb b).2.1 = true then decN g.tb b
  else if b.kind ≠ 1 ∧ opAt b.prod g.opn = none ∧ knownT g.tb b.prod b.epoch = true then (-1, true, 0)
  else if b.kind = 1 ∧ (opAt b.prod g.opn).isSome = true ∧ b.txn = false then (0, false, 54)
  else if 281474976710656 < g.fin + lenN b then (0, false, 53)
  else (g.fin, false, 0)
/-- The offset of the latest row below n with a key, that is of no aborted transaction. -/
def Lg.latest (g : Lg) (n : Int) (k : ByteArray) : Option Int := ((g.rows.filter (fun r => decide (r.off < n) && !g.dead r && r.rc.key == k)).getLast?).map (·.off)
/-- Does a row stay behind Compact of n? -/
def Lg.stays (g : Lg) (n : Int) (r : Rw) : Bool := decide (n ≤ r.off) || g.latest n r.rc.key == some r.off
/-- The rows that stay. -/
def Lg.left (g : Lg) (x : Et) : List Rw := if x.kind = 2 then g.rows.filter (fun r => decide (x.n ≤ r.off)) else g.rows.filter (fun r => g.stays x.n r)
/-- P1303. -/
def decE (g : Lg) (x : Et) : Int × Bool × Int :=
  if mayE x = false then (0, false, 1)
  else if x.kind = 1 then decB g x.b
  else if g.stable < x.n then (0, false, 11)
  else if x.kind = 2 then (0, decide (x.n ≤ g.start), 0)
  else (0, (g.left x).length == g.rows.length, 0)
/-- The rows of a batch. -/
def rowsB (o : Int) (b : Bat) : List Rec → List Rw
  | [] => []
  | r :: l => ⟨o, b.prod, b.txn, r⟩ :: rowsB (o + 1) b l
/-- P1304, of a batch that is taken. -/
def takeB (g : Lg) (b : Bat) : Lg :=
  { g with
    fin := g.fin + lenN b
    rows := g.rows ++ rowsB g.fin b b.recs
    tb := (notN g.tb b g.fin).2
    opn := if b.kind ≠ 1 then (match opAt b.prod g.opn with | some i => g.opn.eraseIdx i | none => g.opn) else if b.txn = true ∧ opAt b.prod g.opn = none then g.opn ++ [⟨b.prod, g.fin⟩] else g.opn
    gone := if b.kind = 3 then (match opAt b.prod g.opn with | some i => g.gone ++ [⟨(g.opn.getD i ⟨0, 0⟩).prod, (g.opn.getD i ⟨0, 0⟩).first, g.fin⟩] | none => g.gone) else g.gone }
/-- P1304: what is done. -/
def appG (g : Lg) (x : Et) : Lg :=
  if (decE g x).2.2 ≠ 0 ∨ (decE g x).2.1 = true then g
  else if x.kind = 1 then takeB g x.b
  else if x.kind = 2 then { g with start := x.n, rows := g.left x, gone := g.gone.filter (fun y => decide (x.n ≤ y.last)) }
  else { g with rows := g.left x }
/-- At most m of some rows that are told. -/
def chooseN {α : Type} (p : α → Bool) : Nat → List α → List α
  | 0, _ => []
  | _, [] => []
  | m + 1, r :: l => if p r = true then r :: chooseN p m l else chooseN p (m + 1) l
/-- P1306. -/
def fetG (g : Lg) (a m : Int) (c : Bool) : List Rw × Int × Int :=
  if a < 0 ∨ m < 0 then ([], 0, 1)
  else if a < g.start then ([], 0, 32)
  else if g.fin < a then ([], 0, 11)
  else if m = 0 then ([], a, 0)
  else
    let l := chooseN (fun r => !c || (decide (r.off < g.stable) && !g.dead r)) m.toNat (g.rows.filter (fun r => decide (a ≤ r.off)))
    let nx := if c then g.stable else g.fin
    if l.length = m.toNat then (l, (l.getLast?.map (·.off)).getD 0 + 1, 0) else (l, if a < nx then nx else a, 0)
end Go.Proofs.YtfgamkcnnijloaaGreat
namespace Go.Proofs.YtfgamkcnnijloaaGreat
open Go.RowKit
variable {α : Type} {w w' : World}

/-- A struct as plain data: its cells. -/
structure Kd (α : Type) where
  T : TypeId
  S : TypeId
  sz : Nat
  bytes : Nat
  V : α → List Value
  z : α
  zero : Value
structure Kd.fit (K : Kd α) : Prop where
  len : ∀ a, (K.V a).length = K.sz
  pos : 0 < K.sz
structure Kd.ok (K : Kd α) : Prop extends Kd.fit K where
  one : ∀ a, ∀ v ∈ K.V a, v.oneCell' = true
  info : (Tryz.prog.info? K.T).map (fun i => (i.zero, i.size, i.bytes)) = some (some K.zero, K.sz, K.bytes)
  zsz : K.zero.cells.size = K.sz
  und : Tryz.prog.underlying K.S = some (.slice K.T)
variable {K : Kd α}
def Kd.Vs (K : Kd α) (l : List α) : List Value := l.flatMap K.V
theorem Kd.Vs_append (l m : List α) : K.Vs (l ++ m) = K.Vs l ++ K.Vs m := by unfold Kd.Vs; simp
theorem Kd.fit.Vs_len (hK : K.fit) (l : List α) : (K.Vs l).length = l.length * K.sz := by
  induction l with
  | nil => simp [Kd.Vs]
  | cons a l ih => have : K.Vs (a :: l) = K.V a ++ K.Vs l := rfl
                   rw [this, List.length_append, ih, hK.len, List.length_cons, Nat.add_mul]; omega
theorem Kd.fit.Vs_get (hK : K.fit) (l : List α) (i c : Nat) (hi : i < l.length) (hc : c < K.sz) : (K.Vs l)[i * K.sz + c]? = (K.V (l.getD i K.z))[c]? := by
  induction l generalizing i with
  | nil => simp at hi
  | cons a l ih =>
    have e : K.Vs (a :: l) = K.V a ++ K.Vs l := rfl
    have h1 := hK.len a
    rw [e]
    cases i with
    | zero => rw [List.getElem?_append_left (by omega)]; simp
    | succ i =>
      have h2 : (i + 1) * K.sz + c = i * K.sz + c + K.sz := by rw [Nat.add_mul]; omega
      rw [List.getElem?_append_right (by omega), h2, h1, Nat.add_sub_cancel, ih i (by simp at hi; omega)]
      simp [List.getD_eq_getElem?_getD]
theorem Kd.fit.Vs_cell (hK : K.fit) (l : List α) (j : Nat) (u : Value) (h : (K.Vs l)[j]? = some u) : ∃ i c, i < l.length ∧ c < K.sz ∧ j = i * K.sz + c ∧ (K.V (l.getD i K.z))[c]? = some u := by
  have hj : j < l.length * K.sz := by rw [← hK.Vs_len]; exact (List.getElem?_eq_some_iff.1 h).1
  have hp := hK.pos
  have h1 : j / K.sz < l.length := Nat.div_lt_of_lt_mul (by rw [Nat.mul_comm]; exact hj)
  have h2 : j % K.sz < K.sz := Nat.mod_lt _ hp
  have h3 : j = j / K.sz * K.sz + j % K.sz := by rw [Nat.mul_comm]; exact (Nat.div_add_mod j K.sz).symm
  refine ⟨j / K.sz, j % K.sz, h1, h2, h3, ?_⟩
  rw [← hK.Vs_get l _ _ h1 h2, ← h3]
  exact h
theorem Kd.ok.Vs_ones (hK : K.ok) (l : List α) : ∀ u ∈ K.Vs l, u.oneCell' = true := by
  intro u hu
  unfold Kd.Vs at hu
  rw [List.mem_flatMap] at hu
  obtain ⟨a, _, h⟩ := hu
  exact hK.one a u h
/-- In w the structs l lie from the address ad on. -/
def RowK (K : Kd α) (w : World) (ad : Option Addr) (l : List α) : Prop :=
  l = [] ∨ ∃ b off, ad = some ⟨b, off, none⟩ ∧ b < w.heap.size ∧ ∀ i, i < l.length → ∀ c, c < K.sz → w.cell? ⟨b, off + i * K.sz + c, none⟩ = (K.V (l.getD i K.z))[c]?
/-- .. as a slice. -/
structure ArgK (K : Kd α) (w : World) (l : List α) (ad : Option Addr) (m c : Nat) : Prop where
  len : l.length = m
  nil : ad = none → m = 0 ∧ c = 0
  cap : m ≤ c
  room : c ≤ maxLen
  row : RowK K w ad l
theorem RowK.keep {ad : Option Addr} {l : List α} (h : RowK K w ad l) (hs : w.heap.size ≤ w'.heap.size) (hk : ∀ b off, ad = some ⟨b, off, none⟩ → b < w.heap.size → l ≠ [] → w'.heap[b]? = w.heap[b]?) : RowK K w' ad l := by
  by_cases h0 : l = []
  · exact Or.inl h0
  · rcases h with h | ⟨b, off, e, hb, hc⟩
    · exact Or.inl h
    · refine Or.inr ⟨b, off, e, Nat.lt_of_lt_of_le hb hs, fun i hi c hcc => ?_⟩
      rw [← hc i hi c hcc]
      simp only [World.cell?, hk b off e hb h0]
theorem RowK.later {ad : Option Addr} {l : List α} (h : RowK K w ad l) (hb : Below w.heap.size w w') : RowK K w' ad l := h.keep hb.size (fun b _ _ hlt _ => hb.block b hlt)
theorem ArgK.later {l : List α} {ad : Option Addr} {m c : Nat} (h : ArgK K w l ad m c) (hb : Below w.heap.size w w') : ArgK K w' l ad m c := ⟨h.len, h.nil, h.cap, h.room, h.row.later hb⟩
theorem ArgK.cells {l : List α} {ad : Option Addr} {m c : Nat} (h : ArgK K w l ad m c) (hm : 0 < m) : ∃ b off, ad = some ⟨b, off, none⟩ ∧ b < w.heap.size ∧ ∀ i, i < m → ∀ c, c < K.sz → w.cell? ⟨b, off + i * K.sz + c, none⟩ = (K.V (l.getD i K.z))[c]? := by
  have hl := h.len
  obtain ⟨b, off, e, hb, hc⟩ := h.row.resolve_left (fun e => by rw [e] at hl; simp at hl; omega)
  exact ⟨b, off, e, hb, fun i hi => hc i (by omega)⟩
theorem RowK.cells {ad : Option Addr} {l : List α} (hK : K.fit) (h : RowK K w ad l) : ∀ a, ad = some a → ∀ j u, (K.Vs l)[j]? = some u → w.cell? (a.add j) = some u := by
  intro a ha j u hu
  obtain ⟨i, c, hi, hc, rfl, hv⟩ := hK.Vs_cell l j u hu
  rcases h with h | ⟨b, off, e, _, hcc⟩
  · subst h; simp at hi
  · rw [ha] at e; cases e
    rw [addr_add, ← Nat.add_assoc, hcc i hi c hc, hv]
/-- In w the value v is a slice of the structs l, in a block from base on that is its own. -/
def OwnK (K : Kd α) (w : World) (base : Nat) (v : Value) (l : List α) : Prop := w.ownsRow base K.T K.sz v l.length (K.Vs l)
theorem OwnK.form (hK : K.fit) {base : Nat} {v : Value} {l : List α} (h : OwnK K w base v l) : ∃ ad c, v = .slice ad l.length c ∧ ArgK K w l ad l.length c := by
  rcases h.2 with ⟨hv, h0⟩ | ⟨g, cap, cur, hv, hb, hg, hn, hm, hs, ht⟩
  · exact ⟨none, 0, by rw [hv, h0], rfl, fun _ => ⟨h0, rfl⟩, by omega, by unfold maxLen; omega, Or.inl (List.eq_nil_of_length_eq_zero h0)⟩
  · refine ⟨some ⟨g, 0, none⟩, cap, hv, rfl, fun e => (by cases e), hn, hm, Or.inr ⟨g, 0, rfl, (Array.getElem?_eq_some_iff.1 hg).1, fun i hi c hc => ?_⟩⟩
    have hc2 := World.ownsRow.cells h (g := g) (by rw [hv]; rfl)
    have h1 := hK.Vs_get l i c hi hc
    cases hq : (K.V (l.getD i K.z))[c]? with
    | none => have := hK.len (l.getD i K.z); rw [List.getElem?_eq_none_iff] at hq; omega
    | some u =>
      have := hc2 _ _ (h1.trans hq)
      rw [addr_add] at this
      rw [Nat.add_assoc]
      exact this
theorem OwnK.later {base : Nat} {v : Value} {l : List α} (h : OwnK K w base v l) (hb : Below w.heap.size w w') : OwnK K w' base v l := own_kept h hb
theorem OwnK.keep {base : Nat} {v : Value} {l : List α} (h : OwnK K w base v l) (hk : ∀ g, v.ownBlock = some g → w'.heap[g]? = w.heap[g]?) : OwnK K w' base v l := by
  refine ⟨h.1, ?_⟩
  rcases h.2 with h2 | ⟨g, cap, cur, hv, hgb, hg, r⟩
  · exact Or.inl h2
  · exact Or.inr ⟨g, cap, cur, hv, hgb, (hk g (by rw [hv]; rfl)).trans hg, r⟩
theorem OwnK.block {base : Nat} {v : Value} {l : List α} (h : OwnK K w base v l) : ∀ g, v.ownBlock = some g → base ≤ g ∧ g < w.heap.size ∧ ∃ cur, w.heap[g]? = some (.cells cur K.T (0, 0)) := by
  intro g hg
  rcases h.2 with ⟨e, -⟩ | ⟨g', cap, cur, e, hgb, hgc, -⟩
  · rw [e] at hg; cases hg
  · rw [e] at hg; cases hg
    exact ⟨hgb, (Array.getElem?_eq_some_iff.1 hgc).1, cur, hgc⟩
theorem OwnK.mono {base base' : Nat} {v : Value} {l : List α} (h : OwnK K w base v l) (hb : base' ≤ base) : OwnK K w base' v l := by
  refine ⟨h.1, ?_⟩
  rcases h.2 with h2 | ⟨g, cap, cur, hv, hgb, r⟩
  · exact Or.inl h2
  · exact Or.inr ⟨g, cap, cur, hv, Nat.le_trans hb hgb, r⟩
theorem OwnK.nil (w : World) (base : Nat) : OwnK K w base (.slice none 0 0) [] := World.ownsRow_nil _ _ _ _
/-- 'append(v, x...)', v of one's own. -/
theorem app_kd {ops : Array Oper} {rest : List Oper} {o : Oper} {a : Act} {Q : Exit → Act → World → Prop} (hK : K.ok) (hgd : o.guard = none) (s x : Operand)
    (ho : o.op = .call { callee := .builtin .append, args := #[s, x], argTypes := #[K.S, K.S] })
    (base : Nat) (v : Value) (L : List α) (hs : a.eval s = v) (hown : OwnK K w base v L)
    (ad : Option Addr) (m c : Nat) (l : List α) (hx : a.eval x = .slice ad m c) (hl : l.length = m) (hnone : ad = none → m = 0 ∧ c = 0) (hrow : RowK K w ad l)
    (hlen : L.length + m ≤ maxLen) (hbytes : (L.length + m) * K.bytes ≤ 140737488355328) (hbase : base ≤ w.heap.size)
    (h : ∀ v' w', OwnK K w' base v' (L ++ l) → w.grownBy w' v.ownBlock → wpList Tryz.prog ops Q rest (a.put o.dst v') w') : wpList Tryz.prog ops Q (o :: rest) a w := by
  obtain ⟨i0, hi, hz0, hz1, hz2⟩ := info_parts hK.info
  cases ad with
  | none =>
    obtain ⟨rfl, rfl⟩ := hnone rfl
    obtain rfl : l = [] := List.eq_nil_of_length_eq_zero hl
    refine wpList_append_own_none hgd s x K.S ho base K.T i0 K.sz hK.und hi v L.length _ hs hown hx ?_
    exact h v w (by simpa using hown) (World.grownBy.refl _ _)
  | some ad =>
    refine wpList_append_own w hgd s x K.S ho base K.T i0 _ K.sz K.bytes hK.und hi hz0 hz1 hz2 hK.zsz hK.pos v L.length _ hs hown ad m c (K.Vs l) hx (by rw [hK.tofit.Vs_len, hl]) (hrow.cells hK.tofit ad rfl) (hK.Vs_ones l) hlen hbytes hbase ?_
    intro v' w' h1 h2 _
    rw [← Kd.Vs_append, ← hl, ← List.length_append] at h1
    exact h v' w' h1 h2
/-- 'append(v, X{..})' as one step of a region that draws its order. -/
theorem step_app_kd {ops : Array Oper} {o : Oper} {a : Act} {Kn : Act → World → Prop} {Q : Exit → Act → World → Prop} {E : Prop} (hK : K.ok) (hgd : o.guard = none) (s x : Operand)
    (ho : o.op = .call { callee := .builtin .append, args := #[s, x], argTypes := #[K.S, K.S] })
    (base : Nat) (v : Value) (L : List α) (hs : a.eval s = v) (hown : OwnK K w base v L)
    (g : Nat) (y : α) (hx : a.eval x = .slice (some ⟨g, 0, none⟩) 1 1) (hob : RowK K w (some ⟨g, 0, none⟩) [y])
    (hlen : L.length + 1 ≤ maxLen) (hbytes : (L.length + 1) * K.bytes ≤ 140737488355328) (hbase : base ≤ w.heap.size)
    (h : ∀ b cap w', OwnK K w' base (.slice (some ⟨b, 0, none⟩) (L.length + 1) cap) (L ++ [y]) → w.grownBy w' v.ownBlock → (v.ownBlock = some b ∨ b = w.heap.size) → Kn (a.put o.dst (.slice (some ⟨b, 0, none⟩) (L.length + 1) cap)) w') :
    if Region.wanted o (yielded ops a.tmps) = true then Oper.wp Tryz.prog o a w Kn Q else E := by
  have hw : Region.wanted o (yielded ops a.tmps) = true := by simp [Region.wanted, hgd]
  rw [if_pos hw]
  obtain ⟨i0, hi, hz0, hz1, hz2⟩ := info_parts hK.info
  refine wp_append_lies w s x K.S ho base K.T i0 _ K.sz K.bytes hK.und hi hz0 hz1 hz2 hK.zsz hK.pos v L.length _ hs hown ⟨g, 0, none⟩ 1 1 (K.Vs [y]) hx (by rw [hK.tofit.Vs_len]; rfl) (hob.cells hK.tofit _ rfl) (hK.Vs_ones _) (by omega) hlen hbytes hbase w.heap.size rfl ?_
  intro b cap w' h1 h2 h3 _
  rw [← Kd.Vs_append] at h1
  refine h b cap w' ?_ h2 h3
  unfold OwnK
  rw [List.length_append]
  exact h1
end Go.Proofs.YtfgamkcnnijloaaGreat
