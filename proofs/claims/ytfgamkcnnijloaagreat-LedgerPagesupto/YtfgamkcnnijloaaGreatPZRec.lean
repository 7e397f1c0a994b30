/- Chapter 2 as functions over plain lists: a batch that may be (P202), its bytes (P203), bytes as a batch (P204). Slices of Records in memory; a batch as a value. Records as cells; slices of Records that the call made; what is appended to them. Boxes that a call makes for a batch, and stores into them. What the statements' helper Copied answers: the same batch, its Records in memory of their own. -/
import Derived.Test.YtfgamkcnnijloaaGreatPZMath
import Derived.Test.YtfgamkcnnijloaaGreatPZRange
namespace Go.Proofs.YtfgamkcnnijloaaGreat
open Go.RowKit
theorem hid {p : Prop} (h : p) : Hid p := h
theorem once {T G : Prop} (main : T → G) (rest : T) : G := main rest

structure Rec where
  key : ByteArray
  val : ByteArray
  dead : Bool
structure Bat where
  kind : Int
  prod : Int
  epoch : Int
  seq : Int
  txn : Bool
  recs : List Rec
/-- The batch beside an error. -/
def bat0 : Bat := ⟨0, 0, 0, 0, false, []⟩
def Bat.marker (b : Bat) : Bool := b.kind == 2 || b.kind == 3
/-- How many offsets it takes. -/
def lenN (b : Bat) : Int := if b.marker then 1 else b.recs.length
def recsSize : List Rec → Nat
  | [] => 0
  | r :: rs => 5 + r.key.size + r.val.size + recsSize rs
def sizeN (b : Bat) : Nat := 18 + recsSize b.recs
/-- Kind, Producer, Epoch, InTxn, and the Seq of a marker or of nobody. -/
def argOk (b : Bat) : Bool :=
  (b.kind == 1 || b.marker) &&
  (if b.prod == -1 then !b.marker && b.epoch == 0 && b.seq == 0 && !b.txn
   else decide (0 ≤ b.prod) && decide (b.prod < 281474976710656) && decide (0 ≤ b.epoch) && decide (b.epoch < 2147483648) && !(b.marker && (b.seq != 0 || b.txn)))
/-- How many Records. -/
def manyOk (b : Bat) : Bool := if b.marker then b.recs.length == 0 else b.recs.length != 0 && decide (b.recs.length ≤ 64)
def recOk (r : Rec) : Bool := decide (r.key.size ≤ 1000) && decide (r.val.size ≤ 4000) && !(r.dead && r.val.size != 0)
def seqOk (b : Bat) : Bool := decide (0 ≤ b.seq) && decide (b.seq ≤ 2147483648 - lenN b)
/-- P202. -/
def checkN (b : Bat) : Int :=
  if argOk b then
    (if manyOk b && b.recs.all recOk then (if seqOk b then (if sizeN b ≤ 65536 then 0 else 6) else 53) else 6)
  else 1
/-- The bytes of a Record. -/
def recBs (r : Rec) : List Nat := [if r.dead then 1 else 0] ++ ((spellN r.key.size 2 ++ sbytes r.key) ++ (spellN r.val.size 2 ++ sbytes r.val))
def recsBs : List Rec → List Nat
  | [] => []
  | r :: rs => recBs r ++ recsBs rs
def flagsN (b : Bat) : Nat := (if b.prod == -1 then 0 else 1) + (if b.txn then 2 else 0)
def prodN (b : Bat) : Nat := if b.prod == -1 then 0 else b.prod.toNat
def headBs (b : Bat) : List Nat := [b.kind.toNat, flagsN b] ++ (spellN (prodN b) 6 ++ (spellN b.epoch.toNat 4 ++ (spellN b.seq.toNat 4 ++ spellN b.recs.length 2)))
/-- P203: the bytes of a batch that may be. -/
def writeN (b : Bat) : List Nat := headBs b ++ recsBs b.recs
/-- P203, Encode: the error's number and the bytes. -/
def encodeN (b : Bat) : Int × List Nat := if checkN b = 0 then (0, writeN b) else (checkN b, [])
/-- The Record at p, and the place behind it, if it is all there. -/
def recAt (l : List Nat) (p : Nat) : Option (Rec × Nat) :=
  if p + 3 + lenAt l (p + 1) ≤ l.length then
    (if p + 3 + lenAt l (p + 1) + 2 + lenAt l (p + 3 + lenAt l (p + 1)) ≤ l.length then
      some (⟨bstr ((l.drop (p + 3)).take (lenAt l (p + 1))), bstr ((l.drop (p + 3 + lenAt l (p + 1) + 2)).take (lenAt l (p + 3 + lenAt l (p + 1)))), l.getD p 0 != 0⟩, p + 3 + lenAt l (p + 1) + 2 + lenAt l (p + 3 + lenAt l (p + 1)))
     else none)
  else none
/-- n Records from p on, and the place behind them, if they are all there. -/
def readN (l : List Nat) (p : Nat) : Nat → Option (List Rec × Nat)
  | 0 => some ([], p)
  | n + 1 => match readN l p n with
    | none => none
    | some (rs, q) => match recAt l q with
      | none => none
      | some (r, q') => some (rs ++ [r], q')
/-- How many Records are told. -/
def toldRecs (l : List Nat) : Nat := valN ((l.drop 16).take 2)
/-- What 18 bytes and some Records are as a batch. -/
def batOf (l : List Nat) (rs : List Rec) : Bat :=
  ⟨(l.getD 0 0 : Nat), if l.getD 1 0 % 2 = 1 then ((valN ((l.drop 2).take 6) : Nat) : Int) else -1, (valN ((l.drop 8).take 4) : Nat), (valN ((l.drop 12).take 4) : Nat), l.getD 1 0 / 2 % 2 == 1, rs⟩
open Classical in
/-- P204, Decode: the batch and the error's number. -/
noncomputable def decodeN (l : List Nat) : Bat × Int :=
  if l.length < 18 then (bat0, 20)
  else match readN l 18 (toldRecs l) with
    | none => (bat0, 20)
    | some (rs, _) => if checkN (batOf l rs) = 0 ∧ writeN (batOf l rs) = l then (batOf l rs, 0) else (bat0, 22)
theorem recOk_parts {r : Rec} (h : recOk r = true) : r.key.size ≤ 1000 ∧ r.val.size ≤ 4000 := by
  simp only [recOk, Bool.and_eq_true, decide_eq_true_eq] at h
  exact ⟨h.1.1, h.1.2⟩
end Go.Proofs.YtfgamkcnnijloaaGreat
namespace Go.Proofs.YtfgamkcnnijloaaGreat
open Go.RowKit

/-- A Record of nothing. -/
def rec0 : Rec := ⟨bstr [], bstr [], false⟩
/-- In w the Records rs lie from the address ad on. -/
def RRow (w : World) (ad : Option Addr) (rs : List Rec) : Prop :=
  rs = [] ∨ ∃ b off, ad = some ⟨b, off, none⟩ ∧ b < w.heap.size ∧ ∀ i, i < rs.length →
    w.cell? ⟨b, off + i * 3, none⟩ = some (.string (rs.getD i rec0).key) ∧ w.cell? ⟨b, off + i * 3 + 1, none⟩ = some (.string (rs.getD i rec0).val) ∧ w.cell? ⟨b, off + i * 3 + 2, none⟩ = some (.bool (rs.getD i rec0).dead)
theorem RRow.later {w w' : World} {ad : Option Addr} {rs : List Rec} (h : RRow w ad rs) (hb : Below w.heap.size w w') : RRow w' ad rs := by
  rcases h with h | ⟨b, off, e, hs, hc⟩
  · exact Or.inl h
  · refine Or.inr ⟨b, off, e, Nat.lt_of_lt_of_le hs hb.size, fun i hi => ?_⟩
    rw [hb.cell (p := ⟨b, off + i * 3, none⟩) hs, hb.cell (p := ⟨b, off + i * 3 + 1, none⟩) hs, hb.cell (p := ⟨b, off + i * 3 + 2, none⟩) hs]
    exact hc i hi
/-- A batch in memory: what its slice of Records is. -/
structure BArg (w : World) (b : Bat) (ad : Option Addr) (len cap : Nat) : Prop where
  len_eq : b.recs.length = len
  nil : ad = none → len = 0 ∧ cap = 0
  le : len ≤ cap
  room : cap ≤ maxLen
  row : RRow w ad b.recs
  size : ∀ r ∈ b.recs, r.key.size ≤ maxLen ∧ r.val.size ≤ maxLen
theorem BArg.later {w w' : World} {b : Bat} {ad : Option Addr} {len cap : Nat} (h : BArg w b ad len cap) (hb : Below w.heap.size w w') : BArg w' b ad len cap :=
  ⟨h.1, h.2, h.3, h.4, h.5.later hb, h.6⟩
theorem BArg.cells {w : World} {b : Bat} {ad : Option Addr} {n cap : Nat} (h : BArg w b ad n cap) (hn : 0 < n) :
    ∃ g off, ad = some ⟨g, off, none⟩ ∧ g < w.heap.size ∧ ∀ i, i < n → w.cell? ⟨g, off + i * 3, none⟩ = some (.string (b.recs.getD i rec0).key) ∧ w.cell? ⟨g, off + i * 3 + 1, none⟩ = some (.string (b.recs.getD i rec0).val) ∧ w.cell? ⟨g, off + i * 3 + 2, none⟩ = some (.bool (b.recs.getD i rec0).dead) := by
  have hl := h.len_eq
  obtain ⟨g, off, e, hb, hc⟩ := h.row.resolve_left (fun e => by rw [e] at hl; simp at hl; omega)
  exact ⟨g, off, e, hb, fun i hi => hc i (by omega)⟩
theorem getD_mem (rs : List Rec) (k : Nat) (h : k < rs.length) : rs.getD k rec0 ∈ rs := by
  rw [List.getD_eq_getElem?_getD, List.getElem?_eq_getElem h]; exact List.getElem_mem h
theorem take_snocR (rs : List Rec) (k : Nat) (h : k < rs.length) : rs.take (k + 1) = rs.take k ++ [rs.getD k rec0] := by
  rw [List.take_succ_eq_append_getElem h, List.getD_eq_getElem?_getD, List.getElem?_eq_getElem h]; rfl
theorem recsSize_append (rs ss : List Rec) : recsSize (rs ++ ss) = recsSize rs + recsSize ss := by
  induction rs with
  | nil => simp [recsSize]
  | cons r rs ih => rw [List.cons_append, recsSize, ih, recsSize]; omega
theorem recsSize_snoc (rs : List Rec) (k : Nat) (h : k < rs.length) : recsSize (rs.take (k + 1)) = recsSize (rs.take k) + (5 + (rs.getD k rec0).key.size + (rs.getD k rec0).val.size) := by
  rw [take_snocR rs k h, recsSize_append]; simp [recsSize]
theorem recsSize_le (rs : List Rec) (h : ∀ r ∈ rs, recOk r = true) : recsSize rs ≤ 5005 * rs.length := by
  induction rs with
  | nil => simp [recsSize]
  | cons r rs ih =>
    have h1 := ih (fun x hx => h x (by simp [hx]))
    have h2 := h r (by simp)
    simp only [recOk, Bool.and_eq_true, decide_eq_true_eq] at h2
    rw [recsSize, List.length_cons]; omega
theorem recsSize_take_le (rs : List Rec) (h : ∀ r ∈ rs, recOk r = true) (k : Nat) : recsSize (rs.take k) ≤ 5005 * rs.length := by
  have h1 := recsSize_le (rs.take k) (fun r hr => h r (List.mem_of_mem_take hr))
  have h2 : (rs.take k).length ≤ rs.length := by simp; omega
  omega

/-- In w the block B is a batch in a box. -/
def BBox (w : World) (B : Nat) (k p e s : Int) (t : Bool) (v : Value) : Prop := w.heap[B]? = some (.cells #[.int .i64 k, .int .i64 p, .int .i64 e, .int .i64 s, .bool t, v] 30 (0, 0))
theorem BBox.c0 {w : World} {B : Nat} {k p e s : Int} {t : Bool} {v : Value} (h : BBox w B k p e s t v) : w.cell? ⟨B, 0, none⟩ = some (.int .i64 k) := by rw [cell_of_row w B 0 _ _ _ h]; rfl
theorem BBox.c1 {w : World} {B : Nat} {k p e s : Int} {t : Bool} {v : Value} (h : BBox w B k p e s t v) : w.cell? ⟨B, 1, none⟩ = some (.int .i64 p) := by rw [cell_of_row w B 1 _ _ _ h]; rfl
theorem BBox.c2 {w : World} {B : Nat} {k p e s : Int} {t : Bool} {v : Value} (h : BBox w B k p e s t v) : w.cell? ⟨B, 2, none⟩ = some (.int .i64 e) := by rw [cell_of_row w B 2 _ _ _ h]; rfl
theorem BBox.c3 {w : World} {B : Nat} {k p e s : Int} {t : Bool} {v : Value} (h : BBox w B k p e s t v) : w.cell? ⟨B, 3, none⟩ = some (.int .i64 s) := by rw [cell_of_row w B 3 _ _ _ h]; rfl
theorem BBox.c4 {w : World} {B : Nat} {k p e s : Int} {t : Bool} {v : Value} (h : BBox w B k p e s t v) : w.cell? ⟨B, 4, none⟩ = some (.bool t) := by rw [cell_of_row w B 4 _ _ _ h]; rfl
theorem BBox.c5 {w : World} {B : Nat} {k p e s : Int} {t : Bool} {v : Value} (h : BBox w B k p e s t v) : w.cell? ⟨B, 5, none⟩ = some v := by rw [cell_of_row w B 5 _ _ _ h]; rfl
theorem BBox.new (w : World) (k p e s : Int) (t : Bool) (v : Value) : BBox (w.alloc (.cells #[.int .i64 k, .int .i64 p, .int .i64 e, .int .i64 s, .bool t, v] 30)) w.heap.size k p e s t v := heap_alloc_new w _
theorem BBox.lt {w : World} {B : Nat} {k p e s : Int} {t : Bool} {v : Value} (h : BBox w B k p e s t v) : B < w.heap.size := by
  rcases Nat.lt_or_ge B w.heap.size with hlt | hge
  · exact hlt
  · unfold BBox at h; rw [Array.getElem?_eq_none hge] at h; cases h
theorem BBox.later {w w' : World} {B : Nat} {k p e s : Int} {t : Bool} {v : Value} (h : BBox w B k p e s t v) (hb : Below w.heap.size w w') : BBox w' B k p e s t v := by
  unfold BBox; rw [hb.block B h.lt]; exact h

theorem BBox.drewN {w : World} {B : Nat} {k p e s : Int} {t : Bool} {v : Value} (h : BBox w B k p e s t v) (m : Nat) : BBox (w.drewN m) B k p e s t v := by
  induction m with
  | zero => exact h
  | succ m ih => exact ih
end Go.Proofs.YtfgamkcnnijloaaGreat
namespace Go.Proofs.YtfgamkcnnijloaaGreat
open Go.RowKit

/-- A Record's cells. -/
def recV (r : Rec) : List Value := [.string r.key, .string r.val, .bool r.dead]
def recsV : List Rec → List Value
  | [] => []
  | r :: rs => recV r ++ recsV rs
theorem recsV_length (rs : List Rec) : (recsV rs).length = rs.length * 3 := by
  induction rs with
  | nil => rfl
  | cons r rs ih => rw [recsV, List.length_append, ih, List.length_cons]; simp [recV]; omega
theorem recsV_append (rs ss : List Rec) : recsV (rs ++ ss) = recsV rs ++ recsV ss := by
  induction rs with
  | nil => rfl
  | cons r rs ih => rw [List.cons_append, recsV, ih, recsV, List.append_assoc]
theorem recsV_get (rs : List Rec) (i : Nat) (h : i < rs.length) :
    (recsV rs)[i * 3]? = some (.string (rs.getD i rec0).key) ∧ (recsV rs)[i * 3 + 1]? = some (.string (rs.getD i rec0).val) ∧ (recsV rs)[i * 3 + 2]? = some (.bool (rs.getD i rec0).dead) := by
  induction rs generalizing i with
  | nil => simp at h
  | cons r rs ih =>
    cases i with
    | zero => simp [recsV, recV]
    | succ i =>
      have h2 := ih i (by simp at h; omega)
      have e : (i + 1) * 3 = i * 3 + 3 := by omega
      rw [recsV, e]
      refine ⟨?_, ?_, ?_⟩
      · rw [List.getElem?_append_right (by simp [recV])]
        simpa [recV, List.getD_eq_getElem?_getD] using h2.1
      · rw [show i * 3 + 3 + 1 = (i * 3 + 1) + 3 by omega, List.getElem?_append_right (by simp [recV])]
        simpa [recV, List.getD_eq_getElem?_getD] using h2.2.1
      · rw [show i * 3 + 3 + 2 = (i * 3 + 2) + 3 by omega, List.getElem?_append_right (by simp [recV])]
        simpa [recV, List.getD_eq_getElem?_getD] using h2.2.2
theorem recsV_one (rs : List Rec) : ∀ u ∈ recsV rs, u.oneCell' = true := by
  induction rs with
  | nil => intro u hu; cases hu
  | cons r rs ih =>
    intro u hu
    rw [recsV, List.mem_append] at hu
    rcases hu with hu | hu
    · simp [recV] at hu
      rcases hu with rfl | rfl | rfl <;> rfl
    · exact ih u hu
theorem rrow_cells {w : World} {ad : Option Addr} {rs : List Rec} (h : RRow w ad rs) : ∀ a, ad = some a → ∀ j u, (recsV rs)[j]? = some u → w.cell? (a.add j) = some u := by
  intro a ha j u hu
  have hj : j < rs.length * 3 := by
    rw [← recsV_length]; exact (List.getElem?_eq_some_iff.1 hu).1
  rcases h with h | ⟨b, off, e, _, hc⟩
  · subst h; simp at hj
  · rw [ha] at e
    cases e
    obtain ⟨i, c, hi, hcc, rfl⟩ : ∃ i c, i < rs.length ∧ c < 3 ∧ j = i * 3 + c := ⟨j / 3, j % 3, by omega, by omega, by omega⟩
    obtain ⟨q0, q1, q2⟩ := hc i hi
    obtain ⟨g0, g1, g2⟩ := recsV_get rs i hi
    rw [addr_add]
    rcases (show c = 0 ∨ c = 1 ∨ c = 2 by omega) with rfl | rfl | rfl
    · rw [Nat.add_zero] at hu ⊢
      rw [q0, ← g0, hu]
    · rw [show off + (i * 3 + 1) = off + i * 3 + 1 by omega, q1, ← g1, hu]
    · rw [show off + (i * 3 + 2) = off + i * 3 + 2 by omega, q2, ← g2, hu]
theorem Tryz.infoR : (Tryz.prog.info? 43).map (fun i => (i.zero, i.size, i.bytes)) = some (some (.agg #[.string ByteArray.empty, .string ByteArray.empty, .bool false]), 3, 40) := by kernel_rfl
/-- In w the value v is a slice of the Records rs, in blocks from base on that the call made. -/
def OwnR (w : World) (base : Nat) (v : Value) (rs : List Rec) : Prop := w.ownsRow base 43 3 v rs.length (recsV rs)
theorem OwnR.form {w : World} {base : Nat} {v : Value} {rs : List Rec} (h : OwnR w base v rs) :
    ∃ ad cap, v = .slice ad rs.length cap ∧ (ad = none → rs.length = 0 ∧ cap = 0) ∧ rs.length ≤ cap ∧ cap ≤ maxLen ∧ RRow w ad rs := by
  rcases h.2 with ⟨hv, h0⟩ | ⟨g, cap, cur, hv, hb, hg, hn, hm, hs, ht⟩
  · exact ⟨none, 0, by rw [hv, h0], fun _ => ⟨h0, rfl⟩, by omega, by unfold maxLen; omega, Or.inl (List.eq_nil_of_length_eq_zero h0)⟩
  · refine ⟨some ⟨g, 0, none⟩, cap, hv, fun e => (by cases e), hn, hm, Or.inr ⟨g, 0, rfl, ?_, ?_⟩⟩
    · rcases Nat.lt_or_ge g w.heap.size with hlt | hge
      · exact hlt
      · rw [Array.getElem?_eq_none hge] at hg; cases hg
    · intro i hi
      have hc := World.ownsRow.cells h (g := g) (by rw [hv]; rfl)
      obtain ⟨g0, g1, g2⟩ := recsV_get rs i hi
      have c0 := hc _ _ g0
      have c1 := hc _ _ g1
      have c2 := hc _ _ g2
      rw [addr_add] at c0 c1 c2
      exact ⟨c0, by rw [show 0 + i * 3 + 1 = 0 + (i * 3 + 1) by omega]; exact c1, by rw [show 0 + i * 3 + 2 = 0 + (i * 3 + 2) by omega]; exact c2⟩
theorem OwnR.later {w w' : World} {base : Nat} {v : Value} {rs : List Rec} (h : OwnR w base v rs) (hb : Below w.heap.size w w') : OwnR w' base v rs := own_kept h hb
/-- 'append(v, x...)', v of the call's own, x whatever slice of Records. -/
theorem app_recs {w : World} {ops : Array Oper} {rest : List Oper} {o : Oper} {a : Act} {Q : Exit → Act → World → Prop} (hgd : o.guard = none) (s x : Operand)
    (ho : o.op = .call { callee := .builtin .append, args := #[s, x], argTypes := #[28, 28] })
    (base : Nat) (v : Value) (n : Nat) (L : List Rec) (hs : a.eval s = v) (hown : w.ownsRow base 43 3 v n (recsV L))
    (ad : Option Addr) (m c : Nat) (l : List Rec) (hx : a.eval x = .slice ad m c) (hl : l.length = m) (hnone : ad = none → m = 0 ∧ c = 0) (hrow : RRow w ad l)
    (hbytes : (n + m) * 40 ≤ 140737488355328) (hbase : base ≤ w.heap.size)
    (h : ∀ v' w', w'.ownsRow base 43 3 v' (n + m) (recsV (L ++ l)) → w.grownBy w' v.ownBlock → wpList Tryz.prog ops Q rest (a.put o.dst v') w') : wpList Tryz.prog ops Q (o :: rest) a w := by
  obtain ⟨i0, hi, hz0, hz1, hz2⟩ := info_parts Tryz.infoR
  cases ad with
  | none =>
    obtain ⟨rfl, rfl⟩ := hnone rfl
    obtain rfl : l = [] := List.eq_nil_of_length_eq_zero hl
    refine wpList_append_own_none hgd s x 28 ho base 43 i0 3 Tryz.underlying28 hi v n _ hs hown hx ?_
    exact h v w (by simpa using hown) (World.grownBy.refl _ _)
  | some ad =>
    refine wpList_append_own w hgd s x 28 ho base 43 i0 _ 3 40 Tryz.underlying28 hi hz0 hz1 hz2 rfl (by decide) v n _ hs hown ad m c (recsV l) hx (by rw [recsV_length, hl]) (rrow_cells hrow ad rfl) (recsV_one l) (by unfold maxLen; omega) hbytes hbase ?_
    intro v' w' h1 h2 _
    rw [← recsV_append] at h1
    exact h v' w' h1 h2
theorem emptyR_own (w : World) (base : Nat) (hb : base ≤ w.heap.size) : (w.alloc (.cells #[] 43)).ownsRow base 43 3 (.slice (some ⟨w.heap.size, 0, none⟩) 0 0) 0 (recsV []) :=
  World.ownsRow_lit w #[] 0 hb (by unfold maxLen; omega) rfl
end Go.Proofs.YtfgamkcnnijloaaGreat
namespace Go.Proofs.YtfgamkcnnijloaaGreat
open Go.RowKit

/-- The first two boxes of a call that takes a batch and hands one back; an empty slice of Records behind them. -/
def w2 (w : World) (k p e s : Int) (t : Bool) (v : Value) : World := (w.alloc (.cells #[.int .i64 k, .int .i64 p, .int .i64 e, .int .i64 s, .bool t, v] 30)).alloc (.cells #[.int .i64 0, .int .i64 0, .int .i64 0, .int .i64 0, .bool false, .slice none 0 0] 30)
theorem w2_size (w : World) (k p e s : Int) (t : Bool) (v : Value) : (w2 w k p e s t v).heap.size = w.heap.size + 1 + 1 := by simp [w2]
theorem w2_below (w : World) (k p e s : Int) (t : Bool) (v : Value) : Below w.heap.size w (w2 w k p e s t v) := ((Below.refl _ _).alloc (Nat.le_refl _) _).alloc (by simp) _
theorem w2_box0 (w : World) (k p e s : Int) (t : Bool) (v : Value) : BBox (w2 w k p e s t v) w.heap.size k p e s t v :=
  (BBox.new w k p e s t v).later ((Below.refl _ _).alloc (Nat.le_refl _) _)
theorem w2_box1 (w : World) (k p e s : Int) (t : Bool) (v : Value) : BBox (w2 w k p e s t v) (w.heap.size + 1) 0 0 0 0 false (.slice none 0 0) := by
  have h := BBox.new (w.alloc (.cells #[.int .i64 k, .int .i64 p, .int .i64 e, .int .i64 s, .bool t, v] 30)) 0 0 0 0 false (.slice none 0 0)
  simpa [w2] using h
theorem BBox.free {w : World} {B : Nat} {k p e s : Int} {t : Bool} {v : Value} (h : BBox w B k p e s t v) (i : Nat) : w.frozen? ⟨B, i, none⟩ = false := by
  unfold BBox at h; simp [World.frozen?, h]
theorem BBox.grown {w w' : World} {B : Nat} {k p e s : Int} {t : Bool} {v : Value} {row : Option Nat} (h : BBox w B k p e s t v) (hg : w.grownBy w' row) (hne : some B ≠ row) : BBox w' B k p e s t v := by
  have := hg.block B h.lt hne
  unfold BBox at h ⊢
  rw [this]; exact h
theorem BBox.setOther {w : World} {B C : Nat} {k p e s : Int} {t : Bool} {v : Value} (h : BBox w B k p e s t v) (hne : B ≠ C) (i : Nat) (u : Value) : BBox (w.setCell ⟨C, i, none⟩ u) B k p e s t v := by
  unfold BBox
  rw [Below.heap_setCell _ _ _ _ (by exact hne)]
  exact h
theorem block_set {w : World} {g i : Nat} {cs : Array Value} {t : TypeId} {fr : Nat × Nat} (h : w.heap[g]? = some (.cells cs t fr)) (v : Value) : (w.setCell ⟨g, i, none⟩ v).heap[g]? = some (.cells (cs.setIfInBounds i v) t fr) := by
  rw [setCell_eq_setRow w g i cs t fr v h]
  exact setRow_heap w g _ _ t _ h
/-- A batch is stored in a box, cell by cell. -/
def set6 (w : World) (B : Nat) (k p e s : Int) (t : Bool) (v : Value) : World :=
  (((((w.setCell ⟨B, 0, none⟩ (.int .i64 k)).setCell ⟨B, 1, none⟩ (.int .i64 p)).setCell ⟨B, 2, none⟩ (.int .i64 e)).setCell ⟨B, 3, none⟩ (.int .i64 s)).setCell ⟨B, 4, none⟩ (.bool t)).setCell ⟨B, 5, none⟩ v
theorem BBox.set6 {w : World} {B : Nat} {k0 p0 e0 s0 : Int} {t0 : Bool} {v0 : Value} (h : BBox w B k0 p0 e0 s0 t0 v0) (k p e s : Int) (t : Bool) (v : Value) : BBox (set6 w B k p e s t v) B k p e s t v := by
  unfold BBox at *
  exact block_set (block_set (block_set (block_set (block_set (block_set h _) _) _) _) _) _
theorem set6_below {N : Nat} {w0 w : World} (h : Below N w0 w) {B : Nat} (hB : N ≤ B) (k p e s : Int) (t : Bool) (v : Value) : Below N w0 (set6 w B k p e s t v) :=
  (((((h.setCell (p := ⟨B, 0, none⟩) hB _).setCell (p := ⟨B, 1, none⟩) hB _).setCell (p := ⟨B, 2, none⟩) hB _).setCell (p := ⟨B, 3, none⟩) hB _).setCell (p := ⟨B, 4, none⟩) hB _).setCell (p := ⟨B, 5, none⟩) hB _
theorem own_set6 {w : World} {base e0 size n : Nat} {u : Value} {xs : List Value} (h : w.ownsRow base e0 size u n xs) {B : Nat} (hB : B < base) (k p e s : Int) (t : Bool) (v : Value) : (set6 w B k p e s t v).ownsRow base e0 size u n xs :=
  ownsRow_setCell_below (ownsRow_setCell_below (ownsRow_setCell_below (ownsRow_setCell_below (ownsRow_setCell_below (ownsRow_setCell_below h (a := ⟨B, 0, none⟩) hB _) (a := ⟨B, 1, none⟩) hB _) (a := ⟨B, 2, none⟩) hB _) (a := ⟨B, 3, none⟩) hB _) (a := ⟨B, 4, none⟩) hB _) (a := ⟨B, 5, none⟩) hB _
theorem OwnR.set6 {w : World} {base : Nat} {u : Value} {rs : List Rec} (h : OwnR w base u rs) {B : Nat} (hB : B < base) (k p e s : Int) (t : Bool) (v : Value) : OwnR (set6 w B k p e s t v) base u rs := own_set6 h hB k p e s t v
end Go.Proofs.YtfgamkcnnijloaaGreat
namespace Go.Proofs.YtfgamkcnnijloaaGreat
open Go.RowKit

theorem copied_step {w w1 : World} {k p e s : Int} {t : Bool} {rs : List Rec} {ad : Option Addr} {len cap : Nat} {v1 : Value} (hl : rs.length = len)
    (hown : w1.ownsRow (w.heap.size + 1 + 1) 43 3 v1 (0 + len) (recsV ([] ++ rs))) (hg : ((w2 w k p e s t (.slice ad len cap)).alloc (.cells #[] 43)).grownBy w1 (some (w.heap.size + 1 + 1))) :
    ∃ a1 c1, v1 = .slice a1 len c1 ∧ Hid (OwnR w1 (w.heap.size + 1 + 1) (.slice a1 len c1) rs) ∧ Below w.heap.size w w1 ∧ BBox w1 w.heap.size k p e s t (.slice ad len cap) ∧ BBox w1 (w.heap.size + 1) 0 0 0 0 false (.slice none 0 0) := by
  have B3 : Below w.heap.size w ((w2 w k p e s t (.slice ad len cap)).alloc (.cells #[] 43)) := (w2_below w k p e s t _).alloc (by rw [w2_size]; omega) _
  have X0 : BBox ((w2 w k p e s t (.slice ad len cap)).alloc (.cells #[] 43)) w.heap.size k p e s t (.slice ad len cap) := (w2_box0 w k p e s t _).later ((Below.refl _ _).alloc (Nat.le_refl _) _)
  have X1 : BBox ((w2 w k p e s t (.slice ad len cap)).alloc (.cells #[] 43)) (w.heap.size + 1) 0 0 0 0 false (.slice none 0 0) := (w2_box1 w k p e s t _).later ((Below.refl _ _).alloc (Nat.le_refl _) _)
  have HW : OwnR w1 (w.heap.size + 1 + 1) v1 rs := by
    simp only [Nat.zero_add, List.nil_append] at hown; rw [← hl] at hown; exact hown
  obtain ⟨a1, c1, rfl, -⟩ := HW.form
  rw [hl] at HW ⊢
  exact ⟨a1, c1, rfl, HW, B3.grown hg B3.size (by intro k hk; simp at hk; omega), X0.grown hg (by simp; omega), X1.grown hg (by simp)⟩
theorem own_mono {w : World} {b b' : Nat} {v : Value} {rs : List Rec} (h : OwnR w b v rs) (hb : b' ≤ b) : OwnR w b' v rs := by
  refine ⟨h.1, ?_⟩
  rcases h.2 with h2 | ⟨g, cap, cur, hv, hgb, r⟩
  · exact Or.inl h2
  · exact Or.inr ⟨g, cap, cur, hv, Nat.le_trans hb hgb, r⟩
set_option maxHeartbeats 1000000 in
theorem copied_own (k p e s : Int) (t : Bool) (rs : List Rec) (ad : Option Addr) (len cap : Nat) (w : World) (h : BArg w ⟨k, p, e, s, t, rs⟩ ad len cap) (hm : len * 40 ≤ 140737488351232) :
    Calls Tryz.prog 22 #[.agg #[.int .i64 k, .int .i64 p, .int .i64 e, .int .i64 s, .bool t, .slice ad len cap]] w fun r w' => ∃ ad' cap', r = .returned (.agg #[.int .i64 k, .int .i64 p, .int .i64 e, .int .i64 s, .bool t, .slice ad' len cap']) ∧ OwnR w' w.heap.size (.slice ad' len cap') rs ∧ Below w.heap.size w w' := by
  have HA : Hid (BArg w ⟨k, p, e, s, t, rs⟩ ad len cap) := h
  have HO : Hid (((w2 w k p e s t (.slice ad len cap)).alloc (.cells #[] 43)).ownsRow (w.heap.size + 1 + 1) 43 3 (.slice (some ⟨w.heap.size + 1 + 1, 0, none⟩) 0 0) 0 (recsV [])) := by
    have h := emptyR_own (w2 w k p e s t (.slice ad len cap)) (w.heap.size + 1 + 1) (by rw [w2_size]; omega)
    rw [w2_size] at h
    exact h
  have B3 : Hid (Below w.heap.size w ((w2 w k p e s t (.slice ad len cap)).alloc (.cells #[] 43))) := (w2_below w k p e s t _).alloc (by rw [w2_size]; omega) _
  clear h
  go_enter Tryz.func22, Tryz.ntmps22
  go_wp2_with (at_builtin; refine app_recs rfl (.tmp 3) (.tmp 5) rfl (w.heap.size + 1 + 1) (.slice (some ⟨w.heap.size + 1 + 1, 0, none⟩) 0 0) 0 [] rfl HO.out ad len cap rs rfl HA.out.len_eq HA.out.nil (HA.out.row.later B3.out) (by omega) (by simp) ?_; intro v1 w1 hown1 hg1; obtain ⟨a1, n1, rfl, HW, HB, Y0, Y1⟩ := copied_step HA.out.len_eq hown1 hg1; have c0 := Y0.c0; have c1 := Y0.c1; have c2 := Y0.c2; have c3 := Y0.c3; have c4 := Y0.c4; have c5 := Y0.c5; have d0 := Y1.c0; have d1 := Y1.c1; have d2 := Y1.c2; have d3 := Y1.c3; have d4 := Y1.c4; have d5 := Y1.c5; have f5 := Y0.free 5; have g0 := Y1.free 0; have g1 := Y1.free 1; have g2 := Y1.free 2; have g3 := Y1.free 3; have g4 := Y1.free 4; have g5 := Y1.free 5; have Y1 : Hid (BBox w1 (w.heap.size + 1) 0 0 0 0 false (.slice none 0 0)) := Y1; clear hg1 hown1 Y0 HO B3)
  have Y1' := Y1.out.setOther (show w.heap.size + 1 ≠ w.heap.size by omega) 5 (.slice a1 len n1)
  refine bodyPost_ret (v := .agg #[.int .i64 k, .int .i64 p, .int .i64 e, .int .i64 s, .bool t, .slice a1 len n1]) (results_cell_row Tryz.results22 _ _ (w.heap.size + 1) 30 _ (0, 0) _ rfl (Y1'.set6 k p e s t (.slice a1 len n1)) Tryz.underlying30 rfl (by kernel_rfl)) rfl ⟨a1, n1, rfl, ?_, ?_⟩
  · have h := (ownsRow_setCell_below HW.out (a := ⟨w.heap.size, 5, none⟩) (by show w.heap.size < _; omega) (.slice a1 len n1))
    exact own_mono (OwnR.set6 h (B := w.heap.size + 1) (by omega) k p e s t (.slice a1 len n1)) (by omega)
  · exact set6_below (HB.setCell (p := ⟨w.heap.size, 5, none⟩) (Nat.le_refl _) _) (by omega) k p e s t _
end Go.Proofs.YtfgamkcnnijloaaGreat
