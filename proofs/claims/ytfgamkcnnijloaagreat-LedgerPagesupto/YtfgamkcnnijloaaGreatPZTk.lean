/- What take of a ledger leaves in memory, round by round. take of a ledger: what is left (by genltake.py). A ledger that can be stays one that can be: what a batch does. -/
import Derived.Test.YtfgamkcnnijloaaGreatLFin
import Derived.Test.YtfgamkcnnijloaaGreatPZFd
import Derived.Test.YtfgamkcnnijloaaGreatPNote
import Derived.Deep.RegionHeld3
import Derived.OrdersHeld
namespace Go.Proofs.YtfgamkcnnijloaaGreat
open Go.RowKit Go.Shelf
variable {w w' : World} {L t M n N : Nat} {vr vo va : Value} {g : Lg}

/-- Records that lie in a block of Records. -/
def RTyp (w : World) (ad : Option Addr) (len : Nat) : Prop := 0 < len → ∃ b off cur, ad = some ⟨b, off, none⟩ ∧ w.heap[b]? = some (.cells cur 43 (0, 0))
/-- A slice lies where it lay, or in new memory. -/
def NewB (w : World) (v v' : Value) : Prop := ∀ b, v'.ownBlock = some b → v.ownBlock = some b ∨ w.heap.size ≤ b
theorem NewB.refl (w : World) (v : Value) : NewB w v v := fun _ h => Or.inl h
theorem NewB.trans {v v' v'' : Value} (h : NewB w v v') (h' : NewB w' v' v'') (hs : w.heap.size ≤ w'.heap.size) : NewB w v v'' := fun b e => by
  rcases h' b e with h1 | h1
  · exact h b h1
  · exact Or.inr (Nat.le_trans hs h1)
theorem rowsB_len (o : Int) (b : Bat) (l : List Rec) : (rowsB o b l).length = l.length := by
  induction l generalizing o with
  | nil => rfl
  | cons r l ih => simp [rowsB, ih]
theorem rowsB_get (o : Int) (b : Bat) (l : List Rec) (j : Nat) (h : j < l.length) : (rowsB o b l)[j]? = some ⟨o + j, b.prod, b.txn, l.getD j rec0⟩ := by
  induction l generalizing o j with
  | nil => simp at h
  | cons r l ih =>
    cases j with
    | zero => simp [rowsB]
    | succ j =>
      rw [rowsB, List.getElem?_cons_succ, ih (o + 1) j (by simp at h; omega)]
      simp only [List.getD_cons_succ]
      congr 2
      push_cast
      omega
theorem rowsB_take (o : Int) (b : Bat) (l : List Rec) (j : Nat) (h : j < l.length) : (rowsB o b l).take (j + 1) = (rowsB o b l).take j ++ [⟨o + j, b.prod, b.txn, l.getD j rec0⟩] := by
  have h1 := rowsB_get o b l j h
  obtain ⟨h2, h3⟩ := List.getElem?_eq_some_iff.1 h1
  rw [List.take_succ_eq_append_getElem h2, h3]
/-- A ledger in the midst of take: j rows are there. -/
structure TkI (w : World) (L t M n N : Nat) (vr vo va : Value) (g : Lg) (T : Tb) (b : Bat) (ad : Option Addr) (len cap : Nat) (j : Nat) (W : World) (v : Value) : Prop where
  pic : LPic0 W L t M n N v vo va { g with tb := T, rows := g.rows ++ (rowsB g.fin b b.recs).take j }
  box : BBox W w.heap.size b.kind b.prod b.epoch b.seq b.txn (.slice ad len cap)
  arg : BArg W b ad len cap
  typ : RTyp W ad len
  chg : Chg (L :: M :: vr.ownBlock.toList) w W
  new : NewB w vr v
  lt : w.heap.size < W.heap.size
theorem RTyp.keep {W W' : World} {ad : Option Addr} {len : Nat} (h : RTyp W ad len) (hk : ∀ (b : Nat) (cur : Array Value), W.heap[b]? = some (.cells cur 43 (0, 0)) → W'.heap[b]? = W.heap[b]?) : RTyp W' ad len := fun hl => by
  obtain ⟨b, off, cur, e, hc⟩ := h hl
  exact ⟨b, off, cur, e, (hk b cur hc).trans hc⟩
theorem BArg.keep {W W' : World} {b : Bat} {ad : Option Addr} {len cap : Nat} (h : BArg W b ad len cap) (ht : RTyp W ad len) (hs : W.heap.size ≤ W'.heap.size) (hk : ∀ (b : Nat) (cur : Array Value), W.heap[b]? = some (.cells cur 43 (0, 0)) → W'.heap[b]? = W.heap[b]?) : BArg W' b ad len cap := by
  refine ⟨h.1, h.2, h.3, h.4, ?_, h.6⟩
  rcases h.5 with h5 | ⟨x, off, e, hx, hc⟩
  · exact Or.inl h5
  · by_cases h0 : b.recs = []
    · exact Or.inl h0
    · have hl : 0 < len := by rw [← h.1]; exact List.length_pos_iff.2 h0
      obtain ⟨y, off', cur, e', hcc⟩ := ht hl
      rw [e] at e'; cases e'
      refine Or.inr ⟨x, off, e, Nat.lt_of_lt_of_le hx hs, fun i hi => ?_⟩
      have := hc i hi
      simp only [World.cell?, hk x cur hcc] at this ⊢
      exact this
theorem rw_row (W : World) (x : Rw) : RowK kRw (W.alloc (.cells #[.int .i64 x.off, .int .i64 x.prod, .bool x.tx, .string x.rc.key, .string x.rc.val, .bool x.rc.dead] 51)).drew (some ⟨W.heap.size, 0, none⟩) [x] := by
  refine Or.inr ⟨W.heap.size, 0, rfl, by simp [World.drew], fun i hi c hc => ?_⟩
  obtain rfl : i = 0 := by simpa using hi
  have hb : Blk (W.alloc (.cells #[.int .i64 x.off, .int .i64 x.prod, .bool x.tx, .string x.rc.key, .string x.rc.val, .bool x.rc.dead] 51)).drew W.heap.size #[.int .i64 x.off, .int .i64 x.prod, .bool x.tx, .string x.rc.key, .string x.rc.val, .bool x.rc.dead] 51 := heap_alloc_new W _
  rw [show 0 + 0 * kRw.sz + c = c by simp]
  exact (hb.cell c).trans (by rw [List.getElem?_toArray]; rfl)
theorem tx_row (W : World) (x : Tx) : RowK kTx (W.alloc (.cells #[.int .i64 x.prod, .int .i64 x.first] 82)).drew (some ⟨W.heap.size, 0, none⟩) [x] := by
  refine Or.inr ⟨W.heap.size, 0, rfl, by simp [World.drew], fun i hi c hc => ?_⟩
  obtain rfl : i = 0 := by simpa using hi
  have hb : Blk (W.alloc (.cells #[.int .i64 x.prod, .int .i64 x.first] 82)).drew W.heap.size #[.int .i64 x.prod, .int .i64 x.first] 82 := heap_alloc_new W _
  rw [show 0 + 0 * kTx.sz + c = c by simp]
  exact (hb.cell c).trans (by rw [List.getElem?_toArray]; rfl)
theorem build_row (x y : Int) (b : Bool) (k v : ByteArray) (d : Bool) (W : World) : (Instr.build 51 #[(0, .int .i64 x), (1, .int .i64 y), (2, .bool b), (3, .agg #[.string k, .string v, .bool d])]).run Tryz.prog W = .ok (.agg #[.int .i64 x, .int .i64 y, .bool b, .string k, .string v, .bool d]) W := by kernel_rfl
/-- A Row is built, whatever the region's order. -/
theorem exec_row {a : Act} {o : Oper} {x y : Int} {b : Bool} {k v : ByteArray} {d : Bool} (x1 x2 x3 x4 : Operand) (ho : o.op = .build 51 #[(0, x1), (1, x2), (2, x3), (3, x4)]) (h1 : a.eval x1 = .int .i64 x) (h2 : a.eval x2 = .int .i64 y) (h3 : a.eval x3 = .bool b) (h4 : a.eval x4 = .agg #[.string k, .string v, .bool d]) : (execOp a.eval o).run Tryz.prog w = .ok (.value (.agg #[.int .i64 x, .int .i64 y, .bool b, .string k, .string v, .bool d])) w := by
  unfold execOp
  simp only [ho, List.map_toArray, List.map_cons, List.map_nil, h1, h2, h3, h4, build_row, Sem.run_bind, Sem.run_pure, Result.andThen_ok]
theorem bslice_row (x y : Int) (b : Bool) (k v : ByteArray) (d : Bool) (W : World) : (Instr.buildSlice 46 1 #[(0, .agg #[.int .i64 x, .int .i64 y, .bool b, .string k, .string v, .bool d])]).run Tryz.prog W.drew = .ok (.slice (some ⟨W.heap.size, 0, none⟩) 1 1) (W.alloc (.cells #[.int .i64 x, .int .i64 y, .bool b, .string k, .string v, .bool d] 51)).drew := by kernel_rfl
/-- A slice of one Row is made, as one step of a region that draws its order. -/
theorem step_bslice_row {ops : Array Oper} {o : Oper} {a : Act} {Kn : Act → World → Prop} {Q : Exit → Act → World → Prop} {E : Prop} {W : World} {x y : Int} {b : Bool} {k v : ByteArray} {d : Bool} (hgd : o.guard = none) (x1 : Operand) (ho : o.op = .buildSlice 46 1 #[(0, x1)]) (h1 : a.eval x1 = .agg #[.int .i64 x, .int .i64 y, .bool b, .string k, .string v, .bool d])
    (h : Kn (a.put o.dst (.slice (some ⟨W.heap.size, 0, none⟩) 1 1)) (W.alloc (.cells #[.int .i64 x, .int .i64 y, .bool b, .string k, .string v, .bool d] 51)).drew) : if Region.wanted o (yielded ops a.tmps) = true then Oper.wp Tryz.prog o a W.drew Kn Q else E := by
  have hw : Region.wanted o (yielded ops a.tmps) = true := by simp [Region.wanted, hgd]
  rw [if_pos hw]
  unfold Oper.wp execOp
  simp only [ho, List.map_toArray, List.map_cons, List.map_nil, h1, bslice_row, Sem.run_bind, Sem.run_pure, Result.andThen_ok]
  exact h
/-- A block of another type is as it was behind an append to a ledger's slice and the store into the ledger. -/
theorem app_keep {α : Type} {K : Kd α} {W W3 : World} {v v3 : Value} {l : List α} {k : Nat} (hp : OwnK K W N v l) (hbx : ∃ cs, Blk W L cs TLg) (hG : W.grownBy W3 v.ownBlock) (b : Nat) (cur : Array Value) (T : TypeId) (h : W.heap[b]? = some (.cells cur T (0, 0))) (h1 : T ≠ K.T) (h2 : T ≠ TLg) :
    W3.heap[b]? = W.heap[b]? ∧ (W3.setCell ⟨L, k, none⟩ v3).heap[b]? = W.heap[b]? := by
  have hl : b < W.heap.size := (Array.getElem?_eq_some_iff.1 h).1
  have e1 : W3.heap[b]? = W.heap[b]? := hG.block b hl (fun e => by
    obtain ⟨_, _, c2, hc2⟩ := hp.block b e.symm
    rw [h] at hc2
    injection hc2 with hc2
    injection hc2 with _ hc2
    exact h1 hc2)
  obtain ⟨cs, hb⟩ := hbx
  exact ⟨e1, (Below.heap_setCell _ _ _ _ (fun e => by
    have e' : b = L := e
    subst e'
    exact h2 (blk_type hb h).symm)).trans e1⟩
variable {T : Tb} {bt : Bat} {ad : Option Addr} {len cap j : Nat} {W W' W3 : World} {v : Value}
theorem TkI.later (h : TkI w L t M n N vr vo va g T bt ad len cap j W v) (hb : Below W.heap.size W W') : TkI w L t M n N vr vo va g T bt ad len cap j W' v :=
  ⟨h.pic.later hb, h.box.later hb, h.arg.later hb, h.typ.keep (fun b cur hc => hb.block b (Array.getElem?_eq_some_iff.1 hc).1), h.chg.trans (Chg.of (F := []) hb) (fun k hk => by cases hk), h.new, Nat.lt_of_lt_of_le h.lt hb.size⟩
theorem TkI.app (h : TkI w L t M n N vr vo va g T bt ad len cap j W v) (hj : j < len) {b3 c3 m : Nat} (hO : OwnK kRw W3 N (.slice (some ⟨b3, 0, none⟩) m c3) ((g.rows ++ (rowsB g.fin bt bt.recs).take j) ++ [⟨g.fin + j, bt.prod, bt.txn, bt.recs.getD j rec0⟩])) (hG : W.grownBy W3 v.ownBlock) (hn : v.ownBlock = some b3 ∨ b3 = W.heap.size) :
    W3.cell? ⟨L, 3, none⟩ = some v ∧ W3.frozen? ⟨L, 3, none⟩ = false ∧ W3.cell? ⟨L, 2, none⟩ = some (.int .i64 g.fin) ∧ TkI w L t M n N vr vo va g T bt ad len cap (j + 1) (W3.setCell ⟨L, 3, none⟩ (.slice (some ⟨b3, 0, none⟩) m c3)) (.slice (some ⟨b3, 0, none⟩) m c3) := by
  have hbx : ∃ cs, Blk W L cs TLg := ⟨_, h.pic.box⟩
  obtain ⟨q1, q2, q3⟩ := h.pic.rowsed hG hO
  have hk : ∀ (b : Nat) (cur : Array Value) (T : TypeId), W.heap[b]? = some (.cells cur T (0, 0)) → T ≠ kRw.T → T ≠ TLg → (W3.setCell ⟨L, 3, none⟩ (.slice (some ⟨b3, 0, none⟩) m c3)).heap[b]? = W.heap[b]? := fun b cur T hc h1 h2 => (app_keep h.pic.rows hbx hG b cur T hc h1 h2).2
  have hs : W.heap.size ≤ (W3.setCell ⟨L, 3, none⟩ (.slice (some ⟨b3, 0, none⟩) m c3)).heap.size := by have := hG.size; simp [World.setCell]; omega
  have hb2 : Blk W3 L #[.pointer (some ⟨t, 0, none⟩), .int .i64 g.start, .int .i64 g.fin, v, vo, va] TLg := (hG.block L h.pic.lt (fun e => (h.pic.apart.2.2.2.1 L e.symm).1 rfl)).trans h.pic.box
  refine ⟨q2, q3, hb2.cell 2, ⟨?_, (hk _ _ 30 h.box (by decide) (by decide)).trans h.box, h.arg.keep h.typ hs (fun b cur hc => hk b cur _ hc (by decide) (by decide)), h.typ.keep (fun b cur hc => hk b cur _ hc (by decide) (by decide)), ?_, ?_, Nat.lt_of_lt_of_le h.lt hs⟩⟩
  · rw [rowsB_take _ _ _ _ (by rw [h.arg.1]; exact hj), ← List.append_assoc]
    exact q1
  · have hc := h.chg
    refine ⟨hG.os.trans hc.os, hG.tape.trans hc.tape, hG.output.trans hc.output, Nat.le_trans hc.size hs, fun x hx hn => ?_⟩
    have hxW : x < W.heap.size := Nat.lt_of_lt_of_le hx hc.size
    rw [Below.heap_setCell _ _ _ _ (fun e => hn (by have e' : x = L := e; simp [e'])), hG.block x hxW (fun e => ?_)]
    · exact hc.block x hx hn
    · rcases h.new x e.symm with e2 | e2
      · exact hn (by simp [e2])
      · omega
  · intro x e
    cases e
    rcases hn with hn | hn
    · exact h.new _ hn
    · right; rw [hn]; exact h.chg.size
end Go.Proofs.YtfgamkcnnijloaaGreat
namespace Go.Proofs.YtfgamkcnnijloaaGreat
open Go.RowKit Go.Shelf
variable {w w' : World} {L t M n N : Nat} {vr vo va : Value} {g : Lg}

theorem rows_room {a j : Nat} (h : (a + 64) * 64 ≤ 140737488355328) (hj : j ≤ 63) : a + j + 1 ≤ maxLen ∧ (a + j + 1) * 64 ≤ 140737488355328 := ⟨by unfold maxLen; omega, Nat.le_trans (Nat.mul_le_mul_right 64 (by omega)) h⟩
theorem box_set {W : World} {k p e q : Int} {tx : Bool} {v u : Value} {x : Nat} (h : (W.cell? ⟨x, 0, none⟩ = some (.int .i64 k)) ∧ W.cell? ⟨x, 1, none⟩ = some (.int .i64 p) ∧ W.cell? ⟨x, 2, none⟩ = some (.int .i64 e) ∧ W.cell? ⟨x, 3, none⟩ = some (.int .i64 q) ∧ W.cell? ⟨x, 4, none⟩ = some (.bool tx) ∧ W.cell? ⟨x, 5, none⟩ = some v) (hx : x ≠ L) :
    ((W.setCell ⟨L, 2, none⟩ u).cell? ⟨x, 0, none⟩ = some (.int .i64 k)) ∧ (W.setCell ⟨L, 2, none⟩ u).cell? ⟨x, 1, none⟩ = some (.int .i64 p) ∧ (W.setCell ⟨L, 2, none⟩ u).cell? ⟨x, 2, none⟩ = some (.int .i64 e) ∧ (W.setCell ⟨L, 2, none⟩ u).cell? ⟨x, 3, none⟩ = some (.int .i64 q) ∧ (W.setCell ⟨L, 2, none⟩ u).cell? ⟨x, 4, none⟩ = some (.bool tx) ∧ (W.setCell ⟨L, 2, none⟩ u).cell? ⟨x, 5, none⟩ = some v := by
  simp only [cell_set_ne' hx]
  exact h
variable {b : Bat} {T1 : Tb} {fn ln : Int}
theorem takeB_m {i : Nat} (hk : b.kind ≠ 1) (hop : opAt b.prod g.opn = some i) (hT : (notN g.tb b g.fin).2 = T1) (hf : g.fin = fn) (hl : lenN b = ln) : { finG { g with tb := T1, rows := g.rows ++ rowsB g.fin b b.recs } i b.kind with fin := fn + ln } = takeB g b := by
  unfold takeB finG
  rw [hop, hT, hl, hf, if_pos hk]
  by_cases h3 : b.kind = 3
  · rw [if_pos h3, if_pos h3]; rfl
  · rw [if_neg h3, if_neg h3]
theorem takeB_o {p e q : Int} {rs : List Rec} (hop : opAt p g.opn = none) (hT : (notN g.tb ⟨1, p, e, q, true, rs⟩ g.fin).2 = T1) (hf : g.fin = fn) (hl : lenN ⟨1, p, e, q, true, rs⟩ = ln) : { ({ g with tb := T1, rows := g.rows ++ rowsB g.fin ⟨1, p, e, q, true, rs⟩ rs, opn := g.opn ++ [⟨p, fn⟩] } : Lg) with fin := fn + ln } = takeB g ⟨1, p, e, q, true, rs⟩ := by
  unfold takeB
  simp only [hop]
  rw [hT, hl, hf, if_neg (by simp), if_pos (by simp), if_neg (by decide)]
theorem takeB_n (hno : (b.kind ≠ 1 → opAt b.prod g.opn = none) ∧ (b.txn = true → (opAt b.prod g.opn).isSome = true)) (hT : (notN g.tb b g.fin).2 = T1) (hf : g.fin = fn) (hl : lenN b = ln) : { ({ g with tb := T1, rows := g.rows ++ rowsB g.fin b b.recs } : Lg) with fin := fn + ln } = takeB g b := by
  unfold takeB
  rw [hT, hl, hf]
  by_cases hk : b.kind = 1
  · rw [if_neg (by simp [hk]), if_neg (by intro h; have := hno.2 h.1; rw [h.2] at this; cases this), if_neg (by rw [hk]; decide)]
  · rw [if_pos hk, hno.1 hk]
    by_cases h3 : b.kind = 3
    · rw [if_pos h3]
    · rw [if_neg h3]
end Go.Proofs.YtfgamkcnnijloaaGreat
namespace Go.Proofs.YtfgamkcnnijloaaGreat
open Go.RowKit Go.Shelf
variable {g : Lg} {b : Bat}

theorem rowsB_mem {o : Int} {b : Bat} {l : List Rec} {r : Rw} (h : r ∈ rowsB o b l) : o ≤ r.off ∧ r.off < o + l.length := by
  induction l generalizing o with
  | nil => cases h
  | cons x l ih =>
    rcases List.mem_cons.1 h with h | h
    · subst h; simp; omega
    · have := ih h
      simp only [List.length_cons]
      omega
theorem rowsB_rise (o : Int) (b : Bat) (l : List Rec) : (rowsB o b l).Pairwise (fun a b => a.off < b.off) := by
  induction l generalizing o with
  | nil => exact List.Pairwise.nil
  | cons x l ih =>
    refine List.Pairwise.cons (fun r hr => ?_) (ih (o + 1))
    have := rowsB_mem hr
    show o < r.off
    omega
theorem recs_le_len (h : checkN b = 0) : (b.recs.length : Int) ≤ lenN b ∧ 1 ≤ lenN b := by
  have hn := checkN_nums h
  unfold lenN
  cases hm : b.marker with
  | true =>
    have := hn.2.2.2.2.2.2.2.2.1 hm
    rw [if_pos rfl]; omega
  | false =>
    have := hn.2.2.2.2.2.2.2.2.2.1 hm
    rw [if_neg (by simp)]; omega
theorem takeB_ok (hg : LgOk g) (hc : checkN b = 0) (hf : g.fin + lenN b ≤ 281474976710656) : LgOk (takeB g b) := by
  obtain ⟨h1, h2⟩ := recs_le_len hc
  have hs := hg.start
  refine ⟨⟨hs.1, by show g.start ≤ g.fin + lenN b; omega⟩, hf, ?_, ?_, ?_, ?_, ?_⟩
  · show (g.rows ++ rowsB g.fin b b.recs).Pairwise _
    refine List.pairwise_append.2 ⟨hg.rise, rowsB_rise _ _ _, fun a ha c hc => ?_⟩
    have := (hg.rows a ha).2
    have := (rowsB_mem hc).1
    omega
  · intro r hr
    have hr' : r ∈ g.rows ++ rowsB g.fin b b.recs := hr
    show g.start ≤ r.off ∧ r.off < g.fin + lenN b
    rcases List.mem_append.1 hr' with hr' | hr'
    · have := hg.rows r hr'; omega
    · have := rowsB_mem hr'; omega
  · intro t ht
    show g.start ≤ t.first ∧ t.first < g.fin + lenN b
    have key : t ∈ g.opn ∨ t.first = g.fin := by
      have ht' : t ∈ (if b.kind ≠ 1 then (match opAt b.prod g.opn with | some i => g.opn.eraseIdx i | none => g.opn) else if b.txn = true ∧ opAt b.prod g.opn = none then g.opn ++ [⟨b.prod, g.fin⟩] else g.opn) := ht
      split at ht'
      · split at ht'
        · exact Or.inl (List.mem_of_mem_eraseIdx ht')
        · exact Or.inl ht'
      · split at ht'
        · rcases List.mem_append.1 ht' with h | h
          · exact Or.inl h
          · rw [List.mem_singleton.1 h]; exact Or.inr rfl
        · exact Or.inl ht'
    rcases key with h | h
    · have := hg.opn t h; omega
    · omega
  · show List.Pairwise _ (if b.kind ≠ 1 then (match opAt b.prod g.opn with | some i => g.opn.eraseIdx i | none => g.opn) else if b.txn = true ∧ opAt b.prod g.opn = none then g.opn ++ [⟨b.prod, g.fin⟩] else g.opn)
    split
    · split
      · exact hg.oprise.sublist (List.eraseIdx_sublist _ _)
      · exact hg.oprise
    · split
      · refine List.pairwise_append.2 ⟨hg.oprise, List.pairwise_singleton _ _, fun a ha c hc => ?_⟩
        rw [List.mem_singleton.1 hc]
        exact (hg.opn a ha).2
      · exact hg.oprise
  · intro x hx
    show 0 ≤ x.first ∧ x.first ≤ x.last ∧ x.last < g.fin + lenN b
    have hx' : x ∈ (if b.kind = 3 then (match opAt b.prod g.opn with | some i => g.gone ++ [⟨(g.opn.getD i ⟨0, 0⟩).prod, (g.opn.getD i ⟨0, 0⟩).first, g.fin⟩] | none => g.gone) else g.gone) := hx
    have old : ∀ y ∈ g.gone, 0 ≤ y.first ∧ y.first ≤ y.last ∧ y.last < g.fin + lenN b := fun y hy => by have := hg.gone y hy; omega
    split at hx'
    · split at hx'
      · rename_i i hi
        rcases List.mem_append.1 hx' with h | h
        · exact old x h
        · rw [List.mem_singleton.1 h]
          have hm : g.opn.getD i ⟨0, 0⟩ ∈ g.opn := by
            have hl : i < g.opn.length := idx_lt hi
            rw [List.getD_eq_getElem?_getD, List.getElem?_eq_getElem hl]
            exact List.getElem_mem hl
          have := hg.opn _ hm
          show 0 ≤ (g.opn.getD i ⟨0, 0⟩).first ∧ (g.opn.getD i ⟨0, 0⟩).first ≤ g.fin ∧ g.fin < g.fin + lenN b
          omega
      · exact old x hx'
    · exact old x hx'
theorem decB_take {o : Int} (h : decB g b = (o, false, 0)) : checkN b = 0 ∧ g.fin + lenN b ≤ 281474976710656 ∧ o = g.fin ∧ ¬ (b.kind = 1 ∧ (opAt b.prod g.opn).isSome = true ∧ b.txn = false) := by
  unfold decB at h
  split at h
  · rename_i h0
    rw [h] at h0
    simp at h0
  · rename_i h0
    obtain ⟨x, d, e, hd⟩ : ∃ x d e, decN g.tb b = (x, d, e) := ⟨_, _, _, rfl⟩
    rw [hd] at h0
    simp only [not_or, ne_eq, Decidable.not_not] at h0
    have hc : checkN b = 0 := by
      obtain ⟨h1, h2⟩ := h0
      subst h1
      exact dec_check hd
    split at h
    · cases h
    · split at h
      · cases h
      · rename_i h2
        split at h
        · cases h
        · rename_i h3
          injection h with h4
          exact ⟨hc, by omega, h4.symm, h2⟩
theorem check_mark (h : checkN b = 0) (hk : b.kind ≠ 1) : b.txn = false := by
  obtain ⟨ha, -⟩ := checkN_ok h
  have hn := checkN_nums h
  have hm : b.marker = true := by
    unfold Bat.marker
    have := hn.1
    have : b.kind = 2 ∨ b.kind = 3 := by omega
    rcases this with h | h <;> rw [h] <;> rfl
  have hp := (hn.2.2.2.2.2.2.2.2.2.2 hm).2
  unfold argOk at ha
  rw [if_neg (by simpa using hp), hm] at ha
  simp only [Bool.and_eq_true, Bool.true_and] at ha
  cases ht : b.txn with
  | false => rfl
  | true => rw [ht] at ha; simp at ha
end Go.Proofs.YtfgamkcnnijloaaGreat
