/- What the steps of a ledger leave in memory. -/
import Derived.Test.YtdifchlbnilenaaGreatLDel
namespace Go.Proofs.YtdifchlbnilenaaGreat
open Go.RowKit Go.Shelf
variable {w w' w1 : World} {L t M n N : Nat} {vr vo va : Value} {g : Lg}

/-- The blocks of a ledger are among F. -/
structure LIn (F : List Nat) (L t M : Nat) (vr vo va : Value) : Prop where
  l : L ∈ F
  t : t ∈ F
  m : M ∈ F
  r : ∀ b, vr.ownBlock = some b → b ∈ F
  o : ∀ b, vo.ownBlock = some b → b ∈ F
  a : ∀ b, va.ownBlock = some b → b ∈ F
theorem LPic0.tabbed (h : LPic0 w L t M n N vr vo va g) {n' : Nat} {T' : Tb} (ht : TPic w' t M n' T') (hc : Chg [M] w w') : LPic0 w' L t M n' N vr vo va { g with tb := T' } := by
  obtain ⟨a1, a2, a3, a4, a5, a6⟩ := h.apart
  refine ⟨h.box.chg hc (by simp; exact a2), ht, h.rows.keep (fun b e => hc.block b (h.rows.block b e).2.1 (by simp; exact (a4 b e).2.2)), h.opn.keep (fun b e => hc.block b (h.opn.block b e).2.1 (by simp; exact (a5 b e).2.2)), h.gone.keep (fun b e => hc.block b (h.gone.block b e).2.1 (by simp; exact (a6 b e).2.2))⟩
theorem LPic0.chg {F : List Nat} (h : LPic0 w L t M n N vr vo va g) (hc : Chg F w w') (hF : ∀ b ∈ F, b ≠ L ∧ b ≠ t ∧ b ≠ M ∧ vr.ownBlock ≠ some b ∧ vo.ownBlock ≠ some b ∧ va.ownBlock ≠ some b) : LPic0 w' L t M n N vr vo va g :=
  ⟨h.box.chg hc (fun hm => (hF _ hm).1 rfl), h.tab.chg hc (fun hm => (hF _ hm).2.1 rfl) (fun hm => (hF _ hm).2.2.1 rfl), h.rows.keep (fun b e => hc.block b (h.rows.block b e).2.1 (fun hm => (hF _ hm).2.2.2.1 e)), h.opn.keep (fun b e => hc.block b (h.opn.block b e).2.1 (fun hm => (hF _ hm).2.2.2.2.1 e)), h.gone.keep (fun b e => hc.block b (h.gone.block b e).2.1 (fun hm => (hF _ hm).2.2.2.2.2 e))⟩
theorem LPic0.fined (h : LPic0 w L t M n N vr vo va g) (f : Int) : LPic0 (w.setCell ⟨L, 2, none⟩ (.int .i64 f)) L t M n N vr vo va { g with fin := f } := by
  obtain ⟨a1, a2, a3, a4, a5, a6⟩ := h.apart
  have hc : Chg [L] w (w.setCell ⟨L, 2, none⟩ (.int .i64 f)) := (Chg.refl _ _).set (Or.inl (by simp)) _ _
  exact ⟨h.box.set 2 _, h.tab.chg hc (by simp; exact fun e => a1 e.symm) (by simp; exact fun e => a2 e.symm), h.rows.keep (fun b e => hc.block b (h.rows.block b e).2.1 (by simp; exact (a4 b e).1)), h.opn.keep (fun b e => hc.block b (h.opn.block b e).2.1 (by simp; exact (a5 b e).1)), h.gone.keep (fun b e => hc.block b (h.gone.block b e).2.1 (by simp; exact (a6 b e).1))⟩
theorem LPic0.rowsed (h : LPic0 w L t M n N vr vo va g) (hgr : w.grownBy w1 vr.ownBlock) {v' : Value} {l' : List Rw} (h1 : OwnK kRw w1 N v' l') :
    LPic0 (w1.setCell ⟨L, 3, none⟩ v') L t M n N v' vo va { g with rows := l' } ∧ w1.cell? ⟨L, 3, none⟩ = some vr ∧ w1.frozen? ⟨L, 3, none⟩ = false := by
  obtain ⟨a1, a2, a3, a4, a5, a6⟩ := h.apart
  obtain ⟨p1, p2⟩ := h.apart3
  have q0 : ∀ b, vo.ownBlock = some b → vr.ownBlock ≠ some b := fun b e2 e => (p1 b e).1 e2
  have q1 : ∀ b, va.ownBlock = some b → vr.ownBlock ≠ some b := fun b e2 e => (p1 b e).2 e2
  have hbox : Blk w1 L #[.pointer (some ⟨t, 0, none⟩), .int .i64 g.start, .int .i64 g.fin, vr, vo, va] TLg := (hgr.block L h.lt (fun e => (a4 L e.symm).1 rfl)).trans h.box
  have hs : ∀ b, b ≠ L → (w1.setCell ⟨L, 3, none⟩ v').heap[b]? = w1.heap[b]? := fun b hb => Below.heap_setCell _ _ _ _ hb
  have htm : ∀ b, b < w.heap.size → b ≠ L → vr.ownBlock ≠ some b → (w1.setCell ⟨L, 3, none⟩ v').heap[b]? = w.heap[b]? := fun b hb hL hv => (hs b hL).trans (hgr.block b hb (fun e => hv e.symm))
  refine ⟨⟨hbox.set 3 _, ⟨(htm t h.tab.lt.1 (fun e => a1 e.symm) (fun e => (a4 t e).2.1 rfl)).trans h.tab.box, h.tab.map.keep (htm M h.tab.lt.2 (fun e => a2 e.symm) (fun e => (a4 M e).2.2 rfl)), h.tab.ok⟩, h1.keep (fun b e => hs b (fun e' => by subst e'; obtain ⟨_, _, cur, hcc⟩ := h1.block b e; exact absurd (blk_type hbox hcc) (by decide))), h.opn.keep (fun b e => (hs b (a5 b e).1).trans (hgr.block b (h.opn.block b e).2.1 (fun e' => q0 b e e'.symm))), h.gone.keep (fun b e => (hs b (a6 b e).1).trans (hgr.block b (h.gone.block b e).2.1 (fun e' => q1 b e e'.symm)))⟩, hbox.cell 3, hbox.free 3⟩
theorem LPic0.opned (h : LPic0 w L t M n N vr vo va g) (hgr : w.grownBy w1 vo.ownBlock) {v' : Value} {l' : List Tx} (h1 : OwnK kTx w1 N v' l') :
    LPic0 (w1.setCell ⟨L, 4, none⟩ v') L t M n N vr v' va { g with opn := l' } ∧ w1.cell? ⟨L, 4, none⟩ = some vo ∧ w1.frozen? ⟨L, 4, none⟩ = false := by
  obtain ⟨a1, a2, a3, a4, a5, a6⟩ := h.apart
  obtain ⟨p1, p2⟩ := h.apart3
  have q0 : ∀ b, vr.ownBlock = some b → vo.ownBlock ≠ some b := fun b e2 e => (p1 b e2).1 e
  have q1 : ∀ b, va.ownBlock = some b → vo.ownBlock ≠ some b := fun b e2 e => p2 b e e2
  have hbox : Blk w1 L #[.pointer (some ⟨t, 0, none⟩), .int .i64 g.start, .int .i64 g.fin, vr, vo, va] TLg := (hgr.block L h.lt (fun e => (a5 L e.symm).1 rfl)).trans h.box
  have hs : ∀ b, b ≠ L → (w1.setCell ⟨L, 4, none⟩ v').heap[b]? = w1.heap[b]? := fun b hb => Below.heap_setCell _ _ _ _ hb
  have htm : ∀ b, b < w.heap.size → b ≠ L → vo.ownBlock ≠ some b → (w1.setCell ⟨L, 4, none⟩ v').heap[b]? = w.heap[b]? := fun b hb hL hv => (hs b hL).trans (hgr.block b hb (fun e => hv e.symm))
  refine ⟨⟨hbox.set 4 _, ⟨(htm t h.tab.lt.1 (fun e => a1 e.symm) (fun e => (a5 t e).2.1 rfl)).trans h.tab.box, h.tab.map.keep (htm M h.tab.lt.2 (fun e => a2 e.symm) (fun e => (a5 M e).2.2 rfl)), h.tab.ok⟩, h.rows.keep (fun b e => (hs b (a4 b e).1).trans (hgr.block b (h.rows.block b e).2.1 (fun e' => q0 b e e'.symm))), h1.keep (fun b e => hs b (fun e' => by subst e'; obtain ⟨_, _, cur, hcc⟩ := h1.block b e; exact absurd (blk_type hbox hcc) (by decide))), h.gone.keep (fun b e => (hs b (a6 b e).1).trans (hgr.block b (h.gone.block b e).2.1 (fun e' => q1 b e e'.symm)))⟩, hbox.cell 4, hbox.free 4⟩
theorem LPic0.goneed (h : LPic0 w L t M n N vr vo va g) (hgr : w.grownBy w1 va.ownBlock) {v' : Value} {l' : List Gn} (h1 : OwnK kGn w1 N v' l') :
    LPic0 (w1.setCell ⟨L, 5, none⟩ v') L t M n N vr vo v' { g with gone := l' } ∧ w1.cell? ⟨L, 5, none⟩ = some va ∧ w1.frozen? ⟨L, 5, none⟩ = false := by
  obtain ⟨a1, a2, a3, a4, a5, a6⟩ := h.apart
  obtain ⟨p1, p2⟩ := h.apart3
  have q0 : ∀ b, vr.ownBlock = some b → va.ownBlock ≠ some b := fun b e2 e => (p1 b e2).2 e
  have q1 : ∀ b, vo.ownBlock = some b → va.ownBlock ≠ some b := fun b e2 e => p2 b e2 e
  have hbox : Blk w1 L #[.pointer (some ⟨t, 0, none⟩), .int .i64 g.start, .int .i64 g.fin, vr, vo, va] TLg := (hgr.block L h.lt (fun e => (a6 L e.symm).1 rfl)).trans h.box
  have hs : ∀ b, b ≠ L → (w1.setCell ⟨L, 5, none⟩ v').heap[b]? = w1.heap[b]? := fun b hb => Below.heap_setCell _ _ _ _ hb
  have htm : ∀ b, b < w.heap.size → b ≠ L → va.ownBlock ≠ some b → (w1.setCell ⟨L, 5, none⟩ v').heap[b]? = w.heap[b]? := fun b hb hL hv => (hs b hL).trans (hgr.block b hb (fun e => hv e.symm))
  refine ⟨⟨hbox.set 5 _, ⟨(htm t h.tab.lt.1 (fun e => a1 e.symm) (fun e => (a6 t e).2.1 rfl)).trans h.tab.box, h.tab.map.keep (htm M h.tab.lt.2 (fun e => a2 e.symm) (fun e => (a6 M e).2.2 rfl)), h.tab.ok⟩, h.rows.keep (fun b e => (hs b (a4 b e).1).trans (hgr.block b (h.rows.block b e).2.1 (fun e' => q0 b e e'.symm))), h.opn.keep (fun b e => (hs b (a5 b e).1).trans (hgr.block b (h.opn.block b e).2.1 (fun e' => q1 b e e'.symm))), h1.keep (fun b e => hs b (fun e' => by subst e'; obtain ⟨_, _, cur, hcc⟩ := h1.block b e; exact absurd (blk_type hbox hcc) (by decide)))⟩, hbox.cell 5, hbox.free 5⟩
end Go.Proofs.YtdifchlbnilenaaGreat
