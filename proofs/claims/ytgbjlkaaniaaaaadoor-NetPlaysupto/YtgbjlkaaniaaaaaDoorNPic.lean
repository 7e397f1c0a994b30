/- A net in memory: its struct, its row of luck, its row of late messages. No function of the program is named here. -/
import Derived.Test.YtgbjlkaaniaaaaaDoorNetN
namespace Go.Proofs.YtgbjlkaaniaaaaaDoor
open Go.RowKit

abbrev TN : TypeId := 49
abbrev TI : TypeId := 3
abbrev TM : TypeId := 64
theorem Tryd.infoI : (Tryd.prog.info? TI).map (fun i => (i.zero, i.size, i.bytes)) = some (some (.int .i64 0), 1, 8) := by kernel_rfl
theorem Tryd.infoM : (Tryd.prog.info? TM).map (fun i => (i.zero, i.size, i.bytes)) = some (some (.agg #[.int .i64 0, .string ⟨#[]⟩]), 2, 24) := by kernel_rfl
structure NPic (w : World) (F : List Nat) (D : Nat) (v1 v2 : Value) (s : NSt) : Prop where
  hD : w.heap[D]? = some (.cells #[.bool true, v1, v2] TN (0, 0))
  r1 : OffRow w TI 1 v1 s.luck.length (s.luck.map intV)
  r2 : OffRow w TM 2 v2 s.late.length (lateV s.late)
  ok : s.ok
  mD : D ∈ F
  m1 : ∀ g, v1.ownBlock = some g → g ∈ F
  m2 : ∀ g, v2.ownBlock = some g → g ∈ F
  lt : ∀ g ∈ F, g < w.heap.size
def Nk (w : World) (F : List Nat) (D : Nat) (s : NSt) : Prop := ∃ v1 v2, NPic w F D v1 v2 s
variable {w w' : World} {F : List Nat} {D : Nat} {v1 v2 : Value} {s : NSt}
theorem NPic.keep (h : NPic w F D v1 v2 s) (hk : ∀ g ∈ F, w'.heap[g]? = w.heap[g]?) (hs : w.heap.size ≤ w'.heap.size) : NPic w' F D v1 v2 s :=
  ⟨(hk D h.mD).trans h.hD, h.r1.keep (fun g hg => hk g (h.m1 g hg)), h.r2.keep (fun g hg => hk g (h.m2 g hg)), h.ok, h.mD, h.m1, h.m2, fun g hg => Nat.lt_of_lt_of_le (h.lt g hg) hs⟩
theorem Nk.keep (h : Nk w F D s) (hk : ∀ g ∈ F, w'.heap[g]? = w.heap[g]?) (hs : w.heap.size ≤ w'.heap.size) : Nk w' F D s := by
  obtain ⟨v1, v2, h⟩ := h
  exact ⟨v1, v2, h.keep hk hs⟩
theorem NPic.below (h : NPic w F D v1 v2 s) (hb : Below w.heap.size w w') : NPic w' F D v1 v2 s := h.keep (fun g hg => hb.block g (h.lt g hg)) hb.size
theorem Nk.below (h : Nk w F D s) (hb : Below w.heap.size w w') : Nk w' F D s := by
  obtain ⟨v1, v2, h⟩ := h
  exact ⟨v1, v2, h.below hb⟩
theorem Nk.lt (h : Nk w F D s) : ∀ g ∈ F, g < w.heap.size := by
  obtain ⟨v1, v2, h⟩ := h
  exact h.lt
theorem Nk.ok (h : Nk w F D s) : s.ok := by
  obtain ⟨v1, v2, h⟩ := h
  exact h.ok
theorem NPic.cells (h : NPic w F D v1 v2 s) : w.cell? ⟨D, 0, none⟩ = some (.bool true) ∧ w.cell? ⟨D, 1, none⟩ = some v1 ∧ w.cell? ⟨D, 2, none⟩ = some v2 :=
  ⟨by rw [cell_of_row _ _ _ _ _ _ h.hD]; rfl, by rw [cell_of_row _ _ _ _ _ _ h.hD]; rfl, by rw [cell_of_row _ _ _ _ _ _ h.hD]; rfl⟩
theorem NPic.free (h : NPic w F D v1 v2 s) (i : Nat) : w.frozen? ⟨D, i, none⟩ = false := by simp [World.frozen?, h.hD]
/-- What a call leaves: the net at s, its blocks among F or new; all but F as it was. -/
structure NMoved (F : List Nat) (D : Nat) (s : NSt) (w w' : World) : Prop where
  net : ∃ F', Nk w' F' D s ∧ ∀ g ∈ F', g ∈ F ∨ w.heap.size ≤ g
  chg : Chg F w w'
theorem NMoved.refl (h : Nk w F D s) : NMoved F D s w w := ⟨⟨F, h, fun _ hg => Or.inl hg⟩, Chg.refl _ _⟩
theorem NMoved.of_below (h : Nk w F D s) (hb : Below w.heap.size w w') : NMoved F D s w w' := ⟨⟨F, h.below hb, fun _ hg => Or.inl hg⟩, Chg.of hb⟩
/-- A block of slices is no block of the struct's. -/
theorem NPic.ne1 (h : NPic w F D v1 v2 s) : v1.ownBlock ≠ some D := h.r1.ne h.hD (by decide)
theorem NPic.ne2 (h : NPic w F D v1 v2 s) : v2.ownBlock ≠ some D := h.r2.ne h.hD (by decide)
theorem NPic.ne12 (h : NPic w F D v1 v2 s) {g : Nat} (hg : v1.ownBlock = some g) : v2.ownBlock ≠ some g := by
  obtain ⟨cur, hc⟩ := h.r1.typed hg
  exact h.r2.ne hc (by decide)
/-- The struct behind a store into its row of luck, and the row itself changed. -/
theorem NPic.set1 (h : NPic w F D v1 v2 s) {u1 : Value} {l : List Int} (hl : ∀ x ∈ l, fits x) {w1 : World} (hg : w.grownBy w1 v1.ownBlock) (hr : OffRow w1 TI 1 u1 l.length (l.map intV)) (hu : ∀ g, u1.ownBlock = some g → v1.ownBlock = some g ∨ w.heap.size ≤ g) :
    NMoved F D ⟨l, s.late⟩ w (w1.setCell ⟨D, 1, none⟩ u1) := by
  have hDlt : D < w.heap.size := h.lt D h.mD
  have hD1 : w1.heap[D]? = some (.cells #[.bool true, v1, v2] TN (0, 0)) := (hg.block D hDlt (fun e => h.ne1 e.symm)).trans h.hD
  have ho : ∀ g, g ≠ D → (w1.setCell ⟨D, 1, none⟩ u1).heap[g]? = w1.heap[g]? := fun g hne => Below.heap_setCell _ _ _ _ hne
  have hsz : (w1.setCell ⟨D, 1, none⟩ u1).heap.size = w1.heap.size := by simp [World.setCell]
  have hF : ∀ g, v1.ownBlock = some g → g ∈ F := h.m1
  refine ⟨⟨F ++ (match u1.ownBlock with | some g => [g] | none => []), ⟨u1, v2, ?_, ?_, ?_, ⟨hl, h.ok.late⟩, by simp [h.mD], ?_, fun g hg2 => by simp [h.m2 g hg2], ?_⟩, ?_⟩, ?_⟩
  · rw [heap_setCell_same w1 D 1 _ TN _ hD1]; rfl
  · exact hr.keep (fun g hg2 => ho g (fun e => by
      obtain ⟨cur, hc⟩ := hr.typed hg2
      rw [e, hD1] at hc
      injection hc with hc; injection hc with _ h2; exact absurd h2 (by decide)))
  · exact h.r2.keep (fun g hg2 => by
      rw [ho g (fun e => h.ne2 (by rw [hg2, e])), hg.block g (h.lt g (h.m2 g hg2)) (fun e => h.ne12 e.symm hg2)])
  · intro g hg2; rw [hg2]; simp
  · intro g hg2
    rw [hsz]
    rcases List.mem_append.1 hg2 with hg2 | hg2
    · exact Nat.lt_of_lt_of_le (h.lt g hg2) hg.size
    · cases hq : u1.ownBlock with
      | none => rw [hq] at hg2; cases hg2
      | some g2 => rw [hq] at hg2; simp at hg2; subst hg2; exact hr.lt g hq
  · intro g hg2
    rcases List.mem_append.1 hg2 with hg2 | hg2
    · exact Or.inl hg2
    · cases hq : u1.ownBlock with
      | none => rw [hq] at hg2; cases hg2
      | some g2 =>
        rw [hq] at hg2; simp at hg2; subst hg2
        rcases hu g hq with h2 | h2
        · exact Or.inl (h.m1 g h2)
        · exact Or.inr h2
  · refine ⟨hg.os, hg.tape, hg.output, by rw [hsz]; exact hg.size, fun k hk hn => ?_⟩
    rw [ho k (fun e => hn (by rw [e]; exact h.mD)), hg.block k hk (fun e => hn (h.m1 k e.symm))]
theorem NPic.set2 (h : NPic w F D v1 v2 s) {u2 : Value} {l : List Msg} (hl : ∀ m ∈ l, fits m.to ∧ ∀ x ∈ m.b, x < 256) {w1 : World} (hg : w.grownBy w1 v2.ownBlock) (hr : OffRow w1 TM 2 u2 l.length (lateV l)) (hu : ∀ g, u2.ownBlock = some g → v2.ownBlock = some g ∨ w.heap.size ≤ g) :
    NMoved F D ⟨s.luck, l⟩ w (w1.setCell ⟨D, 2, none⟩ u2) := by
  have hDlt : D < w.heap.size := h.lt D h.mD
  have hD1 : w1.heap[D]? = some (.cells #[.bool true, v1, v2] TN (0, 0)) := (hg.block D hDlt (fun e => h.ne2 e.symm)).trans h.hD
  have ho : ∀ g, g ≠ D → (w1.setCell ⟨D, 2, none⟩ u2).heap[g]? = w1.heap[g]? := fun g hne => Below.heap_setCell _ _ _ _ hne
  have hsz : (w1.setCell ⟨D, 2, none⟩ u2).heap.size = w1.heap.size := by simp [World.setCell]
  refine ⟨⟨F ++ (match u2.ownBlock with | some g => [g] | none => []), ⟨v1, u2, ?_, ?_, ?_, ⟨h.ok.luck, hl⟩, by simp [h.mD], fun g hg2 => by simp [h.m1 g hg2], ?_, ?_⟩, ?_⟩, ?_⟩
  · rw [heap_setCell_same w1 D 2 _ TN _ hD1]; rfl
  · exact h.r1.keep (fun g hg2 => by
      rw [ho g (fun e => h.ne1 (by rw [hg2, e])), hg.block g (h.lt g (h.m1 g hg2)) (fun e => h.ne12 hg2 e.symm)])
  · exact hr.keep (fun g hg2 => ho g (fun e => by
      obtain ⟨cur, hc⟩ := hr.typed hg2
      rw [e, hD1] at hc
      injection hc with hc; injection hc with _ h2; exact absurd h2 (by decide)))
  · intro g hg2; rw [hg2]; simp
  · intro g hg2
    rw [hsz]
    rcases List.mem_append.1 hg2 with hg2 | hg2
    · exact Nat.lt_of_lt_of_le (h.lt g hg2) hg.size
    · cases hq : u2.ownBlock with
      | none => rw [hq] at hg2; cases hg2
      | some g2 => rw [hq] at hg2; simp at hg2; subst hg2; exact hr.lt g hq
  · intro g hg2
    rcases List.mem_append.1 hg2 with hg2 | hg2
    · exact Or.inl hg2
    · cases hq : u2.ownBlock with
      | none => rw [hq] at hg2; cases hg2
      | some g2 =>
        rw [hq] at hg2; simp at hg2; subst hg2
        rcases hu g hq with h2 | h2
        · exact Or.inl (h.m2 g h2)
        · exact Or.inr h2
  · refine ⟨hg.os, hg.tape, hg.output, by rw [hsz]; exact hg.size, fun k hk hn => ?_⟩
    rw [ho k (fun e => hn (by rw [e]; exact h.mD)), hg.block k hk (fun e => hn (h.m2 k e.symm))]
/-- A call that made boxes first, and fills one of them at its end. -/
theorem NMoved.boxed {w0 w1 : World} (hb : Below w.heap.size w w0) (h : NMoved F D s w0 w1) (hF : ∀ g ∈ F, g < w.heap.size) {R : Nat} (h1 : w.heap.size ≤ R) (h2 : R < w0.heap.size) (x y : Value) : NMoved F D s w ((w1.setCell ⟨R, 0, none⟩ x).setCell ⟨R, 1, none⟩ y) := by
  have hk : ∀ k, k ≠ R → ((w1.setCell ⟨R, 0, none⟩ x).setCell ⟨R, 1, none⟩ y).heap[k]? = w1.heap[k]? := fun k hne => by
    rw [Below.heap_setCell _ _ _ _ hne, Below.heap_setCell _ _ _ _ hne]
  have hsz : ((w1.setCell ⟨R, 0, none⟩ x).setCell ⟨R, 1, none⟩ y).heap.size = w1.heap.size := by simp [World.setCell]
  obtain ⟨F', h3, h4⟩ := h.net
  refine ⟨⟨F', h3.keep (fun g hg => hk g (fun e => ?_)) (by rw [hsz]; exact Nat.le_refl _), fun g hg => ?_⟩, ⟨h.chg.os.trans hb.os, h.chg.tape.trans hb.tape, h.chg.output.trans hb.output, by rw [hsz]; exact Nat.le_trans hb.size h.chg.size, fun k hk1 hk2 => ?_⟩⟩
  · rcases h4 g hg with h5 | h5
    · have := hF g h5; omega
    · omega
  · rcases h4 g hg with h5 | h5
    · exact Or.inl h5
    · exact Or.inr (Nat.le_trans hb.size h5)
  · rw [hk k (by omega), h.chg.block k (Nat.lt_of_lt_of_le hk1 hb.size) hk2, hb.block k hk1]
theorem NMoved.later {w1 w2 : World} (h : NMoved F D s w w1) (hb : Below w1.heap.size w1 w2) : NMoved F D s w w2 := by
  obtain ⟨F', h3, h4⟩ := h.net
  exact ⟨⟨F', h3.below hb, h4⟩, h.chg.trans (G := []) (Chg.of hb) (fun k hk => by cases hk)⟩
/-- One call behind the other. -/
theorem NMoved.comp {s1 s2 : NSt} {F1 : List Nat} {w1 w2 : World} (h2 : NMoved F1 D s2 w1 w2) (h1 : NMoved F D s1 w w1) (hF : ∀ g ∈ F1, g ∈ F ∨ w.heap.size ≤ g) : NMoved F D s2 w w2 := by
  obtain ⟨F', h3, h4⟩ := h2.net
  refine ⟨⟨F', h3, fun g hg => ?_⟩, h1.chg.trans h2.chg hF⟩
  rcases h4 g hg with h5 | h5
  · exact hF g h5
  · exact Or.inr (Nat.le_trans h1.chg.size h5)
theorem NMoved.after {w0 w1 : World} (hb : Below w.heap.size w w0) (h : NMoved F D s w0 w1) : NMoved F D s w w1 := by
  obtain ⟨F', h3, h4⟩ := h.net
  refine ⟨⟨F', h3, fun g hg => (h4 g hg).imp id (fun h5 => Nat.le_trans hb.size h5)⟩, ⟨h.chg.os.trans hb.os, h.chg.tape.trans hb.tape, h.chg.output.trans hb.output, Nat.le_trans hb.size h.chg.size, fun k hk1 hk2 => by rw [h.chg.block k (Nat.lt_of_lt_of_le hk1 hb.size) hk2, hb.block k hk1]⟩⟩
/-- 'append(v, x...)' on such a slice, in a walk. -/
theorem app_off {P : Program} {w : World} {ops : Array Oper} {rest : List Oper} {o : Oper} {a : Act} {Q : Exit → Act → World → Prop} (hgd : o.guard = none) (x y : Operand) (t : TypeId) (ho : o.op = .call { callee := .builtin .append, args := #[x, y], argTypes := #[t, t] })
    {e : TypeId} {size n : Nat} {v : Value} {xs : List Value} (i : TypeInfo) (z : Value) (bytes : Nat) (ht : P.underlying t = some (.slice e)) (hi : P.info? e = some i) (hz : i.zero = some z) (hsize : i.size = size) (hby : i.bytes = bytes) (hzs : z.cells.size = size) (hsz : 0 < size)
    (h : OffRow w e size v n xs) (ad : Option Addr) (m c : Nat) (news : List Value) (hx : a.eval x = v) (hy : a.eval y = .slice ad m c) (hl : news.length = m * size) (hsrc : Src w ad m news) (h1 : ∀ u ∈ news, u.oneCell' = true) (h63 : n + m ≤ maxLen) (hbytes : (n + m) * bytes ≤ 140737488355328)
    (hK : ∀ v' w', OffRow w' e size v' (n + m) (xs ++ news) → w.grownBy w' v.ownBlock → (∀ g, v'.ownBlock = some g → v.ownBlock = some g ∨ w.heap.size ≤ g) → wpList P ops Q rest (a.put o.dst v') w') : wpList P ops Q (o :: rest) a w := by
  obtain ⟨v', w', hr, h2, h3, h4⟩ := run_app_off (P := P) t o.type i z bytes ht hi hz hsize hby hzs hsz h ad m c news hl hsrc h1 h63 hbytes
  refine wpList_plain hgd fun K hK' => ?_
  unfold Oper.wp
  simp [execOp, ho, resolve, invoke, builtin, hx, hy, hr, Result.andThen]
  exact hK' _ _ (hK v' w' h2 h3 h4)
end Go.Proofs.YtgbjlkaaniaaaaaDoor
