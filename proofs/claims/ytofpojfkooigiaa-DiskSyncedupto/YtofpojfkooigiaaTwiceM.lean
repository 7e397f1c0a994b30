/- Any writes and syncs on a disk with power and no fuse; what was read, kept in two slices. -/
import Derived.Test.YtofpojfkooigiaaDiskG
import Derived.Test.YtofpojfkooigiaaKnows3
namespace Go.Proofs.Ytofpojfkooigiaa
open Go.RowKit
variable {s : DSt} {m : Nat}

/-- Six blocks, power, no fuse, at most m versions each. -/
structure Fr (s : DSt) (m : Nat) : Prop where
  free : s.free
  len : s.bs.length = 6
  up : s.upTo m
theorem fr_start : Fr (newD 6) 0 := ⟨⟨rfl, rfl⟩, rfl, newD_upTo 6⟩
theorem fr_write (h : Fr s m) (k : Nat) (hk : k < 6) (l : List Nat) (hl : l.length = 256) : (writeD s k l).1 = 0 ∧ Fr (writeD s k l).2 (m + 1) := by
  have hu := writeD_upTo h.up k l
  have e := writeD_free h.free (i := k) (by rw [h.len]; exact hk) hl
  rw [e] at hu ⊢
  exact ⟨rfl, ⟨h.free.on, h.free.none⟩, by rw [setB_len]; exact h.len, hu⟩
theorem fr_sync (h : Fr s m) : (syncD s).1 = 0 ∧ Fr (syncD s).2 (m + 1) := by
  have hu := (syncD_upTo h.up).mono (Nat.le_succ m)
  have e := syncD_free h.free
  rw [e] at hu ⊢
  exact ⟨rfl, ⟨h.free.on, h.free.none⟩, by simp; exact h.len, hu⟩
variable {N : Nat} {w w' : World} {v : Value}
theorem Try.infoS : (Try.prog.info? 32).map (fun i => (i.zero, i.size, i.bytes)) = some (some (.slice none 0 0), 1, 24) := by kernel_rfl
theorem Try.infoI : (Try.prog.info? 3).map (fun i => (i.zero, i.size, i.bytes)) = some (some (.int .i64 0), 1, 8) := by kernel_rfl
/-- v is a slice of the texts that the first m blocks of s are read as. -/
def Was (N : Nat) (s : DSt) (w : World) (v : Value) (m : Nat) : Prop := ∃ ws, w.ownsRow N 32 1 v m ws ∧ ∀ j, j < m → ∃ u, ws[j]? = some u ∧ Own w N u (readD s (j : Nat)).1
def errsV (s : DSt) (m : Nat) : List Value := (List.range m).map (fun j : Nat => Value.int .i64 (readD s (j : Nat)).2)
def Errs (N : Nat) (s : DSt) (w : World) (v : Value) (m : Nat) : Prop := w.ownsRow N 3 1 v m (errsV s m)
theorem ownsRow_later {e n : Nat} {xs : List Value} (h : w.ownsRow N e 1 v n xs) (hb : Below w.heap.size w w') : w'.ownsRow N e 1 v n xs := by
  refine ⟨h.1, ?_⟩
  rcases h.2 with h0 | ⟨g, cap, cur, e1, h1, h2, h3⟩
  · exact Or.inl h0
  · exact Or.inr ⟨g, cap, cur, e1, h1, (hb.block g (Array.getElem?_eq_some_iff.1 h2).1).trans h2, h3⟩
theorem ownsRow_alien {e n : Nat} {xs : List Value} (h : w.ownsRow N e 1 v n xs) {row : Option Nat} (hg : w.grownBy w' row) (ha : ∀ g, row = some g → ∃ c t fr, w.heap[g]? = some (.cells c t fr) ∧ t ≠ e) : w'.ownsRow N e 1 v n xs := by
  refine ⟨h.1, ?_⟩
  rcases h.2 with h0 | ⟨g, cap, cur, e1, h1, h2, h3⟩
  · exact Or.inl h0
  · refine Or.inr ⟨g, cap, cur, e1, h1, ?_, h3⟩
    rw [hg.block g (Array.getElem?_eq_some_iff.1 h2).1 (fun e2 => ?_)]
    · exact h2
    · obtain ⟨c, t, fr, r1, r2⟩ := ha g e2.symm
      rw [h2] at r1
      injection r1 with r1
      injection r1 with r3 r4
      exact r2 r4.symm
theorem Was.later (h : Was N s w v m) (hb : Below w.heap.size w w') : Was N s w' v m := by
  obtain ⟨ws, h1, h2⟩ := h
  exact ⟨ws, ownsRow_later h1 hb, fun j hj => by obtain ⟨u, e, o⟩ := h2 j hj; exact ⟨u, e, o.later hb⟩⟩
theorem Was.alien (h : Was N s w v m) {row : Option Nat} (hg : w.grownBy w' row) (ha : ∀ g, row = some g → ∃ c t fr, w.heap[g]? = some (.cells c t fr) ∧ t ≠ 32 ∧ t ≠ 5) : Was N s w' v m := by
  obtain ⟨ws, h1, h2⟩ := h
  refine ⟨ws, ownsRow_alien h1 hg (fun g e => ?_), fun j hj => ?_⟩
  · obtain ⟨c, t, fr, r1, r2, r3⟩ := ha g e
    exact ⟨c, t, fr, r1, r2⟩
  · obtain ⟨u, e, o⟩ := h2 j hj
    exact ⟨u, e, o.alien hg (fun g e => by obtain ⟨c, t, fr, r1, r2, r3⟩ := ha g e; exact ⟨c, t, fr, r1, r3⟩)⟩
theorem Errs.later (h : Errs N s w v m) (hb : Below w.heap.size w w') : Errs N s w' v m := ownsRow_later h hb
theorem errsV_succ (s : DSt) (m : Nat) : errsV s (m + 1) = errsV s m ++ [Value.int .i64 (readD s (m : Nat)).2] := by
  unfold errsV
  rw [List.range_succ, List.map_append]
  rfl
/-- A text more. -/
theorem Was.snoc {ws : List Value} {v' u : Value} (h2 : ∀ j, j < m → ∃ u, ws[j]? = some u ∧ Own w N u (readD s (j : Nat)).1) (hu : Own w N u (readD s (m : Nat)).1) (hl : ws.length = m) (hr : w'.ownsRow N 32 1 v' (m + 1) (ws ++ [u])) {row : Option Nat} (hg : w.grownBy w' row)
    (ha : ∀ g, row = some g → ∃ c t fr, w.heap[g]? = some (.cells c t fr) ∧ t ≠ 5) : Was N s w' v' (m + 1) := by
  refine ⟨_, hr, fun j hj => ?_⟩
  by_cases e : j < m
  · obtain ⟨x, e1, o⟩ := h2 j e
    exact ⟨x, by rw [List.getElem?_append_left (by omega)]; exact e1, o.alien hg ha⟩
  · obtain rfl : j = m := by omega
    exact ⟨u, by rw [List.getElem?_append_right (by omega), hl]; simp, hu.alien hg ha⟩
theorem one_cell (w : World) (u : Value) (t : TypeId) : ∀ j x, [u][j]? = some x → (w.alloc (.cells #[u] t)).cell? ((⟨w.heap.size, 0, none⟩ : Addr).add j) = some x := fun j x hx => by
  cases j with
  | zero =>
    rw [addr_add, cell_of_row _ _ _ _ _ _ (heap_alloc_last w _)]
    simpa using hx
  | succ j => simp at hx
/-- 'was = append(was, u)'. -/
theorem app_was {p : Option Addr} {n c : Nat} {ops : Array Oper} {rest : List Oper} {o : Oper} {a : Act} {Q : Exit → Act → World → Prop} (hgd : o.guard = none) (x y : Operand) (ho : o.op = .call { callee := .builtin .append, args := #[x, y], argTypes := #[49, 49] })
    (w0 : World) (hw : w = w0.alloc (.cells #[.slice p n c] 32)) (hN : N ≤ w0.heap.size) (hx : a.eval x = v) (hy : a.eval y = .slice (some ⟨w0.heap.size, 0, none⟩) 1 1) (h : Was N s w0 v m) (hu : Own w0 N (.slice p n c) (readD s (m : Nat)).1) (hm : m ≤ 6)
    (hK : ∀ v' w', Was N s w' v' (m + 1) → w.grownBy w' v.ownBlock → (∀ g, v.ownBlock = some g → N ≤ g ∧ ∃ c, w.heap[g]? = some (.cells c 32 (0, 0))) → wpList Try.prog ops Q rest (a.put o.dst v') w') : wpList Try.prog ops Q (o :: rest) a w := by
  obtain ⟨i0, hi, hz0, hz1, hz2⟩ := info_parts Try.infoS
  have hb : Below w0.heap.size w0 w := by rw [hw]; exact (Below.refl _ w0).alloc (Nat.le_refl _) _
  obtain ⟨ws, h1, h2⟩ := h.later hb
  have hl : ws.length = m := by have := h1.1; omega
  refine wpList_append_own w hgd x y 49 ho N 32 i0 (.slice none 0 0) 1 24 Try.underlying49 hi hz0 hz1 hz2 rfl (by decide) v m ws hx h1 ⟨w0.heap.size, 0, none⟩ 1 1 [.slice p n c] hy rfl (by rw [hw]; exact one_cell w0 _ _) (fun u hu => by simp at hu; rw [hu]; rfl) (by unfold maxLen; omega) (by omega) (Nat.le_trans hN hb.size) ?_
  intro v' w' r1 r2 _
  have hc : ∀ g, v.ownBlock = some g → N ≤ g ∧ ∃ c, w.heap[g]? = some (.cells c 32 (0, 0)) := fun g hg => by
    obtain ⟨c, q1, q2⟩ := ownBlock_cells h1 hg
    exact ⟨q2, c, q1⟩
  exact hK v' w' (Was.snoc h2 (hu.later hb) hl r1 r2 (fun g hg => by obtain ⟨_, c, q⟩ := hc g hg; exact ⟨c, _, _, q, by decide⟩)) r2 hc
/-- 'errs = append(errs, e)'. -/
theorem app_errs {ops : Array Oper} {rest : List Oper} {o : Oper} {a : Act} {Q : Exit → Act → World → Prop} (hgd : o.guard = none) (x y : Operand) (ho : o.op = .call { callee := .builtin .append, args := #[x, y], argTypes := #[33, 33] })
    (w0 : World) (hw : w = w0.alloc (.cells #[.int .i64 (readD s (m : Nat)).2] 3)) (hN : N ≤ w0.heap.size) (hx : a.eval x = v) (hy : a.eval y = .slice (some ⟨w0.heap.size, 0, none⟩) 1 1) (h : Errs N s w0 v m) (hm : m ≤ 6)
    (hK : ∀ v' w', Errs N s w' v' (m + 1) → w.grownBy w' v.ownBlock → (∀ g, v.ownBlock = some g → N ≤ g ∧ ∃ c, w.heap[g]? = some (.cells c 3 (0, 0))) → wpList Try.prog ops Q rest (a.put o.dst v') w') : wpList Try.prog ops Q (o :: rest) a w := by
  obtain ⟨i0, hi, hz0, hz1, hz2⟩ := info_parts Try.infoI
  have hb : Below w0.heap.size w0 w := by rw [hw]; exact (Below.refl _ w0).alloc (Nat.le_refl _) _
  have h1 : w.ownsRow N 3 1 v m (errsV s m) := h.later hb
  refine wpList_append_own w hgd x y 33 ho N 3 i0 (.int .i64 0) 1 8 Try.underlying33 hi hz0 hz1 hz2 rfl (by decide) v m _ hx h1 ⟨w0.heap.size, 0, none⟩ 1 1 [.int .i64 (readD s (m : Nat)).2] hy rfl (by rw [hw]; exact one_cell w0 _ _) (fun u hu => by simp at hu; rw [hu]; rfl) (by unfold maxLen; omega) (by omega) (Nat.le_trans hN hb.size) ?_
  intro v' w' r1 r2 _
  refine hK v' w' (by unfold Errs; rw [errsV_succ]; exact r1) r2 (fun g hg => ?_)
  obtain ⟨c, q1, q2⟩ := ownBlock_cells h1 hg
  exact ⟨q2, c, q1⟩
theorem ownsRow_chg {e n : Nat} {xs : List Value} {F : List Nat} (h : w.ownsRow N e 1 v n xs) (hc : Chg F w w') (hF : ∀ g ∈ F, g < N) : w'.ownsRow N e 1 v n xs := by
  refine ⟨h.1, ?_⟩
  rcases h.2 with h0 | ⟨g, cap, cur, e1, h1, h2, h3⟩
  · exact Or.inl h0
  · exact Or.inr ⟨g, cap, cur, e1, h1, (hc.block g (Array.getElem?_eq_some_iff.1 h2).1 (fun hm => absurd (hF g hm) (by omega))).trans h2, h3⟩
theorem Was.chg {F : List Nat} (h : Was N s w v m) (hc : Chg F w w') (hF : ∀ g ∈ F, g < N) : Was N s w' v m := by
  obtain ⟨ws, h1, h2⟩ := h
  exact ⟨ws, ownsRow_chg h1 hc hF, fun j hj => by obtain ⟨u, e, o⟩ := h2 j hj; exact ⟨u, e, o.1, ownsRow_chg o.2 hc hF⟩⟩
theorem Errs.chg {F : List Nat} (h : Errs N s w v m) (hc : Chg F w w') (hF : ∀ g ∈ F, g < N) : Errs N s w' v m := ownsRow_chg h hc hF
theorem Was.nil (N : Nat) (s : DSt) (w : World) : Was N s w (.slice none 0 0) 0 := ⟨[], World.ownsRow_nil _ _ _ _, fun j hj => absurd hj (by omega)⟩
theorem Errs.nil (N : Nat) (s : DSt) (w : World) : Errs N s w (.slice none 0 0) 0 := World.ownsRow_nil _ _ _ _
theorem Dk.alien {F : List Nat} {D : Nat} (h : Dk w F D s) {row : Option Nat} (hg : w.grownBy w' row) (ha : ∀ g, row = some g → Alien w g) : Dk w' F D s := by
  obtain ⟨B, M, Dm, V, C, h⟩ := h
  exact ⟨B, M, Dm, V, C, h.alien hg ha⟩
theorem Dk.read {F : List Nat} {D : Nat} (h : Dk w F D s) (i : Int) :
    Calls Try.prog 16 #[.pointer (some ⟨D, 0, none⟩), .int .i64 i] w fun x w' => ∃ v, x = .returned (.tuple #[v, .int .i64 (readD s i).2]) ∧ Own w' w.heap.size v (readD s i).1 ∧ Dk w' F D s ∧ Below w.heap.size w w' := by
  have h0 := h
  obtain ⟨B, M, Dm, V, C, h⟩ := h
  refine (read_pic h i).mono ?_
  rintro x w' ⟨v, rfl, ho, hb⟩
  exact ⟨v, rfl, ho, h0.below hb, hb⟩
/-- A crash whose choices lie below N, where all that the disk has lies from N on. -/
theorem Dk.crash {F : List Nat} {D : Nat} (h : Dk w F D s) (hF : ∀ g ∈ F, N ≤ g) (ad : Option Addr) (len cap : Nat) (cs : List Int) (ha : IArg w cs ad len) (hn : ∀ b off, ad = some ⟨b, off, none⟩ → len ≠ 0 → b < N) :
    Calls Try.prog 15 #[.pointer (some ⟨D, 0, none⟩), .slice ad len cap] w fun x w' => x = .returned (.tuple #[]) ∧ Moved Dk F D (crashD s cs) w w' := by
  obtain ⟨B, M, Dm, V, C, h⟩ := h
  refine crash_pic h ad len cap cs ha (fun b off e e2 hm => ?_)
  have := hF b hm
  have := hn b off e e2
  omega
/-- The six texts, as they are loaded. -/
theorem Was.form (h : Was N s w v 6) : ∃ g cap, v = .slice (some ⟨g, 0, none⟩) 6 cap ∧ ∀ W, Below w.heap.size w W → ∀ j, j < 6 → ∃ p c, W.cell? ⟨g, j, none⟩ = some (.slice p (readD s (j : Nat)).1.length c) ∧ (convert 32 9 (.slice p (readD s (j : Nat)).1.length c)).run Try.prog W = .ok (.string (bstr (readD s (j : Nat)).1)) W := by
  obtain ⟨ws, h1, h2⟩ := h
  rcases h1.2 with ⟨_, h0⟩ | ⟨g, cap, cur, e1, q1, q2, q3, q4, q5, q6⟩
  · omega
  · refine ⟨g, cap, e1, fun W hW j hj => ?_⟩
    obtain ⟨u, e, o⟩ := h2 j hj
    obtain ⟨p, c, hu, hp, -⟩ := (o.later hW).slice _ rfl
    refine ⟨p, c, ?_, conv_any hp.2.2 _ c hp.1⟩
    have hb : W.heap[g]? = some (.cells cur 32 (0, 0)) := (hW.block g (Array.getElem?_eq_some_iff.1 q2).1).trans q2
    rw [cell_of_row _ _ _ _ _ _ hb, ← Array.getElem?_toList, ← hu, ← e, ← q6, List.getElem?_take, if_pos (by omega)]
theorem Errs.form (h : Errs N s w v 6) : ∃ g cap, v = .slice (some ⟨g, 0, none⟩) 6 cap ∧ ∀ W, Below w.heap.size w W → ∀ j, j < 6 → W.cell? ⟨g, j, none⟩ = some (.int .i64 (readD s (j : Nat)).2) := by
  rcases h.2 with ⟨_, h0⟩ | ⟨g, cap, cur, e1, q1, q2, q3, q4, q5, q6⟩
  · omega
  · refine ⟨g, cap, e1, fun W hW j hj => ?_⟩
    have hb : W.heap[g]? = some (.cells cur 3 (0, 0)) := (hW.block g (Array.getElem?_eq_some_iff.1 q2).1).trans q2
    have e : (cur.toList.take (6 * 1))[j]? = (errsV s 6)[j]? := by rw [q6]
    rw [List.getElem?_take, if_pos (by omega)] at e
    rw [cell_of_row _ _ _ _ _ _ hb, ← Array.getElem?_toList, e]
    unfold errsV
    rw [List.getElem?_map, List.getElem?_range hj]
    rfl
end Go.Proofs.Ytofpojfkooigiaa
