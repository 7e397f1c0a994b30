/- What was written and synced, and not written since: the disk's side in plain mathematics; the three tables of DiskSynced in memory. -/
import Derived.Test.YtofpojfkooigiaaTwiceM
namespace Go.Proofs.Ytofpojfkooigiaa
open Go.RowKit

/-- What the tables say of the disk: last is what is read now; what is not dirty is durable as sure says. -/
structure Sy (s : DSt) (m : Nat) (su la : Nat → Nat) (d : Nat → Bool) : Prop where
  fr : Fr s m
  now : ∀ j, j < 6 → (s.at j).now = some (fullN (la j))
  sure : ∀ j, j < 6 → d j = false → (s.at j).vs = [] ∧ su j = la j
variable {s : DSt} {m : Nat} {su la : Nat → Nat} {d : Nat → Bool}
theorem sy_start : Sy (newD 6) 0 (fun _ => 0) (fun _ => 0) (fun _ => false) :=
  ⟨fr_start, fun j _ => by rw [new_at]; rfl, fun j _ _ => ⟨by rw [new_at]; rfl, rfl⟩⟩
theorem sy_sync (h : Sy s m su la d) : (syncD s).1 = 0 ∧ Sy (syncD s).2 (m + 1) la la (fun _ => false) := by
  refine ⟨(fr_sync h.fr).1, (fr_sync h.fr).2, fun j hj => ?_, fun j hj _ => ⟨?_, rfl⟩⟩
  · rw [syncD_free h.fr.free, sync_at, sync_now]; exact h.now j hj
  · rw [syncD_free h.fr.free, sync_at, sync_vs]
def updF {α : Type} (f : Nat → α) (i : Nat) (x : α) : Nat → α := fun j => if j = i then x else f j
theorem sy_write (h : Sy s m su la d) (k : Nat) (hk : k < 6) (c : Nat) : (writeD s k (fullN c)).1 = 0 ∧ Sy (writeD s k (fullN c)).2 (m + 1) su (updF la k c) (updF d k true) := by
  have hw := fr_write h.fr k hk (fullN c) (fullN_len c)
  have hi : k < s.bs.length := by rw [h.fr.len]; exact hk
  have e := writeD_free h.fr.free hi (fullN_len c)
  refine ⟨hw.1, hw.2, fun j hj => ?_, fun j hj hd => ?_⟩
  · rw [e]
    show ((s.setB k ((s.at k).add (fullN c))).at j).now = _
    rw [setB_at _ _ _ _ hi]
    unfold updF
    by_cases ej : j = k
    · rw [if_pos ej, if_pos ej, add_now]
    · rw [if_neg ej, if_neg ej]; exact h.now j hj
  · unfold updF at hd ⊢
    by_cases ej : j = k
    · rw [if_pos ej] at hd; cases hd
    · rw [if_neg ej] at hd
      rw [if_neg ej, e]
      show ((s.setB k ((s.at k).add (fullN c))).at j).vs = [] ∧ _
      rw [setB_at _ _ _ _ hi, if_neg ej]
      exact h.sure j hj hd
/-- P306, P307: behind a crash. -/
theorem sy_crash (h : Sy s m su la d) (cs : List Int) (j : Nat) (hj : j < 6) (hd : d j = false) : readD (crashD s cs) (j : Nat) = (fullN (su j), 0) := by
  obtain ⟨h1, h2⟩ := h.sure j hj hd
  have h3 := crashBs_at s.bs cs j h1
  refine readD_free rfl (by show j < (crashBs s.bs cs).length; rw [crashBs_length, h.fr.len]; exact hj) ?_
  show ((crashBs s.bs cs).getD j b0).now = _
  rw [h3, h2]
  exact h.now j hj
theorem sy_len (h : Sy s m su la d) : s.upTo m := h.fr.up

/-! ### The tables in memory -/
def tv (t : Nat) : Value := .slice (some ⟨t, 0, none⟩) 256 256
def txtO (c : Nat) : Obj := .cells (verV (fullN c)).toArray 5 (0, 0)
/-- Block g is a table of texts: text j lies in block t j, full of c j, as far as m; none of them is the disk's. -/
structure Tab (w : World) (F : List Nat) (g m : Nat) (t c : Nat → Nat) : Prop where
  blk : ∃ cur : Array Value, w.heap[g]? = some (.cells cur 32 (0, 0)) ∧ cur.size = 6 ∧ ∀ j, j < m → cur[j]? = some (tv (t j))
  out : g ∉ F
  txt : ∀ j, j < m → t j ∉ F ∧ c j < 256 ∧ w.heap[t j]? = some (txtO (c j))
structure Bools (w : World) (F : List Nat) (g : Nat) (d : Nat → Bool) : Prop where
  blk : ∃ cur : Array Value, w.heap[g]? = some (.cells cur 4 (0, 0)) ∧ cur.size = 6 ∧ ∀ j, j < 6 → cur[j]? = some (.bool (d j))
  out : g ∉ F
variable {w w' : World} {F F' : List Nat} {g : Nat} {t c : Nat → Nat}
theorem some_lt {o : Obj} (h : w.heap[g]? = some o) : g < w.heap.size := (Array.getElem?_eq_some_iff.1 h).1
theorem Tab.chg (h : Tab w F g m t c) (hc : Chg F w w') (hF : ∀ k ∈ F', k ∈ F ∨ w.heap.size ≤ k) : Tab w' F' g m t c := by
  obtain ⟨cur, h1, h2, h3⟩ := h.blk
  have ho : ∀ k, k < w.heap.size → k ∉ F → k ∉ F' := fun k hk hn hm => (hF k hm).elim hn (by omega)
  refine ⟨⟨cur, (hc.block g (some_lt h1) h.out).trans h1, h2, h3⟩, ho g (some_lt h1) h.out, fun j hj => ?_⟩
  obtain ⟨q1, q2, q3⟩ := h.txt j hj
  exact ⟨ho _ (some_lt q3) q1, q2, (hc.block _ (some_lt q3) q1).trans q3⟩
theorem Bools.chg (h : Bools w F g d) (hc : Chg F w w') (hF : ∀ k ∈ F', k ∈ F ∨ w.heap.size ≤ k) : Bools w' F' g d := by
  obtain ⟨cur, h1, h2, h3⟩ := h.blk
  exact ⟨⟨cur, (hc.block g (some_lt h1) h.out).trans h1, h2, h3⟩, fun hm => (hF g hm).elim h.out (by have := some_lt h1; omega)⟩
theorem Tab.later (h : Tab w F g m t c) (hb : Below w.heap.size w w') : Tab w' F g m t c := h.chg (Chg.of hb) (fun _ hk => Or.inl hk)
theorem Bools.later (h : Bools w F g d) (hb : Below w.heap.size w w') : Bools w' F g d := h.chg (Chg.of hb) (fun _ hk => Or.inl hk)
theorem Tab.cell (h : Tab w F g m t c) {j : Nat} (hj : j < m) : w.cell? ⟨g, j, none⟩ = some (tv (t j)) := by
  obtain ⟨cur, h1, h2, h3⟩ := h.blk
  rw [cell_of_row _ _ _ _ _ _ h1]; exact h3 j hj
theorem Tab.free (h : Tab w F g m t c) (j : Nat) : w.frozen? ⟨g, j, none⟩ = false := by
  obtain ⟨cur, h1, -⟩ := h.blk
  simp [World.frozen?, h1]
theorem Tab.any (h : Tab w F g m t c) {j : Nat} (hj : j < 6) : ∃ u, w.cell? ⟨g, j, none⟩ = some u := by
  obtain ⟨cur, h1, h2, h3⟩ := h.blk
  rw [cell_of_row _ _ _ _ _ _ h1]
  exact ⟨cur[j]'(by omega), Array.getElem?_eq_getElem (by omega)⟩
theorem Bools.cell (h : Bools w F g d) {j : Nat} (hj : j < 6) : w.cell? ⟨g, j, none⟩ = some (.bool (d j)) := by
  obtain ⟨cur, h1, h2, h3⟩ := h.blk
  rw [cell_of_row _ _ _ _ _ _ h1]; exact h3 j hj
theorem Bools.free (h : Bools w F g d) (j : Nat) : w.frozen? ⟨g, j, none⟩ = false := by
  obtain ⟨cur, h1, -⟩ := h.blk
  simp [World.frozen?, h1]
/-- A cell of another block is written: of unlike type, or another number. -/
theorem Tab.other (h : Tab w F g m t c) {k : Nat} (i : Nat) (u : Value) (hk : ∃ cur e fr, w.heap[k]? = some (.cells cur e fr) ∧ e ≠ 5 ∧ (e ≠ 32 ∨ k ≠ g)) : Tab (w.setCell ⟨k, i, none⟩ u) F g m t c := by
  obtain ⟨kc, e, fr, k1, k2, k3⟩ := hk
  have hg : g ≠ k := fun e2 => by
    rcases k3 with k3 | k3
    · obtain ⟨cur, h1, -⟩ := h.blk
      rw [e2, k1] at h1
      injection h1 with h1
      injection h1 with _ h1
      exact k3 h1
    · exact k3 e2.symm
  obtain ⟨cur, h1, h2, h3⟩ := h.blk
  refine ⟨⟨cur, (heap_setCell_other w ⟨k, i, none⟩ g u hg).trans h1, h2, h3⟩, h.out, fun j hj => ?_⟩
  obtain ⟨q1, q2, q3⟩ := h.txt j hj
  refine ⟨q1, q2, (heap_setCell_other w ⟨k, i, none⟩ (t j) u (fun e2 => ?_)).trans q3⟩
  simp only at e2
  rw [e2, k1] at q3
  injection q3 with q3
  injection q3 with _ q3
  exact k2 q3
theorem Tab.typed (h : Tab w F g m t c) : ∃ cur e fr, w.heap[g]? = some (.cells cur e fr) ∧ e = 32 := by
  obtain ⟨cur, h1, -⟩ := h.blk
  exact ⟨cur, _, _, h1, rfl⟩
theorem Bools.typed (h : Bools w F g d) : ∃ cur, w.heap[g]? = some (.cells cur 4 (0, 0)) := by
  obtain ⟨cur, h1, -⟩ := h.blk
  exact ⟨cur, h1⟩
/-- Text j is another one. -/
theorem Tab.set (h : Tab w F g m t c) {j m' x y : Nat} (hj : j < 6) (hm : m' ≤ m ∨ (m' = m + 1 ∧ j = m)) (hx : x ∉ F) (hy : y < 256) (hb : w.heap[x]? = some (txtO y)) : Tab (w.setCell ⟨g, j, none⟩ (tv x)) F g m' (updF t j x) (updF c j y) := by
  obtain ⟨cur, h1, h2, h3⟩ := h.blk
  have hne : ∀ k, w.heap[k]? = some (txtO y) ∨ (∃ z, w.heap[k]? = some (txtO z)) → k ≠ g := fun k hk e => by
    rw [e, h1] at hk
    rcases hk with hk | ⟨z, hk⟩
    · injection hk with hk; injection hk with _ hk; exact absurd hk (by decide)
    · injection hk with hk; injection hk with _ hk; exact absurd hk (by decide)
  have hlt : ∀ i, i < m' → i ≠ j → i < m := fun i hi hij => by omega
  refine ⟨⟨cur.setIfInBounds j (tv x), by rw [heap_setCell_same w g j cur _ _ h1], by simp [h2], fun i hi => ?_⟩, h.out, fun i hi => ?_⟩
  · unfold updF
    by_cases e : i = j
    · rw [if_pos e, e]; simp [h2, hj]
    · rw [if_neg e, Array.getElem?_setIfInBounds_ne (fun e2 => e e2.symm)]; exact h3 i (hlt i hi e)
  · unfold updF
    by_cases e : i = j
    · rw [if_pos e, if_pos e]
      exact ⟨hx, hy, (heap_setCell_other w ⟨g, j, none⟩ x _ (hne x (Or.inl hb))).trans hb⟩
    · rw [if_neg e, if_neg e]
      obtain ⟨q1, q2, q3⟩ := h.txt i (hlt i hi e)
      exact ⟨q1, q2, (heap_setCell_other w ⟨g, j, none⟩ (t i) _ (hne _ (Or.inr ⟨_, q3⟩))).trans q3⟩
theorem Bools.set (h : Bools w F g d) (j : Nat) (hj : j < 6) (b : Bool) : Bools (w.setCell ⟨g, j, none⟩ (.bool b)) F g (updF d j b) := by
  obtain ⟨cur, h1, h2, h3⟩ := h.blk
  refine ⟨⟨cur.setIfInBounds j (.bool b), by rw [heap_setCell_same w g j cur _ _ h1], by simp [h2], fun i hi => ?_⟩, h.out⟩
  unfold updF
  by_cases e : i = j
  · rw [if_pos e, e]; simp [h2, hj]
  · rw [if_neg e, Array.getElem?_setIfInBounds_ne (fun e2 => e e2.symm)]; exact h3 i hi
theorem Bools.other (h : Bools w F g d) {k : Nat} (i : Nat) (u : Value) (hk : ∃ cur e fr, w.heap[k]? = some (.cells cur e fr) ∧ e = 32) : Bools (w.setCell ⟨k, i, none⟩ u) F g d := by
  obtain ⟨kc, e, fr, k1, k2⟩ := hk
  obtain ⟨cur, h1, h2, h3⟩ := h.blk
  refine ⟨⟨cur, (heap_setCell_other w ⟨k, i, none⟩ g u (fun e2 => ?_)).trans h1, h2, h3⟩, h.out⟩
  simp only at e2
  rw [e2, k1, k2] at h1
  injection h1 with h1
  injection h1 with _ h1
  exact absurd h1 (by decide)
/-- A text of one byte, as its block. -/
theorem own_block {N x y : Nat} (h : Own w N (.slice (some ⟨x, 0, none⟩) 256 256) (fullN y)) : w.heap[x]? = some (txtO y) ∧ N ≤ x := by
  rcases h.2.2 with ⟨e, _⟩ | ⟨g', cap, cur, e, h1, h2, h3, h4, h5, h6⟩
  · cases e
  · injection e with e1 e2 e3
    cases e1
    refine ⟨?_, h1⟩
    rw [h2]
    unfold txtO verV
    rw [fullN_len] at h6
    have hc : cur.size = 256 := by omega
    rw [List.take_of_length_le (by rw [Array.length_toList]; omega)] at h6
    rw [← h6]
end Go.Proofs.Ytofpojfkooigiaa
