/- What DiskSynced keeps round by round. -/
import Derived.Test.YtofpojfkooigiaaAppNums
import Derived.Test.YtofpojfkooigiaaTwiceWalk
namespace Go.Proofs.Ytofpojfkooigiaa
open Go.RowKit
variable {w w' : World} {F : List Nat} {D gS gL gB N : Nat} {s : DSt} {m : Nat} {su la ts tl : Nat → Nat} {d : Nat → Bool}

theorem Dk.set (h : Dk w F D s) {g : Nat} (hg : g ∉ F) (i : Nat) (u : Value) : Dk (w.setCell ⟨g, i, none⟩ u) F D s :=
  h.keep (fun k hk => heap_setCell_other w ⟨g, i, none⟩ k u (fun e => hg (by simp only at e; rw [← e]; exact hk))) (by simp [World.setCell])
theorem Sy.congr {su' la' : Nat → Nat} {d' : Nat → Bool} (h : Sy s m su la d) (h1 : ∀ j, j < 6 → su' j = su j) (h2 : ∀ j, j < 6 → la' j = la j) (h3 : ∀ j, j < 6 → d' j = d j) : Sy s m su' la' d' :=
  ⟨h.fr, fun j hj => by rw [h2 j hj]; exact h.now j hj, fun j hj hd => by rw [h1 j hj, h2 j hj]; exact h.sure j hj (by rw [← h3 j hj]; exact hd)⟩
/-- The tables beside the disk. -/
structure Tabs (w : World) (F : List Nat) (D gS gL gB n : Nat) (s : DSt) (ts su tl la : Nat → Nat) (d : Nat → Bool) : Prop where
  sure : Tab w F gS n ts su
  last : Tab w F gL n tl la
  dirty : Bools w F gB d
  disk : Dk w F D s
  ne : gS ≠ gL
variable {n : Nat}
theorem Tabs.later (h : Tabs w F D gS gL gB n s ts su tl la d) (hb : Below w.heap.size w w') : Tabs w' F D gS gL gB n s ts su tl la d :=
  ⟨h.sure.later hb, h.last.later hb, h.dirty.later hb, h.disk.below hb, h.ne⟩
theorem Tabs.moved {s' : DSt} (h : Tabs w F D gS gL gB n s ts su tl la d) (hm : Moved Dk F D s' w w') : ∃ F', Tabs w' F' D gS gL gB n s' ts su tl la d ∧ ∀ g ∈ F', g ∈ F ∨ w.heap.size ≤ g := by
  obtain ⟨F', h1, h2⟩ := hm.disk
  exact ⟨F', ⟨h.sure.chg hm.chg h2, h.last.chg hm.chg h2, h.dirty.chg hm.chg h2, h1, h.ne⟩, h2⟩
theorem Tabs.setS (h : Tabs w F D gS gL gB n s ts su tl la d) {j n' x y : Nat} (hj : j < 6) (hx : x ∉ F) (hy : y < 256) (hb : w.heap[x]? = some (txtO y)) (hn : n' ≤ n ∨ (n' = n + 1 ∧ j = n)) :
    Tab (w.setCell ⟨gS, j, none⟩ (tv x)) F gS n' (updF ts j x) (updF su j y) ∧ Tab (w.setCell ⟨gS, j, none⟩ (tv x)) F gL n tl la ∧ Bools (w.setCell ⟨gS, j, none⟩ (tv x)) F gB d ∧ Dk (w.setCell ⟨gS, j, none⟩ (tv x)) F D s := by
  obtain ⟨cur, e, fr, q1, q2⟩ := h.sure.typed
  refine ⟨h.sure.set hj hn hx hy hb, h.last.other j _ ⟨cur, e, fr, q1, by rw [q2]; decide, Or.inr h.ne⟩, h.dirty.other j _ ⟨cur, e, fr, q1, q2⟩, h.disk.set h.sure.out j _⟩
theorem Tabs.setL (hS : Tab w F gS n ts su) (hL : Tab w F gL m tl la) (hB : Bools w F gB d) (hD : Dk w F D s) (ne : gS ≠ gL) {j n' x y : Nat} (hj : j < 6) (hx : x ∉ F) (hy : y < 256) (hb : w.heap[x]? = some (txtO y)) (hn : n' ≤ m ∨ (n' = m + 1 ∧ j = m)) :
    Tab (w.setCell ⟨gL, j, none⟩ (tv x)) F gS n ts su ∧ Tab (w.setCell ⟨gL, j, none⟩ (tv x)) F gL n' (updF tl j x) (updF la j y) ∧ Bools (w.setCell ⟨gL, j, none⟩ (tv x)) F gB d ∧ Dk (w.setCell ⟨gL, j, none⟩ (tv x)) F D s := by
  obtain ⟨cur, e, fr, q1, q2⟩ := hL.typed
  refine ⟨hS.other j _ ⟨cur, e, fr, q1, by rw [q2]; decide, Or.inr ne.symm⟩, hL.set hj hn hx hy hb, hB.other j _ ⟨cur, e, fr, q1, q2⟩, hD.set hL.out j _⟩
theorem Tabs.setB (hS : Tab w F gS n ts su) (hL : Tab w F gL m tl la) (hB : Bools w F gB d) (hD : Dk w F D s) {j : Nat} (hj : j < 6) (b : Bool) :
    Tab (w.setCell ⟨gB, j, none⟩ (.bool b)) F gS n ts su ∧ Tab (w.setCell ⟨gB, j, none⟩ (.bool b)) F gL m tl la ∧ Bools (w.setCell ⟨gB, j, none⟩ (.bool b)) F gB (updF d j b) ∧ Dk (w.setCell ⟨gB, j, none⟩ (.bool b)) F D s := by
  obtain ⟨cur, q1⟩ := hB.typed
  exact ⟨hS.other j _ ⟨cur, _, _, q1, by decide, Or.inl (by decide)⟩, hL.other j _ ⟨cur, _, _, q1, by decide, Or.inl (by decide)⟩, hB.set j hj b, hD.set hB.out j _⟩
/-- A new text is none of the disk's. -/
theorem Dk.fresh (h : Dk w F D s) {x : Nat} (hx : w.heap.size ≤ x) : x ∉ F := fun hm => absurd (h.lt x hm) (by omega)
theorem below_set {N : Nat} {w w1 : World} (h : Below N w w1) {g : Nat} (hg : N ≤ g) (i : Nat) (u : Value) : Below N w (w1.setCell ⟨g, i, none⟩ u) := h.setCell (p := ⟨g, i, none⟩) hg u
theorem Dk.sync (h : Dk w F D s) : Calls Try.prog 18 #[.pointer (some ⟨D, 0, none⟩)] w fun x w' => x = .returned (.int .i64 (syncD s).1) ∧ Moved Dk F D (syncD s).2 w w' := by
  obtain ⟨B, M, Dm, V, C, h⟩ := h
  exact sync_pic h
theorem Dk.write (h : Dk w F D s) (hf : s.few) (i : Int) (ad : Option Addr) (len cap : Nat) (l : List Nat) (hp : Part.ok w ⟨ad, len, cap, l⟩) :
    Calls Try.prog 17 #[.pointer (some ⟨D, 0, none⟩), .int .i64 i, .slice ad len cap] w fun x w' => x = .returned (.int .i64 (writeD s i l).1) ∧ Moved Dk F D (writeD s i l).2 w w' := by
  obtain ⟨B, M, Dm, V, C, h⟩ := h
  exact write_pic h hf i ad len cap l hp
theorem Moved.below {s' : DSt} (h : Moved Dk F D s' w w') (hF : ∀ g ∈ F, N ≤ g) (hN : N ≤ w.heap.size) : Below N w w' := h.chg.below hF hN
theorem Tab.slice (h : Tab w F gL n tl la) {j : Nat} (hj : j < n) : w.cell? ⟨gL, j, none⟩ = some (.slice (some ⟨tl j, 0, none⟩) 256 256) := h.cell hj
theorem Dk.crash2 (h : Dk w F D s) (ad : Option Addr) (len cap : Nat) (cs : List Int) (ha : IArg w cs ad len) (hn : ∀ b off, ad = some ⟨b, off, none⟩ → len ≠ 0 → b ∉ F) :
    Calls Try.prog 15 #[.pointer (some ⟨D, 0, none⟩), .slice ad len cap] w fun x w' => x = .returned (.tuple #[]) ∧ Moved Dk F D (crashD s cs) w w' := by
  obtain ⟨B, M, Dm, V, C, h⟩ := h
  exact crash_pic h ad len cap cs ha hn
theorem Dk.dirty (h : Dk w F D s) : Calls Try.prog 20 #[.pointer (some ⟨D, 0, none⟩)] w fun x w' => x = .returned (.int .i64 (dirtyD s : Nat)) ∧ w' = w := by
  obtain ⟨B, M, Dm, V, C, h⟩ := h
  exact dirty_pic h
theorem Dk.isDown (h : Dk w F D s) : Calls Try.prog 19 #[.pointer (some ⟨D, 0, none⟩)] w fun x w' => x = .returned (.bool s.off) ∧ w' = w := by
  obtain ⟨B, M, Dm, V, C, h⟩ := h
  exact down_pic h
theorem Tab.text (h : Tab w F gS n ts su) {j : Nat} (hj : j < n) : Part.ok w ⟨some ⟨ts j, 0, none⟩, 256, 256, fullN (su j)⟩ := by
  obtain ⟨q1, q2, q3⟩ := h.txt j hj
  refine ⟨fullN_len _, fun e => (by cases e), (fullN_ok _ q2).2, Or.inr ⟨ts j, 0, rfl, some_lt q3, fun i hi => ?_⟩⟩
  have hi : i < (fullN (su j)).length := hi
  show _ = some (Value.int .u8 ((fullN (su j)).getD i 0 : Nat))
  unfold txtO at q3
  rw [cell_of_row _ _ _ _ _ _ q3, List.getElem?_toArray, Nat.zero_add]
  unfold verV
  rw [List.getElem?_map, List.getElem?_eq_getElem hi, List.getD_eq_getElem?_getD, List.getElem?_eq_getElem hi]
  rfl
theorem Try.infoT : (Try.prog.info? 4).map (fun i => (i.zero, i.size, i.bytes)) = some (some (.bool false), 1, 1) := by kernel_rfl
theorem made_bools (j : Nat) (hj : j < 6) : (madeCells #[Value.bool false] 6)[j]? = some (.bool false) := by
  unfold madeCells
  rw [Array.getElem?_map, Array.getElem?_range, if_pos hj]
  simp [Nat.mod_one]
/-- The tables when they are made. -/
theorem tabs_start (w : World) (h : Dk w F D s) : let W := ((w.alloc (.cells (madeCells #[Value.slice none 0 0] 6) 32)).alloc (.cells (madeCells #[Value.slice none 0 0] 6) 32)).alloc (.cells (madeCells #[Value.bool false] 6) 4)
    Tab W F w.heap.size 0 (fun _ => 0) (fun _ => 0) ∧ Tab W F (w.heap.size + 1) 0 (fun _ => 0) (fun _ => 0) ∧ Bools W F (w.heap.size + 2) (fun _ => false) ∧ Dk W F D s ∧ Below w.heap.size w W := by
  intro W
  obtain ⟨q1, q2, q3⟩ := three_blocks w (.cells (madeCells #[Value.slice none 0 0] 6) 32) (.cells (madeCells #[Value.slice none 0 0] 6) 32) (.cells (madeCells #[Value.bool false] 6) 4)
  have hb : Below w.heap.size w W := (((Below.refl w.heap.size w).alloc (Nat.le_refl _) _).alloc (by simp) _).alloc (by simp; omega) _
  have hn : ∀ k, w.heap.size ≤ k → k ∉ F := fun k hk => h.fresh hk
  exact ⟨⟨⟨_, q1, size_madeCells _ _, fun j hj => absurd hj (by omega)⟩, hn _ (Nat.le_refl _), fun j hj => absurd hj (by omega)⟩, ⟨⟨_, q2, size_madeCells _ _, fun j hj => absurd hj (by omega)⟩, hn _ (by omega), fun j hj => absurd hj (by omega)⟩,
    ⟨⟨_, q3, size_madeCells _ _, fun j hj => made_bools j hj⟩, hn _ (by omega)⟩, h.below hb, hb⟩
end Go.Proofs.Ytofpojfkooigiaa
