/- What the writer's methods number and text do: bytes behind what was written. -/
import Derived.Test.YtmkdkclakndkpaaPack
import Derived.Test.YtmkdkclakndkpaaPut
import Derived.Test.YtmkdkclakndkpaaText
namespace Go.Proofs.Ytmkdkclakndkpaa
open Go.RowKit

/-- In w the block B is a writer whose slice v has the bytes L; both in blocks from N on. -/
structure Wr (w : World) (N B : Nat) (v : Value) (L : List Nat) : Prop where
  box : w.heap[B]? = some (.cells #[v] 53 (0, 0))
  le : N ≤ B
  own : Own w N v L
variable {w w' : World} {N B : Nat} {v v' : Value} {L L' : List Nat}
theorem Wr.lt (h : Wr w N B v L) : B < w.heap.size := by
  rcases Nat.lt_or_ge B w.heap.size with hlt | hge
  · exact hlt
  · have := h.box; rw [Array.getElem?_eq_none hge] at this; cases this
theorem Wr.later (h : Wr w N B v L) (hb : Below w.heap.size w w') : Wr w' N B v L := ⟨(hb.block B h.lt).trans h.box, h.le, h.own.later hb⟩
theorem Wr.c0 (h : Wr w N B v L) : w.cell? ⟨B, 0, none⟩ = some v := by rw [cell_of_row w B 0 _ _ _ h.box]; rfl
theorem Wr.f0 (h : Wr w N B v L) : w.frozen? ⟨B, 0, none⟩ = false := frozen_of_row w B 0 _ _ h.box
/-- A slice of bytes is no writer: they lie in unlike blocks. -/
theorem own_ne {n : Nat} {xs : List Value} (h : w.ownsRow N 5 1 v n xs) {cs : Array Value} (hb : w.heap[B]? = some (.cells cs 53 (0, 0))) : v.ownBlock ≠ some B := by
  intro e
  rcases h.2 with ⟨rfl, _⟩ | ⟨g, cap, cur, rfl, _, hg, _⟩
  · simp [Value.ownBlock] at e
  · simp [Value.ownBlock] at e
    subst e
    rw [hg] at hb
    cases hb
theorem own_set {n : Nat} {xs : List Value} {e0 size : Nat} (h : w.ownsRow N e0 size v n xs) (hne : v.ownBlock ≠ some B) (u : Value) : (w.setCell ⟨B, 0, none⟩ u).ownsRow N e0 size v n xs := by
  refine ⟨h.1, ?_⟩
  rcases h.2 with h2 | ⟨g, cap, cur, hv, hgb, hg, r⟩
  · exact Or.inl h2
  · refine Or.inr ⟨g, cap, cur, hv, hgb, ?_, r⟩
    rw [Below.heap_setCell _ _ _ _ (by show g ≠ B; intro e; apply hne; rw [hv, e]; rfl)]
    exact hg
/-- What is below N, and every block that is neither bytes nor a writer, is as it was. -/
structure Keep (N : Nat) (w w' : World) : Prop where
  below : Below N w w'
  typed : ∀ (k : Nat) (cs : Array Value) (T : TypeId) (fr : Nat × Nat), w.heap[k]? = some (.cells cs T fr) → T ≠ 5 → T ≠ 53 → w'.heap[k]? = some (.cells cs T fr)
theorem Keep.trans {w'' : World} (h : Keep N w w') (h' : Keep N w' w'') : Keep N w w'' :=
  ⟨h.below.trans h'.below, fun k cs T fr e a b => h'.typed k cs T fr (h.typed k cs T fr e a b) a b⟩
theorem Keep.refl (N : Nat) (w : World) : Keep N w w := ⟨Below.refl _ _, fun _ _ _ _ e _ _ => e⟩
theorem Keep.of (h : Below w.heap.size w w') (hN : N ≤ w.heap.size) : Keep N w w' :=
  ⟨h.mono hN, fun k cs T fr e _ _ => (h.block k (by
    rcases Nat.lt_or_ge k w.heap.size with hlt | hge
    · exact hlt
    · rw [Array.getElem?_eq_none hge] at e; cases e)).trans e⟩
theorem Keep.box {k p e s : Int} {t : Bool} {u : Value} {C : Nat} (h : Keep N w w') (hb : BBox w C k p e s t u) : BBox w' C k p e s t u := h.typed _ _ _ _ hb (by decide) (by decide)
theorem Wr.store {n : Nat} (h : Wr w N B v L) (hn : L'.length = n) (hlt : ∀ x ∈ L', x < 256) (hown : w'.ownsRow N 5 1 v' n (L'.map bv)) (hg : w.grownBy w' v.ownBlock) :
    Wr (w'.setCell ⟨B, 0, none⟩ v') N B v' L' ∧ Keep N w (w'.setCell ⟨B, 0, none⟩ v') ∧ w'.cell? ⟨B, 0, none⟩ = some v ∧ w'.frozen? ⟨B, 0, none⟩ = false := by
  have hb : w'.heap[B]? = some (.cells #[v] 53 (0, 0)) := (hg.block B h.lt (fun e => own_ne h.own.2 h.box e.symm)).trans h.box
  refine ⟨⟨?_, h.le, hlt, by rw [hn]; exact own_set hown (own_ne hown hb) v'⟩, ⟨?_, ?_⟩, by rw [cell_of_row w' B 0 _ _ _ hb]; rfl, frozen_of_row w' B 0 _ _ hb⟩
  · rw [setCell_eq_setRow w' B 0 _ _ _ v' hb]
    exact setRow_heap w' B _ _ _ _ hb
  · exact ((Below.refl N w).grown hg (Nat.le_trans h.le (Nat.le_of_lt h.lt)) (fun k hk => (h.own.2.lt k hk).1)).setCell h.le _
  · intro k cs T fr e h5 h53
    have hk : k < w.heap.size := by
      rcases Nat.lt_or_ge k w.heap.size with hlt | hge
      · exact hlt
      · rw [Array.getElem?_eq_none hge] at e; cases e
    have hB : k ≠ B := by
      intro e2; subst e2; rw [h.box] at e; cases e; exact h53 rfl
    have hv : some k ≠ v.ownBlock := by
      intro e2
      rcases h.own.2.2 with ⟨rfl, _⟩ | ⟨g, cap, cur, rfl, _, hg2, _⟩
      · simp [Value.ownBlock] at e2
      · simp [Value.ownBlock] at e2
        subst e2
        rw [hg2] at e; cases e; exact h5 rfl
    rw [Below.heap_setCell _ _ _ _ (by exact hB), hg.block k hk hv]
    exact e
set_option maxHeartbeats 1000000 in
theorem wnumber_any (n size : Nat) (w : World) (N B : Nat) (v : Value) (L : List Nat) (h : Wr w N B v L) (h1 : 1 ≤ size) (h6 : size ≤ 6) (hn : n < 2 ^ (8 * size)) (hL : L.length ≤ 1000000) :
    Calls Try.prog 45 #[.pointer (some ⟨B, 0, none⟩), .int .i64 n, .int .i64 size] w fun e w' => ∃ v', e = .returned (.tuple #[]) ∧ Wr w' N B v' (L ++ spellN n size) ∧ Keep N w w' := by
  have HW : Hid (Wr w N B v L) := h
  clear h
  go_enter Try.func45, Try.ntmps45
  go_wp2_with fail
  refine (put_any n size _).mono ?_
  rintro e w1 ⟨v1, rfl, own1, b1⟩
  rw [putN_ok n size h1 h6 (by omega)] at own1 ⊢
  obtain ⟨a1, c1, rfl, ok1, -⟩ := own1.slice size (spellN_length _ _)
  have O1 : Hid (Part.ok w1 ⟨a1, size, c1, spellN n size⟩) := ok1
  have H1 : Hid (Wr w1 N B v L) := HW.out.later b1
  have B1 : Hid (Keep N w w1) := Keep.of b1 (Nat.le_trans HW.out.le (Nat.le_of_lt HW.out.lt))
  have k0 := H1.out.c0
  clear own1 ok1 b1 HW hn
  go_wp2_with (at_builtin; refine app_any rfl _ _ rfl N v L.length L rfl H1.out.own.2 a1 size c1 (spellN n size) rfl (spellN_length _ _) O1.out.2.1 O1.out.2.2 (by omega) (Nat.le_trans H1.out.le (Nat.le_of_lt H1.out.lt)) ?_; intro v2 w2 hown2 hg2; obtain ⟨W2, B2, k2, f2⟩ := H1.out.store (by rw [List.length_append, spellN_length]) (fun x hx => (List.mem_append.1 hx).elim (H1.out.own.1 x) (spellN_lt _ _ x)) hown2 hg2; have X2 : Hid (Wr (w2.setCell ⟨B, 0, none⟩ v2) N B v2 (L ++ spellN n size)) := W2; obtain ⟨a2, c2, hv2, -⟩ := W2.own.slice (L.length + size) (by rw [List.length_append, spellN_length]); subst hv2; clear W2 hg2 hown2)
  go_end0
  exact ⟨_, rfl, X2.out, B1.out.trans B2⟩
theorem wnumber_at (i j : Int) (n size : Nat) (w : World) (N B : Nat) (v : Value) (L : List Nat) (hi : i = n) (hj : j = size) (h : Wr w N B v L) (h1 : 1 ≤ size) (h6 : size ≤ 6) (hn : n < 2 ^ (8 * size)) (hL : L.length ≤ 1000000) :
    Calls Try.prog 45 #[.pointer (some ⟨B, 0, none⟩), .int .i64 i, .int .i64 j] w fun e w' => ∃ v', e = .returned (.tuple #[]) ∧ Wr w' N B v' (L ++ spellN n size) ∧ Keep N w w' := by
  subst hi hj
  exact wnumber_any n size w N B v L h h1 h6 hn hL
set_option maxRecDepth 100000 in
set_option maxHeartbeats 1000000 in
theorem text_wr (s : ByteArray) (w : World) (N B : Nat) (v : Value) (L : List Nat) (h : Wr w N B v L) (hs : s.size ≤ 65535) (hL : L.length ≤ 1000000) :
    Calls Try.prog 46 #[.pointer (some ⟨B, 0, none⟩), .string s] w fun e w' => ∃ v', e = .returned (.tuple #[]) ∧ Wr w' N B v' (L ++ (spellN s.size 2 ++ sbytes s)) ∧ Keep N w w' := by
  have HW : Hid (Wr w N B v L) := h
  clear h
  have hl : (spellN s.size 2 ++ sbytes s).length = 2 + s.size := by rw [List.length_append, spellN_length, sbytes_length]
  obtain ⟨m, hm⟩ : ∃ m, m = 2 + s.size := ⟨_, rfl⟩
  rw [← hm] at hl
  have hm2 : m ≤ 65537 := by omega
  clear hm
  generalize hT : spellN s.size 2 ++ sbytes s = T at hl ⊢
  go_enter Try.func46, Try.ntmps46
  go_wp2_with fail
  refine (text_any s _ (by unfold maxLen; omega)).mono ?_
  rintro e w1 ⟨v1, rfl, own1, b1⟩
  rw [textN_ok s hs] at own1 ⊢
  simp only [hT] at own1
  obtain ⟨a1, c1, rfl, ok1, -⟩ := own1.slice m hl
  have O1 : Hid (Part.ok w1 ⟨a1, m, c1, T⟩) := ok1
  have H1 : Hid (Wr w1 N B v L) := HW.out.later b1
  have B1 : Hid (Keep N w w1) := Keep.of b1 (Nat.le_trans HW.out.le (Nat.le_of_lt HW.out.lt))
  have k0 := H1.out.c0
  have HT : Hid (T.length = m) := hl
  have HT2 : Hid (∀ x ∈ T, x < 256) := own1.1
  clear own1 ok1 b1 HW hl hT
  go_wp2_with (at_builtin; refine app_any rfl _ _ rfl N v L.length L rfl H1.out.own.2 a1 m c1 T rfl HT.out O1.out.2.1 O1.out.2.2 (by omega) (Nat.le_trans H1.out.le (Nat.le_of_lt H1.out.lt)) ?_; intro v2 w2 hown2 hg2; obtain ⟨W2, B2, k2, f2⟩ := H1.out.store (by rw [List.length_append, HT.out]) (fun x hx => (List.mem_append.1 hx).elim (H1.out.own.1 x) (HT2.out x)) hown2 hg2; have X2 : Hid (Wr (w2.setCell ⟨B, 0, none⟩ v2) N B v2 (L ++ T)) := W2; obtain ⟨a2, c2, hv2, -⟩ := W2.own.slice (L.length + m) (by rw [List.length_append, HT.out]); subst hv2; clear W2 hg2 hown2)
  go_end0
  exact ⟨_, rfl, X2.out, B1.out.trans B2⟩
end Go.Proofs.Ytmkdkclakndkpaa
