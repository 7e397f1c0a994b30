/- own of the document's package (by genrown.py). -/
import Derived.Test.YthadagpfmacemaaLOwn
import Derived.Test.YthadagpfmacemaaCAppR
namespace Go.Proofs.Ythadagpfmacemaa.Rf
open Go.RowKit
variable {w w' : World} {l : List Pt} {A : Nat → Sl} {ad : Option Addr} {m c : Nat}

/-- grow in its midst: j parts of l stand behind those of l0. -/
structure GrowI (w : World) (base : Nat) (F : List Nat) (l0 : List Pt) (A0 : Nat → Sl) (l : List Pt) (j : Nat) (v : Value) (A' : Nat → Sl) (W : World) : Prop where
  own : OwnP 65 W base v (l0 ++ l.take j) A'
  old : ∀ i, i < l0.length → A' i = A0 i
  new : ∀ i, i < j → NewI W w.heap.size (ptAt l i).nodes (A' (l0.length + i))
  chg : Chg F w W
  blk : ∀ g ∈ v.ownBlock.toList, g ∈ F ∨ w.heap.size ≤ g
theorem GrowI.start {base : Nat} {l0 : List Pt} {A0 : Nat → Sl} {v : Value} (h : OwnP 65 w base v l0 A0) : GrowI w base v.ownBlock.toList l0 A0 l 0 v A0 w :=
  ⟨by simpa using h, fun _ _ => rfl, fun i hi => absurd hi (Nat.not_lt_zero _), Chg.refl _ _, fun g hg => Or.inl hg⟩
theorem part_ne_int {w : World} {g : Nat} {cs : Array Value} (h : w.heap[g]? = some (.cells cs 65)) : ∀ cur, w.heap[g]? ≠ some (.cells cur 3) := by
  intro cur e
  rw [h] at e
  simp at e
/-- One round. -/
theorem GrowI.step {base : Nat} {F : List Nat} {l0 : List Pt} {A0 A' : Nat → Sl} {j : Nat} {v v' : Value} {W w2 w5 : World} {s : Sl} {cs : Array Value} (h : GrowI w base F l0 A0 l j v A' W) (hj : j < l.length)
    (h2 : Below (W.alloc (.cells cs 65)).heap.size (W.alloc (.cells cs 65)) w2) (hs : NewI w2 (W.alloc (.cells cs 65)).heap.size (ptAt l j).nodes s) (u : Value) (o : Obj)
    (h5 : OwnP 65 w5 base v' ((l0 ++ l.take j) ++ [ptAt l j]) (fun i => if i < (l0 ++ l.take j).length then A' i else s)) (hg : ((w2.setCell ⟨W.heap.size, 2, none⟩ u).alloc o).grownBy w5 v.ownBlock) (hv : ∀ g ∈ v'.ownBlock.toList, g ∈ v.ownBlock.toList ∨ W.heap.size ≤ g) :
    GrowI w base F l0 A0 l (j + 1) v' (fun i => if i < (l0 ++ l.take j).length then A' i else s) w5 := by
  have hlen : (l0 ++ l.take j).length = l0.length + j := by simp; omega
  have hbx : Blk (W.alloc (.cells cs 65)) W.heap.size cs 65 := heap_alloc_new W _
  have hb2 := hbx.later h2
  have hw : w.heap.size ≤ W.heap.size := h.chg.size
  -- the worlds, one behind the other
  have c1 : Chg [] W (W.alloc (.cells cs 65)) := Chg.of ((Below.refl _ _).alloc (Nat.le_refl _) _)
  have c2 : Chg [] (W.alloc (.cells cs 65)) w2 := Chg.of h2
  have c3 : Chg [W.heap.size] w2 (w2.setCell ⟨W.heap.size, 2, none⟩ u) := (Chg.refl _ _).set (Or.inl (by simp)) _ _
  have c4 : Chg [] (w2.setCell ⟨W.heap.size, 2, none⟩ u) ((w2.setCell ⟨W.heap.size, 2, none⟩ u).alloc o) := Chg.of ((Below.refl _ _).alloc (Nat.le_refl _) _)
  have c5 := grown_chg hg
  -- v's block is a block of parts in each of them
  have t0 := owns_typed h.own
  have hvlt : ∀ g ∈ v.ownBlock.toList, g < W.heap.size := fun g hg => by
    obtain ⟨cur, hc⟩ := t0 g hg
    rcases Nat.lt_or_ge g W.heap.size with hlt | hge
    · exact hlt
    · rw [Array.getElem?_eq_none hge] at hc; cases hc
  have t4 : ∀ g ∈ v.ownBlock.toList, ∃ cur, ((w2.setCell ⟨W.heap.size, 2, none⟩ u).alloc o).heap[g]? = some (.cells cur 65) := fun g hg => by
    obtain ⟨cur, hc⟩ := t0 g hg
    have l0 := hvlt g hg
    refine ⟨cur, ?_⟩
    rw [c4.block g (by have := c1.size; have := c2.size; have := c3.size; omega) (by simp), c3.block g (by have := c1.size; have := c2.size; omega) (by simp; omega), c2.block g (by have := c1.size; omega) (by simp), c1.block g l0 (by simp)]
    exact hc
  have keep : ∀ {lst : List Int} {sl : Sl} {b : Nat}, NewI w2 b lst sl → NewI w5 b lst sl := fun {lst sl b} hn => by
    have e3 := hn.chg c3 (fun g hg cur => by simp at hg; subst hg; exact part_ne_int hb2 cur)
    have e4 := e3.chg c4 (fun g hg => by cases hg)
    exact e4.chg c5 (fun g hg cur => by obtain ⟨c0, hc⟩ := t4 g hg; exact part_ne_int hc cur)
  refine ⟨?_, fun i hi => ?_, fun i hi => ?_, ?_, fun g hg => ?_⟩
  · rw [take_snocP l j hj, ← List.append_assoc]; exact h5
  · simp only [hlen, show i < l0.length + j by omega, if_true]; exact h.old i hi
  · by_cases e : i = j
    · subst e
      simp only [hlen, Nat.lt_irrefl, if_false]
      exact (keep hs).down (by have := c1.size; omega)
    · simp only [hlen, show l0.length + i < l0.length + j by omega, if_true]
      exact keep (((h.new i (by omega)).chg c1 (fun g hg => by cases hg)).chg c2 (fun g hg => by cases hg))
  · have d1 := h.chg.trans c1 (fun k hk => by cases hk)
    have d2 := d1.trans c2 (fun k hk => by cases hk)
    have d3 := d2.trans c3 (fun k hk => by simp at hk; subst hk; exact Or.inr hw)
    have d4 := d3.trans c4 (fun k hk => by cases hk)
    exact d4.trans c5 (fun k hk => h.blk k hk)
  · rcases hv g hg with h1 | h1
    · exact h.blk g h1
    · exact Or.inr (by omega)
theorem GrowI.set {base : Nat} {F : List Nat} {l0 : List Pt} {A0 A' : Nat → Sl} {j : Nat} {v : Value} {W : World} (h : GrowI w base F l0 A0 l j v A' W) (g : Nat) {cs : Array Value} (hg : Blk W g cs 24) (hw : w.heap.size ≤ g) (i : Nat) (u : Value) : GrowI w base F l0 A0 l j v A' (W.setCell ⟨g, i, none⟩ u) := by
  have c1 : Chg [g] W (W.setCell ⟨g, i, none⟩ u) := (Chg.refl _ _).set (Or.inl (by simp)) _ _
  refine ⟨h.own.chg c1 (fun k hk hm => ?_), h.old, fun i hi => (h.new i hi).chg c1 (fun k hk cur e => ?_), h.chg.trans c1 (fun k hk => by simp at hk; subst hk; exact Or.inr hw), h.blk⟩
  · simp at hm
    subst hm
    obtain ⟨cur, hc⟩ := owns_typed h.own k hk
    rw [hg] at hc
    simp at hc
  · simp at hk
    subst hk
    rw [hg] at e
    simp at e
theorem GrowI.ans {A0 A' : Nat → Sl} {j : Nat} {v : Value} {W : World} (h : GrowI w w.heap.size [] [] A0 l j v A' W) (hj : l.length = j) (hr : ∀ i, i < j → (-9223372036854775808 ≤ (ptAt l i).first ∧ (ptAt l i).first ≤ 9223372036854775807) ∧ (-9223372036854775808 ≤ (ptAt l i).id ∧ (ptAt l i).id ≤ 9223372036854775807)) : ∃ ad c, v = .slice ad j c ∧ CAns W w.heap.size l ad j c := by
  have hown := h.own
  have htk : l.take j = l := List.take_of_length_le (by omega)
  rw [List.nil_append, htk] at hown
  have hnew := h.new
  simp only [List.length_nil, Nat.zero_add] at hnew
  obtain ⟨ad, c, hv, hA, hbl⟩ := hown.form (fun i hi => ⟨(hnew i (by omega)).ints, (hnew i (by omega)).nil⟩) (fun i hi => hr i (by omega))
  rw [hj] at hv hA
  exact ⟨ad, c, hv, A', hA, ⟨fun _ b off e => hbl b off e, fun i hi h0 b off e => ((hnew i hi).new h0 b off e).1⟩, fun i hi h0 b off e => ((hnew i hi).new h0 b off e).2⟩
/-- Parts in memory of the call's own, with their nodes. -/
def OwnN (w : World) (base : Nat) (l : List Pt) (v : Value) : Prop := ∃ A, OwnP 65 w base v l A ∧ ∀ i, i < l.length → NewI w base (ptAt l i).nodes (A i)
theorem GrowI.ans2 {A0 A' : Nat → Sl} {j : Nat} {v : Value} {W : World} (h : GrowI w w.heap.size [] [] A0 l j v A' W) (hj : l.length = j) : OwnN W w.heap.size l v := by
  have hown := h.own
  have htk : l.take j = l := List.take_of_length_le (by omega)
  rw [List.nil_append, htk] at hown
  have hnew := h.new
  simp only [List.length_nil, Nat.zero_add] at hnew
  exact ⟨A', hown, fun i hi => hnew i (by omega)⟩
theorem partsV_take (A : Nat → Sl) (l : List Pt) (k : Nat) : partsV A (l.take k) = (partsV A l).take (k * 3) := by
  induction l generalizing A k with
  | nil => simp [partsV]
  | cons p l ih =>
    cases k with
    | zero => simp [partsV]
    | succ k =>
      rw [List.take_succ_cons, partsV, partsV, ih, List.take_append, show (partV p (A 0)).length = 3 from rfl, show (k + 1) * 3 - 3 = k * 3 by omega, List.take_of_length_le (l := partV p (A 0)) (by show 3 ≤ (k + 1) * 3; omega)]
theorem OwnP.cut {E : TypeId} {base : Nat} (h : OwnP E w base (.slice ad m c) l A) (hm : 0 < l.length) (k : Nat) (hk : k ≤ l.length) : OwnP E w base (.slice ad k c) (l.take k) A := by
  have hlk : (l.take k).length = k := by rw [List.length_take]; omega
  rcases h.2 with ⟨hv, h0⟩ | ⟨g, cap, cur, hv, hb, hg, hn, hmx, hs, ht⟩
  · omega
  · cases hv
    refine ⟨by rw [partsV_length], Or.inr ⟨g, c, cur, by rw [hlk], hb, hg, by omega, hmx, hs, ?_⟩⟩
    rw [hlk, partsV_take, ← ht, List.take_take, Nat.min_eq_left (by omega)]
theorem emptyI_own' (w : World) (g : Nat) (hg : w.heap.size = g) : (w.alloc (.cells #[] 3)).ownsRow g 3 1 (.slice (some ⟨g, 0, none⟩) 0 0) 0 (intsV []) := by subst hg; exact emptyI_own w _ (Nat.le_refl _)
/-- own in its midst. -/
structure OwnW (w : World) (o t : Int) (ad : Option Addr) (m c : Nat) (l : List Pt) (j : Nat) (v : Value) (A' : Nat → Sl) (W : World) : Prop where
  grow : GrowI w w.heap.size [] [] (fun _ => ⟨none, 0, 0⟩) l j v A' W
  b0 : Blk W w.heap.size #[.int .i64 o, .int .i64 t, .slice ad m c] 24
  b1 : Blk W (w.heap.size + 1) #[.int .i64 0, .int .i64 0, .slice none 0 0] 24
  b2 : Blk W (w.heap.size + 2) #[.int .i64 o, .int .i64 t, v] 24
theorem OwnW.below {o t : Int} {j : Nat} {v : Value} {A' : Nat → Sl} {W : World} (h : OwnW w o t ad m c l j v A' W) : Below w.heap.size w W := h.grow.chg.below (fun k hk => by cases hk) (Nat.le_refl _)
/-- A round's end. -/
theorem OwnW.round {o t : Int} {j : Nat} {v v' : Value} {A' : Nat → Sl} {W w2 w5 : World} {s : Sl} {cs : Array Value} {u : Value} {ob : Obj} (h : OwnW w o t ad m c l j v A' W) (hj : j < l.length)
    (h2 : Below (W.alloc (.cells cs 65)).heap.size (W.alloc (.cells cs 65)) w2) (hs : NewI w2 (W.alloc (.cells cs 65)).heap.size (ptAt l j).nodes s)
    (h5 : OwnP 65 w5 w.heap.size v' (l.take j ++ [ptAt l j]) (fun i => if i < (l.take j).length then A' i else s)) (hg : ((w2.setCell ⟨W.heap.size, 2, none⟩ u).alloc ob).grownBy w5 v.ownBlock) (hv : ∀ g ∈ v'.ownBlock.toList, g ∈ v.ownBlock.toList ∨ ((w2.setCell ⟨W.heap.size, 2, none⟩ u).alloc ob).heap.size ≤ g) :
    Blk w5 (w.heap.size + 2) #[.int .i64 o, .int .i64 t, v] 24 ∧ ∃ A'', OwnW w o t ad m c l (j + 1) v' A'' (w5.setCell ⟨w.heap.size + 2, 2, none⟩ v') := by
  have hz := h2.size
  have hst := h.grow.step hj h2 hs u ob (by simpa using h5) hg (fun g hg => (hv g hg).imp (fun a => a) (fun a => by simp [World.setCell] at a hz; omega))
  have c1 : Chg [] W (W.alloc (.cells cs 65)) := Chg.of ((Below.refl _ _).alloc (Nat.le_refl _) _)
  have c2 : Chg [] (W.alloc (.cells cs 65)) w2 := Chg.of h2
  have c3 : Chg [W.heap.size] w2 (w2.setCell ⟨W.heap.size, 2, none⟩ u) := (Chg.refl _ _).set (Or.inl (by simp)) _ _
  have c4 : Chg [] (w2.setCell ⟨W.heap.size, 2, none⟩ u) ((w2.setCell ⟨W.heap.size, 2, none⟩ u).alloc ob) := Chg.of ((Below.refl _ _).alloc (Nat.le_refl _) _)
  have c5 := grown_chg hg
  have t0 := owns_typed h.grow.own
  have keep : ∀ g cs', Blk W g cs' 24 → Blk w5 g cs' 24 := fun g cs' hb => by
    have hlt := hb.lt
    refine ((((hb.chg c1 (by simp)).chg c2 (by simp)).chg c3 (by simp; omega)).chg c4 (by simp)).chg c5 (fun hm => ?_)
    obtain ⟨cur, hc⟩ := t0 g hm
    rw [hb] at hc
    simp at hc
  have k0 := keep _ _ h.b0
  have k1 := keep _ _ h.b1
  have k2 := keep _ _ h.b2
  exact ⟨k2, _, hst.set (w.heap.size + 2) k2 (by omega) 2 v', k0.other (by omega) 2 v', k1.other (by omega) 2 v', k2.set 2 v'⟩
set_option maxRecDepth 100000 in
set_option maxHeartbeats 2000000 in
theorem own2_any (h : CArg w l A ad m c) (o t : Int) (hm40 : m * 40 ≤ 140737488351232) (hni : ∀ i, i < m → (A i).m * 8 ≤ 140737488355328) : Calls Try.prog 48 #[.agg #[.int .i64 o, .int .i64 t, .slice ad m c]] w fun x w' => ∃ ad' c', x = .returned (.agg #[.int .i64 o, .int .i64 t, .slice ad' m c']) ∧ Hid (CAns w' w.heap.size l ad' m c' ∧ OwnN w' w.heap.size l (.slice ad' m c')) ∧ Below w.heap.size w w' := by
  have hl := h.len
  have hm : m ≤ 9223372036854775807 := by omega
  have H := hid h
  have HNI := hid hni
  have HW3 : Hid (OwnW w o t ad m c l 0 (.slice none 0 0) (fun _ => ⟨none, 0, 0⟩) (((w.alloc (.cells #[.int .i64 o, .int .i64 t, .slice ad m c] 24)).alloc (.cells #[.int .i64 0, .int .i64 0, .slice none 0 0] 24)).alloc (.cells #[.int .i64 o, .int .i64 t, .slice none 0 0] 24))) := hid (by
    have q0 : Blk (w.alloc (.cells #[.int .i64 o, .int .i64 t, .slice ad m c] 24)) w.heap.size _ _ := heap_alloc_new w _
    have q1 := heap_alloc_new' (w.alloc (.cells #[.int .i64 o, .int .i64 t, .slice ad m c] 24)) (w.heap.size + 1) #[.int .i64 0, .int .i64 0, .slice none 0 0] (T := 24) (by simp)
    have q2 := heap_alloc_new' ((w.alloc (.cells #[.int .i64 o, .int .i64 t, .slice ad m c] 24)).alloc (.cells #[.int .i64 0, .int .i64 0, .slice none 0 0] 24)) (w.heap.size + 2) #[.int .i64 o, .int .i64 t, .slice none 0 0] (T := 24) (by simp)
    have hb : Below w.heap.size w (((w.alloc (.cells #[.int .i64 o, .int .i64 t, .slice ad m c] 24)).alloc (.cells #[.int .i64 0, .int .i64 0, .slice none 0 0] 24)).alloc (.cells #[.int .i64 o, .int .i64 t, .slice none 0 0] 24)) := (((Below.refl _ w).alloc (Nat.le_refl _) _).alloc (by simp) _).alloc (by simp; omega) _
    refine ⟨⟨by simpa using OwnP.nil _ _ _ _, fun _ _ => rfl, fun i hi => absurd hi (Nat.not_lt_zero _), Chg.of hb, fun g hg => by simp [Value.ownBlock] at hg⟩, ?_, ?_, ?_⟩
    · exact (q0.later ((Below.refl _ _).alloc (Nat.le_refl _) _)).later ((Below.refl _ _).alloc (Nat.le_refl _) _)
    · exact q1.later ((Below.refl _ _).alloc (Nat.le_refl _) _)
    · exact q2)
  clear h hni
  go_enter Try.func48, Try.ntmps48
  go_wp2_with fail
  go_loopw [4] (fun i wr => ∃ j : Nat, j ≤ m ∧ i = .int .i64 j ∧ ∃ v A', Hid (OwnW w o t ad m c l j v A' wr)) (fun i _ => m - (intOf i).toNat)
  case atStart => exact ⟨0, by omega, rfl, _, _, HW3⟩
  case round =>
    obtain ⟨j, hj, rfl, v, A', HG⟩ := hrel
    clear HW3
    have i2 : wr.cell? ⟨w.heap.size, 2, none⟩ = some (.slice ad m c) := HG.out.b0.cell 2
    by_cases hlt : j < m
    · have hlti : decide ((j : Int) < (m : Int)) = true := by simp; omega
      have h2 := H.out.later HG.out.below
      obtain ⟨b, off, rfl, hs, hc⟩ := h2.cells (by omega)
      obtain ⟨r0, r1, r2⟩ := hc j hlt
      have hsz : Hid (w.heap.size ≤ wr.heap.size) := hid HG.out.below.size
      have hne : w.heap.size + 1 + 1 < wr.heap.size := HG.out.b2.lt
      have HB1 : Hid (Below wr.heap.size wr (wr.alloc (.cells #[.int .i64 (ptAt l j).first, .int .i64 (ptAt l j).id, .slice (A j).ad (A j).m (A j).c] 65))) := hid ((Below.refl _ _).alloc (Nat.le_refl _) _)
      have HK : Hid (Blk (wr.alloc (.cells #[.int .i64 (ptAt l j).first, .int .i64 (ptAt l j).id, .slice (A j).ad (A j).m (A j).c] 65)) wr.heap.size #[.int .i64 (ptAt l j).first, .int .i64 (ptAt l j).id, .slice (A j).ad (A j).m (A j).c] 65) := hid (heap_alloc_new wr _)
      have HV : Hid (∀ X, Below wr.heap.size wr X → X.cell? ⟨w.heap.size + 1 + 1, 2, none⟩ = some v) := hid (fun X hX => (HG.out.b2.later hX).cell 2)
      have HI : Hid (∀ X, Below (wr.alloc (.cells #[.int .i64 (ptAt l j).first, .int .i64 (ptAt l j).id, .slice (A j).ad (A j).m (A j).c] 65)).heap.size (wr.alloc (.cells #[.int .i64 (ptAt l j).first, .int .i64 (ptAt l j).id, .slice (A j).ad (A j).m (A j).c] 65)) X → Ints X (ptAt l j).nodes (A j).ad (A j).m (A j).c) := hid (fun X hX => ((h2.ints j hlt).1.later HB1.out).later hX)
      have HI0 := hid (h2.ints j hlt).2
      have HIR := hid (h2.ints j hlt).1.rng
      have HIL := hid (h2.ints j hlt).1.len
      have hmj := HNI.out j hlt
      have HO : Hid (OwnP 65 wr w.heap.size v (l.take j) A') := hid (by have := HG.out.grow.own; simpa using this)
      have hlen : Hid ((l.take j).length = j) := hid (by rw [List.length_take]; omega)
      have hvlt : Hid (∀ g ∈ v.ownBlock.toList, g < wr.heap.size) := hid (fun g hg => by
        obtain ⟨cur, hc⟩ := owns_typed HO.out g hg
        rcases Nat.lt_or_ge g wr.heap.size with hlt | hge
        · exact hlt
        · rw [Array.getElem?_eq_none hge] at hc; cases hc)
      have HST : Hid (∀ (w2 w5 : World) (sl : Sl) (v' u : Value) (ob : Obj), Below (wr.alloc (.cells #[.int .i64 (ptAt l j).first, .int .i64 (ptAt l j).id, .slice (A j).ad (A j).m (A j).c] 65)).heap.size (wr.alloc (.cells #[.int .i64 (ptAt l j).first, .int .i64 (ptAt l j).id, .slice (A j).ad (A j).m (A j).c] 65)) w2 → NewI w2 (wr.alloc (.cells #[.int .i64 (ptAt l j).first, .int .i64 (ptAt l j).id, .slice (A j).ad (A j).m (A j).c] 65)).heap.size (ptAt l j).nodes sl → OwnP 65 w5 w.heap.size v' (l.take j ++ [ptAt l j]) (fun i => if i < (l.take j).length then A' i else sl) → ((w2.setCell ⟨wr.heap.size, 2, none⟩ u).alloc ob).grownBy w5 v.ownBlock → (∀ g ∈ v'.ownBlock.toList, g ∈ v.ownBlock.toList ∨ ((w2.setCell ⟨wr.heap.size, 2, none⟩ u).alloc ob).heap.size ≤ g) → w5.cell? ⟨w.heap.size + 1 + 1, 2, none⟩ = some v ∧ w5.frozen? ⟨w.heap.size + 1 + 1, 2, none⟩ = false ∧ ∃ A'', OwnW w o t (some ⟨b, off, none⟩) m c l (j + 1) v' A'' (w5.setCell ⟨w.heap.size + 1 + 1, 2, none⟩ v')) := hid (fun w2 w5 sl v' u ob a1 a2 a3 a4 a5 => by
        obtain ⟨k2, hW⟩ := HG.out.round (by omega) a1 a2 a3 a4 a5
        exact ⟨k2.cell 2, k2.free 2, hW⟩)
      clear hc hs h2
      generalize hf : (ptAt l j).first = f at *
      generalize hid' : (ptAt l j).id = id at *
      generalize (A j).ad = ad1 at *
      generalize (A j).m = m1 at *
      generalize (A j).c = c1 at *
      have Hf : Hid ((ptAt l j).first = f ∧ (ptAt l j).id = id) := ⟨hf, hid'⟩
      clear hf hid'
      go_wp2_with first
        | (at_builtin; refine app_ints rfl _ _ rfl (wr.heap.size + 1) 0 (.slice (some ⟨wr.heap.size + 1, 0, none⟩) 0 0) [] rfl (emptyI_own' (wr.alloc (.cells #[.int .i64 f, .int .i64 id, .slice ad1 m1 c1] 65)) (wr.heap.size + 1) (by simp)) ad1 m1 c1 (ptAt l j).nodes rfl (HI.out _ ((Below.refl _ _).alloc (Nat.le_refl _) _)) HI0.out (by omega) (by simp) ?_; intro v1 w2 r1 r2; have HOI : Hid (OwnI w2 (wr.alloc (.cells #[.int .i64 f, .int .i64 id, .slice ad1 m1 c1] 65)).heap.size v1 (ptAt l j).nodes) := hid (by rw [Nat.zero_add, List.nil_append] at r1; unfold OwnI; rw [HIL.out, show (wr.alloc (.cells #[.int .i64 f, .int .i64 id, .slice ad1 m1 c1] 65)).heap.size = wr.heap.size + 1 from by simp]; exact r1); have HB2 : Hid (Below (wr.alloc (.cells #[.int .i64 f, .int .i64 id, .slice ad1 m1 c1] 65)).heap.size (wr.alloc (.cells #[.int .i64 f, .int .i64 id, .slice ad1 m1 c1] 65)) w2) := hid (((Below.refl _ _).alloc (Nat.le_refl _) _).trans (grown_below r2 (fun g hg => by cases hg; simp) (by simp))); clear r1 r2; obtain ⟨sl, rfl, hsm, hi, hn, hnew⟩ := HOI.out.form HIR.out; have HN : Hid (NewI w2 (wr.alloc (.cells #[.int .i64 f, .int .i64 id, .slice ad1 m1 c1] 65)).heap.size (ptAt l j).nodes sl) := hid ⟨hi, hn, fun _ => hnew⟩; clear hi hn hnew HOI hsm; have HK2 := hid (HK.out.later HB2.out); have k0 : w2.cell? ⟨wr.heap.size, 0, none⟩ = some (.int .i64 f) := HK2.out.cell 0; have k1 : w2.cell? ⟨wr.heap.size, 1, none⟩ = some (.int .i64 id) := HK2.out.cell 1; have k2 : w2.cell? ⟨wr.heap.size, 2, none⟩ = some (.slice ad1 m1 c1) := HK2.out.cell 2; have f2 := HK2.out.free 2; have kl := HK2.out.lt; have hv2 : w2.cell? ⟨w.heap.size + 1 + 1, 2, none⟩ = some v := HV.out w2 (HB1.out.trans (HB2.out.mono HB1.out.size)); have hba2 : Hid (w.heap.size ≤ ((w2.setCell ⟨wr.heap.size, 2, none⟩ (.slice sl.ad sl.m sl.c)).alloc (.cells #[.int .i64 f, .int .i64 id, .slice sl.ad sl.m sl.c] 65)).heap.size) := hid (by simp [World.setCell]; omega))
        | (at_builtin; refine app_part ptypeR rfl _ _ rfl w.heap.size v (l.take j) A' rfl ?ho w2.heap.size (ptAt l j) sl rfl ?hb (by rw [hlen.out]; omega) ?hba ?_; (case ho => exact ((HO.out.later HB1.out).later HB2.out).setNew hvlt.out _ _ _); (case hb => rw [Hf.out.1, Hf.out.2]; exact heap_alloc_new' _ _ _ (by simp [World.setCell])); (case hba => exact hba2.out); intro v' w5 r1 r2 r3; obtain ⟨adv, nv, cv, rfl⟩ := owns_slice r1; have HR := hid (HST.out w2 w5 sl _ _ _ HB2.out HN.out r1 r2 r3); obtain ⟨y2, fy, -⟩ := HR.out; clear r1 r2 r3)
      obtain ⟨-, -, A'', hr⟩ := HR.out
      exact ⟨⟨j + 1, by omega, by go_num, _, A'', hid hr⟩, by simp [intOf]; omega⟩
    · obtain rfl : j = m := by omega
      have hlti : decide ((j : Int) < (j : Int)) = false := by simp
      obtain ⟨ad', c', rfl, -⟩ := HG.out.grow.ans (by omega) H.out.rng
      have HG2 := HG
      have q0 : wr.cell? ⟨w.heap.size + 1 + 1, 0, none⟩ = some (.int .i64 o) := HG.out.b2.cell 0
      have q1 : wr.cell? ⟨w.heap.size + 1 + 1, 1, none⟩ = some (.int .i64 t) := HG.out.b2.cell 1
      have q2 : wr.cell? ⟨w.heap.size + 1 + 1, 2, none⟩ = some (.slice ad' j c') := HG.out.b2.cell 2
      have z0 : wr.cell? ⟨w.heap.size + 1, 0, none⟩ = some (.int .i64 0) := HG.out.b1.cell 0
      have z1 : wr.cell? ⟨w.heap.size + 1, 1, none⟩ = some (.int .i64 0) := HG.out.b1.cell 1
      have z2 : wr.cell? ⟨w.heap.size + 1, 2, none⟩ = some (.slice none 0 0) := HG.out.b1.cell 2
      have f0 := HG.out.b1.free 0
      have f1 := HG.out.b1.free 1
      have f2 := HG.out.b1.free 2
      go_wp2_with fail
      have m0 := ((HG2.out.b1.set 0 (.int .i64 o)).set 1 (.int .i64 t)).set 2 (.slice ad' j c')
      have s0 : (((wr.setCell ⟨w.heap.size + 1, 0, none⟩ (.int .i64 o)).setCell ⟨w.heap.size + 1, 1, none⟩ (.int .i64 t)).setCell ⟨w.heap.size + 1, 2, none⟩ (.slice ad' j c')).cell? ⟨w.heap.size + 1, 0, none⟩ = some (.int .i64 o) := m0.cell 0
      have s1 : (((wr.setCell ⟨w.heap.size + 1, 0, none⟩ (.int .i64 o)).setCell ⟨w.heap.size + 1, 1, none⟩ (.int .i64 t)).setCell ⟨w.heap.size + 1, 2, none⟩ (.slice ad' j c')).cell? ⟨w.heap.size + 1, 1, none⟩ = some (.int .i64 t) := m0.cell 1
      have s2 : (((wr.setCell ⟨w.heap.size + 1, 0, none⟩ (.int .i64 o)).setCell ⟨w.heap.size + 1, 1, none⟩ (.int .i64 t)).setCell ⟨w.heap.size + 1, 2, none⟩ (.slice ad' j c')).cell? ⟨w.heap.size + 1, 2, none⟩ = some (.slice ad' j c') := m0.cell 2
      have hcg : Chg [w.heap.size + 1] wr (((wr.setCell ⟨w.heap.size + 1, 0, none⟩ (.int .i64 o)).setCell ⟨w.heap.size + 1, 1, none⟩ (.int .i64 t)).setCell ⟨w.heap.size + 1, 2, none⟩ (.slice ad' j c')) := (((Chg.refl _ wr).set (Or.inl (by simp)) _ _).set (Or.inl (by simp)) _ _).set (Or.inl (by simp)) _ _
      have hbw := HG2.out.below
      refine bodyPost_ret (v := .agg #[.int .i64 o, .int .i64 t, .slice ad' j c']) (by simp [results, Try.results48, go_sem, s0, s1, s2]) rfl ⟨ad', c', rfl, hid ?_, ?_⟩
      · have g3 := ((HG2.out.grow.set (w.heap.size + 1) HG2.out.b1 (by omega) 0 (.int .i64 o)).set (w.heap.size + 1) (HG2.out.b1.set 0 _) (by omega) 1 (.int .i64 t)).set (w.heap.size + 1) ((HG2.out.b1.set 0 _).set 1 _) (by omega) 2 (.slice ad' j c')
        obtain ⟨ad2, c2, e, hans⟩ := g3.ans (by omega) H.out.rng
        have hn2 := g3.ans2 (by omega)
        cases e
        exact ⟨hans, hn2⟩
      · exact hbw.trans (hcg.below (fun k hk => by simp at hk; omega) hbw.size)
theorem own_any (h : CArg w l A ad m c) (o t : Int) (hm40 : m * 40 ≤ 140737488351232) (hni : ∀ i, i < m → (A i).m * 8 ≤ 140737488355328) : Calls Try.prog 48 #[.agg #[.int .i64 o, .int .i64 t, .slice ad m c]] w fun x w' => ∃ ad' c', x = .returned (.agg #[.int .i64 o, .int .i64 t, .slice ad' m c']) ∧ Hid (CAns w' w.heap.size l ad' m c') ∧ Below w.heap.size w w' :=
  (own2_any h o t hm40 hni).mono (fun _ _ hh => by obtain ⟨a1, a2, a3, a4, a5⟩ := hh; exact ⟨a1, a2, a3, hid a4.out.1, a5⟩)
end Go.Proofs.Ythadagpfmacemaa.Rf
