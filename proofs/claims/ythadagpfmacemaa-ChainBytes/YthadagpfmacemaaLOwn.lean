/- Own of the law's package (by genlown.py). -/
import Derived.Test.YthadagpfmacemaaLConf
import Derived.Test.YthadagpfmacemaaCExtG
namespace Go.Proofs.Ythadagpfmacemaa
open Go.RowKit
variable {w : World} {l : List Pt} {A : Nat → Sl} {ad : Option Addr} {m c : Nat}

theorem owns_slice {w : World} {base E z n : Nat} {v : Value} {xs : List Value} (h : w.ownsRow base E z v n xs) : ∃ ad n' c, v = .slice ad n' c := by
  rcases h.2 with ⟨rfl, -⟩ | ⟨g, cap, cur, rfl, -⟩
  · exact ⟨_, _, _, rfl⟩
  · exact ⟨_, _, _, rfl⟩
/-- One round of a loop that appends a part. -/
theorem GrowI.step2 {base : Nat} {F : List Nat} {l0 : List Pt} {A0 A' : Nat → Sl} {j : Nat} {v v' : Value} {W w2 w5 : World} {s : Sl} (h : GrowI w base F l0 A0 l j v A' W) (hj : j < l.length) (h2 : Below W.heap.size W w2) (hs : NewI w2 W.heap.size (ptAt l j).nodes s) (o : Obj)
    (h5 : OwnP 61 w5 base v' ((l0 ++ l.take j) ++ [ptAt l j]) (fun i => if i < (l0 ++ l.take j).length then A' i else s)) (hg : (w2.alloc o).grownBy w5 v.ownBlock) (hv : ∀ g ∈ v'.ownBlock.toList, g ∈ v.ownBlock.toList ∨ W.heap.size ≤ g) :
    GrowI w base F l0 A0 l (j + 1) v' (fun i => if i < (l0 ++ l.take j).length then A' i else s) w5 := by
  have hlen : (l0 ++ l.take j).length = l0.length + j := by simp; omega
  have hw : w.heap.size ≤ W.heap.size := h.chg.size
  have c2 : Chg [] W w2 := Chg.of h2
  have c4 : Chg [] w2 (w2.alloc o) := Chg.of ((Below.refl _ _).alloc (Nat.le_refl _) _)
  have c5 := grown_chg hg
  have t0 := owns_typed h.own
  have hvlt : ∀ g ∈ v.ownBlock.toList, g < W.heap.size := fun g hg => by
    obtain ⟨cur, hc⟩ := t0 g hg
    rcases Nat.lt_or_ge g W.heap.size with hlt | hge
    · exact hlt
    · rw [Array.getElem?_eq_none hge] at hc; cases hc
  have t4 : ∀ g ∈ v.ownBlock.toList, ∃ cur, (w2.alloc o).heap[g]? = some (.cells cur 61) := fun g hg => by
    obtain ⟨cur, hc⟩ := t0 g hg
    have l0 := hvlt g hg
    refine ⟨cur, ?_⟩
    rw [c4.block g (by have := c2.size; omega) (by simp), c2.block g l0 (by simp)]
    exact hc
  have keep : ∀ {lst : List Int} {sl : Sl} {b : Nat}, NewI w2 b lst sl → NewI w5 b lst sl := fun {lst sl b} hn => by
    have e4 := hn.chg c4 (fun g hg => by cases hg)
    exact e4.chg c5 (fun g hg cur => by obtain ⟨c0, hc⟩ := t4 g hg; exact part_ne_int hc cur)
  refine ⟨?_, fun i hi => ?_, fun i hi => ?_, ?_, fun g hg => ?_⟩
  · rw [take_snocP l j hj, ← List.append_assoc]; exact h5
  · simp only [hlen, show i < l0.length + j by omega, if_true]; exact h.old i hi
  · by_cases e : i = j
    · subst e
      simp only [hlen, Nat.lt_irrefl, if_false]
      exact (keep hs).down hw
    · simp only [hlen, show l0.length + i < l0.length + j by omega, if_true]
      exact keep ((h.new i (by omega)).chg c2 (fun g hg => by cases hg))
  · exact ((h.chg.trans c2 (fun k hk => by cases hk)).trans c4 (fun k hk => by cases hk)).trans c5 (fun k hk => h.blk k hk)
  · rcases hv g hg with h1 | h1
    · exact h.blk g h1
    · exact Or.inr (by omega)
theorem GrowI.set {base : Nat} {F : List Nat} {l0 : List Pt} {A0 A' : Nat → Sl} {j : Nat} {v : Value} {W : World} (h : GrowI w base F l0 A0 l j v A' W) (g : Nat) {cs : Array Value} (hg : Blk W g cs 28) (hw : w.heap.size ≤ g) (i : Nat) (u : Value) : GrowI w base F l0 A0 l j v A' (W.setCell ⟨g, i, none⟩ u) := by
  have c1 : Chg [g] W (W.setCell ⟨g, i, none⟩ u) := (Chg.refl _ _).set (Or.inl (by simp)) _ _
  refine ⟨h.own.chg c1 (fun k hk hm => ?_), h.old, fun i hi => (h.new i hi).chg c1 (fun k hk cur e => ?_), h.chg.trans c1 (fun k hk => by simp at hk; subst hk; exact Or.inr hw), h.blk⟩
  · simp at hm
    subst hm
    obtain ⟨cur, hc⟩ := owns_typed h.own k hk
    rw [hg] at hc
    simp at hc
  · simp at hk
    subst hk
    rw [hg] at e
    simp at e
theorem GrowI.ans {A0 A' : Nat → Sl} {j : Nat} {v : Value} {W : World} (h : GrowI w w.heap.size [] [] A0 l j v A' W) (hj : l.length = j) (hr : ∀ i, i < j → (-9223372036854775808 ≤ (ptAt l i).first ∧ (ptAt l i).first ≤ 9223372036854775807) ∧ (-9223372036854775808 ≤ (ptAt l i).id ∧ (ptAt l i).id ≤ 9223372036854775807)) : ∃ ad c, v = .slice ad j c ∧ CAns W w.heap.size l ad j c := by
  have hown := h.own
  have htk : l.take j = l := List.take_of_length_le (by omega)
  rw [List.nil_append, htk] at hown
  have hnew := h.new
  simp only [List.length_nil, Nat.zero_add] at hnew
  obtain ⟨ad, c, hv, hA, hbl⟩ := hown.form (fun i hi => ⟨(hnew i (by omega)).ints, (hnew i (by omega)).nil⟩) (fun i hi => hr i (by omega))
  rw [hj] at hv hA
  exact ⟨ad, c, hv, A', hA, ⟨fun _ b off e => hbl b off e, fun i hi h0 b off e => ((hnew i hi).new h0 b off e).1⟩, fun i hi h0 b off e => ((hnew i hi).new h0 b off e).2⟩
/-- Own in its midst. -/
structure OwnW (w : World) (o t : Int) (ad : Option Addr) (m c : Nat) (l : List Pt) (j : Nat) (v : Value) (A' : Nat → Sl) (W : World) : Prop where
  grow : GrowI w w.heap.size [] [] (fun _ => ⟨none, 0, 0⟩) l j v A' W
  b0 : Blk W w.heap.size #[.int .i64 o, .int .i64 t, .slice ad m c] 24
  b1 : Blk W (w.heap.size + 1) #[.int .i64 0, .int .i64 0, .slice none 0 0] 28
  b2 : Blk W (w.heap.size + 2) #[.int .i64 o, .int .i64 t, v] 28
theorem OwnW.below {o t : Int} {j : Nat} {v : Value} {A' : Nat → Sl} {W : World} (h : OwnW w o t ad m c l j v A' W) : Below w.heap.size w W := h.grow.chg.below (fun k hk => by cases hk) (Nat.le_refl _)
/-- A round's end. -/
theorem OwnW.round {o t : Int} {j : Nat} {v v' : Value} {A' : Nat → Sl} {W w2 w5 : World} {s : Sl} {ob : Obj} (h : OwnW w o t ad m c l j v A' W) (hj : j < l.length) (h2 : Below W.heap.size W w2) (hs : NewI w2 W.heap.size (ptAt l j).nodes s)
    (h5 : OwnP 61 w5 w.heap.size v' (l.take j ++ [ptAt l j]) (fun i => if i < (l.take j).length then A' i else s)) (hg : (w2.alloc ob).grownBy w5 v.ownBlock) (hv : ∀ g ∈ v'.ownBlock.toList, g ∈ v.ownBlock.toList ∨ (w2.alloc ob).heap.size ≤ g) :
    Below w.heap.size w w5 ∧ Blk w5 (w.heap.size + 2) #[.int .i64 o, .int .i64 t, v] 28 ∧ ∃ A'', OwnW w o t ad m c l (j + 1) v' A'' (w5.setCell ⟨w.heap.size + 2, 2, none⟩ v') := by
  have hst := h.grow.step2 hj h2 hs ob (by simpa using h5) hg (fun g hg => (hv g hg).imp (fun a => a) (fun a => Nat.le_trans (Nat.le_trans h2.size (by simp)) a))
  have cc : Chg v.ownBlock.toList W w5 := ((Chg.of h2).trans (Chg.of ((Below.refl _ _).alloc (Nat.le_refl _) ob)) (fun k hk => Or.inl hk)).trans (grown_chg hg) (fun k hk => Or.inl hk)
  have t0 := owns_typed h.grow.own
  have ne : ∀ g cs T, Blk W g cs T → T ≠ 61 → g ∉ v.ownBlock.toList := fun g cs T hb hT hm => by
    obtain ⟨cur, hc⟩ := t0 g hm
    rw [hb] at hc
    simp at hc
    exact hT hc.2
  have k0 := h.b0.chg cc (ne _ _ _ h.b0 (by decide))
  have k1 := h.b1.chg cc (ne _ _ _ h.b1 (by decide))
  have k2 := h.b2.chg cc (ne _ _ _ h.b2 (by decide))
  refine ⟨hst.chg.below (fun k hk => by cases hk) (Nat.le_refl _), k2, _, hst.set (w.heap.size + 2) k2 (by omega) 2 v', k0.other (by omega) 2 v', k1.other (by omega) 2 v', k2.set 2 v'⟩
set_option maxRecDepth 100000 in
set_option maxHeartbeats 2000000 in
theorem own_any (h : CArg w l A ad m c) (o t : Int) (hm40 : m * 40 ≤ 140737488351232) (hni : ∀ i, i < m → (A i).m * 8 ≤ 140737488355328) : Calls Try.prog 7 #[.agg #[.int .i64 o, .int .i64 t, .slice ad m c]] w fun x w' => ∃ ad' c', x = .returned (.agg #[.int .i64 o, .int .i64 t, .slice ad' m c']) ∧ Hid (CAns w' w.heap.size l ad' m c') ∧ Below w.heap.size w w' := by
  have hl := h.len
  have hm : m ≤ 9223372036854775807 := by omega
  have H := hid h
  have HNI := hid hni
  have HW3 : Hid (OwnW w o t ad m c l 0 (.slice none 0 0) (fun _ => ⟨none, 0, 0⟩) (((w.alloc (.cells #[.int .i64 o, .int .i64 t, .slice ad m c] 24)).alloc (.cells #[.int .i64 0, .int .i64 0, .slice none 0 0] 28)).alloc (.cells #[.int .i64 o, .int .i64 t, .slice none 0 0] 28))) := hid (by
    have q0 : Blk (w.alloc (.cells #[.int .i64 o, .int .i64 t, .slice ad m c] 24)) w.heap.size _ _ := heap_alloc_new w _
    have q1 := heap_alloc_new' (w.alloc (.cells #[.int .i64 o, .int .i64 t, .slice ad m c] 24)) (w.heap.size + 1) #[.int .i64 0, .int .i64 0, .slice none 0 0] (T := 28) (by simp)
    have q2 := heap_alloc_new' ((w.alloc (.cells #[.int .i64 o, .int .i64 t, .slice ad m c] 24)).alloc (.cells #[.int .i64 0, .int .i64 0, .slice none 0 0] 28)) (w.heap.size + 2) #[.int .i64 o, .int .i64 t, .slice none 0 0] (T := 28) (by simp)
    have hb : Below w.heap.size w (((w.alloc (.cells #[.int .i64 o, .int .i64 t, .slice ad m c] 24)).alloc (.cells #[.int .i64 0, .int .i64 0, .slice none 0 0] 28)).alloc (.cells #[.int .i64 o, .int .i64 t, .slice none 0 0] 28)) := (((Below.refl _ w).alloc (Nat.le_refl _) _).alloc (by simp) _).alloc (by simp; omega) _
    refine ⟨⟨by simpa using OwnP.nil _ _ _ _, fun _ _ => rfl, fun i hi => absurd hi (Nat.not_lt_zero _), Chg.of hb, fun g hg => by simp [Value.ownBlock] at hg⟩, ?_, ?_, ?_⟩
    · exact (q0.later ((Below.refl _ _).alloc (Nat.le_refl _) _)).later ((Below.refl _ _).alloc (Nat.le_refl _) _)
    · exact q1.later ((Below.refl _ _).alloc (Nat.le_refl _) _)
    · exact q2)
  clear h hni
  go_enter Try.func7, Try.ntmps7
  go_wp2_with fail
  go_loopw [4] (fun i wr => ∃ j : Nat, j ≤ m ∧ i = .int .i64 j ∧ ∃ v A', Hid (OwnW w o t ad m c l j v A' wr)) (fun i _ => m - (intOf i).toNat)
  case atStart => exact ⟨0, by omega, rfl, _, _, HW3⟩
  case round =>
    obtain ⟨j, hj, rfl, v, A', HG⟩ := hrel
    clear HW3
    have i2 : wr.cell? ⟨w.heap.size, 2, none⟩ = some (.slice ad m c) := HG.out.b0.cell 2
    by_cases hlt : j < m
    · have hlti : decide ((j : Int) < (m : Int)) = true := by simp; omega
      have h2 := H.out.later HG.out.below
      obtain ⟨b, off, rfl, hs, hc⟩ := h2.cells (by omega)
      obtain ⟨r0, r1, r2⟩ := hc j hlt
      have HS : Hid (∀ W, Below wr.heap.size wr W → ((W.cell? ⟨w.heap.size, 2, none⟩ = some (.slice (some ⟨b, off, none⟩) m c)) ∧ W.cell? ⟨b, off + j * 3, none⟩ = some (.int .i64 (ptAt l j).first) ∧ W.cell? ⟨b, off + j * 3 + 1, none⟩ = some (.int .i64 (ptAt l j).id) ∧ W.cell? ⟨b, off + j * 3 + 2, none⟩ = some (.slice (A j).ad (A j).m (A j).c))) := hid (fun W hW => ⟨(HG.out.b0.later hW).cell 2, (hW.cell (p := ⟨b, off + j * 3, none⟩) hs).trans r0, (hW.cell (p := ⟨b, off + j * 3 + 1, none⟩) hs).trans r1, (hW.cell (p := ⟨b, off + j * 3 + 2, none⟩) hs).trans r2⟩)
      have HK : Hid (∀ W, Below wr.heap.size wr W → W.cell? ⟨w.heap.size + 1 + 1, 2, none⟩ = some v) := hid (fun W hW => (HG.out.b2.later hW).cell 2)
      have HCF : Hid (∀ W, Below wr.heap.size wr W → Calls Try.prog 22 #[.agg #[.int .i64 (ptAt l j).id, .slice (A j).ad (A j).m (A j).c]] W fun x w' => ∃ s : Sl, x = .returned (.agg #[.int .i64 (ptAt l j).id, .slice s.ad s.m s.c]) ∧ Hid (NewI w' W.heap.size (ptAt l j).nodes s ∧ s.m = (A j).m) ∧ Below W.heap.size W w') := hid (fun W hW => config_any ((h2.ints j hlt).1.later hW) (h2.ints j hlt).2 (HNI.out j hlt) _)
      have HOW : Hid (∀ W, Below wr.heap.size wr W → OwnP 61 W w.heap.size v (l.take j) A') := hid (fun W hW => by have := HG.out.grow.own.later hW; simpa using this)
      have HLT : Hid (∀ (w2 : World) (s : Sl), Blk (w2.alloc (.cells #[.int .i64 (ptAt l j).first, .int .i64 (ptAt l j).id, .slice s.ad s.m s.c] 61)) w2.heap.size #[.int .i64 (ptAt l j).first, .int .i64 (ptAt l j).id, .slice s.ad s.m s.c] 61) := hid (fun w2 s => heap_alloc_new w2 _)
      have hlen : Hid ((l.take j).length = j) := hid (by rw [List.length_take]; omega)
      have hsz : Hid (∀ W, Below wr.heap.size wr W → w.heap.size ≤ W.heap.size) := hid (fun W hW => Nat.le_trans HG.out.below.size hW.size)
      have HSP : Hid (∀ (w2 w5 : World) (s : Sl) (v' : Value), Below wr.heap.size wr w2 → NewI w2 wr.heap.size (ptAt l j).nodes s → OwnP 61 w5 w.heap.size v' (l.take j ++ [ptAt l j]) (fun i => if i < (l.take j).length then A' i else s) → (w2.alloc (.cells #[.int .i64 (ptAt l j).first, .int .i64 (ptAt l j).id, .slice s.ad s.m s.c] 61)).grownBy w5 v.ownBlock → (∀ g ∈ v'.ownBlock.toList, g ∈ v.ownBlock.toList ∨ (w2.alloc (.cells #[.int .i64 (ptAt l j).first, .int .i64 (ptAt l j).id, .slice s.ad s.m s.c] 61)).heap.size ≤ g) →
        (w5.cell? ⟨w.heap.size + 1 + 1, 2, none⟩ = some v ∧ w5.frozen? ⟨w.heap.size + 1 + 1, 2, none⟩ = false ∧ ((w5.cell? ⟨w.heap.size, 2, none⟩ = some (.slice (some ⟨b, off, none⟩) m c)) ∧ w5.cell? ⟨b, off + j * 3, none⟩ = some (.int .i64 (ptAt l j).first) ∧ w5.cell? ⟨b, off + j * 3 + 1, none⟩ = some (.int .i64 (ptAt l j).id) ∧ w5.cell? ⟨b, off + j * 3 + 2, none⟩ = some (.slice (A j).ad (A j).m (A j).c))) ∧ (((w5.setCell ⟨w.heap.size + 1 + 1, 2, none⟩ v').cell? ⟨w.heap.size, 2, none⟩ = some (.slice (some ⟨b, off, none⟩) m c)) ∧ (w5.setCell ⟨w.heap.size + 1 + 1, 2, none⟩ v').cell? ⟨b, off + j * 3, none⟩ = some (.int .i64 (ptAt l j).first) ∧ (w5.setCell ⟨w.heap.size + 1 + 1, 2, none⟩ v').cell? ⟨b, off + j * 3 + 1, none⟩ = some (.int .i64 (ptAt l j).id) ∧ (w5.setCell ⟨w.heap.size + 1 + 1, 2, none⟩ v').cell? ⟨b, off + j * 3 + 2, none⟩ = some (.slice (A j).ad (A j).m (A j).c)) ∧ ∃ A'', OwnW w o t (some ⟨b, off, none⟩) m c l (j + 1) v' A'' (w5.setCell ⟨w.heap.size + 1 + 1, 2, none⟩ v')) := hid (fun w2 w5 s v' a1 a2 a3 a4 a5 => by
        obtain ⟨hb, k2, A'', hW⟩ := HG.out.round (by omega) a1 a2 a3 a4 a5
        obtain ⟨b', off', e, hs', hc'⟩ := (H.out.later hb).cells (by omega)
        cases e
        have hq := hc' j hlt
        obtain ⟨b', off', e, hs'', hc''⟩ := (H.out.later hW.below).cells (by omega)
        cases e
        have hb0 : w5.cell? ⟨w.heap.size, 2, none⟩ = some (.slice (some ⟨b, off, none⟩) m c) := by
          have hne : w.heap.size ≠ w.heap.size + 2 := by omega
          have hz : (w5.setCell ⟨w.heap.size + 2, 2, none⟩ v').heap[w.heap.size]? = w5.heap[w.heap.size]? := Below.heap_setCell _ _ _ _ hne
          have h9 := hW.b0
          unfold Blk at h9
          rw [hz] at h9
          exact (show Blk w5 w.heap.size _ _ from h9).cell 2
        exact ⟨⟨k2.cell 2, k2.free 2, hb0, hq⟩, ⟨hW.b0.cell 2, hc'' j hlt⟩, A'', hW⟩)
      have Hf : Hid (∃ p, p = ptAt l j) := hid ⟨_, rfl⟩
      clear hc hs h2 Hf
      generalize hf : (ptAt l j).first = f at *
      generalize hi : (ptAt l j).id = id at *
      generalize (A j).ad = ad1 at *
      generalize (A j).m = m1 at *
      generalize (A j).c = c1 at *
      replace HLT : Hid (∀ (w2 : World) (s : Sl), Blk (w2.alloc (.cells #[.int .i64 f, .int .i64 id, .slice s.ad s.m s.c] 61)) w2.heap.size #[.int .i64 (ptAt l j).first, .int .i64 (ptAt l j).id, .slice s.ad s.m s.c] 61) := hid (fun w2 s => by rw [hf, hi]; exact HLT.out w2 s)
      clear hf hi
      go_wp2_with fail
      refine wp_region_held_drew (S := fun W => (W.cell? ⟨w.heap.size, 2, none⟩ = some (.slice (some ⟨b, off, none⟩) m c)) ∧ W.cell? ⟨b, off + j * 3, none⟩ = some (.int .i64 f) ∧ W.cell? ⟨b, off + j * 3 + 1, none⟩ = some (.int .i64 id) ∧ W.cell? ⟨b, off + j * 3 + 2, none⟩ = some (.slice ad1 m1 c1)) (by kernel_rfl) (HS.out _ (Below.refl _ _).drew) (fun hHeld => ?_)
      refine wpAnyH_take (i := 0) (oi := { dst := some 17, op := Op.fieldAddr 28 (Operand.tmp 3) 2, type := 0, pos := "law.go:24", after := #[], guard := none }) (v := ?_) rfl (by kernel_rfl) (by kernel_rfl) (by kernel_rfl) (fun _ _ _ h => h) (Or.inl ⟨by rfl, ?_⟩) hHeld ?_
      rotate_left
      · intro w hSw; (try dsimp only at hSw); go_simp; try with_reducible rfl
      try simp only [Act.put, List.setIfInBounds_toArray, List.set_cons_zero, List.set_cons_succ]
      refine wpAnyH_take (i := 2) (oi := { dst := some 19, op := Op.fieldAddr 24 (Operand.tmp 1) 2, type := 0, pos := "law.go:24", after := #[], guard := none }) (v := ?_) rfl (by kernel_rfl) (by kernel_rfl) (by kernel_rfl) (fun _ _ _ h => h) (Or.inl ⟨by rfl, ?_⟩) hHeld ?_
      rotate_left
      · intro w hSw; (try dsimp only at hSw); go_simp; try with_reducible rfl
      try simp only [Act.put, List.setIfInBounds_toArray, List.set_cons_zero, List.set_cons_succ]
      refine wpAnyH_take (i := 3) (oi := { dst := some 20, op := Op.load 22 (Operand.tmp 19), type := 22, pos := "law.go:24", after := #[{ on := 2, ground := Ground.data }], guard := none }) (v := ?_) rfl (by kernel_rfl) (by kernel_rfl) (by kernel_rfl) (fun _ _ _ h => h) (Or.inl ⟨by rfl, ?_⟩) hHeld ?_
      rotate_left
      · intro w hSw; (try dsimp only at hSw); go_simp; try with_reducible rfl
      try simp only [Act.put, List.setIfInBounds_toArray, List.set_cons_zero, List.set_cons_succ]
      refine wpAnyH_take (i := 4) (oi := { dst := some 21, op := Op.move (Operand.tmp 4), type := 3, pos := "law.go:24", after := #[], guard := none }) (v := ?_) rfl (by kernel_rfl) (by kernel_rfl) (by kernel_rfl) (fun _ _ _ h => h) (Or.inl ⟨by rfl, ?_⟩) hHeld ?_
      rotate_left
      · intro w hSw; (try dsimp only at hSw); go_simp; try with_reducible rfl
      try simp only [Act.put, List.setIfInBounds_toArray, List.set_cons_zero, List.set_cons_succ]
      refine wpAnyH_take (i := 5) (oi := { dst := some 22, op := Op.indexAddr 22 (Operand.tmp 20) (Operand.tmp 21), type := 0, pos := "law.go:24", after := #[{ on := 3, ground := Ground.data }, { on := 4, ground := Ground.data }], guard := none }) (v := ?_) rfl (by kernel_rfl) (by kernel_rfl) (by kernel_rfl) (fun _ _ _ h => h) (Or.inl ⟨by rfl, ?_⟩) hHeld ?_
      rotate_left
      · intro w hSw; (try dsimp only at hSw); go_simp; try with_reducible rfl
      try simp only [Act.put, List.setIfInBounds_toArray, List.set_cons_zero, List.set_cons_succ]
      refine wpAnyH_take (i := 6) (oi := { dst := some 23, op := Op.fieldAddr 65 (Operand.tmp 22) 0, type := 0, pos := "law.go:24", after := #[{ on := 5, ground := Ground.data }], guard := none }) (v := ?_) rfl (by kernel_rfl) (by kernel_rfl) (by kernel_rfl) (fun _ _ _ h => h) (Or.inl ⟨by rfl, ?_⟩) hHeld ?_
      rotate_left
      · intro w hSw; (try dsimp only at hSw); go_simp; try with_reducible rfl
      try simp only [Act.put, List.setIfInBounds_toArray, List.set_cons_zero, List.set_cons_succ]
      refine wpAnyH_take (i := 7) (oi := { dst := some 24, op := Op.load 3 (Operand.tmp 23), type := 3, pos := "law.go:24", after := #[{ on := 6, ground := Ground.data }], guard := none }) (v := ?_) rfl (by kernel_rfl) (by kernel_rfl) (by kernel_rfl) (fun _ _ _ h => h) (Or.inl ⟨by rfl, ?_⟩) hHeld ?_
      rotate_left
      · intro w hSw; (try dsimp only at hSw); go_simp; try with_reducible rfl
      try simp only [Act.put, List.setIfInBounds_toArray, List.set_cons_zero, List.set_cons_succ]
      refine wpAnyH_take (i := 8) (oi := { dst := some 25, op := Op.fieldAddr 24 (Operand.tmp 1) 2, type := 0, pos := "law.go:24", after := #[], guard := none }) (v := ?_) rfl (by kernel_rfl) (by kernel_rfl) (by kernel_rfl) (fun _ _ _ h => h) (Or.inl ⟨by rfl, ?_⟩) hHeld ?_
      rotate_left
      · intro w hSw; (try dsimp only at hSw); go_simp; try with_reducible rfl
      try simp only [Act.put, List.setIfInBounds_toArray, List.set_cons_zero, List.set_cons_succ]
      refine wpAnyH_take (i := 9) (oi := { dst := some 26, op := Op.load 22 (Operand.tmp 25), type := 22, pos := "law.go:24", after := #[{ on := 8, ground := Ground.data }], guard := none }) (v := ?_) rfl (by kernel_rfl) (by kernel_rfl) (by kernel_rfl) (fun _ _ _ h => h) (Or.inl ⟨by rfl, ?_⟩) hHeld ?_
      rotate_left
      · intro w hSw; (try dsimp only at hSw); go_simp; try with_reducible rfl
      try simp only [Act.put, List.setIfInBounds_toArray, List.set_cons_zero, List.set_cons_succ]
      refine wpAnyH_take (i := 10) (oi := { dst := some 27, op := Op.move (Operand.tmp 4), type := 3, pos := "law.go:24", after := #[], guard := none }) (v := ?_) rfl (by kernel_rfl) (by kernel_rfl) (by kernel_rfl) (fun _ _ _ h => h) (Or.inl ⟨by rfl, ?_⟩) hHeld ?_
      rotate_left
      · intro w hSw; (try dsimp only at hSw); go_simp; try with_reducible rfl
      try simp only [Act.put, List.setIfInBounds_toArray, List.set_cons_zero, List.set_cons_succ]
      refine wpAnyH_take (i := 11) (oi := { dst := some 28, op := Op.indexAddr 22 (Operand.tmp 26) (Operand.tmp 27), type := 0, pos := "law.go:24", after := #[{ on := 9, ground := Ground.data }, { on := 10, ground := Ground.data }], guard := none }) (v := ?_) rfl (by kernel_rfl) (by kernel_rfl) (by kernel_rfl) (fun _ _ _ h => h) (Or.inl ⟨by rfl, ?_⟩) hHeld ?_
      rotate_left
      · intro w hSw; (try dsimp only at hSw); go_simp; try with_reducible rfl
      try simp only [Act.put, List.setIfInBounds_toArray, List.set_cons_zero, List.set_cons_succ]
      refine wpAnyH_take (i := 12) (oi := { dst := some 29, op := Op.fieldAddr 65 (Operand.tmp 28) 1, type := 0, pos := "law.go:24", after := #[{ on := 11, ground := Ground.data }], guard := none }) (v := ?_) rfl (by kernel_rfl) (by kernel_rfl) (by kernel_rfl) (fun _ _ _ h => h) (Or.inl ⟨by rfl, ?_⟩) hHeld ?_
      rotate_left
      · intro w hSw; (try dsimp only at hSw); go_simp; try with_reducible rfl
      try simp only [Act.put, List.setIfInBounds_toArray, List.set_cons_zero, List.set_cons_succ]
      refine wpAnyH_take (i := 13) (oi := { dst := some 30, op := Op.load 49 (Operand.tmp 29), type := 49, pos := "law.go:24", after := #[{ on := 12, ground := Ground.data }], guard := none }) (v := ?_) rfl (by kernel_rfl) (by kernel_rfl) (by kernel_rfl) (fun _ _ _ h => h) (Or.inl ⟨by rfl, ?_⟩) hHeld ?_
      rotate_left
      · intro w hSw; (try dsimp only at hSw); go_simp; try with_reducible rfl
      try simp only [Act.put, List.setIfInBounds_toArray, List.set_cons_zero, List.set_cons_succ]
      refine wpAnyH_ready (rs := [1, 14]) (by kernel_rfl) (by simp) ?_
      refine AllReadyH.cons rfl (fun K hK => ?_) (AllReadyH.cons rfl (fun K hK => ?_) (AllReadyH.nil))
      · skip
        have k2 := HK.out wr.drew (Below.refl _ _).drew
        go_simp
        refine hK.out _ _ (HS.out _ (Below.refl _ _).drew) (fun hHeld => ?_)
        clear hK K
        try simp only [Act.put, List.setIfInBounds_toArray, List.set_cons_zero, List.set_cons_succ]
        refine wpAnyH_ready (rs := [14]) (by kernel_rfl) (by simp) ?_
        refine AllReadyH.cons rfl (fun K hK => ?_) (AllReadyH.nil)
        go_simp
        go_wp2_with (go_at_call 22; refine (HCF.out _ (Below.refl _ _).drew).mono ?_; rintro x w2 ⟨s, rfl, hnew, hb2⟩; have HB2 := hid (((Below.refl _ wr).drew).trans hb2); clear hb2)
        refine hK.out _ _ (HS.out _ HB2.out) (fun hHeld => ?_)
        clear hK K
        try simp only [Act.put, List.setIfInBounds_toArray, List.set_cons_zero, List.set_cons_succ]
        refine wpAnyH_take (i := 15) (oi := { dst := some 32, op := Op.build 61 #[(0, Operand.tmp 24), (1, Operand.tmp 31)], type := 61, pos := "law.go:24", after := #[{ on := 7, ground := Ground.data }, { on := 14, ground := Ground.data }], guard := none }) (v := ?_) rfl (by kernel_rfl) (by kernel_rfl) (by kernel_rfl) (fun _ _ _ h => h) (Or.inl ⟨by rfl, ?_⟩) hHeld ?_
        rotate_left
        · intro w hSw; (try dsimp only at hSw); go_simp; try with_reducible rfl
        try simp only [Act.put, List.setIfInBounds_toArray, List.set_cons_zero, List.set_cons_succ]
        refine wpAnyH_ready (rs := [16]) (by kernel_rfl) (by simp) ?_
        refine AllReadyH.cons rfl (fun K hK => ?_) (AllReadyH.nil)
        have HB3 : Hid (Below wr.heap.size wr (w2.alloc (.cells #[.int .i64 f, .int .i64 id, .slice s.ad s.m s.c] 61))) := hid (HB2.out.alloc HB2.out.size _)
        go_simp
        refine hK.out _ _ (HS.out _ HB3.out) (fun hHeld => ?_)
        clear hK K
        try simp only [Act.put, List.setIfInBounds_toArray, List.set_cons_zero, List.set_cons_succ]
        refine wpAnyH_ready (rs := [17]) (by kernel_rfl) (by simp) ?_
        refine AllReadyH.cons rfl (fun K hK => ?_) (AllReadyH.nil)
        refine step_app_part ptypeC rfl _ _ rfl w.heap.size v (l.take j) A' rfl (HOW.out _ HB3.out) w2.heap.size (ptAt l j) s rfl (HLT.out w2 s) (by rw [hlen.out]; omega) (hsz.out _ HB3.out) ?_
        intro v' w5 r1 r2 r3
        obtain ⟨adv, nv, cv, rfl⟩ := owns_slice r1
        have HST := hid (HSP.out w2 w5 s _ HB2.out hnew.out.1 r1 r2 r3)
        obtain ⟨y2, fy, kS⟩ := HST.out.1
        clear r1 r2 r3
        refine hK.out _ _ (kS) (fun hHeld => ?_)
        clear hK K
        refine wpAnyH_take (i := 18) (oi := { dst := some 35, op := Op.fieldAddr 28 (Operand.tmp 3) 2, type := 0, pos := "law.go:24", after := #[{ on := 0, ground := Ground.phase }, { on := 1, ground := Ground.phase }, { on := 2, ground := Ground.phase }, { on := 3, ground := Ground.phase }, { on := 4, ground := Ground.phase }, { on := 5, ground := Ground.phase }, { on := 6, ground := Ground.phase }, { on := 7, ground := Ground.phase }, { on := 8, ground := Ground.phase }, { on := 9, ground := Ground.phase }, { on := 10, ground := Ground.phase }, { on := 11, ground := Ground.phase }, { on := 12, ground := Ground.phase }, { on := 13, ground := Ground.phase }, { on := 14, ground := Ground.phase }, { on := 15, ground := Ground.phase }, { on := 16, ground := Ground.phase }, { on := 17, ground := Ground.phase }], guard := none }) (v := ?_) rfl (by kernel_rfl) (by kernel_rfl) (by kernel_rfl) (fun _ _ _ h => h) (Or.inl ⟨by rfl, ?_⟩) hHeld ?_
        rotate_left
        · intro w hSw; (try dsimp only at hSw); go_simp; try with_reducible rfl
        refine wpAnyH_ready (rs := [19]) (by kernel_rfl) (by simp) ?_
        refine AllReadyH.cons rfl (fun K hK => ?_) (AllReadyH.nil)
        go_simp
        refine hK.out _ _ (HST.out.2.1) (fun hHeld => ?_)
        clear hK K
        refine wpAnyH_done (by kernel_rfl) ?_ _
        go_wp2_with fail
        obtain ⟨A'', hOW⟩ := HST.out.2.2
        exact ⟨⟨j + 1, by omega, by go_num, _, A'', hid hOW⟩, by simp [intOf]; omega⟩
      · skip
        go_simp
        go_wp2_with (go_at_call 22; refine (HCF.out _ (Below.refl _ _).drew).mono ?_; rintro x w2 ⟨s, rfl, hnew, hb2⟩; have HB2 := hid (((Below.refl _ wr).drew).trans hb2); clear hb2)
        refine hK.out _ _ (HS.out _ HB2.out) (fun hHeld => ?_)
        clear hK K
        try simp only [Act.put, List.setIfInBounds_toArray, List.set_cons_zero, List.set_cons_succ]
        refine wpAnyH_take (i := 15) (oi := { dst := some 32, op := Op.build 61 #[(0, Operand.tmp 24), (1, Operand.tmp 31)], type := 61, pos := "law.go:24", after := #[{ on := 7, ground := Ground.data }, { on := 14, ground := Ground.data }], guard := none }) (v := ?_) rfl (by kernel_rfl) (by kernel_rfl) (by kernel_rfl) (fun _ _ _ h => h) (Or.inl ⟨by rfl, ?_⟩) hHeld ?_
        rotate_left
        · intro w hSw; (try dsimp only at hSw); go_simp; try with_reducible rfl
        try simp only [Act.put, List.setIfInBounds_toArray, List.set_cons_zero, List.set_cons_succ]
        refine wpAnyH_ready (rs := [1, 16]) (by kernel_rfl) (by simp) ?_
        refine AllReadyH.cons rfl (fun K hK => ?_) (AllReadyH.cons rfl (fun K hK => ?_) (AllReadyH.nil))
        · skip
          have k2 := HK.out w2 HB2.out
          go_simp
          refine hK.out _ _ (HS.out _ HB2.out) (fun hHeld => ?_)
          clear hK K
          try simp only [Act.put, List.setIfInBounds_toArray, List.set_cons_zero, List.set_cons_succ]
          refine wpAnyH_ready (rs := [16]) (by kernel_rfl) (by simp) ?_
          refine AllReadyH.cons rfl (fun K hK => ?_) (AllReadyH.nil)
          have HB3 : Hid (Below wr.heap.size wr (w2.alloc (.cells #[.int .i64 f, .int .i64 id, .slice s.ad s.m s.c] 61))) := hid (HB2.out.alloc HB2.out.size _)
          go_simp
          refine hK.out _ _ (HS.out _ HB3.out) (fun hHeld => ?_)
          clear hK K
          try simp only [Act.put, List.setIfInBounds_toArray, List.set_cons_zero, List.set_cons_succ]
          refine wpAnyH_ready (rs := [17]) (by kernel_rfl) (by simp) ?_
          refine AllReadyH.cons rfl (fun K hK => ?_) (AllReadyH.nil)
          refine step_app_part ptypeC rfl _ _ rfl w.heap.size v (l.take j) A' rfl (HOW.out _ HB3.out) w2.heap.size (ptAt l j) s rfl (HLT.out w2 s) (by rw [hlen.out]; omega) (hsz.out _ HB3.out) ?_
          intro v' w5 r1 r2 r3
          obtain ⟨adv, nv, cv, rfl⟩ := owns_slice r1
          have HST := hid (HSP.out w2 w5 s _ HB2.out hnew.out.1 r1 r2 r3)
          obtain ⟨y2, fy, kS⟩ := HST.out.1
          clear r1 r2 r3
          refine hK.out _ _ (kS) (fun hHeld => ?_)
          clear hK K
          refine wpAnyH_take (i := 18) (oi := { dst := some 35, op := Op.fieldAddr 28 (Operand.tmp 3) 2, type := 0, pos := "law.go:24", after := #[{ on := 0, ground := Ground.phase }, { on := 1, ground := Ground.phase }, { on := 2, ground := Ground.phase }, { on := 3, ground := Ground.phase }, { on := 4, ground := Ground.phase }, { on := 5, ground := Ground.phase }, { on := 6, ground := Ground.phase }, { on := 7, ground := Ground.phase }, { on := 8, ground := Ground.phase }, { on := 9, ground := Ground.phase }, { on := 10, ground := Ground.phase }, { on := 11, ground := Ground.phase }, { on := 12, ground := Ground.phase }, { on := 13, ground := Ground.phase }, { on := 14, ground := Ground.phase }, { on := 15, ground := Ground.phase }, { on := 16, ground := Ground.phase }, { on := 17, ground := Ground.phase }], guard := none }) (v := ?_) rfl (by kernel_rfl) (by kernel_rfl) (by kernel_rfl) (fun _ _ _ h => h) (Or.inl ⟨by rfl, ?_⟩) hHeld ?_
          rotate_left
          · intro w hSw; (try dsimp only at hSw); go_simp; try with_reducible rfl
          refine wpAnyH_ready (rs := [19]) (by kernel_rfl) (by simp) ?_
          refine AllReadyH.cons rfl (fun K hK => ?_) (AllReadyH.nil)
          go_simp
          refine hK.out _ _ (HST.out.2.1) (fun hHeld => ?_)
          clear hK K
          refine wpAnyH_done (by kernel_rfl) ?_ _
          go_wp2_with fail
          obtain ⟨A'', hOW⟩ := HST.out.2.2
          exact ⟨⟨j + 1, by omega, by go_num, _, A'', hid hOW⟩, by simp [intOf]; omega⟩
        · skip
          have HB3 : Hid (Below wr.heap.size wr (w2.alloc (.cells #[.int .i64 f, .int .i64 id, .slice s.ad s.m s.c] 61))) := hid (HB2.out.alloc HB2.out.size _)
          go_simp
          refine hK.out _ _ (HS.out _ HB3.out) (fun hHeld => ?_)
          clear hK K
          try simp only [Act.put, List.setIfInBounds_toArray, List.set_cons_zero, List.set_cons_succ]
          refine wpAnyH_ready (rs := [1]) (by kernel_rfl) (by simp) ?_
          refine AllReadyH.cons rfl (fun K hK => ?_) (AllReadyH.nil)
          have k2 := HK.out (w2.alloc (.cells #[.int .i64 f, .int .i64 id, .slice s.ad s.m s.c] 61)) HB3.out
          go_simp
          refine hK.out _ _ (HS.out _ HB3.out) (fun hHeld => ?_)
          clear hK K
          try simp only [Act.put, List.setIfInBounds_toArray, List.set_cons_zero, List.set_cons_succ]
          refine wpAnyH_ready (rs := [17]) (by kernel_rfl) (by simp) ?_
          refine AllReadyH.cons rfl (fun K hK => ?_) (AllReadyH.nil)
          refine step_app_part ptypeC rfl _ _ rfl w.heap.size v (l.take j) A' rfl (HOW.out _ HB3.out) w2.heap.size (ptAt l j) s rfl (HLT.out w2 s) (by rw [hlen.out]; omega) (hsz.out _ HB3.out) ?_
          intro v' w5 r1 r2 r3
          obtain ⟨adv, nv, cv, rfl⟩ := owns_slice r1
          have HST := hid (HSP.out w2 w5 s _ HB2.out hnew.out.1 r1 r2 r3)
          obtain ⟨y2, fy, kS⟩ := HST.out.1
          clear r1 r2 r3
          refine hK.out _ _ (kS) (fun hHeld => ?_)
          clear hK K
          refine wpAnyH_take (i := 18) (oi := { dst := some 35, op := Op.fieldAddr 28 (Operand.tmp 3) 2, type := 0, pos := "law.go:24", after := #[{ on := 0, ground := Ground.phase }, { on := 1, ground := Ground.phase }, { on := 2, ground := Ground.phase }, { on := 3, ground := Ground.phase }, { on := 4, ground := Ground.phase }, { on := 5, ground := Ground.phase }, { on := 6, ground := Ground.phase }, { on := 7, ground := Ground.phase }, { on := 8, ground := Ground.phase }, { on := 9, ground := Ground.phase }, { on := 10, ground := Ground.phase }, { on := 11, ground := Ground.phase }, { on := 12, ground := Ground.phase }, { on := 13, ground := Ground.phase }, { on := 14, ground := Ground.phase }, { on := 15, ground := Ground.phase }, { on := 16, ground := Ground.phase }, { on := 17, ground := Ground.phase }], guard := none }) (v := ?_) rfl (by kernel_rfl) (by kernel_rfl) (by kernel_rfl) (fun _ _ _ h => h) (Or.inl ⟨by rfl, ?_⟩) hHeld ?_
          rotate_left
          · intro w hSw; (try dsimp only at hSw); go_simp; try with_reducible rfl
          refine wpAnyH_ready (rs := [19]) (by kernel_rfl) (by simp) ?_
          refine AllReadyH.cons rfl (fun K hK => ?_) (AllReadyH.nil)
          go_simp
          refine hK.out _ _ (HST.out.2.1) (fun hHeld => ?_)
          clear hK K
          refine wpAnyH_done (by kernel_rfl) ?_ _
          go_wp2_with fail
          obtain ⟨A'', hOW⟩ := HST.out.2.2
          exact ⟨⟨j + 1, by omega, by go_num, _, A'', hid hOW⟩, by simp [intOf]; omega⟩
    · obtain rfl : j = m := by omega
      have hlti : decide ((j : Int) < (j : Int)) = false := by simp
      obtain ⟨ad', c', rfl, -⟩ := HG.out.grow.ans (by omega) H.out.rng
      have HG2 := HG
      have q0 : wr.cell? ⟨w.heap.size + 1 + 1, 0, none⟩ = some (.int .i64 o) := HG.out.b2.cell 0
      have q1 : wr.cell? ⟨w.heap.size + 1 + 1, 1, none⟩ = some (.int .i64 t) := HG.out.b2.cell 1
      have q2 : wr.cell? ⟨w.heap.size + 1 + 1, 2, none⟩ = some (.slice ad' j c') := HG.out.b2.cell 2
      have z0 : wr.cell? ⟨w.heap.size + 1, 0, none⟩ = some (.int .i64 0) := HG.out.b1.cell 0
      have z1 : wr.cell? ⟨w.heap.size + 1, 1, none⟩ = some (.int .i64 0) := HG.out.b1.cell 1
      have z2 : wr.cell? ⟨w.heap.size + 1, 2, none⟩ = some (.slice none 0 0) := HG.out.b1.cell 2
      have f0 := HG.out.b1.free 0
      have f1 := HG.out.b1.free 1
      have f2 := HG.out.b1.free 2
      go_wp2_with fail
      have m0 := ((HG2.out.b1.set 0 (.int .i64 o)).set 1 (.int .i64 t)).set 2 (.slice ad' j c')
      have s0 : (((wr.setCell ⟨w.heap.size + 1, 0, none⟩ (.int .i64 o)).setCell ⟨w.heap.size + 1, 1, none⟩ (.int .i64 t)).setCell ⟨w.heap.size + 1, 2, none⟩ (.slice ad' j c')).cell? ⟨w.heap.size + 1, 0, none⟩ = some (.int .i64 o) := m0.cell 0
      have s1 : (((wr.setCell ⟨w.heap.size + 1, 0, none⟩ (.int .i64 o)).setCell ⟨w.heap.size + 1, 1, none⟩ (.int .i64 t)).setCell ⟨w.heap.size + 1, 2, none⟩ (.slice ad' j c')).cell? ⟨w.heap.size + 1, 1, none⟩ = some (.int .i64 t) := m0.cell 1
      have s2 : (((wr.setCell ⟨w.heap.size + 1, 0, none⟩ (.int .i64 o)).setCell ⟨w.heap.size + 1, 1, none⟩ (.int .i64 t)).setCell ⟨w.heap.size + 1, 2, none⟩ (.slice ad' j c')).cell? ⟨w.heap.size + 1, 2, none⟩ = some (.slice ad' j c') := m0.cell 2
      have hcg : Chg [w.heap.size + 1] wr (((wr.setCell ⟨w.heap.size + 1, 0, none⟩ (.int .i64 o)).setCell ⟨w.heap.size + 1, 1, none⟩ (.int .i64 t)).setCell ⟨w.heap.size + 1, 2, none⟩ (.slice ad' j c')) := (((Chg.refl _ wr).set (Or.inl (by simp)) _ _).set (Or.inl (by simp)) _ _).set (Or.inl (by simp)) _ _
      have hbw := HG2.out.below
      refine bodyPost_ret (v := .agg #[.int .i64 o, .int .i64 t, .slice ad' j c']) (by simp [results, Try.results7, go_sem, s0, s1, s2]) rfl ⟨ad', c', rfl, hid ?_, ?_⟩
      · have g3 := ((HG2.out.grow.set (w.heap.size + 1) HG2.out.b1 (by omega) 0 (.int .i64 o)).set (w.heap.size + 1) (HG2.out.b1.set 0 _) (by omega) 1 (.int .i64 t)).set (w.heap.size + 1) ((HG2.out.b1.set 0 _).set 1 _) (by omega) 2 (.slice ad' j c')
        obtain ⟨ad2, c2, e, hans⟩ := g3.ans (by omega) H.out.rng
        cases e
        exact hans
      · exact hbw.trans (hcg.below (fun k hk => by simp at hk; omega) hbw.size)
end Go.Proofs.Ythadagpfmacemaa
