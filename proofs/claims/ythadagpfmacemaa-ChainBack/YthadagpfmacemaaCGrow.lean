/- grow of package chain. -/
import Derived.Test.YthadagpfmacemaaCClone
namespace Go.Proofs.Ythadagpfmacemaa
open Go.RowKit
variable {w w' : World} {l : List Pt} {A : Nat → Sl} {ad : Option Addr} {m c : Nat}

theorem owns_typed {w : World} {base E z n : Nat} {v : Value} {xs : List Value} (h : w.ownsRow base E z v n xs) : ∀ g ∈ v.ownBlock.toList, ∃ cur, w.heap[g]? = some (.cells cur E) := by
  intro g hg
  rcases h.2 with ⟨rfl, -⟩ | ⟨g', cap, cur, rfl, hb, hc, -⟩
  · cases hg
  · simp [Value.ownBlock] at hg; subst hg; exact ⟨cur, hc⟩
theorem OwnP.chg {E : TypeId} {base : Nat} {v : Value} {l : List Pt} {A : Nat → Sl} {F : List Nat} (h : OwnP E w base v l A) (hb : Chg F w w') (hn : ∀ g ∈ v.ownBlock.toList, g ∉ F) : OwnP E w' base v l A := by
  refine ⟨h.1, ?_⟩
  rcases h.2 with h2 | ⟨g, cap, cur, hv, hgb, hg, r⟩
  · exact Or.inl h2
  · refine Or.inr ⟨g, cap, cur, hv, hgb, ?_, r⟩
    have hlt : g < w.heap.size := by
      rcases Nat.lt_or_ge g w.heap.size with hlt | hge
      · exact hlt
      · rw [Array.getElem?_eq_none hge] at hg; cases hg
    rw [hb.block g hlt (hn g (by rw [hv]; simp [Value.ownBlock]))]
    exact hg
theorem grown_chg {w w' : World} {v : Value} (h : w.grownBy w' v.ownBlock) : Chg v.ownBlock.toList w w' :=
  ⟨h.os, h.tape, h.output, h.size, fun k hk hn => h.block k hk (fun e => hn (by rw [← e]; simp))⟩
/-- grow in its midst: j parts of l stand behind those of l0. -/
structure GrowI (w : World) (base : Nat) (F : List Nat) (l0 : List Pt) (A0 : Nat → Sl) (l : List Pt) (j : Nat) (v : Value) (A' : Nat → Sl) (W : World) : Prop where
  own : OwnP 61 W base v (l0 ++ l.take j) A'
  old : ∀ i, i < l0.length → A' i = A0 i
  new : ∀ i, i < j → NewI W w.heap.size (ptAt l i).nodes (A' (l0.length + i))
  chg : Chg F w W
  blk : ∀ g ∈ v.ownBlock.toList, g ∈ F ∨ w.heap.size ≤ g
theorem GrowI.start {base : Nat} {l0 : List Pt} {A0 : Nat → Sl} {v : Value} (h : OwnP 61 w base v l0 A0) : GrowI w base v.ownBlock.toList l0 A0 l 0 v A0 w :=
  ⟨by simpa using h, fun _ _ => rfl, fun i hi => absurd hi (Nat.not_lt_zero _), Chg.refl _ _, fun g hg => Or.inl hg⟩
theorem part_ne_int {w : World} {g : Nat} {cs : Array Value} (h : w.heap[g]? = some (.cells cs 61)) : ∀ cur, w.heap[g]? ≠ some (.cells cur 3) := by
  intro cur e
  rw [h] at e
  simp at e
/-- One round. -/
theorem GrowI.step {base : Nat} {F : List Nat} {l0 : List Pt} {A0 A' : Nat → Sl} {j : Nat} {v v' : Value} {W w2 w5 : World} {s : Sl} {cs : Array Value} (h : GrowI w base F l0 A0 l j v A' W) (hj : j < l.length)
    (h2 : Below (W.alloc (.cells cs 61)).heap.size (W.alloc (.cells cs 61)) w2) (hs : NewI w2 (W.alloc (.cells cs 61)).heap.size (ptAt l j).nodes s) (u : Value) (o : Obj)
    (h5 : OwnP 61 w5 base v' ((l0 ++ l.take j) ++ [ptAt l j]) (fun i => if i < (l0 ++ l.take j).length then A' i else s)) (hg : ((w2.setCell ⟨W.heap.size, 2, none⟩ u).alloc o).grownBy w5 v.ownBlock) (hv : ∀ g ∈ v'.ownBlock.toList, g ∈ v.ownBlock.toList ∨ W.heap.size ≤ g) :
    GrowI w base F l0 A0 l (j + 1) v' (fun i => if i < (l0 ++ l.take j).length then A' i else s) w5 := by
  have hlen : (l0 ++ l.take j).length = l0.length + j := by simp; omega
  have hbx : Blk (W.alloc (.cells cs 61)) W.heap.size cs 61 := heap_alloc_new W _
  have hb2 := hbx.later h2
  have hw : w.heap.size ≤ W.heap.size := h.chg.size
  -- the worlds, one behind the other
  have c1 : Chg [] W (W.alloc (.cells cs 61)) := Chg.of ((Below.refl _ _).alloc (Nat.le_refl _) _)
  have c2 : Chg [] (W.alloc (.cells cs 61)) w2 := Chg.of h2
  have c3 : Chg [W.heap.size] w2 (w2.setCell ⟨W.heap.size, 2, none⟩ u) := (Chg.refl _ _).set (Or.inl (by simp)) _ _
  have c4 : Chg [] (w2.setCell ⟨W.heap.size, 2, none⟩ u) ((w2.setCell ⟨W.heap.size, 2, none⟩ u).alloc o) := Chg.of ((Below.refl _ _).alloc (Nat.le_refl _) _)
  have c5 := grown_chg hg
  -- v's block is a block of parts in each of them
  have t0 := owns_typed h.own
  have hvlt : ∀ g ∈ v.ownBlock.toList, g < W.heap.size := fun g hg => by
    obtain ⟨cur, hc⟩ := t0 g hg
    rcases Nat.lt_or_ge g W.heap.size with hlt | hge
    · exact hlt
    · rw [Array.getElem?_eq_none hge] at hc; cases hc
  have t4 : ∀ g ∈ v.ownBlock.toList, ∃ cur, ((w2.setCell ⟨W.heap.size, 2, none⟩ u).alloc o).heap[g]? = some (.cells cur 61) := fun g hg => by
    obtain ⟨cur, hc⟩ := t0 g hg
    have l0 := hvlt g hg
    refine ⟨cur, ?_⟩
    rw [c4.block g (by have := c1.size; have := c2.size; have := c3.size; omega) (by simp), c3.block g (by have := c1.size; have := c2.size; omega) (by simp; omega), c2.block g (by have := c1.size; omega) (by simp), c1.block g l0 (by simp)]
    exact hc
  have keep : ∀ {lst : List Int} {sl : Sl} {b : Nat}, NewI w2 b lst sl → NewI w5 b lst sl := fun {lst sl b} hn => by
    have e3 := hn.chg c3 (fun g hg cur => by simp at hg; subst hg; exact part_ne_int hb2 cur)
    have e4 := e3.chg c4 (fun g hg => by cases hg)
    exact e4.chg c5 (fun g hg cur => by obtain ⟨c0, hc⟩ := t4 g hg; exact part_ne_int hc cur)
  refine ⟨?_, fun i hi => ?_, fun i hi => ?_, ?_, fun g hg => ?_⟩
  · rw [take_snocP l j hj, ← List.append_assoc]; exact h5
  · simp only [hlen, show i < l0.length + j by omega, if_true]; exact h.old i hi
  · by_cases e : i = j
    · subst e
      simp only [hlen, Nat.lt_irrefl, if_false]
      exact (keep hs).down (by have := c1.size; omega)
    · simp only [hlen, show l0.length + i < l0.length + j by omega, if_true]
      exact keep (((h.new i (by omega)).chg c1 (fun g hg => by cases hg)).chg c2 (fun g hg => by cases hg))
  · have d1 := h.chg.trans c1 (fun k hk => by cases hk)
    have d2 := d1.trans c2 (fun k hk => by cases hk)
    have d3 := d2.trans c3 (fun k hk => by simp at hk; subst hk; exact Or.inr hw)
    have d4 := d3.trans c4 (fun k hk => by cases hk)
    exact d4.trans c5 (fun k hk => h.blk k hk)
  · rcases hv g hg with h1 | h1
    · exact h.blk g h1
    · exact Or.inr (by omega)
theorem heap_alloc_new' (w : World) (g : Nat) (cs : Array Value) {T : TypeId} (h : w.heap.size = g) : Blk (w.alloc (.cells cs T)) g cs T := by
  subst h
  exact heap_alloc_new w _
theorem OwnP.setNew {E : TypeId} {base : Nat} {v : Value} {l : List Pt} {A : Nat → Sl} {N : Nat} (h : OwnP E w base v l A) (hv : ∀ g ∈ v.ownBlock.toList, g < N) (i : Nat) (u : Value) (o : Obj) : OwnP E ((w.setCell ⟨N, i, none⟩ u).alloc o) base v l A :=
  (h.chg (F := [N]) ((Chg.refl _ _).set (Or.inl (by simp)) _ _) (fun g hg => by have := hv g hg; simp; omega)).later ((Below.refl _ _).alloc (Nat.le_refl _) _)
set_option maxRecDepth 100000 in
set_option maxHeartbeats 2000000 in
theorem grow_any {base : Nat} {l0 : List Pt} {A0 : Nat → Sl} {v0 : Value} (h0 : OwnP 61 w base v0 l0 A0) (h : CArg w l A ad m c) (hbase : base ≤ w.heap.size) (hn : l0.length + m ≤ 1000000) (hni : ∀ i, i < m → (A i).m * 8 ≤ 140737488355328)
    (hF : CBlk (fun b => b ∉ v0.ownBlock.toList) A ad m) :
    Calls Try.prog 46 #[v0, .slice ad m c] w fun e w' => ∃ v' A', e = .returned v' ∧ Hid (GrowI w base v0.ownBlock.toList l0 A0 l m v' A' w') := by
  have H : Hid (CArg w l A ad m c) := h
  have HS : Hid (GrowI w base v0.ownBlock.toList l0 A0 l 0 v0 A0 w) := GrowI.start h0
  have HF : Hid (CBlk (fun b => b ∉ v0.ownBlock.toList) A ad m) := hF
  have HN : Hid (∀ i, i < m → (A i).m * 8 ≤ 140737488355328) := hni
  have hl := h.len
  have hb : Hid (base ≤ w.heap.size) := hbase
  have hm : m ≤ 9223372036854775807 := by omega
  clear h h0 hF hni hbase
  generalize v0.ownBlock.toList = F at *
  go_enter Try.func46, Try.ntmps46
  go_wp2_with fail
  go_loopw [0, 9] (fun vv i wr => ∃ j : Nat, j ≤ m ∧ i = .int .i64 j ∧ ∃ A', Hid (GrowI w base F l0 A0 l j vv A' wr)) (fun _ i _ => m - (intOf i).toNat)
  case atStart => exact ⟨0, by omega, rfl, A0, HS⟩
  case round =>
    obtain ⟨j, hj, rfl, A', HG⟩ := hrel
    by_cases hlt : j < m
    · have hlti : decide ((j : Int) < (m : Int)) = true := by simp; omega
      have h2 := H.out.chg HG.out.chg HF.out
      obtain ⟨b, off, rfl, hs, hc⟩ := h2.cells (by omega)
      obtain ⟨r0, r1, r2⟩ := hc j hlt
      have HB1 : Hid (Below wr.heap.size wr (wr.alloc (.cells #[.int .i64 (ptAt l j).first, .int .i64 (ptAt l j).id, .slice (A j).ad (A j).m (A j).c] 61))) := (show Hid _ from (Below.refl _ _).alloc (Nat.le_refl _) _)
      have HK : Hid (Blk (wr.alloc (.cells #[.int .i64 (ptAt l j).first, .int .i64 (ptAt l j).id, .slice (A j).ad (A j).m (A j).c] 61)) wr.heap.size #[.int .i64 (ptAt l j).first, .int .i64 (ptAt l j).id, .slice (A j).ad (A j).m (A j).c] 61) := (show Hid _ from heap_alloc_new wr _)
      have HC := clone_any ((h2.ints j hlt).1.later HB1.out) (h2.ints j hlt).2 (HN.out j hlt)
      have HO : Hid (OwnP 61 wr base u0 (l0 ++ l.take j) A') := HG.out.own
      have hlen : Hid ((l0 ++ l.take j).length = l0.length + j) := hid (by rw [List.length_append, List.length_take]; omega)
      have hsz : Hid (w.heap.size ≤ wr.heap.size) := HG.out.chg.size
      have hvlt : Hid (∀ g ∈ u0.ownBlock.toList, g < wr.heap.size) := (show Hid _ from fun g hg => by
        obtain ⟨cur, hc⟩ := owns_typed HO.out g hg
        rcases Nat.lt_or_ge g wr.heap.size with hlt | hge
        · exact hlt
        · rw [Array.getElem?_eq_none hge] at hc; cases hc)
      have HST : Hid (∀ (w2 w5 : World) (sl : Sl) (v' u : Value) (o : Obj), Below (wr.alloc (.cells #[.int .i64 (ptAt l j).first, .int .i64 (ptAt l j).id, .slice (A j).ad (A j).m (A j).c] 61)).heap.size (wr.alloc (.cells #[.int .i64 (ptAt l j).first, .int .i64 (ptAt l j).id, .slice (A j).ad (A j).m (A j).c] 61)) w2 → NewI w2 (wr.alloc (.cells #[.int .i64 (ptAt l j).first, .int .i64 (ptAt l j).id, .slice (A j).ad (A j).m (A j).c] 61)).heap.size (ptAt l j).nodes sl → OwnP 61 w5 base v' ((l0 ++ l.take j) ++ [ptAt l j]) (fun i => if i < (l0 ++ l.take j).length then A' i else sl) → ((w2.setCell ⟨wr.heap.size, 2, none⟩ u).alloc o).grownBy w5 u0.ownBlock → (∀ g ∈ v'.ownBlock.toList, g ∈ u0.ownBlock.toList ∨ wr.heap.size ≤ g) → ∃ A'', GrowI w base F l0 A0 l (j + 1) v' A'' w5) := (show Hid _ from fun w2 w5 sl v' u o a1 a2 a3 a4 a5 => ⟨_, HG.out.step (by omega) a1 a2 u o a3 a4 a5⟩)
      have HP : Hid (∃ p : Pt, p = ptAt l j ∧ p.first = (ptAt l j).first ∧ p.id = (ptAt l j).id) := (show Hid _ from ⟨_, rfl, rfl, rfl⟩)
      clear hc hs h2 HS HN
      generalize hf : (ptAt l j).first = f at *
      generalize hid' : (ptAt l j).id = id at *
      generalize (A j).ad = ad1 at *
      generalize (A j).m = m1 at *
      generalize (A j).c = c1 at *
      have Hf : Hid ((ptAt l j).first = f ∧ (ptAt l j).id = id) := ⟨hf, hid'⟩
      clear hf hid'
      go_wp2_with first
        | (go_at_call 63; refine HC.mono ?_; rintro e w2 ⟨sl, rfl, hnew, hb2⟩; have HB2 := hid hb2; have HK2 := hid (HK.out.later hb2); have k0 : w2.cell? ⟨wr.heap.size, 0, none⟩ = some (.int .i64 f) := HK2.out.cell 0; have k1 : w2.cell? ⟨wr.heap.size, 1, none⟩ = some (.int .i64 id) := HK2.out.cell 1; have k2 : w2.cell? ⟨wr.heap.size, 2, none⟩ = some (.slice ad1 m1 c1) := HK2.out.cell 2; have f2 := HK2.out.free 2; have kl := HK2.out.lt; have hsz2 : Hid (wr.heap.size ≤ ((w2.setCell ⟨wr.heap.size, 2, none⟩ (.slice sl.ad sl.m sl.c)).alloc (.cells #[.int .i64 f, .int .i64 id, .slice sl.ad sl.m sl.c] 61)).heap.size) := hid (by simp [World.setCell]; omega); have hba2 : Hid (base ≤ ((w2.setCell ⟨wr.heap.size, 2, none⟩ (.slice sl.ad sl.m sl.c)).alloc (.cells #[.int .i64 f, .int .i64 id, .slice sl.ad sl.m sl.c] 61)).heap.size) := hid (Nat.le_trans hb.out (Nat.le_trans hsz.out hsz2.out)); clear hb2)
        | (at_builtin; refine app_part ptypeC rfl _ _ rfl base u0 (l0 ++ l.take j) A' rfl ?ho w2.heap.size (ptAt l j) sl rfl ?hb (by rw [hlen.out]; omega) ?hba ?_; (case ho => exact ((HO.out.later HB1.out).later HB2.out).setNew hvlt.out _ _ _); (case hb => rw [Hf.out.1, Hf.out.2]; exact heap_alloc_new' _ _ _ (by simp [World.setCell])); (case hba => exact hba2.out); intro v' w5 r1 r2 r3; have HR := hid (HST.out w2 w5 sl v' _ _ HB2.out hnew.out r1 r2 (fun g hg => (r3 g hg).imp (fun h => h) (fun h => Nat.le_trans hsz2.out h))); clear r1 r2 r3)
      obtain ⟨A'', hr⟩ := HR.out
      exact ⟨⟨j + 1, by omega, by go_num, A'', hr⟩, by simp [intOf]; omega⟩
    · obtain rfl : j = m := by omega
      have hlti : decide ((j : Int) < (j : Int)) = false := by simp
      go_wp2_with fail
      go_ret
      exact ⟨_, _, rfl, HG⟩
end Go.Proofs.Ythadagpfmacemaa
