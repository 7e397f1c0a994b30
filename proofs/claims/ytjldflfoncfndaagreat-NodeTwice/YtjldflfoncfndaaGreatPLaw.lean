/- GetReply of the document's package of layer 5. num, sameReply, sameRequest, Request, asks of the statements of layer 5. -/
import Derived.Test.YtjldflfoncfndaaGreatPRPut
import Derived.Test.YtjldflfoncfndaaGreatPNode
import Derived.Deep.DeepCutAuto
import Derived.Test.YtjldflfoncfndaaGreatStr
namespace Go.Proofs.YtjldflfoncfndaaGreat
open Go.RowKit Crcm

theorem refret_reply {fn : Func} {p u : Tmp} (h : fn.results = #[.cell p 26, .tmp u]) (tmps : Array Value) (w : World) (g : Nat) (e t : Int) (s : Bool) (ad : Option Addr) (len cap : Nat)
    (hp : tmps.getD p undef = .pointer (some ⟨g, 0, none⟩)) (hg : Box4 26 w g (.int .i64 e) (.int .i64 t) (.bool s) (.slice ad len cap)) :
    (results fn tmps).run Tryz.prog w = .ok (.tuple #[repV e t s ad len cap, tmps.getD u undef]) w := by
  rw [results_cell_tmp h, hp]
  have hl := run_loadVar_row (P := Tryz.prog) w g 26 26 _ (0, 0) _ hg Tryz.underlying26 rfl (by kernel_rfl)
  simp only [asAddr, Sem.run_pure, Result.andThen_ok]
  rw [hl]
  rfl
theorem val_at (b : List Nat) (i : Nat) (h : i < b.length) : valN ((b.drop i).take 1) = b.getD i 0 := by
  rw [drop_take_snoc b i 0 (by simpa using h)]
  simp [valN]
theorem body_cell {w : World} {g n c : Nat} {b : List Nat} (h : Part.ok w ⟨some ⟨g, 0, none⟩, n, c, b⟩) (i : Nat) (hi : i < n) : w.cell? ⟨g, i, none⟩ = some (.int .u8 ((b.getD i 0 : Nat) : Int)) := by
  obtain ⟨b', off, e, hb, hc⟩ := h.cells (by omega)
  cases e
  have := hc i hi
  rwa [Nat.zero_add] at this
theorem body_lt {w : World} {g n c : Nat} {b : List Nat} (h : Part.ok w ⟨some ⟨g, 0, none⟩, n, c, b⟩) (hn : 0 < n) : g < w.heap.size := by
  obtain ⟨b', off, e, hb, hc⟩ := h.cells hn
  cases e
  exact hb
theorem Box4.grown {T : TypeId} {w w' : World} {B : Nat} {row : Option Nat} {a b c d : Value} (h : Box4 T w B a b c d) (hg : w.grownBy w' row) (hne : some B ≠ row) : Box4 T w' B a b c d :=
  (hg.block B h.lt hne).trans h
theorem Part.ok.grown {w w' : World} {p : Part} {row : Option Nat} (h : p.ok w) (hg : w.grownBy w' row) (hne : ∀ b off, p.ad = some ⟨b, off, none⟩ → some b ≠ row) : p.ok w' := by
  refine ⟨h.1, h.2.1, h.2.2.1, ?_⟩
  rcases h.2.2.2 with h0 | ⟨b, off, e, hs, hc⟩
  · exact Or.inl h0
  · exact Or.inr ⟨b, off, e, Nat.lt_of_lt_of_le hs hg.size, fun i hi => by rw [hg.cell_far ⟨b, off + i, none⟩ hs (hne b off e)]; exact hc i hi⟩

theorem part_ne {T : TypeId} {w : World} {B : Nat} {a b c d : Value} {q : Part} (h : q.ok w) (hB : Box4 T w B a b c d) (hv : ∀ x ∈ [a, b, c, d], ∀ n, x ≠ .int .u8 n) : ∀ x off, q.ad = some ⟨x, off, none⟩ → q.l ≠ [] → x ≠ B := by
  intro x off e hne hx
  subst hx
  rcases h.2.2.2 with h0 | ⟨b', off', e', hs, hc⟩
  · exact hne h0
  · rw [e] at e'
    cases e'
    have h1 := hc 0 (List.length_pos_iff.2 hne)
    unfold Box4 at hB
    rw [cell_of_row w x _ _ _ _ hB] at h1
    clear hc
    rcases off with _ | _ | _ | _ | k
    · exact hv a (by simp) _ (by simpa using h1)
    · exact hv b (by simp) _ (by simpa using h1)
    · exact hv c (by simp) _ (by simpa using h1)
    · exact hv d (by simp) _ (by simpa using h1)
    · simp at h1
theorem part_setC {w : World} {B i : Nat} {v : Value} {q : Part} (h : q.ok w) (hne : ∀ x off, q.ad = some ⟨x, off, none⟩ → q.l ≠ [] → x ≠ B) : q.ok (w.setCell ⟨B, i, none⟩ v) := by
  refine ⟨h.1, h.2.1, h.2.2.1, ?_⟩
  rcases h.2.2.2 with h0 | ⟨b', off, e, hs, hc⟩
  · exact Or.inl h0
  · by_cases h0 : q.l = []
    · exact Or.inl h0
    · refine Or.inr ⟨b', off, e, Nat.lt_of_lt_of_le hs ((Below.refl 0 w).setCell (p := ⟨B, i, none⟩) (Nat.zero_le _) v).size, fun j hj => ?_⟩
      have := hne b' off e h0
      exact (World.cell?_setCell_other w ⟨B, i, none⟩ ⟨b', off + j, none⟩ v (by intro hh; injection hh with h1; omega)).trans (hc j hj)
theorem part_setD {w : World} {B : Nat} {x y z u : Value} {q : Part} (h : q.ok w) (hne : ∀ x off, q.ad = some ⟨x, off, none⟩ → q.l ≠ [] → x ≠ B) : q.ok (set4 w B x y z u) := part_setC (part_setC (part_setC (part_setC h hne) hne) hne) hne
theorem box4_other {T : TypeId} {w : World} {B G i : Nat} {a b c d v : Value} (h : Box4 T w B a b c d) (hne : B ≠ G) : Box4 T (w.setCell ⟨G, i, none⟩ v) B a b c d := by
  unfold Box4 at *
  rw [← h]
  simp [World.setCell, Array.getElem?_modify]
  intro e; exact absurd e.symm hne
/-- What lies in memory behind the making of the reply. -/
structure MadeR (w wx : World) (g n c G : Nat) (b : List Nat) (e : Nat) (s : Bool) (q : Part) : Prop where
  ans : Box4 26 wx w.heap.size (.int .i64 0) (.int .i64 0) (.bool false) (.slice none 0 0)
  new : Box4 26 wx G (.int .i64 e) (.int .i64 0) (.bool s) (.slice q.ad q.len q.cap)
  ne : w.heap.size < G
  sz : w.heap.size < wx.heap.size
  body : Part.ok wx ⟨some ⟨g, 0, none⟩, n, c, b⟩
  part : q.ok wx
  is : q.l = b.drop 4
  below : Below w.heap.size w wx
theorem madeR_of {w V wx : World} {G e n c g : Nat} {s : Bool} {b : List Nat} {q : Part} (X : Box4 26 V w.heap.size (.int .i64 0) (.int .i64 0) (.bool false) (.slice none 0 0)) (Z : w.heap.size < V.heap.size) (B0 : Below w.heap.size w V) (K : Part.ok V ⟨some ⟨g, 0, none⟩, n, c, b⟩) (B : Below V.heap.size V wx) (hG : V.heap.size ≤ G)
    (N : Box4 26 wx G (.int .i64 e) (.int .i64 0) (.bool s) (.slice q.ad q.len q.cap)) (P : q.ok wx) (hq : q.l = b.drop 4) : MadeR w wx g n c G b e s q :=
  ⟨X.below B Z, N, by omega, Nat.lt_of_lt_of_le Z B.size, K.later B, P, hq, B0.trans (B.mono B0.size)⟩
theorem i64_no (n : Int) (m : Int) : Value.int .i64 n ≠ .int .u8 m := by simp
theorem box_no (e t : Int) (s : Bool) (ad : Option Addr) (len cap : Nat) : ∀ x ∈ [Value.int .i64 e, .int .i64 t, .bool s, .slice ad len cap], ∀ n, x ≠ Value.int .u8 n := by
  intro x hx n
  simp at hx
  rcases hx with rfl | rfl | rfl | rfl <;> simp
set_option maxRecDepth 100000 in
set_option maxHeartbeats 4000000 in
theorem refGetReply_no1 (ad : Option Addr) (len cap : Nat) (l : List Nat) (w : World) (hp : Part.ok w ⟨ad, len, cap, l⟩) (hlc : len ≤ cap) (hm : len ≤ 1000000000000000) (h : unpackN l 2 4 = false) :
    Calls Tryz.prog 18 #[.slice ad len cap] w fun e w' => e = .returned (.tuple #[repV 0 0 false none 0 0, .int .i64 22]) ∧ Below w.heap.size w w' := by
  have HB : Hid (Below w.heap.size w (w.alloc (.cells #[.int .i64 0, .int .i64 0, .bool false, .slice none 0 0] 26))) := (show Hid _ from (Below.refl _ w).alloc (Nat.le_refl _) _)
  have Q := framed_no (z := 2) (c := 4) ad len cap l 2 4 (w.alloc (.cells #[.int .i64 0, .int .i64 0, .bool false, .slice none 0 0] 26)) rfl rfl (hp.later HB.out) hlc hm h
  clear hp h hm hlc
  go_enter Tryz.func18, Tryz.ntmps18
  go_wp2_with (go_at_call 45; refine Q.mono ?_; rintro x W1 ⟨p, rfl, hb1⟩; have X : Hid (Box4 26 W1 w.heap.size _ _ _ _) := (show Hid _ from (Box4.new _ w _ _ _ _).below hb1 (by simp)); obtain ⟨c0, c1, c2, c3⟩ := X.out.cs; have f0 := X.out.free 0; have f1 := X.out.free 1; have f2 := X.out.free 2; have f3 := X.out.free 3; have hb2 : Hid (Below w.heap.size w W1) := (show Hid _ from HB.out.trans (hb1.mono HB.out.size)); clear hb1)
  refine bodyPost_ret (refret_reply Tryz.results18 _ _ w.heap.size 0 0 false none 0 0 rfl (X.out.set4 _ _ _ _)) rfl ⟨rfl, ?_⟩
  exact set4_below hb2.out (Nat.le_refl _) _ _ _ _
set_option maxRecDepth 100000 in
set_option maxHeartbeats 8000000 in
theorem refGetReply_frame (ad : Option Addr) (len cap : Nat) (l : List Nat) (w : World) (hp : Part.ok w ⟨ad, len, cap, l⟩) (hlc : len ≤ cap) (hm : len ≤ 1000000000000000) (h : unpackN l 2 4 = true) :
    Calls Tryz.prog 18 #[.slice ad len cap] w fun e w' => ((repIn (bodyAt l 0) = false ∧ e = .returned (.tuple #[repV 0 0 false none 0 0, .int .i64 22])) ∨ (repIn (bodyAt l 0) = true ∧ ∃ q : Part, e = .returned (.tuple #[repV (repE (bodyAt l 0) : Nat) (repT (bodyAt l 0) : Nat) ((repS (bodyAt l 0) : Int) == 1) q.ad q.len q.cap, .int .i64 0]) ∧ q.l = (bodyAt l 0).drop 4 ∧ q.ok w')) ∧ Below w.heap.size w w' := by
  have HB : Hid (Below w.heap.size w (w.alloc (.cells #[.int .i64 0, .int .i64 0, .bool false, .slice none 0 0] 26))) := (show Hid _ from (Below.refl _ w).alloc (Nat.le_refl _) _)
  have Q := framed_at (z := 2) (c := 4) ad len cap l 2 4 (w.alloc (.cells #[.int .i64 0, .int .i64 0, .bool false, .slice none 0 0] 26)) rfl rfl (hp.later HB.out) hlc hm h (by omega)
  clear hp h hm hlc
  obtain ⟨s, hs⟩ : ∃ s, s = repS (bodyAt l 0) := ⟨_, rfl⟩
  obtain ⟨e0, he0⟩ : ∃ e, e = repE (bodyAt l 0) := ⟨_, rfl⟩
  have S : Hid (s = repS (bodyAt l 0)) := hs
  have EE : Hid (e0 = repE (bodyAt l 0)) := he0
  clear hs he0
  by_cases hs2 : 1 < s
  · have j1 : (1 : Int) < (s : Int) := by omega
    go_enter Tryz.func18, Tryz.ntmps18
    go_wp2_with (go_at_call 45; refine Q.mono ?_; rintro x V ⟨g, n, c, rfl, hn, hn4, hn6, hnc, hcm, hg, k1, hb1⟩; have X0 : Hid (Box4 26 V w.heap.size _ _ _ _) := (show Hid _ from (Box4.new _ w _ _ _ _).below hb1 (by simp)); have B0 : Hid (Below w.heap.size w V) := (show Hid _ from HB.out.trans (hb1.mono HB.out.size)); obtain ⟨c0, c1, c2, c3⟩ := X0.out.cs; have f0 := X0.out.free 0; have f1 := X0.out.free 1; have f2 := X0.out.free 2; have f3 := X0.out.free 3; have x3 := body_cell k1 3 (by omega); rw [← val_at _ 3 (by omega)] at x3; rw [show valN (((bodyAt l 0).drop 3).take 1) = s from S.out.symm] at x3; clear hb1 k1 Q hcm hg hn)
    refine bodyPost_ret (refret_reply Tryz.results18 _ _ w.heap.size 0 0 false none 0 0 rfl (X0.out.set4 _ _ _ _)) rfl ⟨Or.inl ⟨repIn_no S.out hs2, rfl⟩, ?_⟩
    exact set4_below B0.out (Nat.le_refl _) _ _ _ _
  · have j1 : ¬ (1 : Int) < (s : Int) := by omega
    have j2 : decide ((1 : Int) < (s : Int)) = false := by simp; omega
    go_enter Tryz.func18, Tryz.ntmps18
    go_upto_region 4 with (go_at_call 45; refine Q.mono ?_; rintro x V ⟨g, n, c, rfl, hn, hn4, hn6, hnc, hcm, hg, k1, hb1⟩; have HC : Hid (c ≤ maxLen ∧ w.heap.size < g ∧ n = (bodyAt l 0).length ∧ g < V.heap.size) := (show Hid _ from ⟨hcm, Nat.lt_of_lt_of_le (by simp) hg, hn, body_lt k1 (by omega)⟩); have H8 : Hid (∀ x ∈ bodyAt l 0, x < 256) := (show Hid _ from k1.2.2.1); have X0 : Hid (Box4 26 V w.heap.size _ _ _ _) := (show Hid _ from (Box4.new _ w _ _ _ _).below hb1 (by simp)); have K0 : Hid (Part.ok V ⟨some ⟨g, 0, none⟩, n, c, bodyAt l 0⟩) := k1; have B0 : Hid (Below w.heap.size w V) := (show Hid _ from HB.out.trans (hb1.mono HB.out.size)); have Z0 : Hid (w.heap.size < V.heap.size) := (show Hid _ from Nat.lt_of_lt_of_le (by simp) hb1.size); have x0 := body_cell k1 0 (by omega); rw [← val_at _ 0 (by omega)] at x0; rw [show valN (((bodyAt l 0).drop 0).take 1) = e0 from EE.out.symm] at x0; have x3 := body_cell k1 3 (by omega); rw [← val_at _ 3 (by omega)] at x3; rw [show valN (((bodyAt l 0).drop 3).take 1) = s from S.out.symm] at x3; clear hb1 k1 Q hcm hg hn)
    have BD : Hid (Below V.heap.size V V.drew) := (show Hid _ from (Below.refl _ V).drew)
    have BE : Hid (Below V.heap.size V (V.alloc (.cells #[] 5)).drew) := (show Hid _ from ((Below.refl _ V).alloc (Nat.le_refl _) _).drew)
    have BB : Hid (Below V.heap.size V (V.alloc (.cells #[.int .i64 0, .int .i64 0, .bool false, .slice none 0 0] 26)).drew) := (show Hid _ from ((Below.refl _ V).alloc (Nat.le_refl _) _).drew)
    have BW1 : Hid (Below V.heap.size V ((V.alloc (.cells #[.int .i64 0, .int .i64 0, .bool false, .slice none 0 0] 26)).alloc (.cells #[] 5)).drew) := (show Hid _ from (((Below.refl _ V).alloc (Nat.le_refl _) _).alloc (by simp) _).drew)
    have BW2 : Hid (Below V.heap.size V ((V.alloc (.cells #[] 5)).alloc (.cells #[.int .i64 0, .int .i64 0, .bool false, .slice none 0 0] 26)).drew) := (show Hid _ from (((Below.refl _ V).alloc (Nat.le_refl _) _).alloc (by simp) _).drew)
    have BW3 : Hid (Below V.heap.size V (V.alloc (.cells #[] 5)).drew) := BE
    have SZ1 : Hid (V.heap.size ≤ ((V.alloc (.cells #[.int .i64 0, .int .i64 0, .bool false, .slice none 0 0] 26)).alloc (.cells #[] 5)).drew.heap.size) := (show Hid _ from BW1.out.size)
    have SZ2 : Hid (V.heap.size ≤ ((V.alloc (.cells #[] 5)).alloc (.cells #[.int .i64 0, .int .i64 0, .bool false, .slice none 0 0] 26)).drew.heap.size) := (show Hid _ from BW2.out.size)
    have SZ3 : Hid (V.heap.size ≤ (V.alloc (.cells #[] 5)).drew.heap.size) := (show Hid _ from BE.out.size)
    have oe1 : ((V.alloc (.cells #[.int .i64 0, .int .i64 0, .bool false, .slice none 0 0] 26)).alloc (.cells #[] 5)).drew.ownsRow V.heap.size 5 1 (.slice (some ⟨V.heap.size + 1, 0, none⟩) 0 0) 0 (([] : List Nat).map bv) := by have h := own_kept (empty_own (V.alloc (.cells #[.int .i64 0, .int .i64 0, .bool false, .slice none 0 0] 26)) V.heap.size (by simp)) (Below.refl _ _).drew; simpa using h
    have OE1 : Hid (((V.alloc (.cells #[.int .i64 0, .int .i64 0, .bool false, .slice none 0 0] 26)).alloc (.cells #[] 5)).drew.ownsRow V.heap.size 5 1 (.slice (some ⟨V.heap.size + 1, 0, none⟩) 0 0) 0 (([] : List Nat).map bv)) := oe1
    have OE3 : Hid ((V.alloc (.cells #[] 5)).drew.ownsRow V.heap.size 5 1 (.slice (some ⟨V.heap.size, 0, none⟩) 0 0) 0 (([] : List Nat).map bv)) := (show Hid _ from own_kept (empty_own V V.heap.size (Nat.le_refl _)) (Below.refl _ _).drew)
    have OE2 : Hid (((V.alloc (.cells #[] 5)).alloc (.cells #[.int .i64 0, .int .i64 0, .bool false, .slice none 0 0] 26)).drew.ownsRow V.heap.size 5 1 (.slice (some ⟨V.heap.size, 0, none⟩) 0 0) 0 (([] : List Nat).map bv)) := (show Hid _ from own_kept (empty_own V V.heap.size (Nat.le_refl _)) ((Below.refl _ _).alloc (Nat.le_refl _) _).drew)
    have NB1 : Hid (Box4 26 ((V.alloc (.cells #[.int .i64 0, .int .i64 0, .bool false, .slice none 0 0] 26)).alloc (.cells #[] 5)).drew V.heap.size _ _ _ _) := (show Hid _ from (Box4.new _ V _ _ _ _).below (((Below.refl (V.heap.size + 1) _).alloc (by simp) _).drew) (by omega))
    have nb2 : Box4 26 ((V.alloc (.cells #[] 5)).alloc (.cells #[.int .i64 0, .int .i64 0, .bool false, .slice none 0 0] 26)).drew (V.heap.size + 1) (.int .i64 0) (.int .i64 0) (.bool false) (.slice none 0 0) := by have h := (Box4.new 26 (V.alloc (.cells #[] 5)) (.int .i64 0) (.int .i64 0) (.bool false) (.slice none 0 0)).below ((Below.refl (V.heap.size + 2) _).drew) (by simp); simpa using h
    have NB2 : Hid (Box4 26 ((V.alloc (.cells #[] 5)).alloc (.cells #[.int .i64 0, .int .i64 0, .bool false, .slice none 0 0] 26)).drew (V.heap.size + 1) (.int .i64 0) (.int .i64 0) (.bool false) (.slice none 0 0)) := nb2
    have HX : Hid (∀ W : World, Below V.heap.size V W → W.cell? ⟨g, 0, none⟩ = some (.int .u8 ((e0 : Nat) : Int)) ∧ W.cell? ⟨g, 3, none⟩ = some (.int .u8 ((s : Nat) : Int))) := (show Hid _ from fun W hW => ⟨(hW.cell (p := ⟨g, 0, none⟩) HC.out.2.2.2).trans x0, (hW.cell (p := ⟨g, 3, none⟩) HC.out.2.2.2).trans x3⟩)
    have LT : Hid (∀ x ∈ (bodyAt l 0).drop 4, x < 256) := (show Hid _ from fun x hx => H8.out x (List.mem_of_mem_drop hx))
    have hv8 : IntKind.i64.wrap ((e0 : Nat) : Int) = ((e0 : Nat) : Int) := by have := repE_le H8.out; rw [← EE.out] at this; simp [IntKind.wrap, IntKind.bits, IntKind.signed]; omega
    clear x0 x3 oe1 nb2
    have i1 : (4 : Int) ≤ (n : Int) := by omega
    have i2 : (0 : Int) < (n : Int) := by omega
    have i5 : 0 < n := by omega
    have i3 : (3 : Int) < (n : Int) := by omega
    have i4 : (n : Int) ≤ (c : Int) := by omega
    go_cut [6] (fun v wx => ∃ (G : Nat) (q : Part), v = .pointer (some ⟨G, 0, none⟩) ∧ Hid (MadeR w wx g n c G (bodyAt l 0) e0 ((s : Int) == 1) q))
    case first =>
      by_cases hc4 : c = 4
      · have en4 : n = 4 := by omega
        subst hc4 en4
        have LL : Hid (((bodyAt l 0).drop 4).length = 0) := (show Hid _ from (by show _ = _; rw [List.length_drop, ← HC.out.2.2.1]))
        have RR1 : Hid (Row ((V.alloc (.cells #[.int .i64 0, .int .i64 0, .bool false, .slice none 0 0] 26)).alloc (.cells #[] 5)).drew (some ⟨g, 0, none⟩) ((bodyAt l 0).drop 4)) := (show Hid _ from ⟨LT.out, Or.inl (List.eq_nil_of_length_eq_zero LL.out)⟩)
        have RR2 : Hid (Row ((V.alloc (.cells #[] 5)).alloc (.cells #[.int .i64 0, .int .i64 0, .bool false, .slice none 0 0] 26)).drew (some ⟨g, 0, none⟩) ((bodyAt l 0).drop 4)) := (show Hid _ from ⟨LT.out, Or.inl (List.eq_nil_of_length_eq_zero LL.out)⟩)
        have RR3 : Hid (Row (V.alloc (.cells #[] 5)).drew (some ⟨g, 0, none⟩) ((bodyAt l 0).drop 4)) := (show Hid _ from ⟨LT.out, Or.inl (List.eq_nil_of_length_eq_zero LL.out)⟩)
        go_region_held3 (fun W => W.cell? ⟨g, 0, none⟩ = some (.int .u8 ((e0 : Nat) : Int)) ∧ W.cell? ⟨g, 3, none⟩ = some (.int .u8 ((s : Nat) : Int)))
          (first | exact HX.out _ BD.out | exact HX.out _ BE.out | exact HX.out _ BB.out | exact HX.out _ BW1.out | exact HX.out _ BW2.out | exact HX.out _ B4.out | exact HX.out _ (B4.out.alloc B4.out.size _) | exact HX.out _ (set4_below B4.out (by omega) _ _ _ _))
          (first
              | (refine step_app_any (by rfl) _ _ (by rfl) V.heap.size (.slice (some ⟨V.heap.size + 1, 0, none⟩) 0 0) 0 [] (by rfl) OE1.out (some ⟨g, 0, none⟩) 0 _ ((bodyAt l 0).drop 4) (by rfl) LL.out (fun e => by cases e) RR1.out (by omega) SZ1.out ?_; intro v4 w4 hown4 hg4; obtain ⟨q, rfl, hq, kq⟩ := own_part (L := (bodyAt l 0).drop 4) (by simpa using hown4) LT.out LL.out; have HQ : Hid (q.l = (bodyAt l 0).drop 4) := hq; have KQ : Hid (q.ok w4) := kq; have B4 : Hid (Below V.heap.size V w4) := (show Hid _ from grown_below BW1.out OE1.out hg4 SZ1.out); have N4 : Hid (Box4 26 w4 V.heap.size _ _ _ _) := (show Hid _ from NB1.out.grown hg4 (by simp [Value.ownBlock])); obtain ⟨n0, n1, n2, n3⟩ := N4.out.cs; have g0 := N4.out.free 0; have g1 := N4.out.free 1; have g2 := N4.out.free 2; have g3 := N4.out.free 3; have XX : Hid (w4.cell? ⟨g, 0, none⟩ = some (.int .u8 ((e0 : Nat) : Int)) ∧ w4.cell? ⟨g, 3, none⟩ = some (.int .u8 ((s : Nat) : Int))) := (show Hid _ from HX.out _ B4.out); clear hown4 hg4 hq kq)
              | (refine step_app_any (by rfl) _ _ (by rfl) V.heap.size (.slice (some ⟨V.heap.size, 0, none⟩) 0 0) 0 [] (by rfl) OE2.out (some ⟨g, 0, none⟩) 0 _ ((bodyAt l 0).drop 4) (by rfl) LL.out (fun e => by cases e) RR2.out (by omega) SZ2.out ?_; intro v4 w4 hown4 hg4; obtain ⟨q, rfl, hq, kq⟩ := own_part (L := (bodyAt l 0).drop 4) (by simpa using hown4) LT.out LL.out; have HQ : Hid (q.l = (bodyAt l 0).drop 4) := hq; have KQ : Hid (q.ok w4) := kq; have B4 : Hid (Below V.heap.size V w4) := (show Hid _ from grown_below BW2.out OE2.out hg4 SZ2.out); have N4 : Hid (Box4 26 w4 (V.heap.size + 1) _ _ _ _) := (show Hid _ from NB2.out.grown hg4 (by simp [Value.ownBlock])); obtain ⟨n0, n1, n2, n3⟩ := N4.out.cs; have g0 := N4.out.free 0; have g1 := N4.out.free 1; have g2 := N4.out.free 2; have g3 := N4.out.free 3; have XX : Hid (w4.cell? ⟨g, 0, none⟩ = some (.int .u8 ((e0 : Nat) : Int)) ∧ w4.cell? ⟨g, 3, none⟩ = some (.int .u8 ((s : Nat) : Int))) := (show Hid _ from HX.out _ B4.out); clear hown4 hg4 hq kq)
              | (refine step_app_any (by rfl) _ _ (by rfl) V.heap.size (.slice (some ⟨V.heap.size, 0, none⟩) 0 0) 0 [] (by rfl) OE3.out (some ⟨g, 0, none⟩) 0 _ ((bodyAt l 0).drop 4) (by rfl) LL.out (fun e => by cases e) RR3.out (by omega) SZ3.out ?_; intro v4 w4 hown4 hg4; obtain ⟨q, rfl, hq, kq⟩ := own_part (L := (bodyAt l 0).drop 4) (by simpa using hown4) LT.out LL.out; have HQ : Hid (q.l = (bodyAt l 0).drop 4) := hq; have KQ : Hid (q.ok w4) := kq; have B4 : Hid (Below V.heap.size V w4) := (show Hid _ from grown_below BW3.out OE3.out hg4 SZ3.out); have XX : Hid (w4.cell? ⟨g, 0, none⟩ = some (.int .u8 ((e0 : Nat) : Int)) ∧ w4.cell? ⟨g, 3, none⟩ = some (.int .u8 ((s : Nat) : Int))) := (show Hid _ from HX.out _ B4.out); clear hown4 hg4 hq kq))
        all_goals go_wp2_with fail
        all_goals go_meet
        all_goals have hq := HQ.out
        all_goals have kq := KQ.out
        · exact ⟨w4.heap.size, q, rfl, (show Hid _ from madeR_of X0.out Z0.out B0.out K0.out (B4.out.alloc B4.out.size _) B4.out.size (Box4.new _ _ _ _ _ _) (kq.later ((Below.refl _ _).alloc (Nat.le_refl _) _)) hq)⟩
        · exact ⟨V.heap.size + 1, q, rfl, (show Hid _ from madeR_of X0.out Z0.out B0.out K0.out (set4_below B4.out (by omega) _ _ _ _) (by omega) (N4.out.set4 _ _ _ _) (part_setD kq (part_ne kq N4.out (box_no _ _ _ _ _ _))) hq)⟩
        · exact ⟨V.heap.size, q, rfl, (show Hid _ from madeR_of X0.out Z0.out B0.out K0.out (set4_below B4.out (Nat.le_refl _) _ _ _ _) (Nat.le_refl _) (N4.out.set4 _ _ _ _) (part_setD kq (part_ne kq N4.out (box_no _ _ _ _ _ _))) hq)⟩
      · have LL : Hid (((bodyAt l 0).drop 4).length = n - 4) := (show Hid _ from (by show _ = _; rw [List.length_drop, ← HC.out.2.2.1]))
        have RR1 : Hid (Row ((V.alloc (.cells #[.int .i64 0, .int .i64 0, .bool false, .slice none 0 0] 26)).alloc (.cells #[] 5)).drew (some ⟨g, 4, none⟩) ((bodyAt l 0).drop 4)) := (show Hid _ from (part_rest 4 (K0.out.later BW1.out) hn4 4 (fun _ => rfl)).2.2)
        have RR2 : Hid (Row ((V.alloc (.cells #[] 5)).alloc (.cells #[.int .i64 0, .int .i64 0, .bool false, .slice none 0 0] 26)).drew (some ⟨g, 4, none⟩) ((bodyAt l 0).drop 4)) := (show Hid _ from (part_rest 4 (K0.out.later BW2.out) hn4 4 (fun _ => rfl)).2.2)
        have RR3 : Hid (Row (V.alloc (.cells #[] 5)).drew (some ⟨g, 4, none⟩) ((bodyAt l 0).drop 4)) := (show Hid _ from (part_rest 4 (K0.out.later BE.out) hn4 4 (fun _ => rfl)).2.2)
        go_region_held3 (fun W => W.cell? ⟨g, 0, none⟩ = some (.int .u8 ((e0 : Nat) : Int)) ∧ W.cell? ⟨g, 3, none⟩ = some (.int .u8 ((s : Nat) : Int)))
          (first | exact HX.out _ BD.out | exact HX.out _ BE.out | exact HX.out _ BB.out | exact HX.out _ BW1.out | exact HX.out _ BW2.out | exact HX.out _ B4.out | exact HX.out _ (B4.out.alloc B4.out.size _) | exact HX.out _ (set4_below B4.out (by omega) _ _ _ _))
          (first
              | (refine step_app_any (by rfl) _ _ (by rfl) V.heap.size (.slice (some ⟨V.heap.size + 1, 0, none⟩) 0 0) 0 [] (by rfl) OE1.out (some ⟨g, 4, none⟩) (n - 4) _ ((bodyAt l 0).drop 4) (by rfl) LL.out (fun e => by cases e) RR1.out (by omega) SZ1.out ?_; intro v4 w4 hown4 hg4; obtain ⟨q, rfl, hq, kq⟩ := own_part (L := (bodyAt l 0).drop 4) (by simpa using hown4) LT.out LL.out; have HQ : Hid (q.l = (bodyAt l 0).drop 4) := hq; have KQ : Hid (q.ok w4) := kq; have B4 : Hid (Below V.heap.size V w4) := (show Hid _ from grown_below BW1.out OE1.out hg4 SZ1.out); have N4 : Hid (Box4 26 w4 V.heap.size _ _ _ _) := (show Hid _ from NB1.out.grown hg4 (by simp [Value.ownBlock])); obtain ⟨n0, n1, n2, n3⟩ := N4.out.cs; have g0 := N4.out.free 0; have g1 := N4.out.free 1; have g2 := N4.out.free 2; have g3 := N4.out.free 3; have XX : Hid (w4.cell? ⟨g, 0, none⟩ = some (.int .u8 ((e0 : Nat) : Int)) ∧ w4.cell? ⟨g, 3, none⟩ = some (.int .u8 ((s : Nat) : Int))) := (show Hid _ from HX.out _ B4.out); clear hown4 hg4 hq kq)
              | (refine step_app_any (by rfl) _ _ (by rfl) V.heap.size (.slice (some ⟨V.heap.size, 0, none⟩) 0 0) 0 [] (by rfl) OE2.out (some ⟨g, 4, none⟩) (n - 4) _ ((bodyAt l 0).drop 4) (by rfl) LL.out (fun e => by cases e) RR2.out (by omega) SZ2.out ?_; intro v4 w4 hown4 hg4; obtain ⟨q, rfl, hq, kq⟩ := own_part (L := (bodyAt l 0).drop 4) (by simpa using hown4) LT.out LL.out; have HQ : Hid (q.l = (bodyAt l 0).drop 4) := hq; have KQ : Hid (q.ok w4) := kq; have B4 : Hid (Below V.heap.size V w4) := (show Hid _ from grown_below BW2.out OE2.out hg4 SZ2.out); have N4 : Hid (Box4 26 w4 (V.heap.size + 1) _ _ _ _) := (show Hid _ from NB2.out.grown hg4 (by simp [Value.ownBlock])); obtain ⟨n0, n1, n2, n3⟩ := N4.out.cs; have g0 := N4.out.free 0; have g1 := N4.out.free 1; have g2 := N4.out.free 2; have g3 := N4.out.free 3; have XX : Hid (w4.cell? ⟨g, 0, none⟩ = some (.int .u8 ((e0 : Nat) : Int)) ∧ w4.cell? ⟨g, 3, none⟩ = some (.int .u8 ((s : Nat) : Int))) := (show Hid _ from HX.out _ B4.out); clear hown4 hg4 hq kq)
              | (refine step_app_any (by rfl) _ _ (by rfl) V.heap.size (.slice (some ⟨V.heap.size, 0, none⟩) 0 0) 0 [] (by rfl) OE3.out (some ⟨g, 4, none⟩) (n - 4) _ ((bodyAt l 0).drop 4) (by rfl) LL.out (fun e => by cases e) RR3.out (by omega) SZ3.out ?_; intro v4 w4 hown4 hg4; obtain ⟨q, rfl, hq, kq⟩ := own_part (L := (bodyAt l 0).drop 4) (by simpa using hown4) LT.out LL.out; have HQ : Hid (q.l = (bodyAt l 0).drop 4) := hq; have KQ : Hid (q.ok w4) := kq; have B4 : Hid (Below V.heap.size V w4) := (show Hid _ from grown_below BW3.out OE3.out hg4 SZ3.out); have XX : Hid (w4.cell? ⟨g, 0, none⟩ = some (.int .u8 ((e0 : Nat) : Int)) ∧ w4.cell? ⟨g, 3, none⟩ = some (.int .u8 ((s : Nat) : Int))) := (show Hid _ from HX.out _ B4.out); clear hown4 hg4 hq kq))
        all_goals go_wp2_with fail
        all_goals go_meet
        all_goals have hq := HQ.out
        all_goals have kq := KQ.out
        · exact ⟨w4.heap.size, q, rfl, (show Hid _ from madeR_of X0.out Z0.out B0.out K0.out (B4.out.alloc B4.out.size _) B4.out.size (Box4.new _ _ _ _ _ _) (kq.later ((Below.refl _ _).alloc (Nat.le_refl _) _)) hq)⟩
        · exact ⟨V.heap.size + 1, q, rfl, (show Hid _ from madeR_of X0.out Z0.out B0.out K0.out (set4_below B4.out (by omega) _ _ _ _) (by omega) (N4.out.set4 _ _ _ _) (part_setD kq (part_ne kq N4.out (box_no _ _ _ _ _ _))) hq)⟩
        · exact ⟨V.heap.size, q, rfl, (show Hid _ from madeR_of X0.out Z0.out B0.out K0.out (set4_below B4.out (Nat.le_refl _) _ _ _ _) (Nat.le_refl _) (N4.out.set4 _ _ _ _) (part_setD kq (part_ne kq N4.out (box_no _ _ _ _ _ _))) hq)⟩
    case rest =>
      obtain ⟨G, q, rfl, M⟩ := hcut
      clear X0 K0 B0 Z0 BD BE BB BW1 BW2 BW3 SZ1 SZ2 SZ3 OE1 OE2 OE3 NB1 NB2 HX LT hv8
      obtain ⟨q0, q1, q2, q3⟩ := M.out.new.cs
      have fG := M.out.new.free 1
      obtain ⟨t0, ht0⟩ : ∃ t, t = repT (bodyAt l 0) := ⟨_, rfl⟩
      have TT : Hid (t0 = repT (bodyAt l 0)) := ht0
      have HG := refGet_ok (some ⟨g, 0, none⟩) n c (bodyAt l 0) 1 2 wc M.out.body (by omega) (by omega) (by omega) (by omega)
      have et : valN (((bodyAt l 0).drop 1).take 2) = t0 := by rw [ht0]; unfold repT; rw [List.drop_one]
      rw [et] at HG
      clear et ht0
      obtain ⟨W2, hW2⟩ : ∃ W2, wc.setCell ⟨G, 1, none⟩ (.int .i64 ((t0 : Nat) : Int)) = W2 := ⟨_, rfl⟩
      have N2 : Hid (Box4 26 W2 G (.int .i64 (e0 : Int)) (.int .i64 (t0 : Int)) (.bool ((s : Int) == 1)) (.slice q.ad q.len q.cap)) := (show Hid _ from (by rw [← hW2]; exact block_set4 M.out.new _))
      have A2 : Hid (Box4 26 W2 w.heap.size (.int .i64 0) (.int .i64 0) (.bool false) (.slice none 0 0)) := (show Hid _ from (by rw [← hW2]; exact box4_other M.out.ans (Nat.ne_of_lt M.out.ne)))
      have P2 : Hid (q.ok W2) := (show Hid _ from (by rw [← hW2]; exact part_setC M.out.part (part_ne M.out.part M.out.new (box_no _ _ _ _ _ _))))
      have B2 : Hid (Below w.heap.size w W2) := (show Hid _ from (by rw [← hW2]; exact M.out.below.setCell (p := ⟨G, 1, none⟩) (Nat.le_of_lt M.out.ne) _))
      have QL : Hid (q.len = n - 4) := (show Hid _ from (by show _ = _; rw [← M.out.part.1, M.out.is, List.length_drop, ← HC.out.2.2.1]))
      have QI : Hid (q.l = (bodyAt l 0).drop 4) := (show Hid _ from M.out.is)
      have HR := repIn_may H8.out S.out hs2 HC.out.2.2.1
      rw [← EE.out, ← TT.out, ← QL.out] at HR
      have HM := tells_any (e0 : Int) (t0 : Int) ((s : Int) == 1) q.ad q.len q.cap W2
      rw [HR] at HM
      unfold repV at HM
      clear HR M
      obtain ⟨m0, m1, m2, m3⟩ := N2.out.cs
      cases hin : repIn (bodyAt l 0) with
      | false =>
        rw [hin] at HM
        have HIN : Hid (repIn (bodyAt l 0) = false) := hin
        clear hin
        go_wp2_with (first | (go_at_call 46; refine HG.mono ?_; rintro x w' ⟨rfl, hw'⟩; obtain rfl := hw'.symm) | (go_at_call 42; refine HM.mono ?_; rintro x W5 ⟨rfl, b5⟩; have A5 : Hid (Box4 26 W5 w.heap.size _ _ _ _) := (show Hid _ from A2.out.below b5 A2.out.lt); obtain ⟨c0, c1, c2, c3⟩ := A5.out.cs; have f0 := A5.out.free 0; have f1 := A5.out.free 1; have f2 := A5.out.free 2; have f3 := A5.out.free 3; have D5 : Hid (Below w.heap.size w W5) := (show Hid _ from B2.out.trans (b5.mono B2.out.size)); clear b5 HM))
        refine bodyPost_ret (refret_reply Tryz.results18 _ _ w.heap.size 0 0 false none 0 0 rfl (A5.out.set4 _ _ _ _)) rfl ⟨Or.inl ⟨HIN.out, rfl⟩, ?_⟩
        exact set4_below D5.out (Nat.le_refl _) _ _ _ _
      | true =>
        rw [hin] at HM
        have HIN : Hid (repIn (bodyAt l 0) = true) := hin
        clear hin
        go_wp2_with (first | (go_at_call 46; refine HG.mono ?_; rintro x w' ⟨rfl, hw'⟩; obtain rfl := hw'.symm) | (go_at_call 42; refine HM.mono ?_; rintro x W5 ⟨rfl, b5⟩; have A5 : Hid (Box4 26 W5 w.heap.size _ _ _ _) := (show Hid _ from A2.out.below b5 A2.out.lt); obtain ⟨c0, c1, c2, c3⟩ := A5.out.cs; have f0 := A5.out.free 0; have f1 := A5.out.free 1; have f2 := A5.out.free 2; have f3 := A5.out.free 3; have D5 : Hid (Below w.heap.size w W5) := (show Hid _ from B2.out.trans (b5.mono B2.out.size)); have E5 : Hid (Box4 26 W5 G _ _ _ _) := (show Hid _ from N2.out.below b5 N2.out.lt); obtain ⟨r0, r1, r2, r3⟩ := E5.out.cs; have P5 : Hid (q.ok W5) := (show Hid _ from P2.out.later b5); clear b5 HM))
        refine bodyPost_ret (refret_reply Tryz.results18 _ _ w.heap.size _ _ _ _ _ _ rfl (A5.out.set4 _ _ _ _)) rfl ⟨Or.inr ⟨HIN.out, q, by rw [← S.out, ← EE.out, ← TT.out]; rfl, QI.out, part_setD P5.out (part_ne P5.out A5.out (box_no _ _ _ _ _ _))⟩, ?_⟩
        exact set4_below D5.out (Nat.le_refl _) _ _ _ _
end Go.Proofs.YtjldflfoncfndaaGreat
namespace Go.Proofs.YtjldflfoncfndaaGreat
open Go.RowKit Crcm

set_option maxRecDepth 100000 in
theorem num5_any (n : Int) (w : World) : Calls Tryz.prog 19 #[.int .i64 n] w fun e w' => e = .returned (.int .i64 n) ∧ w' = w := by
  go_enter Tryz.func19, Tryz.ntmps19
  go_wp2
  go_ret
  exact ⟨rfl, rfl⟩
set_option maxRecDepth 100000 in
set_option maxHeartbeats 4000000 in
theorem sameReply_yes (e t : Int) (s : Bool) (ad ad' : Option Addr) (len cap len' cap' : Nat) (l : List Nat) (w : World) (h1 : Part.ok w ⟨ad, len, cap, l⟩) (h2 : Part.ok w ⟨ad', len', cap', l⟩) :
    Calls Tryz.prog 21 #[repV e t s ad len cap, repV e t s ad' len' cap'] w fun x w' => x = .returned (.bool true) ∧ Below w.heap.size w w' := by
  obtain ⟨W0, hW0⟩ : ∃ W0, (w.alloc (.cells #[.int .i64 e, .int .i64 t, .bool s, .slice ad len cap] 31)).alloc (.cells #[.int .i64 e, .int .i64 t, .bool s, .slice ad' len' cap'] 26) = W0 := ⟨_, rfl⟩
  have hb : Below w.heap.size w W0.drew := by rw [← hW0]; exact (((Below.refl _ w).alloc (Nat.le_refl _) _).alloc (by simp) _).drew
  have X1 : Box4 31 W0.drew w.heap.size (.int .i64 e) (.int .i64 t) (.bool s) (.slice ad len cap) := by
    rw [← hW0]
    exact (Box4.new _ w _ _ _ _).below (((Below.refl (w.heap.size + 1) _).alloc (by simp) _).drew) (by omega)
  have X2 : Box4 26 W0.drew (w.heap.size + 1) (.int .i64 e) (.int .i64 t) (.bool s) (.slice ad' len' cap') := by
    rw [← hW0]
    have h := (Box4.new 26 (w.alloc (.cells #[.int .i64 e, .int .i64 t, .bool s, .slice ad len cap] 31)) (.int .i64 e) (.int .i64 t) (.bool s) (.slice ad' len' cap')).below ((Below.refl (w.heap.size + 2) _).drew) (by simp)
    simpa using h
  have k1 := conv_any (h1.later hb).2.2 len cap h1.1
  have k2 := conv_any (h2.later hb).2.2 len' cap' h2.1
  simp only at k1 k2
  generalize bstr l = tx at *
  have HB : Hid (Below w.heap.size w W0.drew) := hb
  have HS : Hid (W0.drew.cell? ⟨w.heap.size, 0, none⟩ = some (.int .i64 e) ∧ W0.drew.cell? ⟨w.heap.size, 1, none⟩ = some (.int .i64 t) ∧ W0.drew.cell? ⟨w.heap.size, 2, none⟩ = some (.bool s) ∧ W0.drew.cell? ⟨w.heap.size, 3, none⟩ = some (.slice ad len cap) ∧ W0.drew.cell? ⟨w.heap.size + 1, 0, none⟩ = some (.int .i64 e) ∧ W0.drew.cell? ⟨w.heap.size + 1, 1, none⟩ = some (.int .i64 t) ∧ W0.drew.cell? ⟨w.heap.size + 1, 2, none⟩ = some (.bool s) ∧ W0.drew.cell? ⟨w.heap.size + 1, 3, none⟩ = some (.slice ad' len' cap') ∧ (convert 22 9 (.slice ad len cap)).run Tryz.prog W0.drew = .ok (.string tx) W0.drew ∧ (convert 22 9 (.slice ad' len' cap')).run Tryz.prog W0.drew = .ok (.string tx) W0.drew) := (show Hid _ from ⟨X1.cs.1, X1.cs.2.1, X1.cs.2.2.1, X1.cs.2.2.2, X2.cs.1, X2.cs.2.1, X2.cs.2.2.1, X2.cs.2.2.2, k1, k2⟩)
  clear hb h1 h2 X1 X2 k1 k2
  unfold repV
  go_enter Tryz.func21, Tryz.ntmps21
  go_wp2_with fail
  go_region_held3 (fun W => W.cell? ⟨w.heap.size, 0, none⟩ = some (.int .i64 e) ∧ W.cell? ⟨w.heap.size, 1, none⟩ = some (.int .i64 t) ∧ W.cell? ⟨w.heap.size, 2, none⟩ = some (.bool s) ∧ W.cell? ⟨w.heap.size, 3, none⟩ = some (.slice ad len cap) ∧ W.cell? ⟨w.heap.size + 1, 0, none⟩ = some (.int .i64 e) ∧ W.cell? ⟨w.heap.size + 1, 1, none⟩ = some (.int .i64 t) ∧ W.cell? ⟨w.heap.size + 1, 2, none⟩ = some (.bool s) ∧ W.cell? ⟨w.heap.size + 1, 3, none⟩ = some (.slice ad' len' cap') ∧ (convert 22 9 (.slice ad len cap)).run Tryz.prog W = .ok (.string tx) W ∧ (convert 22 9 (.slice ad' len' cap')).run Tryz.prog W = .ok (.string tx) W)
    (exact HS.out)
    ((go_at_call 19; refine (num5_any _ _).mono ?_; rintro x w' ⟨rfl, hw'⟩; obtain rfl := hw'.symm))
  all_goals go_wp2
  all_goals go_ret
  all_goals exact ⟨by simp, HB.out⟩
theorem own_lc {w : World} {base : Nat} {ad : Option Addr} {len cap : Nat} {l : List Nat} (h : Own w base (.slice ad len cap) l) : len ≤ cap := by
  obtain ⟨ad', cap', e, -, h2, -⟩ := h.slice _ rfl
  injection e with e1 e2 e3
  omega
theorem oe0 {w : World} {N n : Nat} (h : (w.alloc (.cells #[] 5)).ownsRow N 5 1 (.slice (some ⟨w.heap.size, 0, none⟩) 0 0) 0 (([] : List Nat).map bv)) (e : w.heap.size = n) : (w.alloc (.cells #[] 5)).ownsRow N 5 1 (.slice (some ⟨n, 0, none⟩) 0 0) 0 (([] : List Nat).map bv) := by
  rw [e] at h
  exact h
set_option maxRecDepth 100000 in
set_option maxHeartbeats 4000000 in
theorem asks5 {zk zg zp : Int} (k g p : Nat) (s : ByteArray) (w : World) (hk : zk = k) (hg : zg = g) (hp : zp = p) (hm : reqMay k g p s.size = true) :
    Calls Tryz.prog 47 #[.int .i64 zk, .int .i64 zg, .int .i64 zp, .string s] w fun x w' => ∃ q : Part, x = .returned (.slice q.ad q.len q.cap) ∧ Hid (q.l = frameBs 1 (requestN k g p (sbytes s))) ∧ Hid (q.ok w') ∧ Hid (q.len ≤ q.cap) ∧ Below w.heap.size w w' := by
  subst hk hg hp
  obtain ⟨Q, W, hrun, hQ, hb⟩ := conv_string s w
  have hl : Q.len = s.size := by rw [← hQ.out.2.1, hQ.out.1, sbytes_length]
  have HP := putRequest_ok k g p Q.ad Q.len Q.cap Q.l W (by rw [hl]; exact hm) hQ.out.2
  rw [hQ.out.1] at HP
  unfold reqV at HP
  have HB : Hid (Below w.heap.size w W) := hb
  clear hQ hl hb hm
  go_enter Tryz.func47, Tryz.ntmps47
  go_wp2_with (go_at_call 10; refine HP.mono ?_; rintro x w2 ⟨q, rfl, e2, k2, o2, b2⟩; have B2 : Hid (Below w.heap.size w w2) := (show Hid _ from HB.out.trans (b2.mono HB.out.size)); have L2 : Hid (q.len ≤ q.cap) := (show Hid _ from own_lc o2.out); clear b2 o2 HP)
  go_ret
  exact ⟨q, rfl, e2, k2, L2, B2.out⟩
end Go.Proofs.YtjldflfoncfndaaGreat
