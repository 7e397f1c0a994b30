/- Message of step: what it answers can be written. -/
import Derived.Test.YtgbjlkaaniaaaaaDoorPStep4
namespace Go.Proofs.YtgbjlkaaniaaaaaDoor
open Go.RowKit
variable {w wi wj : World} {F G Fi Gi : List Nat} {D R : Nat} {s1 s2 : NSt} {v1 v2 : Value} {s : NSt}

/-- Bytes that can be written. -/
def Byt (w : World) (g len : Nat) : Prop := g < w.heap.size ∧ ∀ i, i < len → (∃ v, w.cell? ⟨g, i, none⟩ = some (.int .u8 v)) ∧ w.frozen? ⟨g, i, none⟩ = false
theorem Byt.cell {g len : Nat} (h : Byt w g len) {i : Nat} (hi : i < len) : ∃ v, w.cell? ⟨g, i, none⟩ = some (.int .u8 v) ∧ w.frozen? ⟨g, i, none⟩ = false := by
  obtain ⟨⟨v, hv⟩, hf⟩ := h.2 i hi
  exact ⟨v, hv, hf⟩
theorem Byt.set {g len : Nat} (h : Byt w g len) {i : Nat} (z : Int) : Byt (w.setCell ⟨g, i, none⟩ (.int .u8 z)) g len := by
  refine ⟨by simpa [World.setCell] using h.1, fun j hj => ?_⟩
  obtain ⟨⟨v, hv⟩, hf⟩ := h.2 j hj
  refine ⟨?_, by rw [World.frozen?_setCell]; exact hf⟩
  by_cases e : j = i
  · subst e
    exact ⟨z, World.cell?_setCell_same _ _ _ hv⟩
  · exact ⟨v, by rw [World.cell?_setCell_other _ _ _ _ (fun h => e (by injection h with _ h; exact h.symm))]; exact hv⟩
theorem Byt.keep {g len : Nat} (h : Byt w g len) (hk : wi.heap[g]? = w.heap[g]?) (hs : w.heap.size ≤ wi.heap.size) : Byt wi g len :=
  ⟨Nat.lt_of_lt_of_le h.1 hs, fun i hi => ⟨by rw [World.cell?_of_block (a := ⟨g, i, none⟩) hk]; exact (h.2 i hi).1, by rw [World.frozen?_of_block (a := ⟨g, i, none⟩) hk]; exact (h.2 i hi).2⟩⟩
theorem Byt.later {g len : Nat} (h : Byt w g len) (hb : Below w.heap.size w wi) : Byt wi g len := h.keep (hb.block g h.1) hb.size
theorem Byt.chg {g len : Nat} (h : Byt w g len) (hb : Chg F w wi) (hn : g ∉ F) : Byt wi g len := h.keep (hb.block g h.1 hn) hb.size
set_option maxRecDepth 100000 in
set_option maxHeartbeats 1000000 in
theorem told_byt (x : Int) (y : ByteArray) (w : World) : Calls Tryd.prog 30 #[.agg #[.int .i64 x, .string y]] w fun e w' => ∃ c, e = .returned (.tuple #[.int .i64 x, .slice (some ⟨w.heap.size + 1, 0, none⟩) y.size c, .bool true]) ∧ Part.ok w' ⟨some ⟨w.heap.size + 1, 0, none⟩, y.size, c, sbytes y⟩ ∧ Byt w' (w.heap.size + 1) y.size ∧ Below w.heap.size w w' ∧ y.size ≤ c := by
  obtain ⟨Q, w1, hr, hq, hb⟩ := conv_string y (w.alloc (.cells #[.int .i64 x, .string y] TM)).drew
  have hb2 : Below w.heap.size w w1 := Below.trans (((Below.refl w.heap.size w).alloc (Nat.le_refl _) _).drew) (hb.mono (by simp [World.drew]))
  have hx1 : Blk w1 w.heap.size #[.int .i64 x, .string y] TM := (hb.block w.heap.size (by simp [World.drew])).trans (heap_alloc_last w _)
  have e0 : w1.cell? ⟨w.heap.size, 0, none⟩ = some (.int .i64 x) := hx1.cell 0
  have hrun := run_bytes_of_string (P := Tryd.prog) (w.alloc (.cells #[.int .i64 x, .string y] TM)).drew 9 32 5 y Tryd.underlying9 Tryd.underlying32 Tryd.underlying5
  rw [hr] at hrun
  injection hrun with e1 e2
  injection e1 with e1 e3 e4
  have esz : (w.alloc (.cells #[.int .i64 x, .string y] TM)).drew.heap.size = w.heap.size + 1 := by simp
  rw [esz] at e1
  obtain ⟨qa, ql, qc, qb⟩ := Q
  simp only at e1 e3 e4 hr hq
  subst e1 e3
  have HQ : Hid (qb = sbytes y ∧ Part.ok w1 ⟨some ⟨w.heap.size + 1, 0, none⟩, y.size, qc, qb⟩) := hq
  have HBY : Hid (Byt w1 (w.heap.size + 1) y.size) := hide (by
    have hq2 := hq.out.2
    have hg1 : w1.heap[w.heap.size + 1]? = some (.cells (bytesRow y (grownCap (w.alloc (.cells #[.int .i64 x, .string y] TM)).drew y.size 0 5)) 5 ((bytesRow y (grownCap (w.alloc (.cells #[.int .i64 x, .string y] TM)).drew y.size 0 5)).size, (bytesRow y (grownCap (w.alloc (.cells #[.int .i64 x, .string y] TM)).drew y.size 0 5)).size + 1)) := by
      rw [e2]
      have h := heap_alloc_new (w.alloc (.cells #[.int .i64 x, .string y] TM)).drew.drew (.cells (bytesRow y (grownCap (w.alloc (.cells #[.int .i64 x, .string y] TM)).drew y.size 0 5)) 5 ((bytesRow y (grownCap (w.alloc (.cells #[.int .i64 x, .string y] TM)).drew y.size 0 5)).size, (bytesRow y (grownCap (w.alloc (.cells #[.int .i64 x, .string y] TM)).drew y.size 0 5)).size + 1))
      rw [show (w.alloc (.cells #[.int .i64 x, .string y] TM)).drew.drew.heap.size = w.heap.size + 1 by simp] at h
      exact h
    refine ⟨(Array.getElem?_eq_some_iff.1 hg1).1, fun i hi => ?_⟩
    have hin : i < (bytesRow y (grownCap (w.alloc (.cells #[.int .i64 x, .string y] TM)).drew y.size 0 5)).size := by
      unfold bytesRow
      rw [Array.size_append, Array.size_map]
      have : i < y.data.size := hi
      omega
    constructor
    · rcases hq2.2.2.2 with h0 | ⟨b, off, e, hbl, hc⟩
      · have h1 := hq2.1
        simp only at h0 h1
        rw [h0] at h1
        simp at h1
        omega
      · simp only [Option.some.injEq, Addr.mk.injEq] at e
        obtain ⟨eb, eo, -⟩ := e
        subst eb eo
        have h1 := hq2.1
        have h2 := hc i (by simp only at h1 ⊢; omega)
        rw [Nat.zero_add] at h2
        exact ⟨_, h2⟩
    · simp [World.frozen?, hg1]
      omega)
  have HB := hide hb2
  have HCC : Hid (y.size ≤ qc) := by rw [e4]; exact grownCap_ge _ _ _ _
  clear hq hb hb2 hx1 e2 e4 esz
  go_enter Tryd.func30, Tryd.ntmps30
  go_wp2_with fail
  go_region_law (fail)
  all_goals go_wp2
  all_goals go_ret3
  all_goals exact ⟨qc, rfl, by rw [← HQ.out.1]; exact HQ.out.2, HBY.out, HB.out, HCC.out⟩
set_option maxRecDepth 100000 in
set_option maxHeartbeats 1000000 in
/-- Message of the net: what it answers can be written. -/
theorem message_byt {F : List Nat} (h : NPic w F D v1 v2 s) (k : Int) : Calls Tryd.prog 13 #[.pointer (some ⟨D, 0, none⟩), .int .i64 k] w fun e w' => ∃ p n c, e = .returned (.tuple #[.int .i64 (msgD s k).to, .slice p n c, .bool (hasD s k)]) ∧ Part.ok w' ⟨p, n, c, (msgD s k).b⟩ ∧ Below w.heap.size w w' ∧ n ≤ c ∧ (n = 0 ∨ ∃ g, p = some ⟨g, 0, none⟩ ∧ w.heap.size ≤ g ∧ Byt w' g n) := by
  have hh := has_pic h k
  cases hk : hasD s k with
  | false =>
    rw [hk] at hh
    have hm : msgD s k = ⟨0, []⟩ := by unfold msgD; rw [hk]; rfl
    rw [hm]
    clear h hk hm
    go_enter Tryd.func13, Tryd.ntmps13
    go_wp2_with (go_at_call 28; refine hh.mono ?_; rintro e w' ⟨rfl, hw'⟩; obtain rfl := hw'.symm)
    go_ret3
    exact ⟨none, 0, 0, rfl, ⟨rfl, fun _ => ⟨rfl, rfl⟩, fun _ h => (by cases h), Or.inl rfl⟩, Below.refl _ _, Nat.le_refl _, Or.inl rfl⟩
  | true =>
    rw [hk] at hh
    obtain ⟨n, hn, rfl, hm⟩ := has_yes hk
    have ha := at_pic h n hn
    have HOK := hide (msgD_ok h.ok (n : Int)).2
    rw [← hm] at ha
    obtain ⟨-, -, c2⟩ := h.cells
    clear h hk hm hn
    go_enter Tryd.func13, Tryd.ntmps13
    go_wp2_with (first
      | (go_at_call 28; refine hh.mono ?_; rintro e w' ⟨rfl, hw'⟩; obtain rfl := hw'.symm)
      | (go_at_call 29; refine ha.mono ?_; rintro e w1 ⟨rfl, hw1⟩; have b1 : Below w.heap.size w w1 := (by rw [hw1]; exact (Below.refl _ w).alloc (Nat.le_refl _) _); have B1 := hide b1; clear hw1 b1)
      | (go_at_call 30; refine (told_byt _ _ _).mono ?_; rintro e w2 ⟨qc, rfl, hq1, hq2, hq4, hq6⟩; have HQ6 := hide hq6; have HQ1 := hide hq1; have HQ2 := hide hq2; have HQ4 := hide hq4; clear hq1 hq2 hq4 hq6))
    go_ret3
    have e1 : sbytes (bstr (msgD s (n : Int)).b) = (msgD s (n : Int)).b := sbytes_bstr _ HOK.out
    have hq := HQ1.out
    rw [e1] at hq
    exact ⟨_, _, qc, rfl, hq, B1.out.trans (HQ4.out.mono B1.out.size), HQ6.out, Or.inr ⟨_, rfl, Nat.le_succ_of_le B1.out.size, HQ2.out⟩⟩
end Go.Proofs.YtgbjlkaaniaaaaaDoor
