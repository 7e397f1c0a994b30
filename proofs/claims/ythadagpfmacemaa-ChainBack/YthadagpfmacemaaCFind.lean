/- Find of package chain. -/
import Derived.Test.YthadagpfmacemaaCHold
import Derived.BigQuiet
namespace Go.Proofs.Ythadagpfmacemaa
open Go.RowKit
variable {w w' : World} {l : List Pt} {A : Nat → Sl} {ad : Option Addr} {m c : Nat}

/-- Find's answer: part and place, if there is one. -/
def findN (t : Int) (l : List Pt) (a : Int) : Option (Nat × Int) :=
  if a < 0 ∨ a < t then none else match holdN l a with
    | none => none
    | some i => if (ptAt l i).first ≤ a - 4096 then none else some (i, a - (ptAt l i).first)
/-- As the call answers it. -/
def findV (x : Option (Nat × Int)) : Value := match x with
  | none => .tuple #[.int .i64 0, .int .i64 0, .bool false]
  | some (i, q) => .tuple #[.int .i64 (i : Int), .int .i64 q, .bool true]
set_option maxRecDepth 100000 in
set_option maxHeartbeats 1000000 in
theorem find_any (h : CArg w l A ad m c) (o t a : Int) (ha : -9223372036854775808 ≤ a ∧ a ≤ 9223372036854775807) : Calls Try.prog 19 #[.agg #[.int .i64 o, .int .i64 t, .slice ad m c], .int .i64 a] w fun e w' => e = .returned (findV (findN t l a)) ∧ Below w.heap.size w w' := by
  have hl := h.len
  have hm : m ≤ 9223372036854775807 := by have := h.cap; have := h.room; unfold maxLen at this; omega
  have HB : Hid (Below w.heap.size w (w.alloc (.cells #[.int .i64 o, .int .i64 t, .slice ad m c] 28))) := hid ((Below.refl _ _).alloc (Nat.le_refl _) _)
  by_cases a1 : a < 0
  · have e : findN t l a = none := by unfold findN; rw [if_pos (Or.inl a1)]
    rw [e]
    unfold findV
    clear h
    go_enter Try.func19, Try.ntmps19
    go_wp2_with fail
    refine bodyPost_ret (v := .tuple #[.int .i64 0, .int .i64 0, .bool false]) (by simp [results, Try.results19, go_sem]) rfl ⟨rfl, ?_⟩
    exact HB.out
  have d1 : decide (a < 0) = false := by simpa using a1
  by_cases a2 : a < t
  · have e : findN t l a = none := by unfold findN; rw [if_pos (Or.inr a2)]
    rw [e]
    unfold findV
    have d2 : decide (a < t) = true := by simpa using a2
    clear h
    go_enter Try.func19, Try.ntmps19
    go_wp2_with fail
    refine bodyPost_ret (v := .tuple #[.int .i64 0, .int .i64 0, .bool false]) (by simp [results, Try.results19, go_sem]) rfl ⟨rfl, ?_⟩
    exact HB.out
  have d2 : decide (a < t) = false := by simpa using a2
  have h2 := h.later HB.out
  have HC := holder_any h2 a
  have HE : Hid (findN t l a = match holdN l a with | none => none | some i => if (ptAt l i).first ≤ a - 4096 then none else some (i, a - (ptAt l i).first)) := hid (by unfold findN; rw [if_neg (by omega)])
  cases hh : holdN l a with
  | none =>
    rw [hh] at HC HE
    simp only [Option.getD_none, Option.isSome_none] at HC
    have HE2 : Hid (findN t l a = none) := HE
    rw [HE2.out]
    unfold findV
    clear h h2 HE HE2 hh
    go_enter Try.func19, Try.ntmps19
    go_wp2_with (go_at_call 42; refine HC.mono ?_; rintro e w1 ⟨rfl, hb1⟩; have HB1 := hid hb1; clear hb1)
    refine bodyPost_ret (v := .tuple #[.int .i64 0, .int .i64 0, .bool false]) (by simp [results, Try.results19, go_sem]) rfl ⟨rfl, ?_⟩
    exact HB.out.trans (HB1.out.mono HB.out.size)
  | some i =>
    rw [hh] at HC HE
    simp only [Option.getD_some, Option.isSome_some] at HC
    replace HE : Hid (findN t l a = if (ptAt l i).first ≤ a - 4096 then none else some (i, a - (ptAt l i).first)) := HE
    have him := (holdT_lt hh).1
    have hfa := (holdT_lt hh).2
    have hfr := (h.rng i (by omega)).1
    have HW : Hid (∀ W, Below (w.alloc (.cells #[.int .i64 o, .int .i64 t, .slice ad m c] 28)).heap.size (w.alloc (.cells #[.int .i64 o, .int .i64 t, .slice ad m c] 28)) W → CArg W l A ad m c ∧ Blk W w.heap.size #[.int .i64 o, .int .i64 t, .slice ad m c] 28) := hid (fun W hW => ⟨h2.later hW, (show Blk _ w.heap.size _ _ from heap_alloc_new w _).later hW⟩)
    have hilt : i < m := by omega
    obtain ⟨b, off, rfl, hs, hc⟩ := h2.cells (by omega)
    have HWc : Hid (∀ W, Below (w.alloc (.cells #[.int .i64 o, .int .i64 t, .slice (some ⟨b, off, none⟩) m c] 28)).heap.size (w.alloc (.cells #[.int .i64 o, .int .i64 t, .slice (some ⟨b, off, none⟩) m c] 28)) W → W.cell? ⟨b, off + i * 3, none⟩ = some (.int .i64 (ptAt l i).first) ∧ W.cell? ⟨w.heap.size, 2, none⟩ = some (.slice (some ⟨b, off, none⟩) m c)) := hid (fun W hW => by
      obtain ⟨h3, h4⟩ := HW.out W hW
      obtain ⟨b', off', e, -, hc'⟩ := h3.cells (by omega)
      cases e
      exact ⟨(hc' i hilt).1, h4.cell 2⟩)
    have hwr : IntKind.i64.wrap (a - (ptAt l i).first) = a - (ptAt l i).first ∨ (ptAt l i).first ≤ a - 4096 := by rw [IntKind.wrap_i64]; omega
    clear h h2 hc hs HW hh hl
    generalize (ptAt l i).first = f at *
    by_cases a3 : f ≤ a - 4096
    · have d3 : decide (f ≤ a - 4096) = true := by simpa using a3
      have HE2 : Hid (findN t l a = none) := hid (HE.out.trans (if_pos a3))
      rw [HE2.out]
      unfold findV
      clear HE HE2 a3 hwr
      go_enter Try.func19, Try.ntmps19
      go_wp2_with (go_at_call 42; refine HC.mono ?_; rintro e w1 ⟨rfl, hb1⟩; have HB1 := hid hb1; obtain ⟨k1, k2⟩ := HWc.out w1 hb1; clear hb1)
      refine bodyPost_ret (v := .tuple #[.int .i64 0, .int .i64 0, .bool false]) (by simp [results, Try.results19, go_sem]) rfl ⟨rfl, ?_⟩
      exact HB.out.trans (HB1.out.mono HB.out.size)
    · have d3 : decide (f ≤ a - 4096) = false := by simpa using a3
      have HE2 : Hid (findN t l a = some (i, a - f)) := hid (HE.out.trans (if_neg a3))
      rw [HE2.out]
      unfold findV
      replace hwr := hwr.resolve_right a3
      clear HE HE2
      go_enter Try.func19, Try.ntmps19
      go_wp2_with (go_at_call 42; refine HC.mono ?_; rintro e w1 ⟨rfl, hb1⟩; have HB1 := hid hb1; obtain ⟨k1, k2⟩ := HWc.out w1 hb1; clear hb1)
      go_quiet (fail)
      go_wp2_with fail
      refine bodyPost_ret (v := .tuple #[.int .i64 (i : Int), .int .i64 (a - f), .bool true]) (by simp [results, Try.results19, go_sem]) rfl ⟨rfl, ?_⟩
      exact below_drewN' (HB.out.trans (HB1.out.mono HB.out.size)) _
end Go.Proofs.Ythadagpfmacemaa
