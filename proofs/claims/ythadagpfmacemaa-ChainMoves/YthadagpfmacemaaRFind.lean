/- Find of the document's package. -/
import Derived.Test.YthadagpfmacemaaCFind
namespace Go.Proofs.Ythadagpfmacemaa
open Go.RowKit
variable {w w' : World} {l : List Pt} {A : Nat → Sl} {ad : Option Addr} {m c : Nat}

set_option maxRecDepth 100000 in
set_option maxHeartbeats 1000000 in
theorem refFind_any (h : CArg w l A ad m c) (o t a : Int) (ha : -9223372036854775808 ≤ a ∧ a ≤ 9223372036854775807) : Calls Try.prog 20 #[.agg #[.int .i64 o, .int .i64 t, .slice ad m c], .int .i64 a] w fun e w' => e = .returned (findV (findN t l a)) ∧ Below w.heap.size w w' := by
  have hl := h.len
  have hm : m ≤ 9223372036854775807 := by have := h.cap; have := h.room; unfold maxLen at this; omega
  have HB : Hid (Below w.heap.size w (w.alloc (.cells #[.int .i64 o, .int .i64 t, .slice ad m c] 24))) := hid ((Below.refl _ _).alloc (Nat.le_refl _) _)
  by_cases a1 : a < 0
  · have e : findN t l a = none := by unfold findN; rw [if_pos (Or.inl a1)]
    rw [e]
    unfold findV
    clear h
    go_enter Try.func20, Try.ntmps20
    go_wp2_with fail
    refine bodyPost_ret (v := .tuple #[.int .i64 0, .int .i64 0, .bool false]) (by simp [results, Try.results20, go_sem]) rfl ⟨rfl, ?_⟩
    exact HB.out
  have d1 : decide (a < 0) = false := by simpa using a1
  by_cases a2 : a < t
  · have e : findN t l a = none := by unfold findN; rw [if_pos (Or.inr a2)]
    rw [e]
    unfold findV
    have d2 : decide (a < t) = true := by simpa using a2
    clear h
    go_enter Try.func20, Try.ntmps20
    go_wp2_with fail
    refine bodyPost_ret (v := .tuple #[.int .i64 0, .int .i64 0, .bool false]) (by simp [results, Try.results20, go_sem]) rfl ⟨rfl, ?_⟩
    exact HB.out
  have d2 : decide (a < t) = false := by simpa using a2
  have h2 := h.later HB.out
  have HE : Hid (∀ n i, n = i + 1 → holdT l a m = holdT l a n → (ptAt l i).first ≤ a → findN t l a = if (ptAt l i).first ≤ a - 4096 then none else some (i, a - (ptAt l i).first)) := hid (fun n i hn hh hf => by
    unfold findN holdN; rw [if_neg (by omega), hl, hh, hn, holdT, if_pos hf])
  have HE0 : Hid (holdT l a m = holdT l a 0 → findN t l a = none) := hid (fun hh => by unfold findN holdN; rw [if_neg (by omega), hl, hh]; rfl)
  have H2 := hid h2
  have HR := hid h.rng
  have k2 : (w.alloc (.cells #[.int .i64 o, .int .i64 t, .slice ad m c] 24)).cell? ⟨w.heap.size, 2, none⟩ = some (.slice ad m c) := by simp [go_sem]
  clear h h2 hl
  go_enter Try.func20, Try.ntmps20
  go_wp2_with fail
  go_loopw [7] (fun i wr => ∃ n : Nat, n ≤ m ∧ i = .int .i64 ((n : Int) - 1) ∧ Hid (holdT l a m = holdT l a n) ∧ wr = w.alloc (.cells #[.int .i64 o, .int .i64 t, .slice ad m c] 24)) (fun i _ => (intOf i + 1).toNat)
  case atStart => exact ⟨m, Nat.le_refl _, by go_num, hid rfl, rfl⟩
  case round =>
    obtain ⟨n, hn, rfl, HT, rfl⟩ := hrel
    cases n with
    | zero =>
      have hz : decide ((0 : Int) ≤ ((0 : Nat) : Int) - 1) = false := by simp
      have HE1 := hid (HE0.out HT.out)
      go_wp2_with fail
      refine bodyPost_ret (v := .tuple #[.int .i64 0, .int .i64 0, .bool false]) (by simp [results, Try.results20, go_sem]) rfl ⟨by rw [HE1.out]; rfl, ?_⟩
      exact HB.out
    | succ i =>
      have hz : decide ((0 : Int) ≤ (i : Int)) = true := by simp
      have hie : ((i + 1 : Nat) : Int) - 1 = (i : Int) := by omega
      rw [hie]
      obtain ⟨b, off, rfl, hs, hc⟩ := H2.out.cells (by omega)
      have r0 := (hc i (by omega)).1
      have hil : i < m := by omega
      have hfr := (HR.out i hil).1
      have HE1 := hid (HE.out (i + 1) i rfl HT.out)
      have HS1 : Hid (¬ (ptAt l i).first ≤ a → holdT l a m = holdT l a i) := hid (fun hh => by rw [HT.out, holdT, if_neg hh])
      clear hc hs hie HE HE0
      generalize (ptAt l i).first = f at *
      by_cases a3 : f ≤ a
      · have d3 : decide (f ≤ a) = true := by simpa using a3
        by_cases a4 : f ≤ a - 4096
        · have HE2 := hid ((HE1.out a3).trans (if_pos a4))
          by_cases a5 : a - f ≤ 9223372036854775807
          · have hwr : wrap64 (a - f) = a - f := by unfold wrap64; omega
            have d4 : decide (a - f < 0) = false := by simp; omega
            have d5 : decide (4096 ≤ a - f) = true := by simp; omega
            clear a3 a4 HE1 HS1
            go_wp2_with fail
            refine bodyPost_ret (v := .tuple #[.int .i64 0, .int .i64 0, .bool false]) (by simp [results, Try.results20, go_sem]) rfl ⟨by rw [HE2.out]; rfl, ?_⟩
            exact HB.out
          · have hwr : wrap64 (a - f) < 0 := by unfold wrap64; omega
            clear a3 a4 HE1 HS1
            go_wp2_with fail
            refine bodyPost_ret (v := .tuple #[.int .i64 0, .int .i64 0, .bool false]) (by simp [results, Try.results20, go_sem]) rfl ⟨by rw [HE2.out]; rfl, ?_⟩
            exact HB.out
        · have HE2 := hid ((HE1.out a3).trans (if_neg a4))
          have d4 : decide (a - f < 0) = false := by simp; omega
          have d5 : decide (4096 ≤ a - f) = false := by simp; omega
          clear HE1 HS1
          go_wp2_with fail
          refine bodyPost_ret (v := .tuple #[.int .i64 (i : Int), .int .i64 (a - f), .bool true]) (by simp [results, Try.results20, go_sem]) rfl ⟨by rw [HE2.out]; rfl, ?_⟩
          exact HB.out
      · have d3 : decide (f ≤ a) = false := by simpa using a3
        have HT2 := hid (HS1.out a3)
        clear HE1 HS1
        go_wp2_with fail
        refine ⟨⟨i, by omega, by go_num, HT2, by first | rfl | trivial⟩, by simp [intOf]⟩
end Go.Proofs.Ythadagpfmacemaa
