/- mayTrim of package chain. -/
import Derived.Test.YthadagpfmacemaaCSmall
import Derived.BigQuiet
namespace Go.Proofs.Ythadagpfmacemaa
open Go.RowKit
variable {w w' : World} {l : List Pt} {A : Nat → Sl} {ad : Option Addr} {m c : Nat}

set_option maxHeartbeats 1000000 in
theorem mayTrim_any (h : CArg w l A ad m c) (o t : Int) (hb : -1 ≤ lastF l ∧ lastF l < 281474976710656) : Calls Try.prog 55 #[.agg #[.int .i64 o, .int .i64 t, .slice ad m c]] w fun e w' => e = .returned (.bool (decide (trimOk t l))) ∧ Below w.heap.size w w' := by
  have hl := h.len
  have hm : m ≤ 9223372036854775807 := by have := h.cap; have := h.room; unfold maxLen at this; omega
  have HB : Hid (Below w.heap.size w (w.alloc (.cells #[.int .i64 o, .int .i64 t, .slice ad m c] 28))) := (show Hid _ from (Below.refl _ _).alloc (Nat.le_refl _) _)
  by_cases h0 : m = 0
  · rw [trim_dec0 (hl.trans h0)]
    subst h0
    clear h
    go_enter Try.func55, Try.ntmps55
    go_wp2_with fail
    go_ret
    exact ⟨rfl, HB.out⟩
  have hq : ((m : Int) == 0) = false := by simp; omega
  have hp : 0 < m := by omega
  have h2 := h.later HB.out
  have HF : Hid (∀ nq, Calls Try.prog 45 #[.slice ad m c] ((w.alloc (.cells #[.int .i64 o, .int .i64 t, .slice ad m c] 28)).drewN nq) fun e w' => e = .returned (.int .i64 (farF l)) ∧ w' = (w.alloc (.cells #[.int .i64 o, .int .i64 t, .slice ad m c] 28)).drewN nq) := fun nq => farthest_any (h2.later (below_drewN' (Below.refl _ _) nq)) hb
  have k0 : (w.alloc (.cells #[.int .i64 o, .int .i64 t, .slice ad m c] 28)).cell? ⟨w.heap.size, 0, none⟩ = some (.int .i64 o) := by simp [go_sem]
  have k1 : (w.alloc (.cells #[.int .i64 o, .int .i64 t, .slice ad m c] 28)).cell? ⟨w.heap.size, 1, none⟩ = some (.int .i64 t) := by simp [go_sem]
  have k2 : (w.alloc (.cells #[.int .i64 o, .int .i64 t, .slice ad m c] 28)).cell? ⟨w.heap.size, 2, none⟩ = some (.slice ad m c) := by simp [go_sem]
  obtain ⟨b, off, rfl, hs, hc⟩ := h2.cells (by omega)
  have r0 := (hc 0 (by omega)).1
  simp only [Nat.zero_mul, Nat.add_zero] at r0
  have HT : Hid (¬ (1 < m ∧ (ptAt l 1).first ≤ t) → decide (trimOk t l) = (decide ((ptAt l 0).first ≤ t) && decide (t ≤ farF l))) := fun h1 => trim_dec (by rw [hl]; exact h0) (by rw [hl]; exact h1)
  by_cases h1 : 1 < m
  · have d1 : decide ((1 : Int) < (m : Int)) = true := by simp; omega
    have r1 := (hc 1 h1).1
    simp only [Nat.one_mul] at r1
    have HT1 : Hid ((ptAt l 1).first ≤ t → decide (trimOk t l) = false) := fun h2 => trim_dec1 (by rw [hl]; exact h1) h2
    clear h h2 hc hs hb hl
    generalize (ptAt l 0).first = x at *
    generalize (ptAt l 1).first = y at *
    by_cases h3 : y ≤ t
    · have d2 : decide (y ≤ t) = true := by simpa using h3
      rw [HT1.out h3]
      clear HT HT1 h3
      go_enter Try.func55, Try.ntmps55
      go_wp2_with fail
      generalize (w.alloc (.cells #[.int .i64 o, .int .i64 t, .slice (some ⟨b, off, none⟩) m c] 28)) = W at *
      go_quiet (fail)
      go_wp2_with fail
      go_ret
      exact ⟨rfl, below_drewN' HB.out _⟩
    · have d2 : decide (y ≤ t) = false := by simpa using h3
      rw [HT.out (fun a => h3 a.2)]
      clear HT HT1 h3
      by_cases h4 : x ≤ t
      · have d3 : decide (x ≤ t) = true := by simpa using h4
        rw [d3]
        clear h4
        generalize farF l = z at *
        go_enter Try.func55, Try.ntmps55
        go_wp2_with fail
        generalize (w.alloc (.cells #[.int .i64 o, .int .i64 t, .slice (some ⟨b, off, none⟩) m c] 28)) = W at *
        go_quiet (fail)
        go_wp2_with fail
        go_quiet (first | (go_at_call 45; exact (HF.out _).mono (fun _ _ hh => ⟨hh.1, _, hh.2⟩)) | (go_at_call 45; exact Calls.quiet_of_same (HF.out _)))
        go_wp2_with fail
        go_ret
        exact ⟨by first | rfl | simp, by first | exact below_drewN' HB.out _ | exact below_drewN' (below_drewN' HB.out _) _⟩
      · have d3 : decide (x ≤ t) = false := by simpa using h4
        rw [d3]
        clear h4
        generalize farF l = z at *
        go_enter Try.func55, Try.ntmps55
        go_wp2_with fail
        generalize (w.alloc (.cells #[.int .i64 o, .int .i64 t, .slice (some ⟨b, off, none⟩) m c] 28)) = W at *
        go_quiet (fail)
        go_wp2_with fail
        go_quiet (fail)
        go_wp2_with fail
        go_ret
        exact ⟨by first | rfl | simp, by first | exact below_drewN' HB.out _ | exact below_drewN' (below_drewN' HB.out _) _⟩
  · have d1 : decide ((1 : Int) < (m : Int)) = false := by simp; omega
    rw [HT.out (fun a => h1 a.1)]
    clear HT h h2 hc hs hb hl
    generalize (ptAt l 0).first = x at *
    by_cases h4 : x ≤ t
    · have d3 : decide (x ≤ t) = true := by simpa using h4
      rw [d3]
      clear h4
      generalize farF l = z at *
      go_enter Try.func55, Try.ntmps55
      go_wp2_with fail
      generalize (w.alloc (.cells #[.int .i64 o, .int .i64 t, .slice (some ⟨b, off, none⟩) m c] 28)) = W at *
      go_quiet (fail)
      go_wp2_with fail
      go_quiet (first | (go_at_call 45; exact (HF.out _).mono (fun _ _ hh => ⟨hh.1, _, hh.2⟩)) | (go_at_call 45; exact Calls.quiet_of_same (HF.out _)))
      go_wp2_with fail
      go_ret
      exact ⟨by first | rfl | simp, by first | exact below_drewN' HB.out _ | exact below_drewN' (below_drewN' HB.out _) _⟩
    · have d3 : decide (x ≤ t) = false := by simpa using h4
      rw [d3]
      clear h4
      generalize farF l = z at *
      go_enter Try.func55, Try.ntmps55
      go_wp2_with fail
      generalize (w.alloc (.cells #[.int .i64 o, .int .i64 t, .slice (some ⟨b, off, none⟩) m c] 28)) = W at *
      go_quiet (fail)
      go_wp2_with fail
      go_quiet (fail)
      go_wp2_with fail
      go_ret
      exact ⟨by first | rfl | simp, by first | exact below_drewN' HB.out _ | exact below_drewN' (below_drewN' HB.out _) _⟩
end Go.Proofs.Ythadagpfmacemaa
