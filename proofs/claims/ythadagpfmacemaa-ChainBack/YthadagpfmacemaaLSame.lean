/- Same and ints of the law's package, of what is the same. -/
import Derived.Test.YthadagpfmacemaaCRow
import Derived.Test.YthadagpfmacemaaLWhereN
import Derived.BigQuiet
namespace Go.Proofs.Ythadagpfmacemaa
open Go.RowKit
variable {w : World} {l : List Pt} {A A2 : Nat → Sl} {ad ad2 : Option Addr} {m c c2 : Nat}

set_option maxRecDepth 100000 in
set_option maxHeartbeats 1000000 in
theorem ints_same {l : List Int} (h : Ints w l ad m c) (h2 : Ints w l ad2 m c2) : Calls Try.prog 41 #[.slice ad m c, .slice ad2 m c2] w fun e w' => e = .returned (.bool true) ∧ ∃ n, w' = w.drewN n := by
  have hm : m ≤ 9223372036854775807 := by have := h.cap; have := h.room; unfold maxLen at this; omega
  have H := hid h
  have H2 := hid h2
  clear h h2
  go_enter Try.func41, Try.ntmps41
  go_wp2_with fail
  go_loopw [5] (fun i wr => ∃ j : Nat, j ≤ m ∧ i = .int .i64 j ∧ ∃ n, wr = w.drewN n) (fun i _ => m - (intOf i).toNat)
  case atStart => exact ⟨0, by omega, rfl, 0, rfl⟩
  case round =>
    obtain ⟨j, hj, rfl, n, rfl⟩ := hrel
    by_cases hlt : j < m
    · have hlti : decide (j < m) = true := by simpa using hlt
      have h1 := H.out.later (below_drewN' (Below.refl _ w) n)
      have h2 := H2.out.later (below_drewN' (Below.refl _ w) n)
      obtain ⟨b, off, rfl, hs, hc⟩ := h1.row.resolve_left (by omega)
      obtain ⟨b2, off2, rfl, hs2, hc2⟩ := h2.row.resolve_left (by omega)
      have r0 := hc j hlt
      have r1 := hc2 j hlt
      clear hc hc2 hs hs2 h1 h2
      generalize l.getD j 0 = x at *
      generalize hW : w.drewN n = W at *
      have HW := hid hW
      clear hW
      go_wp2_with fail
      go_quiet (fail)
      go_wp2_with fail
      exact ⟨⟨j + 1, by omega, by go_num, n + nq, by rw [← HW.out, World.drewN_drewN]⟩, by simp [intOf]; omega⟩
    · obtain rfl : j = m := by omega
      have hlti : decide (j < j) = false := by simp
      go_wp2_with fail
      go_ret
      exact ⟨rfl, n, rfl⟩

set_option maxRecDepth 100000 in
set_option maxHeartbeats 1000000 in
theorem same_any (h : CArg w l A ad m c) (h2 : CArg w l A2 ad2 m c2) (o t : Int) : Calls Try.prog 16 #[.agg #[.int .i64 o, .int .i64 t, .slice ad m c], .agg #[.int .i64 o, .int .i64 t, .slice ad2 m c2]] w fun e w' => e = .returned (.bool true) ∧ Below w.heap.size w w' := by
  have hm : m ≤ 9223372036854775807 := by have := h.cap; have := h.room; unfold maxLen at this; omega
  have HB : Hid (Below w.heap.size w ((w.alloc (.cells #[.int .i64 o, .int .i64 t, .slice ad m c] 28)).alloc (.cells #[.int .i64 o, .int .i64 t, .slice ad2 m c2] 28))) := hid (((Below.refl _ _).alloc (Nat.le_refl _) _).alloc (by simp) _)
  have HF : Hid (∀ n, (∃ X, X = (((w.alloc (.cells #[.int .i64 o, .int .i64 t, .slice ad m c] 28)).alloc (.cells #[.int .i64 o, .int .i64 t, .slice ad2 m c2] 28)).drewN n) ∧ Below w.heap.size w X ∧ CArg X l A ad m c ∧ CArg X l A2 ad2 m c2 ∧ X.cell? ⟨w.heap.size, 2, none⟩ = some (.slice ad m c) ∧ X.cell? ⟨w.heap.size + 1, 2, none⟩ = some (.slice ad2 m c2))) := hid (fun n => by
    have hb : Below w.heap.size w (((w.alloc (.cells #[.int .i64 o, .int .i64 t, .slice ad m c] 28)).alloc (.cells #[.int .i64 o, .int .i64 t, .slice ad2 m c2] 28)).drewN n) := below_drewN' HB.out n
    refine ⟨_, rfl, hb, h.later hb, h2.later hb, ?_, ?_⟩
    · have hk : Blk (w.alloc (.cells #[.int .i64 o, .int .i64 t, .slice ad m c] 28)) w.heap.size #[.int .i64 o, .int .i64 t, .slice ad m c] 28 := heap_alloc_new w _
      exact (hk.later (below_drewN' ((Below.refl _ _).alloc (Nat.le_refl _) _) n)).cell 2
    · have hk : Blk ((w.alloc (.cells #[.int .i64 o, .int .i64 t, .slice ad m c] 28)).alloc (.cells #[.int .i64 o, .int .i64 t, .slice ad2 m c2] 28)) (w.heap.size + 1) #[.int .i64 o, .int .i64 t, .slice ad2 m c2] 28 := by
        have := heap_alloc_new (w.alloc (.cells #[.int .i64 o, .int .i64 t, .slice ad m c] 28)) (.cells #[.int .i64 o, .int .i64 t, .slice ad2 m c2] 28)
        rw [show (w.alloc (.cells #[.int .i64 o, .int .i64 t, .slice ad m c] 28)).heap.size = w.heap.size + 1 from by simp] at this
        exact this
      exact (hk.later (below_drewN' (Below.refl _ _) n)).cell 2)
  clear h h2 HB
  go_enter Try.func16, Try.ntmps16
  go_wp2_with fail
  go_loopw [5] (fun i wr => ∃ j : Nat, j ≤ m ∧ i = .int .i64 j ∧ ∃ n, wr = ((w.alloc (.cells #[.int .i64 o, .int .i64 t, .slice ad m c] 28)).alloc (.cells #[.int .i64 o, .int .i64 t, .slice ad2 m c2] 28)).drewN n) (fun i _ => m - (intOf i).toNat)
  case atStart => exact ⟨0, by omega, rfl, 0, rfl⟩
  case round =>
    obtain ⟨j, hj, rfl, n, rfl⟩ := hrel
    obtain ⟨W, hW, hb, hA, hA2, k1, k2⟩ := HF.out n
    rw [← hW]
    by_cases hlt : j < m
    · have hlti : decide (j < m) = true := by simpa using hlt
      obtain ⟨b, off, rfl, -, hc⟩ := hA.cells (by omega)
      obtain ⟨b2, off2, rfl, -, hc2⟩ := hA2.cells (by omega)
      obtain ⟨r0, r1, r2⟩ := hc j hlt
      obtain ⟨p0, p1, p2⟩ := hc2 j hlt
      have em : (A2 j).m = (A j).m := by
        have e1 := (hA.ints j hlt).1.len
        have e2 := (hA2.ints j hlt).1.len
        omega
      have HI : Hid (∀ n, Calls Try.prog 41 #[.slice (A j).ad (A j).m (A j).c, .slice (A2 j).ad (A j).m (A2 j).c] (W.drewN n) fun e w' => e = .returned (.bool true) ∧ ∃ k, w' = W.drewN k) := hid (fun n => by
        have a1 := (hA.ints j hlt).1.later (below_drewN' (Below.refl _ W) n)
        have a2 := (hA2.ints j hlt).1.later (below_drewN' (Below.refl _ W) n)
        rw [em] at a2
        exact (ints_same a1 a2).mono (fun _ _ hh => ⟨hh.1, by obtain ⟨k, hk⟩ := hh.2; exact ⟨n + k, by rw [hk, World.drewN_drewN]⟩⟩))
      rw [em] at p2
      have HW := hid hW
      clear hW hA hA2 hc hc2 HF hb em
      generalize (ptAt l j).first = x1 at *
      generalize (ptAt l j).id = x2 at *
      generalize A j = A1 at *
      generalize A2 j = A3 at *
      go_wp2_with fail
      go_quiet (first | (go_at_call 41; exact HI.out _) | (go_at_call 41; exact HI.out 0))
      go_wp2_with fail
      exact ⟨⟨j + 1, by omega, by go_num, n + nq, by rw [HW.out, World.drewN_drewN]⟩, by simp [intOf]; omega⟩
    · obtain rfl : j = m := by omega
      have hlti : decide (j < j) = false := by simp
      have HW := hid hb
      clear hA hA2 HF hb hW
      go_wp2_with fail
      go_ret
      exact ⟨rfl, HW.out⟩
end Go.Proofs.Ythadagpfmacemaa
