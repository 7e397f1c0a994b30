/- needed of package chain. -/
import Derived.Test.YthadagpfmacemaaCTrim
namespace Go.Proofs.Ythadagpfmacemaa
open Go.RowKit
variable {w w' : World} {l : List Pt} {A : Nat → Sl} {ad : Option Addr} {m c : Nat}

/-- How many parts a chain that ends at e still needs. -/
def needN (t : Int) (l : List Pt) (e : Int) : Nat := if l.length = 0 then 0 else if (ptAt l (l.length - 1)).first = e ∨ (l.length = 1 ∧ t = e) then l.length - 1 else l.length
theorem needN_le (t : Int) (l : List Pt) (e : Int) : needN t l e ≤ l.length := by unfold needN; split; omega; split <;> omega
theorem CArg.nilNone (w : World) (A : Nat → Sl) (h0 : l.length = 0) : CArg w l A Option.none 0 0 := by
  obtain rfl : l = [] := List.eq_nil_of_length_eq_zero h0
  exact CArg.none w A
set_option maxHeartbeats 1000000 in
theorem needed_any (h : CArg w l A ad m c) (o t e : Int) : Calls Try.prog 47 #[.agg #[.int .i64 o, .int .i64 t, .slice ad m c], .int .i64 e] w fun x w' => (∃ ad' c', x = .returned (.slice ad' (needN t l e) c') ∧ Hid (CArg w' (l.take (needN t l e)) A ad' (needN t l e) c') ∧ (needN t l e ≠ 0 → ad' = ad)) ∧ Below w.heap.size w w' := by
  have hl := h.len
  have hm : m ≤ 9223372036854775807 := by have := h.cap; have := h.room; unfold maxLen at this; omega
  have hmc := h.cap
  have HB : Hid (Below w.heap.size w (w.alloc (.cells #[.int .i64 o, .int .i64 t, .slice ad m c] 28))) := hid ((Below.refl _ _).alloc (Nat.le_refl _) _)
  by_cases h0 : m = 0
  · have en : needN t l e = 0 := by unfold needN; rw [if_pos (hl.trans h0)]
    rw [en]
    have HZ : Hid (CArg (w.alloc (.cells #[.int .i64 o, .int .i64 t, .slice ad m c] 28)) (l.take 0) A none 0 0) := hid (CArg.none _ _)
    subst h0
    clear h en
    go_enter Try.func47, Try.ntmps47
    go_wp2_with fail
    go_ret
    exact ⟨⟨none, 0, rfl, HZ, fun hh => absurd rfl hh⟩, HB.out⟩
  have hq : ((m : Int) == 0) = false := by simp; omega
  have h2 := h.later HB.out
  obtain ⟨b, off, rfl, hs, hc⟩ := h2.cells (by omega)
  have r0 := (hc (m - 1) (by omega)).1
  have hix : ((m : Int) - 1).toNat = m - 1 := by omega
  have hlt : m - 1 < m := by omega
  have hlc : m - 1 ≤ c := by omega
  have HA : Hid (∀ j, j ≤ m → CArg (w.alloc (.cells #[.int .i64 o, .int .i64 t, .slice (some ⟨b, off, none⟩) m c] 28)) (l.take j) A (some ⟨b, off, none⟩) j c) := hid (fun j hj => h2.ahead j hj)
  have HE : Hid (((ptAt l (m - 1)).first = e ∨ (m = 1 ∧ t = e)) → needN t l e = m - 1) := hid (fun hh => by unfold needN; rw [hl, if_neg h0, if_pos hh])
  have HE2 : Hid (¬ ((ptAt l (m - 1)).first = e ∨ (m = 1 ∧ t = e)) → needN t l e = m) := hid (fun hh => by unfold needN; rw [hl, if_neg h0, if_neg hh])
  clear h h2 hc hs hl
  generalize (ptAt l (m - 1)).first = x at *
  by_cases h1 : x = e
  · rw [HE.out (Or.inl h1)]
    have d1 : (x == e) = true := by simpa using h1
    clear HE HE2 h1
    go_enter Try.func47, Try.ntmps47
    go_wp2_with fail
    go_ret
    exact ⟨⟨_, c, rfl, hid (HA.out (m - 1) (by omega)), fun _ => rfl⟩, HB.out⟩
  have d1 : (x == e) = false := by simpa using h1
  by_cases h2 : m = 1
  · have d2 : ((m : Int) == 1) = true := by simp; omega
    by_cases h3 : t = e
    · rw [HE.out (Or.inr ⟨h2, h3⟩)]
      have d3 : (t == e) = true := by simpa using h3
      have HA1 := hid (HA.out (m - 1) (by omega))
      clear HE HE2 h1 h3 h2 HA
      go_enter Try.func47, Try.ntmps47
      go_wp2_with fail
      go_ret
      exact ⟨⟨_, c, rfl, HA1, fun _ => rfl⟩, HB.out⟩
    · rw [HE2.out (fun hh => by rcases hh with hh | hh; exact h1 hh; exact h3 hh.2)]
      have d3 : (t == e) = false := by simpa using h3
      have HA1 := hid (HA.out m (Nat.le_refl _))
      clear HE HE2 h1 h3 h2 HA
      go_enter Try.func47, Try.ntmps47
      go_wp2_with fail
      go_ret
      exact ⟨⟨_, c, rfl, HA1, fun _ => rfl⟩, HB.out⟩
  · rw [HE2.out (fun hh => by rcases hh with hh | hh; exact h1 hh; exact h2 hh.1)]
    have d2 : ((m : Int) == 1) = false := by simp; omega
    have HA1 := hid (HA.out m (Nat.le_refl _))
    clear HE HE2 h1 HA
    go_enter Try.func47, Try.ntmps47
    go_wp2_with fail
    go_ret
    exact ⟨⟨_, c, rfl, HA1, fun _ => rfl⟩, HB.out⟩
end Go.Proofs.Ythadagpfmacemaa
