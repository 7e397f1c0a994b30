/- mayBe of package producer: whether an entry can be loaded (by genpload.py). -/
import Derived.Test.YtobaeiicacpbnaaPEnt
import Derived.Test.YtobaeiicacpbnaaPLead
namespace Go.Proofs.Ytobaeiicacpbnaa
open Go.RowKit Go.Shelf
variable {w w' : World} {a : Option Addr} {m c : Nat} {l : List Dn}

/-- May an entry be? -/
def rightE (x : En) : Bool := decide (0 ≤ x.p) && decide (x.p < 281474976710656) && decide (0 ≤ x.e) && decide (x.e ≤ 2147483647) && decide (0 ≤ x.n) && decide (x.n ≤ 2147483648) && decide (x.l.length ≤ 5) && leadR x.l.reverse x.n
set_option maxHeartbeats 1000000 in
theorem mayBe_any (h : DRow w a m l) (hmx : m ≤ 9223372036854775807) (p e n : Int) : Calls Try.prog 25 #[.agg #[.int .i64 p, .int .i64 e, .int .i64 n, .slice a m c]] w fun x w' => x = .returned (.bool (rightE ⟨p, e, n, l⟩)) ∧ Below w.heap.size w w' := by
  have b0 : Below w.heap.size w (w.alloc (.cells #[.int .i64 p, .int .i64 e, .int .i64 n, .slice a m c] TEn)) := (Below.refl _ _).alloc (Nat.le_refl _) _
  have HD := hid (h.later b0)
  have HB := hid b0
  have HL : Hid (l.length = m) := h.1
  clear h b0
  cases h1 : decide (0 ≤ p) with
  | false =>
    have HR := hid (show rightE ⟨p, e, n, l⟩ = false from by simp [rightE, h1])
    go_enter Try.func25, Try.ntmps25
    go_wp2_with fail
    go_ret
    exact ⟨by rw [HR.out]; rfl, HB.out⟩
  | true =>
  cases h2 : decide (p < 281474976710656) with
  | false =>
    have HR := hid (show rightE ⟨p, e, n, l⟩ = false from by simp [rightE, h1, h2])
    go_enter Try.func25, Try.ntmps25
    go_wp2_with fail
    go_ret
    exact ⟨by rw [HR.out]; rfl, HB.out⟩
  | true =>
  cases h3 : decide (0 ≤ e) with
  | false =>
    have HR := hid (show rightE ⟨p, e, n, l⟩ = false from by simp [rightE, h1, h2, h3])
    go_enter Try.func25, Try.ntmps25
    go_wp2_with fail
    go_ret
    exact ⟨by rw [HR.out]; rfl, HB.out⟩
  | true =>
  cases h4 : decide (e ≤ 2147483647) with
  | false =>
    have HR := hid (show rightE ⟨p, e, n, l⟩ = false from by simp [rightE, h1, h2, h3, h4])
    go_enter Try.func25, Try.ntmps25
    go_wp2_with fail
    go_ret
    exact ⟨by rw [HR.out]; rfl, HB.out⟩
  | true =>
  cases h5 : decide (0 ≤ n) with
  | false =>
    have HR := hid (show rightE ⟨p, e, n, l⟩ = false from by simp [rightE, h1, h2, h3, h4, h5])
    go_enter Try.func25, Try.ntmps25
    go_wp2_with fail
    go_ret
    exact ⟨by rw [HR.out]; rfl, HB.out⟩
  | true =>
  cases h6 : decide (n ≤ 2147483648) with
  | false =>
    have HR := hid (show rightE ⟨p, e, n, l⟩ = false from by simp [rightE, h1, h2, h3, h4, h5, h6])
    go_enter Try.func25, Try.ntmps25
    go_wp2_with fail
    go_ret
    exact ⟨by rw [HR.out]; rfl, HB.out⟩
  | true =>
  by_cases h7 : m ≤ 5
  · have h7a : decide (m ≤ 5) = true := by simpa using h7
    have h7b : decide ((m : Int) ≤ 5) = true := by simp; omega
    have hn0 : 0 ≤ n := of_decide_eq_true h5
    have hn1 : n ≤ 2147483648 := of_decide_eq_true h6
    have HR := hid (show rightE ⟨p, e, n, l⟩ = leadR l.reverse n from by simp only [rightE, h1, h2, h3, h4, h5, h6, HL.out, h7a, Bool.true_and])
    have HC := hid (leadTo_any (c := c) HD.out h7 n hn0 hn1)
    clear hn0 hn1 h7
    go_enter Try.func25, Try.ntmps25
    go_wp2_with (go_at_call 41; (with_reducible_and_instances (refine HC.out.mono ?_)); rintro x w2 ⟨rfl, hb2⟩; have HB2 := hid (HB.out.trans (hb2.mono HB.out.size)); clear hb2)
    go_ret
    exact ⟨by rw [HR.out]; rfl, HB2.out⟩
  · have h7a : decide (m ≤ 5) = false := by simpa using h7
    have h7b : decide ((m : Int) ≤ 5) = false := by simp; omega
    have HR := hid (show rightE ⟨p, e, n, l⟩ = false from by simp only [rightE, HL.out, h7a, Bool.and_false, Bool.false_and])
    go_enter Try.func25, Try.ntmps25
    go_wp2_with fail
    go_ret
    exact ⟨by rw [HR.out]; rfl, HB.out⟩
end Go.Proofs.Ytobaeiicacpbnaa
