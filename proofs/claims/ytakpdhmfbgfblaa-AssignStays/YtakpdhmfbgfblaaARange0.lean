/- What Range and Sticky answer; names and partitions that may be. -/
import Derived.Test.YtakpdhmfbgfblaaAInv
import Derived.Test.YtakpdhmfbgfblaaAMay
namespace Go.Proofs.Ytakpdhmfbgfblaa
open Go.RowKit Go.Sort
variable {w w' : World} {ad : Option Addr} {m c : Nat} {l : List Nm}

/-- The partitions that Range gives, member by member. -/
def rangeP (l : List Nm) (p : Nat) : List (List Int) := (stepsN (fun _ => fRange (p / l.length)) (risN l) ((allP p, p % l.length), List.replicate l.length []) 1).2.map risZ
/-- What Range and Sticky answer: shares, or ErrArg. -/
def AnsP (w : World) (may : Bool) (names : List Nm) (P : List (List Int)) (e : Ending) (w' : World) : Prop :=
  (if may then ∃ v A, e = .returned (.tuple #[v, .int .i64 0]) ∧ Shs w' w.heap.size v A P ∧ A.map (·.1) = names else e = .returned (.tuple #[.slice none 0 0, .int .i64 1])) ∧ Below w.heap.size w w'
theorem allP_rise (n : Nat) : (allP n).Pairwise (· < ·) := by
  unfold allP
  rw [List.pairwise_map]
  exact List.pairwise_lt_range.imp (fun h => Int.ofNat_lt.2 h)
theorem may_bounds {p : Int} (h : mayN l p = true) : l.length ≤ 1000 ∧ 0 ≤ p ∧ p ≤ 32 := by
  unfold mayN at h
  simp at h
  omega
theorem may_names {p : Int} (h : mayN l p = true) : ∀ s ∈ l, s.length ≤ 64 := fun s hs => by
  unfold mayN at h
  simp only [Bool.and_eq_true, Bool.not_eq_true', List.any_eq_false] at h
  have h2 := h.2.1 s ((risN_perm l).mem_iff.2 hs)
  unfold noName at h2
  simp at h2
  omega
theorem no_member : l.length = 0 → risN l = [] := fun h => by rw [List.eq_nil_of_length_eq_zero h]; exact risN_nil
end Go.Proofs.Ytakpdhmfbgfblaa
