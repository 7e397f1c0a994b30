/- How many versions a block has at most; when the power is there: plain mathematics. -/
import Derived.Test.YtofpojfkooigiaaDWrite
namespace Go.Proofs.Ytofpojfkooigiaa
open Go.RowKit
variable {s : DSt} {k : Nat}

/-- No block has more than k versions. -/
def DSt.upTo (s : DSt) (k : Nat) : Prop := ∀ x ∈ s.bs, x.vs.length ≤ k
theorem DSt.upTo.few (h : s.upTo k) (hk : k ≤ 1073741824) : s.few := fun x hx => Nat.le_trans (h x hx) hk
theorem DSt.upTo.mono {m : Nat} (h : s.upTo k) (hk : k ≤ m) : s.upTo m := fun x hx => Nat.le_trans (h x hx) hk
theorem newD_upTo (n : Nat) : (newD n).upTo 0 := fun x hx => by
  rw [newD, List.mem_replicate] at hx
  rw [hx.2]
  simp [b0]
theorem opD_upTo (h : s.upTo k) : (opD s).2.upTo k := by
  intro x hx
  rw [opD_bs] at hx
  exact h x hx
theorem writeD_upTo (h : s.upTo k) (i : Int) (l : List Nat) : (writeD s i l).2.upTo (k + 1) := by
  unfold writeD
  split
  · rename_i hc
    simp only [Bool.and_eq_true] at hc
    have hi := has_lt hc.1
    split
    · intro x hx
      rcases mem_setB hx with rfl | h1
      · have h2 := opD_upTo h _ (at_mem (s := (opD s).2) (i := i.toNat) (by rw [opD_bs]; exact hi.2))
        simp [DBlock.add]
        exact h2
      · exact Nat.le_succ_of_le (opD_upTo h x h1)
    · exact (opD_upTo h).mono (by omega)
  · exact h.mono (by omega)
theorem syncD_upTo (h : s.upTo k) : (syncD s).2.upTo k := by
  unfold syncD
  split
  · intro x hx
    obtain ⟨y, hy, rfl⟩ := List.mem_map.1 hx
    rw [sync_vs]
    exact Nat.zero_le _
  · exact opD_upTo h
theorem cutD_upTo (h : s.upTo k) (n : Int) : (cutD s n).upTo k := by
  unfold cutD
  split
  · exact h
  · exact h
theorem crashD_upTo (cs : List Int) : (crashD s cs).upTo 0 := fun x hx => by
  rw [crashBs_clean _ _ x hx]
  exact Nat.zero_le _
end Go.Proofs.Ytofpojfkooigiaa
