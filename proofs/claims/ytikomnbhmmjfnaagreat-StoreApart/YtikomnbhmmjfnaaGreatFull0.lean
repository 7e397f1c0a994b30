/- A new row of zeros is a part. No function of the program is named here. -/
import Derived.Test.YtikomnbhmmjfnaaGreatDiskN
import Derived.Deep.OwnRows
namespace Go.Proofs.YtikomnbhmmjfnaaGreat
open Go.RowKit

theorem made_ok (W : World) (z : Nat) (hz : z ≤ 1000000) : Part.ok (W.alloc (.cells (madeCells #[Value.int .u8 0] z) 5)) ⟨some ⟨W.heap.size, 0, none⟩, z, z, List.replicate z 0⟩ := by
  obtain ⟨c, hc, hs, he⟩ := World.rowIs_made W (.int .u8 0) z 5
  refine ⟨by simp, fun e => (by cases e), fun x hx => by rw [List.mem_replicate] at hx; omega, ?_⟩
  by_cases h0 : z = 0
  · subst h0; exact Or.inl rfl
  · refine Or.inr ⟨W.heap.size, 0, rfl, by simp, fun i hi => ?_⟩
    simp only [List.length_replicate] at hi
    rw [cell_of_row _ _ _ _ _ _ hc, Nat.zero_add, he i hi, List.getD_eq_getElem?_getD, List.getElem?_replicate, if_pos hi]
    rfl
end Go.Proofs.YtikomnbhmmjfnaaGreat
