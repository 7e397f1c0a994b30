/- Numbers that came in. -/
import Derived.Test.YtoihddlbdimmlaaGreatOpen
import Derived.Test.YtoihddlbdimmlaaGreatPSync
import Derived.Deep.Slices
import Derived.OpenShut
namespace Go.Proofs.YtoihddlbdimmlaaGreat
open Go.RowKit
open Go.ChangeShapes Go.WideShapes Go.ChangeAt
variable {H : Type} {enc : TypeId × Value → H} {W : World}

theorem open_numsR' {ad : Option Addr} {len cap fuel : Nat} {x : DataW H × List MemPlace} (hf : DataW.trod enc Tryz.prog W 0 (fun _ => true) true fuel 60 [.slice ad len cap] = some x) : ∃ cs, IArg W cs ad len := by
  rcases open_ints Tryz.underlying60 Tryz.underlying3 (by kernel_rfl) hf with ⟨hcs, hx⟩ | ⟨x, l, c, zs, hcs, _, hl, hm, hz, hx, hcell, hwz⟩
  · simp at hcs
    obtain ⟨rfl, rfl, rfl⟩ := hcs
    exact ⟨[], rfl, Or.inl rfl, fun _ h => (by cases h)⟩
  · simp at hcs
    obtain ⟨rfl, rfl, rfl⟩ := hcs
    simp only [if_true] at hz
    refine ⟨zs.take len, by simp; omega, ?_, fun z hz2 => i64_wf (hwz z (List.mem_of_mem_take hz2))⟩
    by_cases h0 : len = 0
    · exact Or.inl h0
    · right
      obtain ⟨b, off, spot⟩ := x
      have hc0 := hcell 0 (by omega)
      have hspot : spot = none := by simpa [Addr.add] using World.cell?_spot hc0
      subst hspot
      have hb : b < W.heap.size := by
        rcases Nat.lt_or_ge b W.heap.size with h | h
        · exact h
        · simp [Addr.add, World.cell?, Array.getElem?_eq_none h] at hc0
      refine ⟨b, off, rfl, hb, ?_⟩
      intro i hi
      have e := hcell i (by omega)
      rw [addr_add] at e
      rw [e]
      have hiz : i < zs.length := by omega
      simp only [List.getD_eq_getElem?_getD, List.getElem?_take, List.getElem?_eq_getElem hiz, if_pos hi, Option.getD_some]
theorem open_numsR {ad : Option Addr} {len cap : Nat} {d : DataW H} {p : List MemPlace} (h : DataW.Trod enc Tryz.prog W 0 (fun _ => true) true 60 (.slice ad len cap) d p) : ∃ cs, IArg W cs ad len := by
  obtain ⟨fuel, hf⟩ := h
  exact open_numsR' hf
end Go.Proofs.YtoihddlbdimmlaaGreat
