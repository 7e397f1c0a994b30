/- How numbers that came in are read. -/
import Derived.Test.YthadagpfmacemaaCTrim
import Derived.ProofKit
import Derived.SizedLaws
import Derived.Deep.Slices
import Derived.Deep.Strs
import Derived.OpenShut
namespace Go.Proofs.Ythadagpfmacemaa
open Go.RowKit
open Go.ChangeShapes Go.WideShapes Go.ChangeAt

variable {H : Type} {enc : TypeId × Value → H} {W : World}
theorem i64_wfC {n : Int} (h : (Lit.int .i64 n).wf = true) : -9223372036854775808 ≤ n ∧ n ≤ 9223372036854775807 := by
  simp [Lit.wf, IntKind.min, IntKind.max, IntKind.signed, IntKind.bits] at h
  omega
theorem Try.bytesCI : Try.prog.bytesOf 3 = 8 := by kernel_rfl
/-- A slice of numbers inside. -/
theorem open_nodes {n : Nat} {v : Value} {x : DataW H × List MemPlace} (h : DataW.trod enc Try.prog W 0 (fun _ => true) true n 47 [v] = some x) (hd : ∀ m ∈ x.1.weights Try.prog 47, m ≤ 140737488351232) :
    ∃ (ns : List Int) (s : Sl), v = .slice s.ad s.m s.c ∧ Ints W ns s.ad s.m s.c ∧ (s.ad = none → s.m = 0 ∧ s.c = 0) ∧ s.m * 8 ≤ 140737488351232 := by
  rcases open_ints Try.underlying47 Try.underlying3 (by kernel_rfl) h with ⟨hcs, hx⟩ | ⟨a, l, c, zs, hcs, _, hl, hm, hz, hx, hcell, hwz⟩
  · simp only [List.cons.injEq, and_true] at hcs
    exact ⟨[], ⟨none, 0, 0⟩, hcs, ⟨rfl, Nat.le_refl _, by show 0 ≤ maxLen; unfold maxLen; omega, Or.inl rfl, fun _ h => (by cases h)⟩, fun _ => ⟨rfl, rfl⟩, by show 0 * 8 ≤ _; omega⟩
  · simp only [List.cons.injEq, and_true] at hcs
    simp only [if_true] at hz
    have hw : c * 8 ≤ 140737488351232 := by
      apply hd
      rw [hx]
      simp only
      rw [DataW.weights, Try.underlying47]
      simp only [List.mem_cons]
      left
      rw [Try.bytesCI]
      congr 1
      simp only [lits, List.length_map, List.length_take, List.length_drop]
      omega
    refine ⟨zs.take l, ⟨some a, l, c⟩, hcs, ⟨by simp; omega, hl, hm, ?_, fun z hz2 => i64_wfC (hwz z (List.mem_of_mem_take hz2))⟩, (fun e => by cases e), by show l * 8 ≤ _; omega⟩
    by_cases h0 : l = 0
    · exact Or.inl h0
    · right
      obtain ⟨b, off, spot⟩ := a
      have hc0 := hcell 0 (by omega)
      have hspot : spot = none := by simpa [Addr.add] using World.cell?_spot hc0
      subst hspot
      have hb : b < W.heap.size := by
        rcases Nat.lt_or_ge b W.heap.size with h | h
        · exact h
        · simp [Addr.add, World.cell?, Array.getElem?_eq_none h] at hc0
      refine ⟨b, off, rfl, hb, ?_⟩
      intro i hi
      replace hi : i < l := hi
      have e := hcell i (by omega)
      rw [addr_add] at e
      rw [e]
      have hiz : i < zs.length := by omega
      simp only [List.getD_eq_getElem?_getD, List.getElem?_take, List.getElem?_eq_getElem hiz, if_pos hi, Option.getD_some]
theorem open_intsC {ad : Option Addr} {len cap : Nat} {d : DataW H} {p : List MemPlace} (h : DataW.Trod enc Try.prog W 0 (fun _ => true) true 47 (.slice ad len cap) d p) (hd : ∀ m ∈ d.weights Try.prog 47, m ≤ 140737488351232) : ∃ cs, Ints W cs ad len cap ∧ (ad = none → len = 0 ∧ cap = 0) := by
  obtain ⟨fuel, hf⟩ := h
  obtain ⟨ns, s, e, h1, h2, -⟩ := open_nodes (v := .slice ad len cap) hf hd
  cases e
  exact ⟨ns, h1, h2⟩
end Go.Proofs.Ythadagpfmacemaa
