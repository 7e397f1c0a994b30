/- How names, and numbers, that came in are read. -/
import Derived.Test.YtpjemifoilbjeaaAOwn
import Derived.Test.YtpjemifoilbjeaaOpen
import Derived.SliceStrings
import Derived.ProofKit
import Derived.SizedLaws
import Derived.Deep.Slices
import Derived.Deep.Strs
import Derived.OpenShut
namespace Go.Proofs.Ytpjemifoilbjeaa
open Go.RowKit
open Go.ChangeShapes Go.WideShapes Go.ChangeAt

variable {H : Type} {enc : TypeId × Value → H} {W : World}
theorem Try.bytesAI : Try.prog.bytesOf 3 = 8 := by kernel_rfl
theorem Try.bytesAS : Try.prog.bytesOf 9 = 16 := by kernel_rfl
theorem nm_of (s : ByteArray) : nmS s.data.toList = s := rfl
/-- A slice of numbers inside. -/
theorem open_intsA {n : Nat} {v : Value} {x : DataW H × List MemPlace} (h : DataW.trod enc Try.prog W 0 (fun _ => true) true n 40 [v] = some x) (hd : ∀ m ∈ x.1.weights Try.prog 40, m ≤ 140737488351232) :
    ∃ (ns : List Int) (s : Sl), v = .slice s.ad s.m s.c ∧ ArgK kZ W ns s.ad s.m s.c ∧ s.m * 8 ≤ 140737488351232 := by
  rcases open_ints Try.underlying40 Try.underlying3 (by kernel_rfl) h with ⟨hcs, hx⟩ | ⟨a, l, c, zs, hcs, _, hl, hm, hz, hx, hcell, hwz⟩
  · simp only [List.cons.injEq, and_true] at hcs
    exact ⟨[], sl0, hcs, ⟨rfl, fun _ => ⟨rfl, rfl⟩, Nat.le_refl _, by show 0 ≤ maxLen; unfold maxLen; omega, Or.inl rfl⟩, by show 0 * 8 ≤ _; omega⟩
  · simp only [List.cons.injEq, and_true] at hcs
    simp only [if_true] at hz
    have hw : c * 8 ≤ 140737488351232 := by
      apply hd
      rw [hx]
      simp only
      rw [DataW.weights, Try.underlying40]
      simp only [List.mem_cons]
      left
      rw [Try.bytesAI]
      congr 1
      simp only [lits, List.length_map, List.length_take, List.length_drop]
      omega
    refine ⟨zs.take l, ⟨some a, l, c⟩, hcs, ⟨by simp; omega, (fun e => by cases e), hl, hm, ?_⟩, by show l * 8 ≤ _; omega⟩
    by_cases h0 : l = 0
    · exact Or.inl (by rw [h0]; simp)
    · right
      obtain ⟨b, off, spot⟩ := a
      have hc0 := hcell 0 (by omega)
      have hspot : spot = none := by simpa [Addr.add] using World.cell?_spot hc0
      subst hspot
      have hb : b < W.heap.size := by
        rcases Nat.lt_or_ge b W.heap.size with h | h
        · exact h
        · simp [Addr.add, World.cell?, Array.getElem?_eq_none h] at hc0
      refine ⟨b, off, rfl, hb, ?_⟩
      intro i hi cc hcc
      rw [List.length_take] at hi
      have h1 : kZ.sz = 1 := rfl
      obtain rfl : cc = 0 := by omega
      have e := hcell i (by omega)
      rw [addr_add] at e
      rw [h1, Nat.mul_one, Nat.add_zero, e]
      have hiz : i < zs.length := by omega
      show _ = some (Value.int .i64 ((zs.take l).getD i 0))
      simp only [List.getD_eq_getElem?_getD, List.getElem?_take, List.getElem?_eq_getElem hiz, if_pos (show i < l by omega), Option.getD_some]
/-- Names. -/
theorem open_namesA {ad : Option Addr} {len cap : Nat} {d : DataW H} {p : List MemPlace} (h : DataW.Trod enc Try.prog W 0 (fun _ => true) true 32 (.slice ad len cap) d p) (hd : ∀ m ∈ d.weights Try.prog 32, m ≤ 140737488351232) :
    ∃ l, ArgK kS W l ad len cap ∧ len * 16 ≤ 140737488351232 := by
  obtain ⟨fuel, hf⟩ := h
  have hf' : DataW.trod enc Try.prog W 0 (fun _ => true) true fuel 32 [.slice ad len cap] = some (d, p) := hf
  rcases open_strings Try.underlying32 Try.underlying9 (by kernel_rfl) hf' with ⟨hcs, hx⟩ | ⟨a, l, c, ss, hcs, _, hl, hm, hz, hx, hcell, hwz⟩
  · simp only [List.cons.injEq, and_true] at hcs
    cases hcs
    exact ⟨[], ⟨rfl, fun _ => ⟨rfl, rfl⟩, Nat.le_refl _, by unfold maxLen; omega, Or.inl rfl⟩, by omega⟩
  · simp only [List.cons.injEq, and_true] at hcs
    cases hcs
    simp only [if_true] at hz
    have hx1 : d = .slice (strs (ss.take len)) (strs (ss.drop len)) := congrArg Prod.fst hx
    have hw : cap * 16 ≤ 140737488351232 := by
      apply hd
      rw [hx1, DataW.weights, Try.underlying32]
      simp only [List.mem_cons]
      left
      rw [Try.bytesAS]
      congr 1
      simp only [strs, List.length_map, List.length_take, List.length_drop]
      omega
    refine ⟨(ss.take len).map (fun s => s.data.toList), ⟨by simp; omega, (fun e => by cases e), hl, hm, ?_⟩, by omega⟩
    by_cases h0 : len = 0
    · exact Or.inl (by rw [h0]; simp)
    · right
      obtain ⟨b, off, spot⟩ := a
      have hc0 := hcell 0 (by omega)
      have hspot : spot = none := by simpa [Addr.add] using World.cell?_spot hc0
      subst hspot
      have hb : b < W.heap.size := by
        rcases Nat.lt_or_ge b W.heap.size with h | h
        · exact h
        · simp [Addr.add, World.cell?, Array.getElem?_eq_none h] at hc0
      refine ⟨b, off, rfl, hb, ?_⟩
      intro i hi cc hcc
      rw [List.length_map, List.length_take] at hi
      have h1 : kS.sz = 1 := rfl
      obtain rfl : cc = 0 := by omega
      have e := hcell i (by omega)
      rw [addr_add] at e
      rw [h1, Nat.mul_one, Nat.add_zero, e]
      have hiz : i < ss.length := by omega
      show _ = some (Value.string (nmS (((ss.take len).map (fun s => s.data.toList)).getD i [])))
      simp only [List.getD_eq_getElem?_getD, List.getElem?_map, List.getElem?_take, List.getElem?_eq_getElem hiz, if_pos (show i < len by omega), Option.getD_some, Option.map_some, nm_of]
end Go.Proofs.Ytpjemifoilbjeaa
