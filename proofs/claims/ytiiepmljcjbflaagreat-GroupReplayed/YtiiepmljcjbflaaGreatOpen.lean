/- How a slice of bytes that came in is read; small rows of the call's own. -/
import Derived.Test.YtiiepmljcjbflaaGreatBase
import Derived.ProofKit
import Derived.SizedLaws
namespace Go.Proofs.YtiiepmljcjbflaaGreat
open Go.RowKit
open Go.ChangeShapes Go.WideShapes Go.ChangeAt

theorem Tryz.bytes5 : Tryz.prog.bytesOf 5 = 1 := by kernel_rfl
theorem u8_wf {n : Int} (h : (Lit.int .u8 n).wf = true) : 0 ≤ n ∧ n < 256 := by
  simp [Lit.wf, IntKind.min, IntKind.max, IntKind.signed, IntKind.bits] at h
  omega
theorem u32_wf {n : Int} (h : (Lit.int .u32 n).wf = true) : 0 ≤ n ∧ n < 4294967296 := by
  simp [Lit.wf, IntKind.min, IntKind.max, IntKind.signed, IntKind.bits] at h
  omega
theorem i64_wf {n : Int} (h : (Lit.int .i64 n).wf = true) : -9223372036854775808 ≤ n ∧ n ≤ 9223372036854775807 := by
  simp [Lit.wf, IntKind.min, IntKind.max, IntKind.signed, IntKind.bits] at h
  omega
theorem open_bytes {H : Type} {enc : TypeId × Value → H} {W : World} {a : Option Addr} {len cap : Nat} {d : DataW H} {p : List MemPlace}
    (h : DataW.Trod enc Tryz.prog W 0 (fun _ => true) true 24 (.slice a len cap) d p)
    (hd : ∀ elems spare, d = .slice elems spare → elems.length + spare.length ≤ 140737488351232) :
    ∃ l, Part.ok W ⟨a, len, cap, l⟩ ∧ len ≤ cap ∧ cap ≤ 140737488351232 := by
  obtain ⟨fuel, hf⟩ := h
  rcases open_ints Tryz.underlying24 Tryz.underlying5 (by kernel_rfl) hf with ⟨hcs, hx⟩ | ⟨x, l, c, zs, hcs, _, hl, hm, hz, hx, hcell, hwz⟩
  · simp [Value.cells] at hcs
    obtain ⟨rfl, rfl, rfl⟩ := hcs
    exact ⟨[], ⟨rfl, fun _ => ⟨rfl, rfl⟩, fun _ h => (by cases h), Or.inl rfl⟩, by omega, by omega⟩
  · simp [Value.cells] at hcs
    obtain ⟨rfl, rfl, rfl⟩ := hcs
    simp only [if_true] at hz
    simp only [Prod.mk.injEq] at hx
    have hs := hd _ _ hx.1
    simp only [lits, List.length_map, List.length_take, List.length_drop] at hs
    have hw : ∀ n ∈ zs, 0 ≤ n ∧ n < 256 := fun n hn => u8_wf (hwz n hn)
    refine ⟨(zs.take len).map Int.toNat, ⟨by simp; omega, fun e => (by cases e), ?_, ?_⟩, hl, by omega⟩
    · intro y hy
      obtain ⟨z, hz, rfl⟩ := List.mem_map.1 hy
      have := hw z (List.mem_of_mem_take hz)
      omega
    · by_cases h0 : len = 0
      · subst h0; exact Or.inl (by simp)
      · right
        obtain ⟨b, off, spot⟩ := x
        have hc0 := hcell 0 (by omega)
        have hspot : spot = none := by simpa [Addr.add] using World.cell?_spot hc0
        subst hspot
        have hb : b < W.heap.size := by
          rcases Nat.lt_or_ge b W.heap.size with h | h
          · exact h
          · simp [Addr.add, World.cell?, Array.getElem?_eq_none h] at hc0
        refine ⟨b, off, rfl, hb, ?_⟩
        intro i hi
        simp only [List.length_map, List.length_take] at hi
        have e := hcell i (by omega)
        rw [addr_add] at e
        rw [e]
        have hiz : i < zs.length := by omega
        have := hw _ (List.getElem_mem hiz)
        simp only [List.getD_eq_getElem?_getD, List.getElem?_map, List.getElem?_take, List.getElem?_eq_getElem hiz, if_pos (show i < len by omega), Option.map_some, Option.getD_some]
        congr 2
        omega
theorem marks_row (w : World) : Row (w.alloc (.cells #[.int .u8 201, .int .u8 202] 5)) (some ⟨w.heap.size, 0, none⟩) [201, 202] := by
  refine ⟨by decide, Or.inr ⟨w.heap.size, 0, rfl, by simp, ?_⟩⟩
  intro i hi
  have hi' : i < 2 := hi
  rw [cell_of_row _ w.heap.size _ _ 5 (0, 0) (heap_alloc_new w _)]
  rcases (show i = 0 ∨ i = 1 by omega) with rfl | rfl <;> rfl
theorem own_lt {l : List Nat} (h : ∀ x ∈ l, x < 256) : ∀ x ∈ l ++ [201, 202], x < 256 := by
  intro x hx
  simp at hx
  rcases hx with hx | hx | hx
  · exact h x hx
  · omega
  · omega
end Go.Proofs.YtiiepmljcjbflaaGreat
