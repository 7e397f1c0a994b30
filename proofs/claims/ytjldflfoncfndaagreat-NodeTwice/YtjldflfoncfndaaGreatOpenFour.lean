/- How a reply and a request (of the document's package) that came in are read. -/
import Derived.Test.YtjldflfoncfndaaGreatOpen
import Derived.Deep.Slices
import Derived.OpenShut
namespace Go.Proofs.YtjldflfoncfndaaGreat
open Go.RowKit
open Go.ChangeShapes Go.WideShapes Go.ChangeAt

theorem array4 {α : Type} {cs : Array α} (h : cs.size = 4) : ∃ c0 c1 c2 c3, cs = #[c0, c1, c2, c3] := by
  obtain ⟨l⟩ := cs
  match l, h with
  | [c0, c1, c2, c3], _ => exact ⟨c0, c1, c2, c3, rfl⟩
theorem list4 {α : Type} {cs : List α} (h : cs.length = 4) : ∃ c0 c1 c2 c3, cs = [c0, c1, c2, c3] := by
  match cs, h with
  | [c0, c1, c2, c3], _ => exact ⟨c0, c1, c2, c3, rfl⟩
theorem Tryz.cells4I : Tryz.prog.cellsOf 3 = 1 := by kernel_rfl
theorem Tryz.cells4T : Tryz.prog.cellsOf 4 = 1 := by kernel_rfl
theorem Tryz.cells4L : Tryz.prog.cellsOf 22 = 1 := by kernel_rfl
variable {H : Type} {enc : TypeId × Value → H} {W : World}
theorem trod4 {P : Program} {t : TypeId} {f0 f1 f2 f3 : Field} {fuel : Nat} {cs : List Value} {x : DataW H × List MemPlace} (ht : P.underlying t = some (.struct #[f0, f1, f2, f3])) (h : DataW.trod enc P W 0 (fun _ => true) true fuel t cs = some x) :
    ∃ y0 y1 y2 y3 n, x.1 = .agg [y0.1, y1.1, y2.1, y3.1] ∧ DataW.trod enc P W 0 (fun _ => true) true n f0.type ((cs.drop f0.offset).take (P.cellsOf f0.type)) = some y0 ∧
      DataW.trod enc P W 0 (fun _ => true) true n f1.type ((cs.drop f1.offset).take (P.cellsOf f1.type)) = some y1 ∧ DataW.trod enc P W 0 (fun _ => true) true n f2.type ((cs.drop f2.offset).take (P.cellsOf f2.type)) = some y2 ∧
      DataW.trod enc P W 0 (fun _ => true) true n f3.type ((cs.drop f3.offset).take (P.cellsOf f3.type)) = some y3 := by
  obtain ⟨xs, n, _, rfl, _, hlen, hf⟩ := DataW.trod_struct ht h
  obtain ⟨y0, y1, y2, y3, rfl⟩ := list4 (hlen.trans rfl)
  exact ⟨y0, y1, y2, y3, n, by simp, by simpa using hf 0 f0 rfl, by simpa using hf 1 f1 rfl, by simpa using hf 2 f2 rfl, by simpa using hf 3 f3 rfl⟩
theorem open_data {n : Nat} {v : Value} {x : DataW H × List MemPlace} (h : DataW.trod enc Tryz.prog W 0 (fun _ => true) true n 22 [v] = some x)
    (hd : ∀ m ∈ x.1.weights Tryz.prog 22, m ≤ 140737488351232) :
    ∃ ad len cap l, v = .slice ad len cap ∧ Part.ok W ⟨ad, len, cap, l⟩ ∧ len ≤ cap ∧ cap ≤ 140737488351232 := by
  obtain ⟨ad, len, cap, rfl⟩ : ∃ ad len cap, v = .slice ad len cap := by
    rcases open_ints Tryz.underlying22 Tryz.underlying5 (by kernel_rfl) h with ⟨hcs, -⟩ | ⟨a, len, cap, zs, hcs, -⟩
    · simp only [List.cons.injEq, and_true] at hcs; exact ⟨_, _, _, hcs⟩
    · simp only [List.cons.injEq, and_true] at hcs; exact ⟨_, _, _, hcs⟩
  obtain ⟨l, h1, h2, h3⟩ := open_bytes (d := x.1) (p := x.2) ⟨n, h⟩ (fun elems spare e => by
    have q := hd ((elems.length + spare.length) * 1) (by
      rw [e, DataW.weights, Tryz.underlying22]
      simp only [List.mem_cons]
      exact Or.inl (by rw [Tryz.bytes5]))
    omega)
  exact ⟨ad, len, cap, l, rfl, h1, h2, h3⟩
theorem weights_four (t0 t1 t2 t3 : TypeId) (d0 d1 d2 d3 : DataW H) (m : Nat) (h : m ∈ d3.weights Tryz.prog t3) : m ∈ DataW.weightsEach Tryz.prog [t0, t1, t2, t3] [d0, d1, d2, d3] := by
  simp only [DataW.weightsEach, List.mem_append]
  simp [h]
end Go.Proofs.YtjldflfoncfndaaGreat
