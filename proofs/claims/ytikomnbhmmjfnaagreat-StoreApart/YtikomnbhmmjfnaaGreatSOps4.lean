/- How a slice of Ops of layer 4 that came in is read. -/
import Derived.Test.YtikomnbhmmjfnaaGreatOpen
import Derived.Test.YtikomnbhmmjfnaaGreatSUp
import Derived.Deep.Slices
import Derived.Deep.Strs
import Derived.OpenShut
namespace Go.Proofs.YtikomnbhmmjfnaaGreat
open Go.RowKit
open Go.ChangeShapes Go.WideShapes Go.ChangeAt
variable {H : Type} {enc : TypeId × Value → H} {W : World}

theorem list8S {α : Type} {cs : List α} (h : cs.length = 8) : ∃ c0 c1 c2 c3 c4 c5 c6 c7, cs = [c0, c1, c2, c3, c4, c5, c6, c7] := by
  match cs, h with
  | [c0, c1, c2, c3, c4, c5, c6, c7], _ => exact ⟨c0, c1, c2, c3, c4, c5, c6, c7, rfl⟩
theorem cellsIS : Tryz.prog.cellsOf 3 = 1 := by kernel_rfl
theorem cellsBS : Tryz.prog.cellsOf 4 = 1 := by kernel_rfl
theorem cellsLS : Tryz.prog.cellsOf 28 = 1 := by kernel_rfl
theorem cellsNS : Tryz.prog.cellsOf 29 = 1 := by kernel_rfl
theorem cellsOS : Tryz.prog.cellsOf 31 = 8 := by kernel_rfl
theorem trod8S {P : Program} {t : TypeId} {f0 f1 f2 f3 f4 f5 f6 f7 : Field} {fuel : Nat} {cs : List Value} {x : DataW H × List MemPlace} (ht : P.underlying t = some (.struct #[f0, f1, f2, f3, f4, f5, f6, f7])) (h : DataW.trod enc P W 0 (fun _ => true) true fuel t cs = some x) :
    ∃ y0 y1 y2 y3 y4 y5 y6 y7 n, x.1 = .agg [y0.1, y1.1, y2.1, y3.1, y4.1, y5.1, y6.1, y7.1] ∧ DataW.trod enc P W 0 (fun _ => true) true n f0.type ((cs.drop f0.offset).take (P.cellsOf f0.type)) = some y0 ∧ DataW.trod enc P W 0 (fun _ => true) true n f1.type ((cs.drop f1.offset).take (P.cellsOf f1.type)) = some y1 ∧ DataW.trod enc P W 0 (fun _ => true) true n f2.type ((cs.drop f2.offset).take (P.cellsOf f2.type)) = some y2 ∧ DataW.trod enc P W 0 (fun _ => true) true n f3.type ((cs.drop f3.offset).take (P.cellsOf f3.type)) = some y3 ∧ DataW.trod enc P W 0 (fun _ => true) true n f4.type ((cs.drop f4.offset).take (P.cellsOf f4.type)) = some y4 ∧ DataW.trod enc P W 0 (fun _ => true) true n f5.type ((cs.drop f5.offset).take (P.cellsOf f5.type)) = some y5 ∧ DataW.trod enc P W 0 (fun _ => true) true n f6.type ((cs.drop f6.offset).take (P.cellsOf f6.type)) = some y6 ∧ DataW.trod enc P W 0 (fun _ => true) true n f7.type ((cs.drop f7.offset).take (P.cellsOf f7.type)) = some y7 := by
  obtain ⟨xs, n, _, rfl, _, hlen, hf⟩ := DataW.trod_struct ht h
  obtain ⟨y0, y1, y2, y3, y4, y5, y6, y7, rfl⟩ := list8S (hlen.trans rfl)
  exact ⟨y0, y1, y2, y3, y4, y5, y6, y7, n, by simp, by simpa using hf 0 f0 rfl, by simpa using hf 1 f1 rfl, by simpa using hf 2 f2 rfl, by simpa using hf 3 f3 rfl, by simpa using hf 4 f4 rfl, by simpa using hf 5 f5 rfl, by simpa using hf 6 f6 rfl, by simpa using hf 7 f7 rfl⟩
theorem open_dataS {n : Nat} {v : Value} {x : DataW H × List MemPlace} (h : DataW.trod enc Tryz.prog W 0 (fun _ => true) true n 28 [v] = some x)
    (hd : ∀ m ∈ x.1.weights Tryz.prog 28, m ≤ 140737488351232) : ∃ P : Part, v = .slice P.ad P.len P.cap ∧ P.ok W ∧ P.len ≤ P.cap ∧ P.cap ≤ 140737488351232 := by
  obtain ⟨ad, len, cap, rfl⟩ : ∃ ad len cap, v = .slice ad len cap := by
    rcases open_ints Tryz.underlying28 Tryz.underlying5 (by kernel_rfl) h with ⟨hcs, -⟩ | ⟨a, len, cap, zs, hcs, -⟩
    · simp only [List.cons.injEq, and_true] at hcs; exact ⟨_, _, _, hcs⟩
    · simp only [List.cons.injEq, and_true] at hcs; exact ⟨_, _, _, hcs⟩
  obtain ⟨l, h1, h2, h3⟩ := open_bytes (d := x.1) (p := x.2) ⟨n, h⟩ (fun elems spare e => by
    have q := hd ((elems.length + spare.length) * 1) (by
      rw [e, DataW.weights, Tryz.underlying28]
      simp only [List.mem_cons]
      exact Or.inl (by rw [Tryz.bytes5]))
    omega)
  exact ⟨⟨ad, len, cap, l⟩, rfl, h1, h2, h3⟩
theorem slice_formS {t e : TypeId} {n : Nat} {v : Value} {x : DataW H × List MemPlace} (ht : Tryz.prog.underlying t = some (.slice e)) (h : DataW.trod enc Tryz.prog W 0 (fun _ => true) true n t [v] = some x) : ∃ ad len cap, v = .slice ad len cap := by
  rcases Go.Deep.open_slice ht h with ⟨hcs, -⟩ | ⟨a, len, cap, m, n', D, Pl, hcs, _, hl, hm, hmm, hx, hV⟩
  · simp only [List.cons.injEq, and_true] at hcs
    exact ⟨none, 0, 0, hcs⟩
  · simp only [List.cons.injEq, and_true] at hcs
    exact ⟨some a, len, _, hcs⟩
theorem weights_S (t0 t1 t2 t3 t4 t5 t6 t7 : TypeId) (d0 d1 d2 d3 d4 d5 d6 d7 : DataW H) (m : Nat) (h : m ∈ d5.weights Tryz.prog t5) : m ∈ DataW.weightsEach Tryz.prog [t0, t1, t2, t3, t4, t5, t6, t7] [d0, d1, d2, d3, d4, d5, d6, d7] := by
  simp only [DataW.weightsEach, List.mem_append]
  simp [h]
theorem weights_allS (e : TypeId) (l : List (DataW H)) (d : DataW H) (hd : d ∈ l) (n : Nat) (hn : n ∈ d.weights Tryz.prog e) : n ∈ DataW.weightsAll Tryz.prog e l := by
  induction l with
  | nil => cases hd
  | cons x l ih =>
    rw [DataW.weightsAll, List.mem_append]
    rcases List.mem_cons.1 hd with rfl | h
    · exact Or.inl hn
    · exact Or.inr (ih h)
/-- A slice of Ops that came in. -/
def OpsS (W : World) (f : Nat → OpS) (ad : Option Addr) (len : Nat) : Prop := len = 0 ∨ ∃ b off, ad = some ⟨b, off, none⟩ ∧ b < W.heap.size ∧ ∀ i, i < len → (∀ j, j < 8 → W.cell? ⟨b, off + i * 8 + j, none⟩ = (opS (f i))[j]?) ∧ (f i).ok W
set_option maxRecDepth 100000 in
theorem open_opS {n : Nat} {cs : List Value} {x : DataW H × List MemPlace} (hl : cs.length = 8) (h : DataW.trod enc Tryz.prog W 0 (fun _ => true) true n 31 cs = some x) (hw : ∀ k ∈ x.1.weights Tryz.prog 31, k ≤ 140737488351232) : ∃ o : OpS, cs = (opS o).toList ∧ o.ok W := by
  obtain ⟨y0, y1, y2, y3, y4, y5, y6, y7, m, hx, f0, f1, f2, f3, f4, f5, f6, f7⟩ := trod8S Tryz.underlying31 h
  obtain ⟨c0, c1, c2, c3, c4, c5, c6, c7, rfl⟩ := list8S hl
  simp only [cellsIS, cellsBS, cellsLS, cellsNS, List.drop_succ_cons, List.drop_zero, List.take_succ_cons, List.take_zero] at f0 f1 f2 f3 f4 f5 f6 f7
  obtain ⟨k, e0, -⟩ := DataW.trod_int Tryz.underlying3 f0
  obtain ⟨l, e1, -⟩ := DataW.trod_int Tryz.underlying3 f1
  obtain ⟨p, e2, -⟩ := DataW.trod_int Tryz.underlying3 f2
  obtain ⟨nn, e3, -⟩ := DataW.trod_int Tryz.underlying3 f3
  obtain ⟨b, e4, -⟩ := DataW.trod_bool Tryz.underlying4 f4
  obtain ⟨P, e5, p1, p2, p3⟩ := open_dataS f5 (fun mm hmm => hw mm (by
    rw [hx, DataW.weights, Tryz.underlying31]
    exact weights_S _ _ _ _ _ _ _ _ _ _ _ _ _ _ _ _ mm hmm))
  obtain ⟨sz, e6, -⟩ := DataW.trod_int Tryz.underlying3 f6
  obtain ⟨la, ll, lc, e7⟩ := slice_formS Tryz.underlying29 f7
  simp only [List.cons.injEq, and_true] at e0 e1 e2 e3 e4 e6
  subst e0 e1 e2 e3 e4 e5 e6 e7
  exact ⟨⟨k, l, p, nn, b, P, sz, la, ll, lc⟩, rfl, p1, p2, by simp only; omega⟩
set_option maxRecDepth 100000 in
theorem open_opsS {ad : Option Addr} {len cap : Nat} {d : DataW H} {p : List MemPlace} (h : DataW.Trod enc Tryz.prog W 0 (fun _ => true) true 22 (.slice ad len cap) d p) (hd : ∀ n ∈ d.weights Tryz.prog 22, n ≤ 140737488351232) : ∃ f, OpsS W f ad len ∧ len ≤ maxLen := by
  obtain ⟨fuel, hf⟩ := h
  rcases Go.Deep.open_slice Tryz.underlying22 hf with ⟨hcs, -⟩ | ⟨a, len, cap, m, n', D, Pl, hcs, _, hl, hm, hmm, hx, hV⟩
  · simp [Value.cells] at hcs
    obtain ⟨rfl, rfl, rfl⟩ := hcs
    exact ⟨fun _ => ⟨0, 0, 0, 0, false, ⟨none, 0, 0, []⟩, 0, none, 0, 0⟩, Or.inl rfl, by unfold maxLen; omega⟩
  · simp [Value.cells] at hcs
    obtain ⟨rfl, rfl, rfl⟩ := hcs
    simp only [if_true] at hmm
    subst hmm
    rw [cellsOS] at hV
    have hx1 := congrArg Prod.fst hx
    simp only at hx1
    have hw : ∀ i, i < len → ∀ k ∈ (D i).weights Tryz.prog 31, k ≤ 140737488351232 := by
      intro i hi k hk
      apply hd
      rw [hx1, DataW.weights, Tryz.underlying22]
      simp only [List.mem_cons, List.mem_append]
      exact Or.inr (Or.inl (weights_allS _ _ (D i) (List.mem_map.2 ⟨i, List.mem_range.2 hi, rfl⟩) k hk))
    have each : ∀ i, i < len → ∃ o : OpS, (∀ j, j < 8 → W.cell? (a.add (i * 8 + j)) = (opS o)[j]?) ∧ o.ok W := by
      intro i hi
      obtain ⟨cs', h1, h2⟩ := hV i (by omega)
      obtain ⟨_, hlen, hcell⟩ := World.cells?_some h1
      obtain ⟨o, rfl, hok⟩ := open_opS (by simpa using hlen) h2 (hw i hi)
      refine ⟨o, fun j hj => ?_, hok⟩
      have e := hcell j (by omega)
      rw [Go.Deep.add_add] at e
      simpa using e
    obtain ⟨f, hf2⟩ := @Go.Deep.choose_lt OpS ⟨⟨0, 0, 0, 0, false, ⟨none, 0, 0, []⟩, 0, none, 0, 0⟩⟩ _ _ each
    refine ⟨f, ?_, by omega⟩
    by_cases h0 : len = 0
    · exact Or.inl h0
    · right
      obtain ⟨b, off, spot⟩ := a
      have hc0 := (hf2 0 (by omega)).1 0 (by omega)
      have hc1 : W.cell? ((⟨b, off, spot⟩ : Addr).add (0 * 8 + 0)) = some (.int .i64 (f 0).k) := hc0
      have hspot : spot = none := by simpa [Addr.add] using World.cell?_spot hc1
      subst hspot
      have hb : b < W.heap.size := by
        rcases Nat.lt_or_ge b W.heap.size with h | h
        · exact h
        · simp [Addr.add, World.cell?, Array.getElem?_eq_none h] at hc1
      refine ⟨b, off, rfl, hb, fun i hi => ⟨fun j hj => ?_, (hf2 i hi).2⟩⟩
      have e := (hf2 i hi).1 j hj
      rw [addr_add] at e
      rw [Nat.add_assoc]
      exact e
end Go.Proofs.YtikomnbhmmjfnaaGreat
