/- How a slice of Ops of layer 12 that came in is read. -/
import Derived.Test.YtobaeiicacpbnaaOpenBatch
namespace Go.Proofs.Ytobaeiicacpbnaa
open Go.RowKit
open Go.ChangeShapes Go.WideShapes Go.ChangeAt
variable {H : Type} {enc : TypeId × Value → H} {W : World}

/-- An Op: whether it is noted, its batch, its offset. -/
structure OpP where
  nt : Bool
  k : Int
  p : Int
  e : Int
  q : Int
  tx : Bool
  rs : List Rec
  ad : Option Addr
  len : Nat
  cap : Nat
  off : Int
def OpP.bat (o : OpP) : Bat := ⟨o.k, o.p, o.e, o.q, o.tx, o.rs⟩
def opP (o : OpP) : Array Value := #[.bool o.nt, .int .i64 o.k, .int .i64 o.p, .int .i64 o.e, .int .i64 o.q, .bool o.tx, .slice o.ad o.len o.cap, .int .i64 o.off]
def op0 : OpP := ⟨false, 0, 0, 0, 0, false, [], none, 0, 0, 0⟩
structure OpP.ok (o : OpP) (W : World) : Prop where
  arg : BArg W ⟨o.k, o.p, o.e, o.q, o.tx, o.rs⟩ o.ad o.len o.cap
  size : o.len * 40 ≤ 140737488351232
theorem OpP.ok.later {o : OpP} {W W' : World} (h : o.ok W) (hb : Below W.heap.size W W') : o.ok W' := ⟨h.arg.later hb, h.size⟩
theorem list8P {α : Type} {cs : List α} (h : cs.length = 8) : ∃ c0 c1 c2 c3 c4 c5 c6 c7, cs = [c0, c1, c2, c3, c4, c5, c6, c7] := by
  match cs, h with
  | [c0, c1, c2, c3, c4, c5, c6, c7], _ => exact ⟨c0, c1, c2, c3, c4, c5, c6, c7, rfl⟩
theorem cellsOP : Try.prog.cellsOf 35 = 8 := by kernel_rfl
theorem bytesOP : Try.prog.bytesOf 35 = 80 := by kernel_rfl
theorem trod3P {P : Program} {t : TypeId} {f0 f1 f2 : Field} {fuel : Nat} {cs : List Value} {x : DataW H × List MemPlace} (ht : P.underlying t = some (.struct #[f0, f1, f2])) (h : DataW.trod enc P W 0 (fun _ => true) true fuel t cs = some x) :
    ∃ y0 y1 y2 n, x.1 = .agg [y0.1, y1.1, y2.1] ∧ DataW.trod enc P W 0 (fun _ => true) true n f0.type ((cs.drop f0.offset).take (P.cellsOf f0.type)) = some y0 ∧
      DataW.trod enc P W 0 (fun _ => true) true n f1.type ((cs.drop f1.offset).take (P.cellsOf f1.type)) = some y1 ∧ DataW.trod enc P W 0 (fun _ => true) true n f2.type ((cs.drop f2.offset).take (P.cellsOf f2.type)) = some y2 := by
  obtain ⟨xs, n, _, rfl, _, hlen, hf⟩ := DataW.trod_struct ht h
  obtain ⟨y0, y1, y2, rfl⟩ := list3 (hlen.trans rfl)
  exact ⟨y0, y1, y2, n, by simp, by simpa using hf 0 f0 rfl, by simpa using hf 1 f1 rfl, by simpa using hf 2 f2 rfl⟩
theorem weights_P (t0 t1 t2 : TypeId) (d0 d1 d2 : DataW H) (m : Nat) (h : m ∈ d1.weights Try.prog t1) : m ∈ DataW.weightsEach Try.prog [t0, t1, t2] [d0, d1, d2] := by
  simp only [DataW.weightsEach, List.mem_append]
  simp [h]
theorem weights_allP (e : TypeId) (l : List (DataW H)) (d : DataW H) (hd : d ∈ l) (n : Nat) (hn : n ∈ d.weights Try.prog e) : n ∈ DataW.weightsAll Try.prog e l := by
  induction l with
  | nil => cases hd
  | cons x l ih =>
    rw [DataW.weightsAll, List.mem_append]
    rcases List.mem_cons.1 hd with rfl | h
    · exact Or.inl hn
    · exact Or.inr (ih h)
set_option maxRecDepth 100000 in
theorem open_opP {n : Nat} {cs : List Value} {x : DataW H × List MemPlace} (hl : cs.length = 8) (h : DataW.trod enc Try.prog W 0 (fun _ => true) true n 35 cs = some x) (hw : ∀ k ∈ x.1.weights Try.prog 35, k ≤ 140737488351232) : ∃ o : OpP, cs = (opP o).toList ∧ o.ok W := by
  obtain ⟨y0, y1, y2, m, hx, f0, f1, f2⟩ := trod3P Try.underlying35 h
  obtain ⟨c0, c1, c2, c3, c4, c5, c6, c7, rfl⟩ := list8P hl
  simp only [Try.cellsB, Try.cellsI, Try.cellsT, List.drop_succ_cons, List.drop_zero, List.take_succ_cons, List.take_zero] at f0 f1 f2
  obtain ⟨nt, e0, -⟩ := DataW.trod_bool Try.underlying4 f0
  obtain ⟨off, e7, -⟩ := DataW.trod_int Try.underlying3 f2
  obtain ⟨z0, z1, z2, z3, z4, z5, m', hx', g0, g1, g2, g3, g4, g5⟩ := trod6 Try.underlying33 f1
  simp only [Try.cellsI, Try.cellsT, Try.cellsL, List.drop_zero, List.drop_succ_cons, List.take_succ_cons, List.take_zero] at g0 g1 g2 g3 g4 g5
  obtain ⟨k, e1, -⟩ := DataW.trod_int Try.underlying3 g0
  obtain ⟨p, e2, -⟩ := DataW.trod_int Try.underlying3 g1
  obtain ⟨e, e3, -⟩ := DataW.trod_int Try.underlying3 g2
  obtain ⟨q, e4, -⟩ := DataW.trod_int Try.underlying3 g3
  obtain ⟨tx, e5, -⟩ := DataW.trod_bool Try.underlying4 g4
  obtain ⟨rs, ad, len, cap, e6, hb, hlen⟩ := open_recs g5 (fun mm hmm => hw mm (by
    rw [hx, DataW.weights, Try.underlying35]
    refine weights_P _ _ _ _ _ _ mm ?_
    rw [hx', DataW.weights, Try.underlying33]
    exact weights_six _ _ _ _ _ _ _ _ _ _ _ _ mm hmm)) k p e q tx
  simp only [List.cons.injEq, and_true] at e0 e1 e2 e3 e4 e5 e7
  subst e0 e1 e2 e3 e4 e5 e6 e7
  exact ⟨⟨nt, k, p, e, q, tx, rs, ad, len, cap, off⟩, rfl, hb, hlen⟩
/-- A slice of Ops that came in. -/
def OpsP (W : World) (f : Nat → OpP) (ad : Option Addr) (len : Nat) : Prop := len = 0 ∨ ∃ b off, ad = some ⟨b, off, none⟩ ∧ b < W.heap.size ∧ ∀ i, i < len → (∀ j, j < 8 → W.cell? ⟨b, off + i * 8 + j, none⟩ = (opP (f i))[j]?) ∧ (f i).ok W
set_option maxRecDepth 100000 in
theorem open_opsP {ad : Option Addr} {len cap : Nat} {d : DataW H} {p : List MemPlace} (h : DataW.Trod enc Try.prog W 0 (fun _ => true) true 22 (.slice ad len cap) d p) (hd : ∀ n ∈ d.weights Try.prog 22, n ≤ 140737488351232) : ∃ f, OpsP W f ad len ∧ len * 80 ≤ 140737488351232 := by
  obtain ⟨fuel, hf⟩ := h
  rcases Go.Deep.open_slice Try.underlying22 hf with ⟨hcs, -⟩ | ⟨a, len, cap, m, n', D, Pl, hcs, _, hl, hm, hmm, hx, hV⟩
  · simp [Value.cells] at hcs
    obtain ⟨rfl, rfl, rfl⟩ := hcs
    exact ⟨fun _ => op0, Or.inl rfl, by omega⟩
  · simp [Value.cells] at hcs
    obtain ⟨rfl, rfl, rfl⟩ := hcs
    simp only [if_true] at hmm
    subst hmm
    rw [cellsOP] at hV
    have hx1 := congrArg Prod.fst hx
    simp only at hx1
    have hw : ∀ i, i < len → ∀ k ∈ (D i).weights Try.prog 35, k ≤ 140737488351232 := by
      intro i hi k hk
      apply hd
      rw [hx1, DataW.weights, Try.underlying22]
      simp only [List.mem_cons, List.mem_append]
      exact Or.inr (Or.inl (weights_allP _ _ (D i) (List.mem_map.2 ⟨i, List.mem_range.2 hi, rfl⟩) k hk))
    have hbd : (len + (m - len)) * 80 ≤ 140737488351232 := by
      apply hd
      rw [hx1, DataW.weights, Try.underlying22]
      simp only [List.mem_cons, List.length_map, List.length_range]
      exact Or.inl (by rw [bytesOP])
    have each : ∀ i, i < len → ∃ o : OpP, (∀ j, j < 8 → W.cell? (a.add (i * 8 + j)) = (opP o)[j]?) ∧ o.ok W := by
      intro i hi
      obtain ⟨cs', h1, h2⟩ := hV i (by omega)
      obtain ⟨_, hlen, hcell⟩ := World.cells?_some h1
      obtain ⟨o, rfl, hok⟩ := open_opP (by simpa using hlen) h2 (hw i hi)
      refine ⟨o, fun j hj => ?_, hok⟩
      have e := hcell j (by omega)
      rw [Go.Deep.add_add] at e
      simpa using e
    obtain ⟨f, hf2⟩ := @Go.Deep.choose_lt OpP ⟨op0⟩ _ _ each
    refine ⟨f, ?_, by omega⟩
    by_cases h0 : len = 0
    · exact Or.inl h0
    · right
      obtain ⟨b, off, spot⟩ := a
      have hc0 := (hf2 0 (by omega)).1 0 (by omega)
      have hc1 : W.cell? ((⟨b, off, spot⟩ : Addr).add (0 * 8 + 0)) = some (.bool (f 0).nt) := hc0
      have hspot : spot = none := by simpa [Addr.add] using World.cell?_spot hc1
      subst hspot
      have hb : b < W.heap.size := by
        rcases Nat.lt_or_ge b W.heap.size with h | h
        · exact h
        · simp [Addr.add, World.cell?, Array.getElem?_eq_none h] at hc1
      refine ⟨b, off, rfl, hb, fun i hi => ⟨fun j hj => ?_, (hf2 i hi).2⟩⟩
      have e := (hf2 i hi).1 j hj
      rw [addr_add] at e
      rw [Nat.add_assoc]
      exact e
end Go.Proofs.Ytobaeiicacpbnaa
