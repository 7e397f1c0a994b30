/- How a chain, and a config, of the document's packages that came in is read. -/
import Derived.Test.YthadagpfmacemaaOpenInts
import Derived.Test.YthadagpfmacemaaStays
import Derived.Deep.Slices
import Derived.Deep.Strs
import Derived.OpenShut
namespace Go.Proofs.Ythadagpfmacemaa
open Go.RowKit
open Go.ChangeShapes Go.WideShapes Go.ChangeAt

variable {H : Type} {enc : TypeId × Value → H} {W : World}
theorem list2c {α : Type} {cs : List α} (h : cs.length = 2) : ∃ c0 c1, cs = [c0, c1] := by
  match cs, h with
  | [c0, c1], _ => exact ⟨c0, c1, rfl⟩
theorem list3c {α : Type} {cs : List α} (h : cs.length = 3) : ∃ c0 c1 c2, cs = [c0, c1, c2] := by
  match cs, h with
  | [c0, c1, c2], _ => exact ⟨c0, c1, c2, rfl⟩
theorem array2c {α : Type} {cs : Array α} (h : cs.size = 2) : ∃ c0 c1, cs = #[c0, c1] := by
  obtain ⟨l⟩ := cs
  match l, h with
  | [c0, c1], _ => exact ⟨c0, c1, rfl⟩
theorem array3c {α : Type} {cs : Array α} (h : cs.size = 3) : ∃ c0 c1 c2, cs = #[c0, c1, c2] := by
  obtain ⟨l⟩ := cs
  match l, h with
  | [c0, c1, c2], _ => exact ⟨c0, c1, c2, rfl⟩
theorem trod2c {P : Program} {t : TypeId} {f0 f1 : Field} {fuel : Nat} {cs : List Value} {x : DataW H × List MemPlace} (ht : P.underlying t = some (.struct #[f0, f1])) (h : DataW.trod enc P W 0 (fun _ => true) true fuel t cs = some x) :
    ∃ y0 y1 n, x.1 = .agg [y0.1, y1.1] ∧ cs.length = P.cellsOf t ∧ DataW.trod enc P W 0 (fun _ => true) true n f0.type ((cs.drop f0.offset).take (P.cellsOf f0.type)) = some y0 ∧
      DataW.trod enc P W 0 (fun _ => true) true n f1.type ((cs.drop f1.offset).take (P.cellsOf f1.type)) = some y1 := by
  obtain ⟨xs, n, _, rfl, hl, hlen, hf⟩ := DataW.trod_struct ht h
  obtain ⟨y0, y1, rfl⟩ := list2c (hlen.trans rfl)
  exact ⟨y0, y1, n, by simp, hl, by simpa using hf 0 f0 rfl, by simpa using hf 1 f1 rfl⟩
theorem trod3c {P : Program} {t : TypeId} {f0 f1 f2 : Field} {fuel : Nat} {cs : List Value} {x : DataW H × List MemPlace} (ht : P.underlying t = some (.struct #[f0, f1, f2])) (h : DataW.trod enc P W 0 (fun _ => true) true fuel t cs = some x) :
    ∃ y0 y1 y2 n, x.1 = .agg [y0.1, y1.1, y2.1] ∧ DataW.trod enc P W 0 (fun _ => true) true n f0.type ((cs.drop f0.offset).take (P.cellsOf f0.type)) = some y0 ∧
      DataW.trod enc P W 0 (fun _ => true) true n f1.type ((cs.drop f1.offset).take (P.cellsOf f1.type)) = some y1 ∧ DataW.trod enc P W 0 (fun _ => true) true n f2.type ((cs.drop f2.offset).take (P.cellsOf f2.type)) = some y2 := by
  obtain ⟨xs, n, _, rfl, _, hlen, hf⟩ := DataW.trod_struct ht h
  obtain ⟨y0, y1, y2, rfl⟩ := list3c (hlen.trans rfl)
  exact ⟨y0, y1, y2, n, by simp, by simpa using hf 0 f0 rfl, by simpa using hf 1 f1 rfl, by simpa using hf 2 f2 rfl⟩
theorem weights_2c (t0 t1 : TypeId) (d0 d1 : DataW H) (m : Nat) (h : m ∈ d1.weights Try.prog t1) : m ∈ DataW.weightsEach Try.prog [t0, t1] [d0, d1] := by
  simp only [DataW.weightsEach, List.mem_append]
  simp [h]
theorem weights_3c (t0 t1 t2 : TypeId) (d0 d1 d2 : DataW H) (m : Nat) (h : m ∈ d2.weights Try.prog t2) : m ∈ DataW.weightsEach Try.prog [t0, t1, t2] [d0, d1, d2] := by
  simp only [DataW.weightsEach, List.mem_append]
  simp [h]
theorem weights_allC (e : TypeId) (l : List (DataW H)) (d : DataW H) (hd : d ∈ l) (n : Nat) (hn : n ∈ d.weights Try.prog e) : n ∈ DataW.weightsAll Try.prog e l := by
  induction l with
  | nil => cases hd
  | cons x l ih =>
    rw [DataW.weightsAll, List.mem_append]
    rcases List.mem_cons.1 hd with rfl | h
    · exact Or.inl hn
    · exact Or.inr (ih h)
theorem Try.cellsCI : Try.prog.cellsOf 3 = 1 := by kernel_rfl
theorem Try.cellsCN : Try.prog.cellsOf 47 = 1 := by kernel_rfl
theorem Try.cellsCP : Try.prog.cellsOf 65 = 3 := by kernel_rfl
theorem Try.cellsCF : Try.prog.cellsOf 49 = 2 := by kernel_rfl
theorem Try.cellsCL : Try.prog.cellsOf 22 = 1 := by kernel_rfl
theorem Try.cellsCC : Try.prog.cellsOf 24 = 3 := by kernel_rfl
theorem Try.bytesCP : Try.prog.bytesOf 65 = 40 := by kernel_rfl
/-- One part. -/
theorem open_part {n : Nat} {cs : List Value} {x : DataW H × List MemPlace} (h : DataW.trod enc Try.prog W 0 (fun _ => true) true n 65 cs = some x) (hd : ∀ m ∈ x.1.weights Try.prog 65, m ≤ 140737488351232) :
    ∃ (p : Pt) (s : Sl), cs = [.int .i64 p.first, .int .i64 p.id, .slice s.ad s.m s.c] ∧ ((-9223372036854775808 ≤ p.first ∧ p.first ≤ 9223372036854775807) ∧ (-9223372036854775808 ≤ p.id ∧ p.id ≤ 9223372036854775807)) ∧ Ints W p.nodes s.ad s.m s.c ∧ (s.ad = none → s.m = 0 ∧ s.c = 0) ∧ s.m * 8 ≤ 140737488351232 := by
  obtain ⟨y0, y1, m, hx, hl, f0, f1⟩ := trod2c Try.underlying65 h
  rw [Try.cellsCP] at hl
  obtain ⟨c0, c1, c2, rfl⟩ := list3c hl
  simp only [Try.cellsCI, Try.cellsCF, List.drop_zero, List.drop_succ_cons, List.take_succ_cons, List.take_zero] at f0 f1
  obtain ⟨a, e0, -, w0⟩ := DataW.trod_int Try.underlying3 f0
  obtain ⟨z0, z1, m2, hx2, -, g0, g1⟩ := trod2c Try.underlying49 f1
  simp only [Try.cellsCI, Try.cellsCN, List.drop_zero, List.drop_succ_cons, List.take_succ_cons, List.take_zero] at g0 g1
  obtain ⟨b, e1, -, w1⟩ := DataW.trod_int Try.underlying3 g0
  simp only [List.cons.injEq, and_true] at e0 e1
  subst e0 e1
  obtain ⟨ns, s, rfl, q1, q2, q3⟩ := open_nodes g1 (fun k hk => hd k (by
    rw [hx, DataW.weights, Try.underlying65]
    refine weights_2c _ _ _ _ k ?_
    have e : y1.1 = .agg [z0.1, z1.1] := hx2
    rw [e, DataW.weights, Try.underlying49]
    exact weights_2c _ _ _ _ k hk))
  exact ⟨⟨a, b, ns⟩, s, rfl, ⟨i64_wf w0, i64_wf w1⟩, q1, q2, q3⟩
theorem open_parts {n : Nat} {v : Value} {x : DataW H × List MemPlace} (h : DataW.trod enc Try.prog W 0 (fun _ => true) true n 22 [v] = some x) (hd : ∀ m ∈ x.1.weights Try.prog 22, m ≤ 140737488351232) :
    ∃ l A ad len cap, v = .slice ad len cap ∧ CArg W l A ad len cap ∧ len * 40 ≤ 140737488351232 ∧ ∀ i, i < len → (A i).m * 8 ≤ 140737488355328 := by
  rcases Go.Deep.open_slice Try.underlying22 h with ⟨hcs, -⟩ | ⟨a, len, cap, m, n', D, Pl, hcs, _, hl, hm, hmm, hx, hV⟩
  · simp only [List.cons.injEq, and_true] at hcs
    exact ⟨[], fun _ => ⟨none, 0, 0⟩, none, 0, 0, hcs, CArg.none _ _, by omega, fun i hi => absurd hi (Nat.not_lt_zero _)⟩
  · simp only [List.cons.injEq, and_true] at hcs
    simp only [if_true] at hmm
    subst hmm
    rw [Try.cellsCP] at hV
    have hx1 := congrArg Prod.fst hx
    simp only at hx1
    have hw : (len + (m - len)) * 40 ≤ 140737488351232 := by
      apply hd
      rw [hx1, DataW.weights, Try.underlying22]
      simp only [List.mem_cons, List.length_map, List.length_range]
      exact Or.inl (by rw [Try.bytesCP])
    have hw2 : ∀ i, i < len → ∀ k ∈ (D i).weights Try.prog 65, k ≤ 140737488351232 := by
      intro i hi k hk
      apply hd
      rw [hx1, DataW.weights, Try.underlying22]
      simp only [List.mem_cons, List.mem_append]
      exact Or.inr (Or.inl (weights_allC _ _ (D i) (List.mem_map.2 ⟨i, List.mem_range.2 hi, rfl⟩) k hk))
    have each : ∀ i, i < len → ∃ r : Pt × Sl, (W.cell? (a.add (i * 3)) = some (.int .i64 r.1.first) ∧ W.cell? (a.add (i * 3 + 1)) = some (.int .i64 r.1.id) ∧ W.cell? (a.add (i * 3 + 2)) = some (.slice r.2.ad r.2.m r.2.c)) ∧ ((-9223372036854775808 ≤ r.1.first ∧ r.1.first ≤ 9223372036854775807) ∧ (-9223372036854775808 ≤ r.1.id ∧ r.1.id ≤ 9223372036854775807)) ∧ Ints W r.1.nodes r.2.ad r.2.m r.2.c ∧ (r.2.ad = none → r.2.m = 0 ∧ r.2.c = 0) ∧ r.2.m * 8 ≤ 140737488351232 := by
      intro i hi
      obtain ⟨cs', h1, h2⟩ := hV i (by omega)
      obtain ⟨p, s, rfl, q⟩ := open_part h2 (hw2 i hi)
      obtain ⟨_, _, hcell⟩ := World.cells?_some h1
      have e0 := hcell 0 (by omega)
      have e1 := hcell 1 (by omega)
      have e2 := hcell 2 (by omega)
      rw [Go.Deep.add_add] at e0 e1 e2
      exact ⟨(p, s), ⟨by simpa using e0, by simpa using e1, by simpa using e2⟩, q⟩
    obtain ⟨f, hf⟩ := @Go.Deep.choose_lt (Pt × Sl) ⟨(pt0, ⟨none, 0, 0⟩)⟩ _ _ each
    have hlen : ((List.range len).map (fun i => (f i).1)).length = len := by simp
    have hat : ∀ i, i < len → ptAt ((List.range len).map (fun i => (f i).1)) i = (f i).1 := fun i hi => by
      unfold ptAt
      rw [List.getD_eq_getElem?_getD, List.getElem?_map, List.getElem?_range hi]; rfl
    refine ⟨(List.range len).map (fun i => (f i).1), fun i => (f i).2, some a, len, m, hcs, ⟨hlen, (fun e => by cases e), hl, hm, ?_, fun i hi => ?_, fun i hi => ?_⟩, by omega, fun i hi => by have := (hf i hi).2.2.2.2; show (f i).2.m * 8 ≤ _; omega⟩
    · by_cases h0 : len = 0
      · exact Or.inl h0
      · right
        obtain ⟨b, off, spot⟩ := a
        have hc0 := (hf 0 (by omega)).1.1
        have hspot : spot = none := by simpa [Addr.add] using World.cell?_spot hc0
        subst hspot
        have hb : b < W.heap.size := by
          rcases Nat.lt_or_ge b W.heap.size with h | h
          · exact h
          · simp [Addr.add, World.cell?, Array.getElem?_eq_none h] at hc0
        refine ⟨b, off, rfl, hb, fun i hi => ?_⟩
        obtain ⟨⟨g0, g1, g2⟩, -⟩ := hf i hi
        rw [addr_add] at g0 g1 g2
        rw [hat i hi]
        exact ⟨g0, by rw [Nat.add_assoc]; exact g1, by rw [Nat.add_assoc]; exact g2⟩
    · rw [hat i hi]; exact ⟨(hf i hi).2.2.1, (hf i hi).2.2.2.1⟩
    · rw [hat i hi]; exact (hf i hi).2.1
set_option maxRecDepth 100000 in
theorem open_chain {r : Reach} {b0 : Nat} {v : Value} {d : DataW H} {p : List MemPlace} (hv : Value.okWide Try.prog W r b0 24 v) (h : DataW.Trod enc Try.prog W 0 (fun _ => true) true 24 v d p)
    (hd : ∀ m ∈ d.weights Try.prog 24, m ≤ 140737488351232) :
    ∃ o t l A ad len cap, v = .agg #[.int .i64 o, .int .i64 t, .slice ad len cap] ∧ CArg W l A ad len cap ∧ len * 40 ≤ 140737488351232 ∧ (∀ i, i < len → (A i).m * 8 ≤ 140737488355328) ∧ (-9223372036854775808 ≤ o ∧ o ≤ 9223372036854775807) ∧ (-9223372036854775808 ≤ t ∧ t ≤ 9223372036854775807) := by
  obtain ⟨cs, rfl, hsz⟩ := okWide_struct Try.underlying24 hv
  rw [Try.cellsCC] at hsz
  obtain ⟨c0, c1, c2, rfl⟩ := array3c hsz
  obtain ⟨fuel, hf⟩ := h
  obtain ⟨y0, y1, y2, m, hx, f0, f1, f2⟩ := trod3c Try.underlying24 hf
  simp only [Value.cells, Try.cellsCI, Try.cellsCL, List.drop_zero, List.drop_succ_cons, List.take_succ_cons, List.take_zero] at f0 f1 f2
  obtain ⟨o, e0, -, w0⟩ := DataW.trod_int Try.underlying3 f0
  obtain ⟨t, e1, -, w1⟩ := DataW.trod_int Try.underlying3 f1
  simp only [List.cons.injEq, and_true] at e0 e1
  subst e0 e1
  simp only at hx
  obtain ⟨l, A, ad, len, cap, rfl, hb, hl, hA⟩ := open_parts f2 (fun m hm => hd m (by
    rw [hx, DataW.weights, Try.underlying24]
    exact weights_3c _ _ _ _ _ _ m hm))
  exact ⟨o, t, l, A, ad, len, cap, rfl, hb, hl, hA, i64_wf w0, i64_wf w1⟩
set_option maxRecDepth 100000 in
theorem open_config {r : Reach} {b0 : Nat} {v : Value} {d : DataW H} {p : List MemPlace} (hv : Value.okWide Try.prog W r b0 49 v) (h : DataW.Trod enc Try.prog W 0 (fun _ => true) true 49 v d p)
    (hd : ∀ m ∈ d.weights Try.prog 49, m ≤ 140737488351232) :
    ∃ (id : Int) (ns : List Int) (s : Sl), v = .agg #[.int .i64 id, .slice s.ad s.m s.c] ∧ Ints W ns s.ad s.m s.c ∧ (s.ad = none → s.m = 0 ∧ s.c = 0) ∧ s.m * 8 ≤ 140737488351232 ∧ (-9223372036854775808 ≤ id ∧ id ≤ 9223372036854775807) := by
  obtain ⟨cs, rfl, hsz⟩ := okWide_struct Try.underlying49 hv
  rw [Try.cellsCF] at hsz
  obtain ⟨c0, c1, rfl⟩ := array2c hsz
  obtain ⟨fuel, hf⟩ := h
  obtain ⟨y0, y1, m, hx, -, f0, f1⟩ := trod2c Try.underlying49 hf
  simp only [Value.cells, Try.cellsCI, Try.cellsCN, List.drop_zero, List.drop_succ_cons, List.take_succ_cons, List.take_zero] at f0 f1
  obtain ⟨id, e0, -, w0⟩ := DataW.trod_int Try.underlying3 f0
  simp only [List.cons.injEq, and_true] at e0
  subst e0
  simp only at hx
  obtain ⟨ns, s, rfl, q1, q2, q3⟩ := open_nodes f1 (fun m hm => hd m (by
    rw [hx, DataW.weights, Try.underlying49]
    exact weights_2c _ _ _ _ m hm))
  exact ⟨id, ns, s, rfl, q1, q2, q3, i64_wf w0⟩
end Go.Proofs.Ythadagpfmacemaa
