/- How names, and the document's shares, that came in are read. -/
import Derived.Test.YtakpdhmfbgfblaaASame
import Derived.Test.YtakpdhmfbgfblaaOpen
import Derived.SliceStrings
import Derived.ProofKit
import Derived.SizedLaws
import Derived.Deep.Slices
import Derived.Deep.Strs
import Derived.OpenShut
namespace Go.Proofs.Ytakpdhmfbgfblaa
open Go.RowKit
open Go.ChangeShapes Go.WideShapes Go.ChangeAt

variable {H : Type} {enc : TypeId × Value → H} {W : World}
theorem Try.bytesAI : Try.prog.bytesOf 3 = 8 := by kernel_rfl
theorem Try.bytesAS : Try.prog.bytesOf 9 = 16 := by kernel_rfl
theorem Try.bytesAR : Try.prog.bytesOf 41 = 40 := by kernel_rfl
theorem Try.cellsAS : Try.prog.cellsOf 9 = 1 := by kernel_rfl
theorem Try.cellsAN : Try.prog.cellsOf 33 = 1 := by kernel_rfl
theorem Try.cellsAR : Try.prog.cellsOf 41 = 2 := by kernel_rfl
theorem nm_of (s : ByteArray) : nmS s.data.toList = s := rfl
/-- A slice of numbers inside. -/
theorem open_intsA {n : Nat} {v : Value} {x : DataW H × List MemPlace} (h : DataW.trod enc Try.prog W 0 (fun _ => true) true n 33 [v] = some x) (hd : ∀ m ∈ x.1.weights Try.prog 33, m ≤ 140737488351232) :
    ∃ (ns : List Int) (s : Sl), v = .slice s.ad s.m s.c ∧ ArgK kZ W ns s.ad s.m s.c ∧ s.m * 8 ≤ 140737488351232 := by
  rcases open_ints Try.underlying33 Try.underlying3 (by kernel_rfl) h with ⟨hcs, hx⟩ | ⟨a, l, c, zs, hcs, _, hl, hm, hz, hx, hcell, hwz⟩
  · simp only [List.cons.injEq, and_true] at hcs
    exact ⟨[], sl0, hcs, ⟨rfl, fun _ => ⟨rfl, rfl⟩, Nat.le_refl _, by show 0 ≤ maxLen; unfold maxLen; omega, Or.inl rfl⟩, by show 0 * 8 ≤ _; omega⟩
  · simp only [List.cons.injEq, and_true] at hcs
    simp only [if_true] at hz
    have hw : c * 8 ≤ 140737488351232 := by
      apply hd
      rw [hx]
      simp only
      rw [DataW.weights, Try.underlying33]
      simp only [List.mem_cons]
      left
      rw [Try.bytesAI]
      congr 1
      simp only [lits, List.length_map, List.length_take, List.length_drop]
      omega
    refine ⟨zs.take l, ⟨some a, l, c⟩, hcs, ⟨by simp; omega, (fun e => by cases e), hl, hm, ?_⟩, by show l * 8 ≤ _; omega⟩
    by_cases h0 : l = 0
    · exact Or.inl (by rw [h0]; simp)
    · right
      obtain ⟨b, off, spot⟩ := a
      have hc0 := hcell 0 (by omega)
      have hspot : spot = none := by simpa [Addr.add] using World.cell?_spot hc0
      subst hspot
      have hb : b < W.heap.size := by
        rcases Nat.lt_or_ge b W.heap.size with h | h
        · exact h
        · simp [Addr.add, World.cell?, Array.getElem?_eq_none h] at hc0
      refine ⟨b, off, rfl, hb, ?_⟩
      intro i hi cc hcc
      rw [List.length_take] at hi
      have h1 : kZ.sz = 1 := rfl
      obtain rfl : cc = 0 := by omega
      have e := hcell i (by omega)
      rw [addr_add] at e
      rw [h1, Nat.mul_one, Nat.add_zero, e]
      have hiz : i < zs.length := by omega
      show _ = some (Value.int .i64 ((zs.take l).getD i 0))
      simp only [List.getD_eq_getElem?_getD, List.getElem?_take, List.getElem?_eq_getElem hiz, if_pos (show i < l by omega), Option.getD_some]
/-- Names. -/
theorem open_namesA {ad : Option Addr} {len cap : Nat} {d : DataW H} {p : List MemPlace} (h : DataW.Trod enc Try.prog W 0 (fun _ => true) true 23 (.slice ad len cap) d p) (hd : ∀ m ∈ d.weights Try.prog 23, m ≤ 140737488351232) :
    ∃ l, ArgK kS W l ad len cap ∧ len * 16 ≤ 140737488351232 := by
  obtain ⟨fuel, hf⟩ := h
  have hf' : DataW.trod enc Try.prog W 0 (fun _ => true) true fuel 23 [.slice ad len cap] = some (d, p) := hf
  rcases open_strings Try.underlying23 Try.underlying9 (by kernel_rfl) hf' with ⟨hcs, hx⟩ | ⟨a, l, c, ss, hcs, _, hl, hm, hz, hx, hcell, hwz⟩
  · simp only [List.cons.injEq, and_true] at hcs
    cases hcs
    exact ⟨[], ⟨rfl, fun _ => ⟨rfl, rfl⟩, Nat.le_refl _, by unfold maxLen; omega, Or.inl rfl⟩, by omega⟩
  · simp only [List.cons.injEq, and_true] at hcs
    cases hcs
    simp only [if_true] at hz
    have hx1 : d = .slice (strs (ss.take len)) (strs (ss.drop len)) := congrArg Prod.fst hx
    have hw : cap * 16 ≤ 140737488351232 := by
      apply hd
      rw [hx1, DataW.weights, Try.underlying23]
      simp only [List.mem_cons]
      left
      rw [Try.bytesAS]
      congr 1
      simp only [strs, List.length_map, List.length_take, List.length_drop]
      omega
    refine ⟨(ss.take len).map (fun s => s.data.toList), ⟨by simp; omega, (fun e => by cases e), hl, hm, ?_⟩, by omega⟩
    by_cases h0 : len = 0
    · exact Or.inl (by rw [h0]; simp)
    · right
      obtain ⟨b, off, spot⟩ := a
      have hc0 := hcell 0 (by omega)
      have hspot : spot = none := by simpa [Addr.add] using World.cell?_spot hc0
      subst hspot
      have hb : b < W.heap.size := by
        rcases Nat.lt_or_ge b W.heap.size with h | h
        · exact h
        · simp [Addr.add, World.cell?, Array.getElem?_eq_none h] at hc0
      refine ⟨b, off, rfl, hb, ?_⟩
      intro i hi cc hcc
      rw [List.length_map, List.length_take] at hi
      have h1 : kS.sz = 1 := rfl
      obtain rfl : cc = 0 := by omega
      have e := hcell i (by omega)
      rw [addr_add] at e
      rw [h1, Nat.mul_one, Nat.add_zero, e]
      have hiz : i < ss.length := by omega
      show _ = some (Value.string (nmS (((ss.take len).map (fun s => s.data.toList)).getD i [])))
      simp only [List.getD_eq_getElem?_getD, List.getElem?_map, List.getElem?_take, List.getElem?_eq_getElem hiz, if_pos (show i < len by omega), Option.getD_some, Option.map_some, nm_of]
theorem list2a {α : Type} {cs : List α} (h : cs.length = 2) : ∃ c0 c1, cs = [c0, c1] := by
  match cs, h with
  | [c0, c1], _ => exact ⟨c0, c1, rfl⟩
theorem trod2a {P : Program} {t : TypeId} {f0 f1 : Field} {fuel : Nat} {cs : List Value} {x : DataW H × List MemPlace} (ht : P.underlying t = some (.struct #[f0, f1])) (h : DataW.trod enc P W 0 (fun _ => true) true fuel t cs = some x) :
    ∃ y0 y1 n, x.1 = .agg [y0.1, y1.1] ∧ cs.length = P.cellsOf t ∧ DataW.trod enc P W 0 (fun _ => true) true n f0.type ((cs.drop f0.offset).take (P.cellsOf f0.type)) = some y0 ∧
      DataW.trod enc P W 0 (fun _ => true) true n f1.type ((cs.drop f1.offset).take (P.cellsOf f1.type)) = some y1 := by
  obtain ⟨xs, n, _, rfl, hl, hlen, hf⟩ := DataW.trod_struct ht h
  obtain ⟨y0, y1, rfl⟩ := list2a (hlen.trans rfl)
  exact ⟨y0, y1, n, by simp, hl, by simpa using hf 0 f0 rfl, by simpa using hf 1 f1 rfl⟩
theorem weights_2a (t0 t1 : TypeId) (d0 d1 : DataW H) (m : Nat) (h : m ∈ d1.weights Try.prog t1) : m ∈ DataW.weightsEach Try.prog [t0, t1] [d0, d1] := by
  simp only [DataW.weightsEach, List.mem_append]
  simp [h]
theorem weights_allA (e : TypeId) (l : List (DataW H)) (d : DataW H) (hd : d ∈ l) (n : Nat) (hn : n ∈ d.weights Try.prog e) : n ∈ DataW.weightsAll Try.prog e l := by
  induction l with
  | nil => cases hd
  | cons x l ih =>
    rw [DataW.weightsAll, List.mem_append]
    rcases List.mem_cons.1 hd with rfl | h
    · exact Or.inl hn
    · exact Or.inr (ih h)
/-- One share. -/
theorem open_shareA {n : Nat} {cs : List Value} {x : DataW H × List MemPlace} (h : DataW.trod enc Try.prog W 0 (fun _ => true) true n 41 cs = some x) (hd : ∀ m ∈ x.1.weights Try.prog 41, m ≤ 140737488351232) :
    ∃ (y : ShA) (q : List Int), cs = [.string (nmS y.1), .slice y.2.ad y.2.m y.2.c] ∧ y.1.length ≤ maxLen ∧ ArgK kZ W q y.2.ad y.2.m y.2.c ∧ y.2.m * 8 ≤ 140737488351232 := by
  obtain ⟨y0, y1, m, hx, hl, f0, f1⟩ := trod2a Try.underlying41 h
  rw [Try.cellsAR] at hl
  obtain ⟨c0, c1, rfl⟩ := list2a hl
  simp only [Try.cellsAS, Try.cellsAN, List.drop_zero, List.drop_succ_cons, List.take_succ_cons, List.take_zero] at f0 f1
  obtain ⟨s, e0, -, w0⟩ := DataW.trod_string Try.underlying9 f0
  simp only [List.cons.injEq, and_true] at e0
  subst e0
  obtain ⟨ns, sl, rfl, q1, q2⟩ := open_intsA f1 (fun k hk => hd k (by
    rw [hx, DataW.weights, Try.underlying41]
    exact weights_2a _ _ _ _ k hk))
  exact ⟨(s.data.toList, sl), ns, by rw [nm_of], w0, q1, q2⟩
theorem open_sharesA {ad : Option Addr} {len cap : Nat} {d : DataW H} {p : List MemPlace} (h : DataW.Trod enc Try.prog W 0 (fun _ => true) true 22 (.slice ad len cap) d p) (hd : ∀ m ∈ d.weights Try.prog 22, m ≤ 140737488351232) :
    ∃ B Q, ShV kR W B Q ad len cap ∧ len * 40 ≤ 140737488351232 ∧ (∀ i, i < B.length → (B.getD i sh0).2.m * 8 ≤ 140737488351232) ∧ ∀ i, i < B.length → (B.getD i sh0).1.length ≤ maxLen := by
  obtain ⟨fuel, hf⟩ := h
  have hf' : DataW.trod enc Try.prog W 0 (fun _ => true) true fuel 22 [.slice ad len cap] = some (d, p) := hf
  rcases Go.Deep.open_slice Try.underlying22 hf' with ⟨hcs, -⟩ | ⟨a, l', c', m, n', D, Pl, hcs, _, hl, hm, hmm, hx, hV⟩
  · simp only [List.cons.injEq, and_true] at hcs
    cases hcs
    exact ⟨[], [], ⟨⟨rfl, fun _ => ⟨rfl, rfl⟩, Nat.le_refl _, by unfold maxLen; omega, Or.inl rfl⟩, rfl, fun i hi => by cases hi⟩, by omega, (fun i hi => by cases hi), (fun i hi => by cases hi)⟩
  · simp only [List.cons.injEq, and_true] at hcs
    cases hcs
    simp only [if_true] at hmm
    subst hmm
    rw [Try.cellsAR] at hV
    have hx1 := congrArg Prod.fst hx
    simp only at hx1
    have hw : (len + (m - len)) * 40 ≤ 140737488351232 := by
      apply hd
      rw [hx1, DataW.weights, Try.underlying22]
      simp only [List.mem_cons, List.length_map, List.length_range]
      exact Or.inl (by rw [Try.bytesAR])
    have hw2 : ∀ i, i < len → ∀ k ∈ (D i).weights Try.prog 41, k ≤ 140737488351232 := by
      intro i hi k hk
      apply hd
      rw [hx1, DataW.weights, Try.underlying22]
      simp only [List.mem_cons, List.mem_append]
      exact Or.inr (Or.inl (weights_allA _ _ (D i) (List.mem_map.2 ⟨i, List.mem_range.2 hi, rfl⟩) k hk))
    have each : ∀ i, i < len → ∃ r : ShA × List Int, (W.cell? (a.add (i * 2)) = some (.string (nmS r.1.1)) ∧ W.cell? (a.add (i * 2 + 1)) = some (.slice r.1.2.ad r.1.2.m r.1.2.c)) ∧ r.1.1.length ≤ maxLen ∧ ArgK kZ W r.2 r.1.2.ad r.1.2.m r.1.2.c ∧ r.1.2.m * 8 ≤ 140737488351232 := by
      intro i hi
      obtain ⟨cs', h1, h2⟩ := hV i (by omega)
      obtain ⟨y, q, rfl, hq⟩ := open_shareA h2 (hw2 i hi)
      obtain ⟨_, _, hcell⟩ := World.cells?_some h1
      have e0 := hcell 0 (by omega)
      have e1 := hcell 1 (by omega)
      rw [Go.Deep.add_add] at e0 e1
      exact ⟨(y, q), ⟨by simpa using e0, by simpa using e1⟩, hq⟩
    obtain ⟨f, hf⟩ := @Go.Deep.choose_lt (ShA × List Int) ⟨(sh0, [])⟩ _ _ each
    have hatB : ∀ i, i < len → ((List.range len).map (fun i => (f i).1)).getD i sh0 = (f i).1 := fun i hi => by rw [List.getD_eq_getElem?_getD, List.getElem?_map, List.getElem?_range hi]; rfl
    have hatQ : ∀ i, i < len → ((List.range len).map (fun i => (f i).2)).getD i [] = (f i).2 := fun i hi => by rw [List.getD_eq_getElem?_getD, List.getElem?_map, List.getElem?_range hi]; rfl
    have hlB : ((List.range len).map (fun i => (f i).1)).length = len := by simp
    refine ⟨(List.range len).map (fun i => (f i).1), (List.range len).map (fun i => (f i).2), ⟨⟨hlB, (fun e => by cases e), hl, hm, ?_⟩, by simp, fun i hi => ?_⟩, by omega, fun i hi => ?_, fun i hi => ?_⟩
    · by_cases h0 : len = 0
      · exact Or.inl (by rw [h0]; rfl)
      · right
        obtain ⟨b, off, spot⟩ := a
        have hc0 := (hf 0 (by omega)).1.1
        have hspot : spot = none := by simpa [Addr.add] using World.cell?_spot hc0
        subst hspot
        have hb : b < W.heap.size := by
          rcases Nat.lt_or_ge b W.heap.size with h | h
          · exact h
          · simp [Addr.add, World.cell?, Array.getElem?_eq_none h] at hc0
        refine ⟨b, off, rfl, hb, fun i hi cc hcc => ?_⟩
        rw [hlB] at hi
        have h1 : kR.sz = 2 := rfl
        have e0 := (hf i hi).1.1
        have e1 := (hf i hi).1.2
        rw [addr_add] at e0 e1
        rw [h1, show ((List.range len).map (fun i => (f i).1)).getD i kR.z = ((List.range len).map (fun i => (f i).1)).getD i sh0 from rfl, hatB i hi]
        rcases (show cc = 0 ∨ cc = 1 by omega) with rfl | rfl
        · rw [Nat.add_zero, e0]; rfl
        · rw [Nat.add_assoc, e1]; rfl
    · rw [hlB] at hi
      rw [hatB i hi, hatQ i hi]
      exact (hf i hi).2.2.1
    · rw [hlB] at hi
      rw [hatB i hi]
      exact (hf i hi).2.2.2
    · rw [hlB] at hi
      rw [hatB i hi]
      exact (hf i hi).2.1
end Go.Proofs.Ytakpdhmfbgfblaa
