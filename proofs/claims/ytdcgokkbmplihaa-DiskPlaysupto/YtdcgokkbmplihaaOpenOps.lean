/- How a slice of numbers, and a slice of Ops, that came in are read. -/
import Derived.Test.YtdcgokkbmplihaaOpen
import Derived.Test.YtdcgokkbmplihaaSyncedM
import Derived.Deep.Slices
import Derived.OpenShut
namespace Go.Proofs.Ytdcgokkbmplihaa
open Go.RowKit
open Go.ChangeShapes Go.WideShapes Go.ChangeAt
variable {H : Type} {enc : TypeId × Value → H} {W : World}

theorem open_nums' {ad : Option Addr} {len cap fuel : Nat} {x : DataW H × List MemPlace} (hf : DataW.trod enc Try.prog W 0 (fun _ => true) true fuel 33 [.slice ad len cap] = some x) : ∃ cs, IArg W cs ad len := by
  rcases open_ints Try.underlying33 Try.underlying3 (by kernel_rfl) hf with ⟨hcs, hx⟩ | ⟨x, l, c, zs, hcs, _, hl, hm, hz, hx, hcell, hwz⟩
  · simp at hcs
    obtain ⟨rfl, rfl, rfl⟩ := hcs
    exact ⟨[], rfl, Or.inl rfl, fun _ h => (by cases h)⟩
  · simp at hcs
    obtain ⟨rfl, rfl, rfl⟩ := hcs
    simp only [if_true] at hz
    refine ⟨zs.take len, by simp; omega, ?_, fun z hz2 => i64_wf (hwz z (List.mem_of_mem_take hz2))⟩
    by_cases h0 : len = 0
    · exact Or.inl h0
    · right
      obtain ⟨b, off, spot⟩ := x
      have hc0 := hcell 0 (by omega)
      have hspot : spot = none := by simpa [Addr.add] using World.cell?_spot hc0
      subst hspot
      have hb : b < W.heap.size := by
        rcases Nat.lt_or_ge b W.heap.size with h | h
        · exact h
        · simp [Addr.add, World.cell?, Array.getElem?_eq_none h] at hc0
      refine ⟨b, off, rfl, hb, ?_⟩
      intro i hi
      have e := hcell i (by omega)
      rw [addr_add] at e
      rw [e]
      have hiz : i < zs.length := by omega
      simp only [List.getD_eq_getElem?_getD, List.getElem?_take, List.getElem?_eq_getElem hiz, if_pos hi, Option.getD_some]
theorem open_nums {ad : Option Addr} {len cap : Nat} {d : DataW H} {p : List MemPlace} (h : DataW.Trod enc Try.prog W 0 (fun _ => true) true 33 (.slice ad len cap) d p) : ∃ cs, IArg W cs ad len := by
  obtain ⟨fuel, hf⟩ := h
  exact open_nums' hf
/-- An Op. -/
structure OpD where
  kind : Int
  i : Int
  n : Int
  b : Option Addr
  blen : Nat
  bcap : Nat
  fill : Nat
  l : Option Addr
  llen : Nat
  lcap : Nat
  bs : List Nat
  cs : List Int
def opV (o : OpD) : List Value := [.int .i64 o.kind, .int .i64 o.i, .int .i64 o.n, .slice o.b o.blen o.bcap, .int .u8 (o.fill : Nat), .slice o.l o.llen o.lcap]
structure OpD.ok (W : World) (o : OpD) : Prop where
  i1 : -9223372036854775808 ≤ o.i
  i2 : o.i ≤ 9223372036854775807
  n1 : -9223372036854775808 ≤ o.n
  n2 : o.n ≤ 9223372036854775807
  fill : o.fill < 256
  text : Part.ok W ⟨o.b, o.blen, o.bcap, o.bs⟩
  text2 : o.blen ≤ o.bcap
  nums : IArg W o.cs o.l o.llen
  lnone : o.l = none → o.llen = 0 ∧ o.lcap = 0
def op0 : OpD := ⟨0, 0, 0, none, 0, 0, 0, none, 0, 0, [], []⟩
/-- A slice of Ops that came in. -/
structure OArg (W : World) (os : List OpD) (ad : Option Addr) (len : Nat) : Prop where
  len_eq : os.length = len
  row : len = 0 ∨ ∃ b off, ad = some ⟨b, off, none⟩ ∧ b < W.heap.size ∧ ∀ i, i < len → ∀ j, j < 6 → W.cell? ⟨b, off + i * 6 + j, none⟩ = (opV (os.getD i op0))[j]?
  each : ∀ o ∈ os, o.ok W
  max : len ≤ 9223372036854775807
theorem Try.cellsO : Try.prog.cellsOf 35 = 6 := by kernel_rfl
theorem Try.cells1 : Try.prog.cellsOf 3 = 1 ∧ Try.prog.cellsOf 32 = 1 ∧ Try.prog.cellsOf 5 = 1 ∧ Try.prog.cellsOf 33 = 1 := ⟨by kernel_rfl, by kernel_rfl, by kernel_rfl, by kernel_rfl⟩
theorem list6 {α : Type} {cs : List α} (h : cs.length = 6) : ∃ c0 c1 c2 c3 c4 c5, cs = [c0, c1, c2, c3, c4, c5] := by
  match cs, h with
  | [c0, c1, c2, c3, c4, c5], _ => exact ⟨c0, c1, c2, c3, c4, c5, rfl⟩
theorem trod6 {P : Program} {t : TypeId} {f0 f1 f2 f3 f4 f5 : Field} {fuel : Nat} {cs : List Value} {x : DataW H × List MemPlace} (ht : P.underlying t = some (.struct #[f0, f1, f2, f3, f4, f5])) (h : DataW.trod enc P W 0 (fun _ => true) true fuel t cs = some x) :
    ∃ y0 y1 y2 y3 y4 y5 n, cs.length = P.cellsOf t ∧ DataW.trod enc P W 0 (fun _ => true) true n f0.type ((cs.drop f0.offset).take (P.cellsOf f0.type)) = some y0 ∧
      DataW.trod enc P W 0 (fun _ => true) true n f1.type ((cs.drop f1.offset).take (P.cellsOf f1.type)) = some y1 ∧ DataW.trod enc P W 0 (fun _ => true) true n f2.type ((cs.drop f2.offset).take (P.cellsOf f2.type)) = some y2 ∧
      DataW.trod enc P W 0 (fun _ => true) true n f3.type ((cs.drop f3.offset).take (P.cellsOf f3.type)) = some y3 ∧ DataW.trod enc P W 0 (fun _ => true) true n f4.type ((cs.drop f4.offset).take (P.cellsOf f4.type)) = some y4 ∧
      DataW.trod enc P W 0 (fun _ => true) true n f5.type ((cs.drop f5.offset).take (P.cellsOf f5.type)) = some y5 := by
  obtain ⟨xs, n, _, rfl, hl, hlen, hf⟩ := DataW.trod_struct ht h
  obtain ⟨y0, y1, y2, y3, y4, y5, rfl⟩ := list6 (hlen.trans rfl)
  exact ⟨y0, y1, y2, y3, y4, y5, n, hl, by simpa using hf 0 f0 rfl, by simpa using hf 1 f1 rfl, by simpa using hf 2 f2 rfl, by simpa using hf 3 f3 rfl, by simpa using hf 4 f4 rfl, by simpa using hf 5 f5 rfl⟩
theorem slice_form {t e : TypeId} {n : Nat} {v : Value} {x : DataW H × List MemPlace} (ht : Try.prog.underlying t = some (.slice e)) (h : DataW.trod enc Try.prog W 0 (fun _ => true) true n t [v] = some x) : ∃ ad len cap, v = .slice ad len cap ∧ len ≤ cap ∧ (ad = none → len = 0 ∧ cap = 0) := by
  rcases Go.Deep.open_slice ht h with ⟨hcs, -⟩ | ⟨a, len, cap, m, n', D, Pl, hcs, _, hl, hm, hmm, hx, hV⟩
  · simp only [List.cons.injEq, and_true] at hcs
    exact ⟨none, 0, 0, hcs, Nat.le_refl _, fun _ => ⟨rfl, rfl⟩⟩
  · simp only [List.cons.injEq, and_true] at hcs
    exact ⟨some a, len, _, hcs, hl, fun e => (by cases e)⟩
/-- The bytes of a slice that was read; of its size nothing is asked. -/
theorem open_text {a : Option Addr} {len cap fuel : Nat} {x : DataW H × List MemPlace} (hf : DataW.trod enc Try.prog W 0 (fun _ => true) true fuel 32 [.slice a len cap] = some x) : ∃ l, Part.ok W ⟨a, len, cap, l⟩ := by
  rcases open_ints Try.underlying32 Try.underlying5 (by kernel_rfl) hf with ⟨hcs, hx⟩ | ⟨x, l, c, zs, hcs, _, hl, hm, hz, hx, hcell, hwz⟩
  · simp at hcs
    obtain ⟨rfl, rfl, rfl⟩ := hcs
    exact ⟨[], ⟨rfl, fun _ => ⟨rfl, rfl⟩, fun _ h => (by cases h), Or.inl rfl⟩⟩
  · simp at hcs
    obtain ⟨rfl, rfl, rfl⟩ := hcs
    simp only [if_true] at hz
    have hw : ∀ n ∈ zs, 0 ≤ n ∧ n < 256 := fun n hn => u8_wf (hwz n hn)
    refine ⟨(zs.take len).map Int.toNat, ⟨by simp; omega, fun e => (by cases e), ?_, ?_⟩⟩
    · intro y hy
      obtain ⟨z, hz, rfl⟩ := List.mem_map.1 hy
      have := hw z (List.mem_of_mem_take hz)
      omega
    · by_cases h0 : len = 0
      · subst h0; exact Or.inl (by simp)
      · right
        obtain ⟨b, off, spot⟩ := x
        have hc0 := hcell 0 (by omega)
        have hspot : spot = none := by simpa [Addr.add] using World.cell?_spot hc0
        subst hspot
        have hb : b < W.heap.size := by
          rcases Nat.lt_or_ge b W.heap.size with h | h
          · exact h
          · simp [Addr.add, World.cell?, Array.getElem?_eq_none h] at hc0
        refine ⟨b, off, rfl, hb, ?_⟩
        intro i hi
        simp only [List.length_map, List.length_take] at hi
        have e := hcell i (by omega)
        rw [addr_add] at e
        rw [e]
        have hiz : i < zs.length := by omega
        have := hw _ (List.getElem_mem hiz)
        simp only [List.getD_eq_getElem?_getD, List.getElem?_map, List.getElem?_take, List.getElem?_eq_getElem hiz, if_pos (show i < len by omega), Option.map_some, Option.getD_some]
        congr 2
        omega
theorem open_op {n : Nat} {cs : List Value} {x : DataW H × List MemPlace} (h : DataW.trod enc Try.prog W 0 (fun _ => true) true n 35 cs = some x) : ∃ o : OpD, cs = opV o ∧ o.ok W := by
  obtain ⟨y0, y1, y2, y3, y4, y5, m, hl, f0, f1, f2, f3, f4, f5⟩ := trod6 Try.underlying35 h
  rw [Try.cellsO] at hl
  obtain ⟨c0, c1, c2, c3, c4, c5, rfl⟩ := list6 hl
  obtain ⟨k1, k2, k3, k4⟩ := Try.cells1
  simp only [k1, k2, k3, k4, List.drop_zero, List.drop_succ_cons, List.take_succ_cons, List.take_zero] at f0 f1 f2 f3 f4 f5
  obtain ⟨z0, e0, -, w0⟩ := DataW.trod_int Try.underlying3 f0
  obtain ⟨z1, e1, -, w1⟩ := DataW.trod_int Try.underlying3 f1
  obtain ⟨z2, e2, -, w2⟩ := DataW.trod_int Try.underlying3 f2
  obtain ⟨a3, l3, q3, rfl, h3, -⟩ := slice_form Try.underlying32 f3
  obtain ⟨z4, e4, -, w4⟩ := DataW.trod_int Try.underlying5 f4
  obtain ⟨a5, l5, q5, rfl, h5, n5⟩ := slice_form Try.underlying33 f5
  obtain ⟨t3, p3⟩ := open_text f3
  obtain ⟨t5, p5⟩ := open_nums' f5
  simp only [List.cons.injEq, and_true] at e0 e1 e2 e4
  have v1 := i64_wf w1
  have v2 := i64_wf w2
  have v4 := u8_wf w4
  obtain ⟨k, rfl⟩ := Int.eq_ofNat_of_zero_le v4.1
  refine ⟨⟨z0, z1, z2, a3, l3, q3, k, a5, l5, q5, t3, t5⟩, by rw [e0, e1, e2, e4]; rfl, v1.1, v1.2, v2.1, v2.2, by show k < 256; omega, p3, h3, p5, n5⟩
theorem open_ops {ad : Option Addr} {len cap : Nat} {d : DataW H} {p : List MemPlace} (h : DataW.Trod enc Try.prog W 0 (fun _ => true) true 22 (.slice ad len cap) d p) : ∃ os, OArg W os ad len := by
  obtain ⟨fuel, hf⟩ := h
  rcases Go.Deep.open_slice Try.underlying22 hf with ⟨hcs, -⟩ | ⟨a, len, cap, m, n', D, Pl, hcs, _, hl, hm, hmm, hx, hV⟩
  · simp [Value.cells] at hcs
    obtain ⟨rfl, rfl, rfl⟩ := hcs
    exact ⟨[], rfl, Or.inl rfl, fun _ h => (by cases h), by omega⟩
  · simp [Value.cells] at hcs
    obtain ⟨rfl, rfl, rfl⟩ := hcs
    simp only [if_true] at hmm
    rw [Try.cellsO] at hV
    have each : ∀ i, i < len → ∃ o : OpD, (∀ j, j < 6 → W.cell? (a.add (i * 6 + j)) = (opV o)[j]?) ∧ o.ok W := by
      intro i hi
      obtain ⟨cs', h1, h2⟩ := hV i (by omega)
      obtain ⟨o, rfl, hok⟩ := open_op h2
      obtain ⟨_, _, hcell⟩ := World.cells?_some h1
      refine ⟨o, fun j hj => ?_, hok⟩
      have e := hcell j hj
      rw [Go.Deep.add_add] at e
      exact e
    obtain ⟨f, hf2⟩ := @Go.Deep.choose_lt OpD ⟨op0⟩ _ _ each
    have hlen : ((List.range len).map f).length = len := by simp
    have hget : ∀ i, i < len → ((List.range len).map f).getD i op0 = f i := fun i hi => by
      rw [List.getD_eq_getElem?_getD, List.getElem?_map, List.getElem?_range hi]; rfl
    refine ⟨(List.range len).map f, hlen, ?_, ?_, by unfold maxLen at hm; omega⟩
    · by_cases h0 : len = 0
      · exact Or.inl h0
      · right
        obtain ⟨b, off, spot⟩ := a
        have hc0 := (hf2 0 (by omega)).1 0 (by omega)
        have hc1 : W.cell? ((⟨b, off, spot⟩ : Addr).add (0 * 6 + 0)) = some (.int .i64 (f 0).kind) := hc0
        have hspot : spot = none := by simpa [Addr.add] using World.cell?_spot hc1
        subst hspot
        have hb : b < W.heap.size := by
          rcases Nat.lt_or_ge b W.heap.size with h | h
          · exact h
          · simp [Addr.add, World.cell?, Array.getElem?_eq_none h] at hc1
        refine ⟨b, off, rfl, hb, ?_⟩
        intro i hi j hj
        have e := (hf2 i hi).1 j hj
        rw [addr_add] at e
        rw [hget i hi, Nat.add_assoc]
        exact e
    · intro o ho
      obtain ⟨i, hi, rfl⟩ := List.mem_map.1 ho
      exact (hf2 i (List.mem_range.1 hi)).2
/-- Op i as it lies in memory. -/
theorem OArg.cells {os : List OpD} {ad : Option Addr} {len : Nat} {W W' : World} (h : OArg W os ad len) (hb : Below W.heap.size W W') {i : Nat} (hi : i < len) : ∃ b off, ad = some ⟨b, off, none⟩ ∧ (os.getD i op0).ok W ∧ ∀ j, j < 6 → W'.cell? ⟨b, off + i * 6 + j, none⟩ = (opV (os.getD i op0))[j]? := by
  obtain ⟨b, off, e, hs, hc⟩ := h.row.resolve_left (by omega)
  refine ⟨b, off, e, ?_, fun j hj => ?_⟩
  · have hl : i < os.length := by rw [h.len_eq]; exact hi
    rw [List.getD_eq_getElem?_getD, List.getElem?_eq_getElem hl]
    exact h.each _ (List.getElem_mem hl)
  · rw [hb.cell (p := ⟨b, off + i * 6 + j, none⟩) hs]
    exact hc i hi j hj
end Go.Proofs.Ytdcgokkbmplihaa
