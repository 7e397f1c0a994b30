/- How a slice of Ops of layer 6 that came in is read, and what the bound of an '..UptoSaid' gives of it. -/
import Derived.Test.YtgbjlkaaniaaaaaDoorOpen
import Derived.Test.YtgbjlkaaniaaaaaDoorBulk
import Derived.Test.YtgbjlkaaniaaaaaDoorNNet
import Derived.Deep.Slices
import Derived.OpenShut
namespace Go.Proofs.YtgbjlkaaniaaaaaDoor
open Go.RowKit
open Go.ChangeShapes Go.WideShapes Go.ChangeAt
section
variable {w w' : World} {F : List Nat}
structure IArg (w : World) (cs : List Int) (ad : Option Addr) (len : Nat) : Prop where
  len_eq : cs.length = len
  row : len = 0 ∨ ∃ b off, ad = some ⟨b, off, none⟩ ∧ b < w.heap.size ∧ ∀ i, i < len → w.cell? ⟨b, off + i, none⟩ = some (.int .i64 (cs.getD i 0))
  rng : ∀ c ∈ cs, -9223372036854775808 ≤ c ∧ c ≤ 9223372036854775807
theorem IArg.chg {cs : List Int} {ad : Option Addr} {len : Nat} (h : IArg w cs ad len) (hb : Chg F w w') (hn : ∀ b off, ad = some ⟨b, off, none⟩ → len ≠ 0 → b ∉ F) : IArg w' cs ad len := by
  refine ⟨h.1, ?_, h.3⟩
  rcases h.2 with h0 | ⟨b, off, e, hs, hc⟩
  · exact Or.inl h0
  · by_cases h0 : len = 0
    · exact Or.inl h0
    · exact Or.inr ⟨b, off, e, Nat.lt_of_lt_of_le hs hb.size, fun i hi => by rw [hb.cell hs (hn b off e h0)]; exact hc i hi⟩
theorem IArg.later {cs : List Int} {ad : Option Addr} {len : Nat} (h : IArg w cs ad len) (hb : Below w.heap.size w w') : IArg w' cs ad len := h.chg (F := []) (Chg.of hb) (fun _ _ _ _ => by simp)
end
variable {H : Type} {enc : TypeId × Value → H} {W : World}

theorem open_nums' {ad : Option Addr} {len cap fuel : Nat} {x : DataW H × List MemPlace} (hf : DataW.trod enc Tryd.prog W 0 (fun _ => true) true fuel 26 [.slice ad len cap] = some x) : ∃ cs, IArg W cs ad len := by
  rcases open_ints Tryd.underlying26 Tryd.underlying3 (by kernel_rfl) hf with ⟨hcs, hx⟩ | ⟨x, l, c, zs, hcs, _, hl, hm, hz, hx, hcell, hwz⟩
  · simp at hcs
    obtain ⟨rfl, rfl, rfl⟩ := hcs
    exact ⟨[], rfl, Or.inl rfl, fun _ h => (by cases h)⟩
  · simp at hcs
    obtain ⟨rfl, rfl, rfl⟩ := hcs
    simp only [if_true] at hz
    refine ⟨zs.take len, by simp; omega, ?_, fun z hz2 => i64_wf (hwz z (List.mem_of_mem_take hz2))⟩
    by_cases h0 : len = 0
    · exact Or.inl h0
    · right
      obtain ⟨b, off, spot⟩ := x
      have hc0 := hcell 0 (by omega)
      have hspot : spot = none := by simpa [Addr.add] using World.cell?_spot hc0
      subst hspot
      have hb : b < W.heap.size := by
        rcases Nat.lt_or_ge b W.heap.size with h | h
        · exact h
        · simp [Addr.add, World.cell?, Array.getElem?_eq_none h] at hc0
      refine ⟨b, off, rfl, hb, ?_⟩
      intro i hi
      have e := hcell i (by omega)
      rw [addr_add] at e
      rw [e]
      have hiz : i < zs.length := by omega
      simp only [List.getD_eq_getElem?_getD, List.getElem?_take, List.getElem?_eq_getElem hiz, if_pos hi, Option.getD_some]
theorem open_nums {ad : Option Addr} {len cap : Nat} {d : DataW H} {p : List MemPlace} (h : DataW.Trod enc Tryd.prog W 0 (fun _ => true) true 26 (.slice ad len cap) d p) : ∃ cs, IArg W cs ad len := by
  obtain ⟨fuel, hf⟩ := h
  exact open_nums' hf
theorem slice_form {t e : TypeId} {n : Nat} {v : Value} {x : DataW H × List MemPlace} (ht : Tryd.prog.underlying t = some (.slice e)) (h : DataW.trod enc Tryd.prog W 0 (fun _ => true) true n t [v] = some x) : ∃ ad len cap, v = .slice ad len cap ∧ len ≤ cap ∧ (ad = none → len = 0 ∧ cap = 0) := by
  rcases Go.Deep.open_slice ht h with ⟨hcs, -⟩ | ⟨a, len, cap, m, n', D, Pl, hcs, _, hl, hm, hmm, hx, hV⟩
  · simp only [List.cons.injEq, and_true] at hcs
    exact ⟨none, 0, 0, hcs, Nat.le_refl _, fun _ => ⟨rfl, rfl⟩⟩
  · simp only [List.cons.injEq, and_true] at hcs
    exact ⟨some a, len, _, hcs, hl, fun e => (by cases e)⟩
/-- The bytes of a slice that was read; of its size nothing is asked. -/
theorem open_text {a : Option Addr} {len cap fuel : Nat} {x : DataW H × List MemPlace} (hf : DataW.trod enc Tryd.prog W 0 (fun _ => true) true fuel 32 [.slice a len cap] = some x) : ∃ l, Part.ok W ⟨a, len, cap, l⟩ := by
  rcases open_ints Tryd.underlying32 Tryd.underlying5 (by kernel_rfl) hf with ⟨hcs, hx⟩ | ⟨x, l, c, zs, hcs, _, hl, hm, hz, hx, hcell, hwz⟩
  · simp at hcs
    obtain ⟨rfl, rfl, rfl⟩ := hcs
    exact ⟨[], ⟨rfl, fun _ => ⟨rfl, rfl⟩, fun _ h => (by cases h), Or.inl rfl⟩⟩
  · simp at hcs
    obtain ⟨rfl, rfl, rfl⟩ := hcs
    simp only [if_true] at hz
    have hw : ∀ n ∈ zs, 0 ≤ n ∧ n < 256 := fun n hn => u8_wf (hwz n hn)
    refine ⟨(zs.take len).map Int.toNat, ⟨by simp; omega, fun e => (by cases e), ?_, ?_⟩⟩
    · intro y hy
      obtain ⟨z, hz, rfl⟩ := List.mem_map.1 hy
      have := hw z (List.mem_of_mem_take hz)
      omega
    · by_cases h0 : len = 0
      · subst h0; exact Or.inl (by simp)
      · right
        obtain ⟨b, off, spot⟩ := x
        have hc0 := hcell 0 (by omega)
        have hspot : spot = none := by simpa [Addr.add] using World.cell?_spot hc0
        subst hspot
        have hb : b < W.heap.size := by
          rcases Nat.lt_or_ge b W.heap.size with h | h
          · exact h
          · simp [Addr.add, World.cell?, Array.getElem?_eq_none h] at hc0
        refine ⟨b, off, rfl, hb, ?_⟩
        intro i hi
        simp only [List.length_map, List.length_take] at hi
        have e := hcell i (by omega)
        rw [addr_add] at e
        rw [e]
        have hiz : i < zs.length := by omega
        have := hw _ (List.getElem_mem hiz)
        simp only [List.getD_eq_getElem?_getD, List.getElem?_map, List.getElem?_take, List.getElem?_eq_getElem hiz, if_pos (show i < len by omega), Option.map_some, Option.getD_some]
        congr 2
        omega
theorem bulk_one {H : Type} (d : DataW H) : 1 ≤ Rows.uptoBulk d := by
  cases d with
  | lit l => cases l <;> simp [Rows.uptoBulk]
  | _ => simp [Rows.uptoBulk]
theorem bulk_all {H : Type} (ds : List (DataW H)) : ds.length ≤ Rows.uptoBulkAll ds := by
  induction ds with
  | nil => simp
  | cons d r ih => rw [Rows.uptoBulkAll, List.length_cons]; have := bulk_one d; omega
theorem bulk_mem {d : DataW H} {ds : List (DataW H)} (h : d ∈ ds) : Rows.uptoBulk d ≤ Rows.uptoBulkAll ds := by
  induction ds with
  | nil => cases h
  | cons x r ih =>
    rw [Rows.uptoBulkAll]
    rcases List.mem_cons.1 h with rfl | h
    · omega
    · have := ih h; omega
theorem bulk_nums {H : Type} {enc : TypeId × Value → H} {W : World} {a : Option Addr} {len cap : Nat} {d : DataW H} {p : List MemPlace}
    (h : DataW.Trod enc Tryd.prog W 0 (fun _ => true) true 26 (.slice a len cap) d p) : len ≤ Rows.uptoBulk d := by
  obtain ⟨fuel, hf⟩ := h
  rcases open_ints Tryd.underlying26 Tryd.underlying3 (by kernel_rfl) hf with ⟨hcs, hx⟩ | ⟨x, l, c, zs, hcs, _, hl, hm, hz, hx, hcell, hwz⟩
  · simp [Value.cells] at hcs
    omega
  · simp [Value.cells] at hcs
    obtain ⟨rfl, rfl, rfl⟩ := hcs
    simp only [if_true] at hz
    simp only [Prod.mk.injEq] at hx
    rw [hx.1, Rows.uptoBulk]
    have h := bulk_lits (H := H) .i64 (zs.take len)
    rw [List.length_take] at h
    omega
/-- An Op. -/
structure OpD where
  kind : Int
  n : Int
  b : Option Addr
  blen : Nat
  bcap : Nat
  l : Option Addr
  llen : Nat
  lcap : Nat
  bs : List Nat
  cs : List Int
def opV (o : OpD) : List Value := [.int .i64 o.kind, .int .i64 o.n, .slice o.b o.blen o.bcap, .slice o.l o.llen o.lcap]
structure OpD.ok (W : World) (o : OpD) : Prop where
  n : fits o.n
  text : Part.ok W ⟨o.b, o.blen, o.bcap, o.bs⟩
  text2 : o.blen ≤ o.bcap
  nums : IArg W o.cs o.l o.llen
  lnone : o.l = none → o.llen = 0 ∧ o.lcap = 0
  bl : o.blen ≤ 1048576
  ll : o.llen ≤ 1048576
def op0 : OpD := ⟨0, 0, none, 0, 0, none, 0, 0, [], []⟩
/-- A slice of Ops that came in. -/
structure OArg (W : World) (os : List OpD) (ad : Option Addr) (len : Nat) : Prop where
  len_eq : os.length = len
  row : len = 0 ∨ ∃ b off, ad = some ⟨b, off, none⟩ ∧ b < W.heap.size ∧ ∀ i, i < len → ∀ j, j < 4 → W.cell? ⟨b, off + i * 4 + j, none⟩ = (opV (os.getD i op0))[j]?
  each : ∀ o ∈ os, o.ok W
  max : len ≤ 1048576
theorem Tryd.cellsO : Tryd.prog.cellsOf 34 = 4 := by kernel_rfl
theorem Tryd.cells1 : Tryd.prog.cellsOf 3 = 1 ∧ Tryd.prog.cellsOf 32 = 1 ∧ Tryd.prog.cellsOf 26 = 1 := ⟨by kernel_rfl, by kernel_rfl, by kernel_rfl⟩
theorem list4 {α : Type} {cs : List α} (h : cs.length = 4) : ∃ c0 c1 c2 c3, cs = [c0, c1, c2, c3] := by
  match cs, h with
  | [c0, c1, c2, c3], _ => exact ⟨c0, c1, c2, c3, rfl⟩
theorem trod4b {P : Program} {t : TypeId} {f0 f1 f2 f3 : Field} {fuel : Nat} {cs : List Value} {x : DataW H × List MemPlace} (ht : P.underlying t = some (.struct #[f0, f1, f2, f3])) (h : DataW.trod enc P W 0 (fun _ => true) true fuel t cs = some x) :
    ∃ y0 y1 y2 y3 n, cs.length = P.cellsOf t ∧ Rows.uptoBulk y2.1 ≤ Rows.uptoBulk x.1 ∧ Rows.uptoBulk y3.1 ≤ Rows.uptoBulk x.1 ∧
      DataW.trod enc P W 0 (fun _ => true) true n f0.type ((cs.drop f0.offset).take (P.cellsOf f0.type)) = some y0 ∧ DataW.trod enc P W 0 (fun _ => true) true n f1.type ((cs.drop f1.offset).take (P.cellsOf f1.type)) = some y1 ∧
      DataW.trod enc P W 0 (fun _ => true) true n f2.type ((cs.drop f2.offset).take (P.cellsOf f2.type)) = some y2 ∧ DataW.trod enc P W 0 (fun _ => true) true n f3.type ((cs.drop f3.offset).take (P.cellsOf f3.type)) = some y3 := by
  obtain ⟨xs, n, _, rfl, hl, hlen, hf⟩ := DataW.trod_struct ht h
  obtain ⟨y0, y1, y2, y3, rfl⟩ := list4 (hlen.trans rfl)
  refine ⟨y0, y1, y2, y3, n, hl, ?_, ?_, by simpa using hf 0 f0 rfl, by simpa using hf 1 f1 rfl, by simpa using hf 2 f2 rfl, by simpa using hf 3 f3 rfl⟩
  all_goals
    simp only [List.map_cons, List.map_nil, Rows.uptoBulk, Rows.uptoBulkAll]
    omega
theorem open_op {n : Nat} {cs : List Value} {x : DataW H × List MemPlace} (h : DataW.trod enc Tryd.prog W 0 (fun _ => true) true n 34 cs = some x) (hx : Rows.uptoBulk x.1 ≤ 1048576) : ∃ o : OpD, cs = opV o ∧ o.ok W := by
  obtain ⟨y0, y1, y2, y3, m, hl, u2, u3, f0, f1, f2, f3⟩ := trod4b Tryd.underlying34 h
  rw [Tryd.cellsO] at hl
  obtain ⟨c0, c1, c2, c3, rfl⟩ := list4 hl
  obtain ⟨k1, k2, k3⟩ := Tryd.cells1
  simp only [k1, k2, k3, List.drop_zero, List.drop_succ_cons, List.take_succ_cons, List.take_zero] at f0 f1 f2 f3
  obtain ⟨z0, e0, -, w0⟩ := DataW.trod_int Tryd.underlying3 f0
  obtain ⟨z1, e1, -, w1⟩ := DataW.trod_int Tryd.underlying3 f1
  obtain ⟨a3, l3, q3, rfl, h3, -⟩ := slice_form Tryd.underlying32 f2
  obtain ⟨a5, l5, q5, rfl, h5, n5⟩ := slice_form Tryd.underlying26 f3
  obtain ⟨t3, p3⟩ := open_text f2
  obtain ⟨t5, p5⟩ := open_nums' f3
  simp only [List.cons.injEq, and_true] at e0 e1
  have v1 := i64_wf w1
  have b3 : l3 ≤ Rows.uptoBulk y2.1 := bulk_slice (p := y2.2) ⟨m, f2⟩
  have b5 : l5 ≤ Rows.uptoBulk y3.1 := bulk_nums (p := y3.2) ⟨m, f3⟩
  refine ⟨⟨z0, z1, a3, l3, q3, a5, l5, q5, t3, t5⟩, by rw [e0, e1]; rfl, ⟨v1.1, v1.2⟩, p3, h3, p5, n5, ?_, ?_⟩
  · show l3 ≤ 1048576; omega
  · show l5 ≤ 1048576; omega
theorem bulk_ops {a : Option Addr} {len cap : Nat} {d : DataW H} {p : List MemPlace}
    (h : DataW.Trod enc Tryd.prog W 0 (fun _ => true) true 22 (.slice a len cap) d p) : len ≤ Rows.uptoBulk d := by
  obtain ⟨fuel, hf⟩ := h
  rcases Go.Deep.open_slice Tryd.underlying22 hf with ⟨hcs, -⟩ | ⟨a, len, cap, m, n', D, Pl, hcs, _, hl, hm, hmm, hx, hV⟩
  · simp [Value.cells] at hcs
    omega
  · simp [Value.cells] at hcs
    obtain ⟨rfl, rfl, rfl⟩ := hcs
    simp only [Prod.mk.injEq] at hx
    rw [hx.1, Rows.uptoBulk]
    have h := bulk_all ((List.range len).map D)
    rw [List.length_map, List.length_range] at h
    omega
theorem open_ops6 {ad : Option Addr} {len cap : Nat} {d : DataW H} {p : List MemPlace} (h : DataW.Trod enc Tryd.prog W 0 (fun _ => true) true 22 (.slice ad len cap) d p) (hd : Rows.uptoBulk d ≤ 1048576) : ∃ os, OArg W os ad len := by
  have hbl := bulk_ops h
  obtain ⟨fuel, hf⟩ := h
  rcases Go.Deep.open_slice Tryd.underlying22 hf with ⟨hcs, -⟩ | ⟨a, len, cap, m, n', D, Pl, hcs, _, hl, hm, hmm, hx, hV⟩
  · simp [Value.cells] at hcs
    obtain ⟨rfl, rfl, rfl⟩ := hcs
    exact ⟨[], rfl, Or.inl rfl, fun _ h => (by cases h), by omega⟩
  · simp [Value.cells] at hcs
    obtain ⟨rfl, rfl, rfl⟩ := hcs
    simp only [if_true] at hmm
    rw [Tryd.cellsO] at hV
    have hD : ∀ i, i < len → Rows.uptoBulk (D i) ≤ Rows.uptoBulk d := fun i hi => by
      simp only [Prod.mk.injEq] at hx
      have h := bulk_mem (d := D i) (ds := (List.range len).map D) (List.mem_map.2 ⟨i, List.mem_range.2 hi, rfl⟩)
      rw [hx.1, Rows.uptoBulk]
      omega
    have each : ∀ i, i < len → ∃ o : OpD, (∀ j, j < 4 → W.cell? (a.add (i * 4 + j)) = (opV o)[j]?) ∧ o.ok W := by
      intro i hi
      obtain ⟨cs', h1, h2⟩ := hV i (by omega)
      obtain ⟨o, rfl, hok⟩ := open_op h2 (Nat.le_trans (hD i hi) hd)
      obtain ⟨_, _, hcell⟩ := World.cells?_some h1
      refine ⟨o, fun j hj => ?_, hok⟩
      have e := hcell j hj
      rw [Go.Deep.add_add] at e
      exact e
    obtain ⟨f, hf2⟩ := @Go.Deep.choose_lt OpD ⟨op0⟩ _ _ each
    have hlen : ((List.range len).map f).length = len := by simp
    have hget : ∀ i, i < len → ((List.range len).map f).getD i op0 = f i := fun i hi => by
      rw [List.getD_eq_getElem?_getD, List.getElem?_map, List.getElem?_range hi]; rfl
    refine ⟨(List.range len).map f, hlen, ?_, ?_, by omega⟩
    · by_cases h0 : len = 0
      · exact Or.inl h0
      · right
        obtain ⟨b, off, spot⟩ := a
        have hc0 := (hf2 0 (by omega)).1 0 (by omega)
        have hc1 : W.cell? ((⟨b, off, spot⟩ : Addr).add (0 * 4 + 0)) = some (.int .i64 (f 0).kind) := hc0
        have hspot : spot = none := by simpa [Addr.add] using World.cell?_spot hc1
        subst hspot
        have hb : b < W.heap.size := by
          rcases Nat.lt_or_ge b W.heap.size with h | h
          · exact h
          · simp [Addr.add, World.cell?, Array.getElem?_eq_none h] at hc1
        refine ⟨b, off, rfl, hb, ?_⟩
        intro i hi j hj
        have e := (hf2 i hi).1 j hj
        rw [addr_add] at e
        rw [hget i hi, Nat.add_assoc]
        exact e
    · intro o ho
      obtain ⟨i, hi, rfl⟩ := List.mem_map.1 ho
      exact (hf2 i (List.mem_range.1 hi)).2
/-- Op i as it lies in memory. -/
theorem OArg.cells {os : List OpD} {ad : Option Addr} {len : Nat} {W W' : World} (h : OArg W os ad len) (hb : Below W.heap.size W W') {i : Nat} (hi : i < len) : ∃ b off, ad = some ⟨b, off, none⟩ ∧ b < W.heap.size ∧ (os.getD i op0).ok W ∧ ∀ j, j < 4 → W'.cell? ⟨b, off + i * 4 + j, none⟩ = (opV (os.getD i op0))[j]? := by
  obtain ⟨b, off, e, hs, hc⟩ := h.row.resolve_left (by omega)
  refine ⟨b, off, e, hs, ?_, fun j hj => ?_⟩
  · have hl : i < os.length := by rw [h.len_eq]; exact hi
    rw [List.getD_eq_getElem?_getD, List.getElem?_eq_getElem hl]
    exact h.each _ (List.getElem_mem hl)
  · rw [hb.cell (p := ⟨b, off + i * 4 + j, none⟩) hs]
    exact hc i hi j hj
/-- Numbers that came in, as what is laid behind the luck. -/
theorem IArg.src {w : World} {cs : List Int} {ad : Option Addr} {len cap : Nat} (h : IArg w cs ad len) (hn : ad = none → len = 0 ∧ cap = 0) : Src w ad len (cs.map intV) := by
  cases ad with
  | none => exact Or.inl ⟨rfl, (hn rfl).1⟩
  | some a =>
    refine Or.inr ⟨a, rfl, fun j u hu => ?_⟩
    have hj : j < cs.length := by have := (List.getElem?_eq_some_iff.1 hu).1; simpa using this
    rw [List.getElem?_map, List.getElem?_eq_getElem hj] at hu
    obtain ⟨b, off, e, hs, hc⟩ := h.row.resolve_left (by have := h.1; omega)
    cases e
    rw [addr_add, hc j (by have := h.1; omega), List.getD_eq_getElem?_getD, List.getElem?_eq_getElem hj, ← hu]
    rfl
theorem bulk_of6 {ds : List (DataW H)} (h : Rows.uptoSmall H ds = true) : Rows.uptoBulkAll ds ≤ 1048576 := of_decide_eq_true h
end Go.Proofs.YtgbjlkaaniaaaaaDoor
