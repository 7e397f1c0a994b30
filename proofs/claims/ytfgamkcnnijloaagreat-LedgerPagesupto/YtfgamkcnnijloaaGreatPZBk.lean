/- What the bound of an '..UptoSaid' gives: a slice of bytes is no longer than its datum is bulky; a text neither. How a slice of entries of a partition's log that came in is read. What the bound of an '..UptoSaid' gives of a slice of entries. -/
import Derived.Test.YtfgamkcnnijloaaGreatRows
import Derived.Test.YtfgamkcnnijloaaGreatPZOpen
import Derived.Test.YtfgamkcnnijloaaGreatPZN
namespace Go.Proofs.YtfgamkcnnijloaaGreat
open Go.RowKit
open Go.ChangeShapes Go.WideShapes Go.ChangeAt

theorem bulk_of {H : Type} {ds : List (DataW H)} (h : Rows.uptoSmall H ds = true) : Rows.uptoBulkAll ds ≤ 1048576 := of_decide_eq_true h
end Go.Proofs.YtfgamkcnnijloaaGreat
namespace Go.Proofs.YtfgamkcnnijloaaGreat
open Go.RowKit
open Go.ChangeShapes Go.WideShapes Go.ChangeAt
variable {H : Type} {enc : TypeId × Value → H} {W : World}

/-- An entry that came in: its kind, its N, its batch. -/
structure EnL where
  kd : Int
  nn : Int
  k : Int
  p : Int
  e : Int
  q : Int
  tx : Bool
  rs : List Rec
  ad : Option Addr
  len : Nat
  cap : Nat
def EnL.et (o : EnL) : Et := ⟨o.kd, o.nn, ⟨o.k, o.p, o.e, o.q, o.tx, o.rs⟩⟩
def enA (o : EnL) : Array Value := #[.int .i64 o.kd, .int .i64 o.nn, .int .i64 o.k, .int .i64 o.p, .int .i64 o.e, .int .i64 o.q, .bool o.tx, .slice o.ad o.len o.cap]
def enL0 : EnL := ⟨0, 0, 0, 0, 0, 0, false, [], none, 0, 0⟩
structure EnL.ok (o : EnL) (W : World) : Prop where
  arg : BArg W ⟨o.k, o.p, o.e, o.q, o.tx, o.rs⟩ o.ad o.len o.cap
  size : o.len * 40 ≤ 140737488351232
theorem EnL.ok.later {o : EnL} {W W' : World} (h : o.ok W) (hb : Below W.heap.size W W') : o.ok W' := ⟨h.arg.later hb, h.size⟩
theorem list8L {α : Type} {cs : List α} (h : cs.length = 8) : ∃ c0 c1 c2 c3 c4 c5 c6 c7, cs = [c0, c1, c2, c3, c4, c5, c6, c7] := by
  match cs, h with
  | [c0, c1, c2, c3, c4, c5, c6, c7], _ => exact ⟨c0, c1, c2, c3, c4, c5, c6, c7, rfl⟩
theorem bytesEL : Tryz.prog.bytesOf 34 = 80 := by kernel_rfl
theorem weights_allL (e : TypeId) (l : List (DataW H)) (d : DataW H) (hd : d ∈ l) (n : Nat) (hn : n ∈ d.weights Tryz.prog e) : n ∈ DataW.weightsAll Tryz.prog e l := by
  induction l with
  | nil => cases hd
  | cons x l ih =>
    rw [DataW.weightsAll, List.mem_append]
    rcases List.mem_cons.1 hd with rfl | h
    · exact Or.inl hn
    · exact Or.inr (ih h)
set_option maxRecDepth 100000 in
theorem open_enL {n : Nat} {cs : List Value} {x : DataW H × List MemPlace} (hl : cs.length = 8) (h : DataW.trod enc Tryz.prog W 0 (fun _ => true) true n 34 cs = some x) (hw : ∀ k ∈ x.1.weights Tryz.prog 34, k ≤ 140737488351232) : ∃ o : EnL, cs = (enA o).toList ∧ o.ok W := by
  obtain ⟨y0, y1, y2, m, hx, f0, f1, f2⟩ := trod3d Tryz.underlying34 h
  obtain ⟨c0, c1, c2, c3, c4, c5, c6, c7, rfl⟩ := list8L hl
  simp only [Tryz.cellsI, Tryz.cellsB, List.drop_zero, List.drop_succ_cons, List.take_succ_cons, List.take_zero] at f0 f1 f2
  obtain ⟨kd, e0, -⟩ := DataW.trod_int Tryz.underlying3 f0
  obtain ⟨nn, e1, -⟩ := DataW.trod_int Tryz.underlying3 f1
  simp only [List.cons.injEq, and_true] at e0 e1
  subst e0 e1
  obtain ⟨k, pp, e, s, t, rs, ad, len, cap, rfl, rfl, rfl, rfl, rfl, rfl, hb, hlen⟩ := open_batC f2 (fun m hm => hw m (by
    rw [hx, DataW.weights, Tryz.underlying34]
    exact weights_three _ _ _ _ _ _ m hm))
  exact ⟨⟨kd, nn, k, pp, e, s, t, rs, ad, len, cap⟩, rfl, hb, hlen⟩
/-- A slice of entries that came in. -/
def EntsL (W : World) (f : Nat → EnL) (ad : Option Addr) (len : Nat) : Prop := len = 0 ∨ ∃ b off, ad = some ⟨b, off, none⟩ ∧ b < W.heap.size ∧ ∀ i, i < len → (∀ j, j < 8 → W.cell? ⟨b, off + i * 8 + j, none⟩ = (enA (f i))[j]?) ∧ (f i).ok W
set_option maxRecDepth 100000 in
theorem open_entries {ad : Option Addr} {len cap : Nat} {d : DataW H} {p : List MemPlace} (h : DataW.Trod enc Tryz.prog W 0 (fun _ => true) true 22 (.slice ad len cap) d p) (hd : ∀ n ∈ d.weights Tryz.prog 22, n ≤ 140737488351232) : ∃ f, EntsL W f ad len ∧ len * 80 ≤ 140737488351232 := by
  obtain ⟨fuel, hf⟩ := h
  rcases Go.Deep.open_slice Tryz.underlying22 hf with ⟨hcs, -⟩ | ⟨a, len, cap, m, n', D, Pl, hcs, _, hl, hm, hmm, hx, hV⟩
  · simp [Value.cells] at hcs
    obtain ⟨rfl, rfl, rfl⟩ := hcs
    exact ⟨fun _ => enL0, Or.inl rfl, by omega⟩
  · simp [Value.cells] at hcs
    obtain ⟨rfl, rfl, rfl⟩ := hcs
    simp only [if_true] at hmm
    subst hmm
    rw [Tryz.cellsE] at hV
    have hx1 := congrArg Prod.fst hx
    simp only at hx1
    have hw : ∀ i, i < len → ∀ k ∈ (D i).weights Tryz.prog 34, k ≤ 140737488351232 := by
      intro i hi k hk
      apply hd
      rw [hx1, DataW.weights, Tryz.underlying22]
      simp only [List.mem_cons, List.mem_append]
      exact Or.inr (Or.inl (weights_allL _ _ (D i) (List.mem_map.2 ⟨i, List.mem_range.2 hi, rfl⟩) k hk))
    have hbd : (len + (m - len)) * 80 ≤ 140737488351232 := by
      apply hd
      rw [hx1, DataW.weights, Tryz.underlying22]
      simp only [List.mem_cons, List.length_map, List.length_range]
      exact Or.inl (by rw [bytesEL])
    have each : ∀ i, i < len → ∃ o : EnL, (∀ j, j < 8 → W.cell? (a.add (i * 8 + j)) = (enA o)[j]?) ∧ o.ok W := by
      intro i hi
      obtain ⟨cs', h1, h2⟩ := hV i (by omega)
      obtain ⟨_, hlen, hcell⟩ := World.cells?_some h1
      obtain ⟨o, rfl, hok⟩ := open_enL (by simpa using hlen) h2 (hw i hi)
      refine ⟨o, fun j hj => ?_, hok⟩
      have e := hcell j (by omega)
      rw [Go.Deep.add_add] at e
      simpa using e
    obtain ⟨f, hf2⟩ := @Go.Deep.choose_lt EnL ⟨enL0⟩ _ _ each
    refine ⟨f, ?_, by omega⟩
    by_cases h0 : len = 0
    · exact Or.inl h0
    · right
      obtain ⟨b, off, spot⟩ := a
      have hc0 := (hf2 0 (by omega)).1 0 (by omega)
      have hc1 : W.cell? ((⟨b, off, spot⟩ : Addr).add (0 * 8 + 0)) = some (.int .i64 (f 0).kd) := hc0
      have hspot : spot = none := by simpa [Addr.add] using World.cell?_spot hc1
      subst hspot
      have hb : b < W.heap.size := by
        rcases Nat.lt_or_ge b W.heap.size with h | h
        · exact h
        · simp [Addr.add, World.cell?, Array.getElem?_eq_none h] at hc1
      refine ⟨b, off, rfl, hb, fun i hi => ⟨fun j hj => ?_, (hf2 i hi).2⟩⟩
      have e := (hf2 i hi).1 j hj
      rw [addr_add] at e
      rw [Nat.add_assoc]
      exact e
end Go.Proofs.YtfgamkcnnijloaaGreat
namespace Go.Proofs.YtfgamkcnnijloaaGreat
open Go.RowKit
open Go.ChangeShapes Go.WideShapes Go.ChangeAt

theorem bulk_one {H : Type} (d : DataW H) : 1 ≤ Rows.uptoBulk d := by
  cases d with
  | lit l => cases l <;> simp [Rows.uptoBulk]
  | _ => simp [Rows.uptoBulk]
theorem bulk_all {H : Type} (ds : List (DataW H)) : ds.length ≤ Rows.uptoBulkAll ds := by
  induction ds with
  | nil => simp
  | cons d r ih => rw [Rows.uptoBulkAll, List.length_cons]; have := bulk_one d; omega
theorem bulk_ents {H : Type} {enc : TypeId × Value → H} {W : World} {a : Option Addr} {len cap : Nat} {d : DataW H} {p : List MemPlace}
    (h : DataW.Trod enc Tryz.prog W 0 (fun _ => true) true 22 (.slice a len cap) d p) : len ≤ Rows.uptoBulk d := by
  obtain ⟨fuel, hf⟩ := h
  rcases Go.Deep.open_slice Tryz.underlying22 hf with ⟨hcs, -⟩ | ⟨a, len, cap, m, n', D, Pl, hcs, _, hl, hm, hmm, hx, hV⟩
  · simp [Value.cells] at hcs
    omega
  · simp [Value.cells] at hcs
    obtain ⟨rfl, rfl, rfl⟩ := hcs
    simp only [Prod.mk.injEq] at hx
    rw [hx.1, Rows.uptoBulk]
    have h := bulk_all ((List.range len).map D)
    rw [List.length_map, List.length_range] at h
    omega
end Go.Proofs.YtfgamkcnnijloaaGreat
