/- How a slice of requests (of the document's package) that came in is read. -/
import Derived.Test.YtjldflfoncfndaaGreatOpenQst
import Derived.Deep.Strs
namespace Go.Proofs.YtjldflfoncfndaaGreat
open Go.RowKit
open Go.ChangeShapes Go.WideShapes Go.ChangeAt

theorem weights_allQ {H : Type} (e : TypeId) (l : List (DataW H)) (d : DataW H) (hd : d ∈ l) (n : Nat) (hn : n ∈ d.weights Tryz.prog e) : n ∈ DataW.weightsAll Tryz.prog e l := by
  induction l with
  | nil => cases hd
  | cons x l ih =>
    rw [DataW.weightsAll, List.mem_append]
    rcases List.mem_cons.1 hd with rfl | h
    · exact Or.inl hn
    · exact Or.inr (ih h)
/-- One request. -/
structure Rq where
  k : Int
  g : Int
  p : Int
  P : Part
def Rq.at (r : Rq) (W : World) (b off : Nat) : Prop := W.cell? ⟨b, off, none⟩ = some (.int .i64 r.k) ∧ W.cell? ⟨b, off + 1, none⟩ = some (.int .i64 r.g) ∧ W.cell? ⟨b, off + 2, none⟩ = some (.int .i64 r.p) ∧ W.cell? ⟨b, off + 3, none⟩ = some (.slice r.P.ad r.P.len r.P.cap)
def Rq.ok (r : Rq) (W : World) : Prop := r.P.ok W ∧ r.P.len ≤ r.P.cap ∧ r.P.cap ≤ 140737488351232
variable {H : Type} {enc : TypeId × Value → H} {W : World}
set_option maxRecDepth 100000 in
theorem open_reqs {a : Option Addr} {len cap : Nat} {d : DataW H} {p : List MemPlace} (h : DataW.Trod enc Tryz.prog W 0 (fun _ => true) true 74 (.slice a len cap) d p)
    (hd : ∀ n ∈ d.weights Tryz.prog 74, n ≤ 140737488351232) :
    ∃ rq : Nat → Rq, len ≤ cap ∧ cap ≤ maxLen ∧ (len = 0 ∨ ∃ b off, a = some ⟨b, off, none⟩ ∧ b < W.heap.size ∧ ∀ i, i < len → (rq i).at W b (off + i * 4) ∧ (rq i).ok W) := by
  obtain ⟨fuel, hf⟩ := h
  rcases Go.Deep.open_slice Tryz.underlying74 hf with ⟨hcs, -⟩ | ⟨x, l, c, m, n, D, Pl, hcs, _, hl, hm, hmm, hx, hV⟩
  · simp [Value.cells] at hcs
    obtain ⟨rfl, rfl, rfl⟩ := hcs
    exact ⟨fun _ => ⟨0, 0, 0, ⟨none, 0, 0, []⟩⟩, by omega, by unfold maxLen; omega, Or.inl rfl⟩
  · simp [Value.cells] at hcs
    obtain ⟨rfl, rfl, rfl⟩ := hcs
    simp only [if_true] at hmm
    subst hmm
    rw [Tryz.cellsRq] at hV
    have hx1 := congrArg Prod.fst hx
    simp only at hx1
    have hw : ∀ i, i < len → ∀ k ∈ (D i).weights Tryz.prog 24, k ≤ 140737488351232 := by
      intro i hi k hk
      apply hd
      rw [hx1, DataW.weights, Tryz.underlying74]
      simp only [List.mem_cons, List.mem_append]
      exact Or.inr (Or.inl (weights_allQ _ _ (D i) (List.mem_map.2 ⟨i, List.mem_range.2 hi, rfl⟩) k hk))
    have each : ∀ i, i < len → ∃ r : Rq, (W.cell? (x.add (i * 4)) = some (.int .i64 r.k) ∧ W.cell? (x.add (i * 4 + 1)) = some (.int .i64 r.g) ∧ W.cell? (x.add (i * 4 + 2)) = some (.int .i64 r.p) ∧ W.cell? (x.add (i * 4 + 3)) = some (.slice r.P.ad r.P.len r.P.cap)) ∧ r.ok W := by
      intro i hi
      obtain ⟨cs', h1, h2⟩ := hV i (by omega)
      obtain ⟨y0, y1, y2, y3, m', hx2, f0, f1, f2, f3⟩ := trod4 Tryz.underlying24 h2
      obtain ⟨_, hlen, hcell⟩ := World.cells?_some h1
      have e0 := hcell 0 (by omega)
      have e1 := hcell 1 (by omega)
      have e2 := hcell 2 (by omega)
      have e3 := hcell 3 (by omega)
      rw [Go.Deep.add_add] at e0 e1 e2 e3
      obtain ⟨c0, c1, c2, c3, rfl⟩ := list4 (cs := cs') (by simpa using hlen)
      simp only [Tryz.cells4I, Tryz.cells4L, List.drop_zero, List.drop_succ_cons, List.take_succ_cons, List.take_zero] at f0 f1 f2 f3
      obtain ⟨k, r0, -⟩ := DataW.trod_int Tryz.underlying3 f0
      obtain ⟨g, r1, -⟩ := DataW.trod_int Tryz.underlying3 f1
      obtain ⟨q, r2, -⟩ := DataW.trod_int Tryz.underlying3 f2
      simp only [List.cons.injEq, and_true] at r0 r1 r2
      subst r0 r1 r2
      obtain ⟨ad', len', cap', l', rfl, q1, q2, q3⟩ := open_data f3 (fun mm hmm => hw i hi mm (by
        have e : D i = .agg [y0.1, y1.1, y2.1, y3.1] := hx2
        rw [e, DataW.weights, Tryz.underlying24]
        exact weights_four _ _ _ _ _ _ _ _ mm hmm))
      exact ⟨⟨k, g, q, ⟨ad', len', cap', l'⟩⟩, ⟨by simpa using e0, by simpa using e1, by simpa using e2, by simpa using e3⟩, q1, q2, q3⟩
    obtain ⟨rq, hrq⟩ := @Go.Deep.choose_lt Rq ⟨⟨0, 0, 0, ⟨none, 0, 0, []⟩⟩⟩ _ _ each
    refine ⟨rq, hl, hm, ?_⟩
    by_cases h0 : len = 0
    · exact Or.inl h0
    · right
      obtain ⟨b, off, spot⟩ := x
      have hc0 := (hrq 0 (by omega)).1.1
      have hspot : spot = none := by simpa [Addr.add] using World.cell?_spot hc0
      subst hspot
      have hb : b < W.heap.size := by
        rcases Nat.lt_or_ge b W.heap.size with h | h
        · exact h
        · simp [Addr.add, World.cell?, Array.getElem?_eq_none h] at hc0
      refine ⟨b, off, rfl, hb, fun i hi => ?_⟩
      obtain ⟨⟨g0, g1, g2, g3⟩, h⟩ := hrq i hi
      rw [addr_add] at g0 g1 g2 g3
      exact ⟨⟨g0, by rw [Nat.add_assoc]; exact g1, by rw [Nat.add_assoc]; exact g2, by rw [Nat.add_assoc]; exact g3⟩, h⟩
end Go.Proofs.YtjldflfoncfndaaGreat
