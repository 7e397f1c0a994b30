/- How a slice of bytes that came in is read; small rows of the call's own. How a batch that came in is read. How an entry of a partition's log that came in is read. -/
import Derived.Test.YtfgamkcnnijloaaGreatBase
import Derived.ProofKit
import Derived.SizedLaws
import Derived.Test.YtfgamkcnnijloaaGreatPZRec
import Derived.Deep.Slices
import Derived.Deep.Strs
import Derived.ShutString
import Derived.OpenShut
namespace Go.Proofs.YtfgamkcnnijloaaGreat
open Go.RowKit
open Go.ChangeShapes Go.WideShapes Go.ChangeAt

theorem i64_wf {n : Int} (h : (Lit.int .i64 n).wf = true) : -9223372036854775808 ≤ n ∧ n ≤ 9223372036854775807 := by
  simp [Lit.wf, IntKind.min, IntKind.max, IntKind.signed, IntKind.bits] at h
  omega
end Go.Proofs.YtfgamkcnnijloaaGreat
namespace Go.Proofs.YtfgamkcnnijloaaGreat
open Go.RowKit
open Go.ChangeShapes Go.WideShapes Go.ChangeAt
open Go.ChangeMaps (open_string shut_string)

theorem list6 {α : Type} {cs : List α} (h : cs.length = 6) : ∃ c0 c1 c2 c3 c4 c5, cs = [c0, c1, c2, c3, c4, c5] := by
  match cs, h with
  | [c0, c1, c2, c3, c4, c5], _ => exact ⟨c0, c1, c2, c3, c4, c5, rfl⟩
theorem list3 {α : Type} {cs : List α} (h : cs.length = 3) : ∃ c0 c1 c2, cs = [c0, c1, c2] := by
  match cs, h with
  | [c0, c1, c2], _ => exact ⟨c0, c1, c2, rfl⟩
theorem Tryz.bytesR : Tryz.prog.bytesOf 43 = 40 := by kernel_rfl
theorem Tryz.cellsR : Tryz.prog.cellsOf 43 = 3 := by kernel_rfl
theorem Tryz.cellsB : Tryz.prog.cellsOf 30 = 6 := by kernel_rfl
theorem Tryz.cellsI : Tryz.prog.cellsOf 3 = 1 := by kernel_rfl
theorem Tryz.cellsT : Tryz.prog.cellsOf 4 = 1 := by kernel_rfl
theorem Tryz.cellsS : Tryz.prog.cellsOf 9 = 1 := by kernel_rfl
theorem Tryz.cellsL : Tryz.prog.cellsOf 28 = 1 := by kernel_rfl
variable {H : Type} {enc : TypeId × Value → H} {W : World}
theorem trod6 {P : Program} {t : TypeId} {f0 f1 f2 f3 f4 f5 : Field} {fuel : Nat} {cs : List Value} {x : DataW H × List MemPlace} (ht : P.underlying t = some (.struct #[f0, f1, f2, f3, f4, f5])) (h : DataW.trod enc P W 0 (fun _ => true) true fuel t cs = some x) :
    ∃ y0 y1 y2 y3 y4 y5 n, x.1 = .agg [y0.1, y1.1, y2.1, y3.1, y4.1, y5.1] ∧ DataW.trod enc P W 0 (fun _ => true) true n f0.type ((cs.drop f0.offset).take (P.cellsOf f0.type)) = some y0 ∧
      DataW.trod enc P W 0 (fun _ => true) true n f1.type ((cs.drop f1.offset).take (P.cellsOf f1.type)) = some y1 ∧ DataW.trod enc P W 0 (fun _ => true) true n f2.type ((cs.drop f2.offset).take (P.cellsOf f2.type)) = some y2 ∧
      DataW.trod enc P W 0 (fun _ => true) true n f3.type ((cs.drop f3.offset).take (P.cellsOf f3.type)) = some y3 ∧ DataW.trod enc P W 0 (fun _ => true) true n f4.type ((cs.drop f4.offset).take (P.cellsOf f4.type)) = some y4 ∧
      DataW.trod enc P W 0 (fun _ => true) true n f5.type ((cs.drop f5.offset).take (P.cellsOf f5.type)) = some y5 := by
  obtain ⟨xs, n, _, rfl, _, hlen, hf⟩ := DataW.trod_struct ht h
  obtain ⟨y0, y1, y2, y3, y4, y5, rfl⟩ := list6 (hlen.trans rfl)
  exact ⟨y0, y1, y2, y3, y4, y5, n, by simp, by simpa using hf 0 f0 rfl, by simpa using hf 1 f1 rfl, by simpa using hf 2 f2 rfl, by simpa using hf 3 f3 rfl, by simpa using hf 4 f4 rfl, by simpa using hf 5 f5 rfl⟩
theorem trod3 {P : Program} {t : TypeId} {f0 f1 f2 : Field} {fuel : Nat} {cs : List Value} {x : DataW H × List MemPlace} (ht : P.underlying t = some (.struct #[f0, f1, f2])) (h : DataW.trod enc P W 0 (fun _ => true) true fuel t cs = some x) :
    ∃ y0 y1 y2 n, cs.length = P.cellsOf t ∧ DataW.trod enc P W 0 (fun _ => true) true n f0.type ((cs.drop f0.offset).take (P.cellsOf f0.type)) = some y0 ∧
      DataW.trod enc P W 0 (fun _ => true) true n f1.type ((cs.drop f1.offset).take (P.cellsOf f1.type)) = some y1 ∧ DataW.trod enc P W 0 (fun _ => true) true n f2.type ((cs.drop f2.offset).take (P.cellsOf f2.type)) = some y2 := by
  obtain ⟨xs, n, _, rfl, hl, hlen, hf⟩ := DataW.trod_struct ht h
  obtain ⟨y0, y1, y2, rfl⟩ := list3 (hlen.trans rfl)
  exact ⟨y0, y1, y2, n, hl, by simpa using hf 0 f0 rfl, by simpa using hf 1 f1 rfl, by simpa using hf 2 f2 rfl⟩
/-- One Record. -/
theorem open_rec {n : Nat} {cs : List Value} {x : DataW H × List MemPlace} (h : DataW.trod enc Tryz.prog W 0 (fun _ => true) true n 43 cs = some x) :
    ∃ r : Rec, cs = [.string r.key, .string r.val, .bool r.dead] ∧ r.key.size ≤ maxLen ∧ r.val.size ≤ maxLen := by
  obtain ⟨y0, y1, y2, m, hl, f0, f1, f2⟩ := trod3 Tryz.underlying43 h
  rw [Tryz.cellsR] at hl
  obtain ⟨c0, c1, c2, rfl⟩ := list3 hl
  simp only [Tryz.cellsS, Tryz.cellsT, List.drop_zero, List.drop_succ_cons, List.take_succ_cons, List.take_zero] at f0 f1 f2
  obtain ⟨s0, e0, -, l0⟩ := DataW.trod_string Tryz.underlying9 f0
  obtain ⟨s1, e1, -, l1⟩ := DataW.trod_string Tryz.underlying9 f1
  obtain ⟨b2, e2, -⟩ := DataW.trod_bool Tryz.underlying4 f2
  simp only [List.cons.injEq, and_true] at e0 e1 e2
  exact ⟨⟨s0, s1, b2⟩, by rw [e0, e1, e2], l0, l1⟩
theorem range_getD (f : Nat → Rec) (n i : Nat) (h : i < n) : ((List.range n).map f).getD i rec0 = f i := by
  rw [List.getD_eq_getElem?_getD, List.getElem?_map, List.getElem?_range h]; rfl
theorem open_recs {n : Nat} {v : Value} {x : DataW H × List MemPlace} (h : DataW.trod enc Tryz.prog W 0 (fun _ => true) true n 28 [v] = some x)
    (hd : ∀ m ∈ x.1.weights Tryz.prog 28, m ≤ 140737488351232) (k p e s : Int) (t : Bool) :
    ∃ rs ad len cap, v = .slice ad len cap ∧ BArg W ⟨k, p, e, s, t, rs⟩ ad len cap ∧ len * 40 ≤ 140737488351232 := by
  rcases Go.Deep.open_slice Tryz.underlying28 h with ⟨hcs, -⟩ | ⟨a, len, cap, m, n', D, Pl, hcs, _, hl, hm, hmm, hx, hV⟩
  · simp only [List.cons.injEq, and_true] at hcs
    exact ⟨[], none, 0, 0, hcs, ⟨rfl, fun _ => ⟨rfl, rfl⟩, by omega, by unfold maxLen; omega, Or.inl rfl, fun r hr => (by cases hr)⟩, by omega⟩
  · simp only [List.cons.injEq, and_true] at hcs
    simp only [if_true] at hmm
    subst hmm
    rw [Tryz.cellsR] at hV
    have hw : (len + (m - len)) * 40 ≤ 140737488351232 := by
      apply hd
      rw [hx]
      simp only
      rw [DataW.weights, Tryz.underlying28]
      simp only [List.mem_cons, List.length_map, List.length_range]
      exact Or.inl (by rw [Tryz.bytesR])
    have each : ∀ i, i < len → ∃ r : Rec, W.cell? (a.add (i * 3)) = some (.string r.key) ∧ W.cell? (a.add (i * 3 + 1)) = some (.string r.val) ∧ W.cell? (a.add (i * 3 + 2)) = some (.bool r.dead) ∧ r.key.size ≤ maxLen ∧ r.val.size ≤ maxLen := by
      intro i hi
      obtain ⟨cs', h1, h2⟩ := hV i (by omega)
      obtain ⟨r, rfl, z1, z2⟩ := open_rec h2
      obtain ⟨_, _, hcell⟩ := World.cells?_some h1
      have e0 := hcell 0 (by omega)
      have e1 := hcell 1 (by omega)
      have e2 := hcell 2 (by omega)
      rw [Go.Deep.add_add] at e0 e1 e2
      exact ⟨r, by simpa using e0, by simpa using e1, by simpa using e2, z1, z2⟩
    obtain ⟨f, hf⟩ := @Go.Deep.choose_lt Rec ⟨rec0⟩ _ _ each
    have hlen : ((List.range len).map f).length = len := by simp
    refine ⟨(List.range len).map f, some a, len, m, hcs, ⟨hlen, fun e => (by cases e), hl, hm, ?_, ?_⟩, by omega⟩
    · by_cases h0 : len = 0
      · subst h0; exact Or.inl rfl
      · right
        obtain ⟨b, off, spot⟩ := a
        have hc0 := (hf 0 (by omega)).1
        have hspot : spot = none := by simpa [Addr.add] using World.cell?_spot hc0
        subst hspot
        have hb : b < W.heap.size := by
          rcases Nat.lt_or_ge b W.heap.size with h | h
          · exact h
          · simp [Addr.add, World.cell?, Array.getElem?_eq_none h] at hc0
        refine ⟨b, off, rfl, hb, ?_⟩
        intro i hi
        rw [hlen] at hi
        obtain ⟨g0, g1, g2, -, -⟩ := hf i hi
        rw [addr_add] at g0 g1 g2
        show W.cell? ⟨b, off + i * 3, none⟩ = some (.string (((List.range len).map f).getD i rec0).key) ∧ _
        rw [range_getD f len i hi]
        exact ⟨g0, by rw [Nat.add_assoc]; exact g1, by rw [Nat.add_assoc]; exact g2⟩
    · intro r hr
      obtain ⟨i, hi, rfl⟩ := List.mem_map.1 hr
      exact (hf i (List.mem_range.1 hi)).2.2.2
theorem weights_six (t0 t1 t2 t3 t4 t5 : TypeId) (d0 d1 d2 d3 d4 d5 : DataW H) (m : Nat) (h : m ∈ d5.weights Tryz.prog t5) : m ∈ DataW.weightsEach Tryz.prog [t0, t1, t2, t3, t4, t5] [d0, d1, d2, d3, d4, d5] := by
  simp only [DataW.weightsEach, List.mem_append]
  simp [h]
end Go.Proofs.YtfgamkcnnijloaaGreat
namespace Go.Proofs.YtfgamkcnnijloaaGreat
open Go.RowKit
open Go.ChangeShapes Go.WideShapes Go.ChangeAt
open Go.ChangeMaps (open_string shut_string)

theorem Tryz.cellsE : Tryz.prog.cellsOf 34 = 8 := by kernel_rfl
variable {H : Type} {enc : TypeId × Value → H} {W : World}
theorem trod3d {P : Program} {t : TypeId} {f0 f1 f2 : Field} {fuel : Nat} {cs : List Value} {x : DataW H × List MemPlace} (ht : P.underlying t = some (.struct #[f0, f1, f2])) (h : DataW.trod enc P W 0 (fun _ => true) true fuel t cs = some x) :
    ∃ y0 y1 y2 n, x.1 = .agg [y0.1, y1.1, y2.1] ∧ DataW.trod enc P W 0 (fun _ => true) true n f0.type ((cs.drop f0.offset).take (P.cellsOf f0.type)) = some y0 ∧
      DataW.trod enc P W 0 (fun _ => true) true n f1.type ((cs.drop f1.offset).take (P.cellsOf f1.type)) = some y1 ∧ DataW.trod enc P W 0 (fun _ => true) true n f2.type ((cs.drop f2.offset).take (P.cellsOf f2.type)) = some y2 := by
  obtain ⟨xs, n, _, rfl, _, hlen, hf⟩ := DataW.trod_struct ht h
  obtain ⟨y0, y1, y2, rfl⟩ := list3 (hlen.trans rfl)
  exact ⟨y0, y1, y2, n, by simp, by simpa using hf 0 f0 rfl, by simpa using hf 1 f1 rfl, by simpa using hf 2 f2 rfl⟩
set_option maxRecDepth 100000 in
theorem open_batC {n : Nat} {c0 c1 c2 c3 c4 c5 : Value} {x : DataW H × List MemPlace} (h : DataW.trod enc Tryz.prog W 0 (fun _ => true) true n 30 [c0, c1, c2, c3, c4, c5] = some x)
    (hd : ∀ m ∈ x.1.weights Tryz.prog 30, m ≤ 140737488351232) :
    ∃ k p e s t rs ad len cap, c0 = .int .i64 k ∧ c1 = .int .i64 p ∧ c2 = .int .i64 e ∧ c3 = .int .i64 s ∧ c4 = .bool t ∧ c5 = .slice ad len cap ∧ BArg W ⟨k, p, e, s, t, rs⟩ ad len cap ∧ len * 40 ≤ 140737488351232 := by
  obtain ⟨y0, y1, y2, y3, y4, y5, m, hx, f0, f1, f2, f3, f4, f5⟩ := trod6 Tryz.underlying30 h
  simp only [Tryz.cellsI, Tryz.cellsT, Tryz.cellsL, List.drop_zero, List.drop_succ_cons, List.take_succ_cons, List.take_zero] at f0 f1 f2 f3 f4 f5
  obtain ⟨k, e0, -⟩ := DataW.trod_int Tryz.underlying3 f0
  obtain ⟨pp, e1, -⟩ := DataW.trod_int Tryz.underlying3 f1
  obtain ⟨e, e2, -⟩ := DataW.trod_int Tryz.underlying3 f2
  obtain ⟨s, e3, -⟩ := DataW.trod_int Tryz.underlying3 f3
  obtain ⟨t, e4, -⟩ := DataW.trod_bool Tryz.underlying4 f4
  simp only [List.cons.injEq, and_true] at e0 e1 e2 e3 e4
  subst e0 e1 e2 e3 e4
  obtain ⟨rs, ad, len, cap, rfl, hb, hl⟩ := open_recs f5 (fun m hm => hd m (by
    rw [hx, DataW.weights, Tryz.underlying30]
    exact weights_six _ _ _ _ _ _ _ _ _ _ _ _ m hm)) k pp e s t
  exact ⟨k, pp, e, s, t, rs, ad, len, cap, rfl, rfl, rfl, rfl, rfl, rfl, hb, hl⟩
theorem weights_three (t0 t1 t2 : TypeId) (d0 d1 d2 : DataW H) (m : Nat) (h : m ∈ d2.weights Tryz.prog t2) : m ∈ DataW.weightsEach Tryz.prog [t0, t1, t2] [d0, d1, d2] := by
  simp only [DataW.weightsEach, List.mem_append]
  simp [h]
end Go.Proofs.YtfgamkcnnijloaaGreat
