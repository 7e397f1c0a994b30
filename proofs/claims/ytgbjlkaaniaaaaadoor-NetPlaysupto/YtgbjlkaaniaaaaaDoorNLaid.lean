/- What the listed variable gives: the table of fates. -/
import Derived.Test.YtgbjlkaaniaaaaaDoorRows
import Derived.Test.YtgbjlkaaniaaaaaDoorNSend
import Derived.Lib.LaidTab
import Derived.OpenShut
import Derived.Deep.Strs
namespace Go.Proofs.YtgbjlkaaniaaaaaDoor
open Go.RowKit

theorem gTab : Tryd.prog.globalNamed "gazette/net.table" = some 0 := by kernel_rfl
theorem gTabType : (Tryd.prog.globals[0]?).map (·.type) = some 61 := by kernel_rfl
theorem cellsF : Tryd.prog.cellsOf TF = 3 := by kernel_rfl
theorem cellsT : Tryd.prog.cellsOf 61 = 15 := by kernel_rfl
theorem cellsI : Tryd.prog.cellsOf TI = 1 := by kernel_rfl
theorem cellsB : Tryd.prog.cellsOf 4 = 1 := by kernel_rfl
theorem fate_cells {H : Type} {enc : TypeId × Value → H} {w : World} {base : Nat} {sp : Nat → Bool} {held : Bool} {fuel : Nat} {cs : List Value} {x : DataW H × List MemPlace} {a : Int} {b c : Bool}
    (h : DataW.trod enc Tryd.prog w base sp held fuel TF cs = some x) (hx : x.1 = .agg [.lit (.int .i64 a), .lit (.bool b), .lit (.bool c)]) : cs = [.int .i64 a, .bool b, .bool c] := by
  obtain ⟨y0, y1, y2, n, e, hl, h0, h1, h2⟩ := Go.Deep.trod_struct3 Tryd.underlying60 h
  rw [cellsF] at hl
  rw [e] at hx
  simp only [DataW.agg.injEq, List.cons.injEq, and_true] at hx
  obtain ⟨x0, x1, x2⟩ := hx
  obtain ⟨z, e0, r0, -⟩ := DataW.trod_int Tryd.underlying3 h0
  obtain ⟨b1, e1, r1⟩ := DataW.trod_bool Tryd.underlying4 h1
  obtain ⟨b2, e2, r2⟩ := DataW.trod_bool Tryd.underlying4 h2
  rw [r0] at x0
  rw [r1] at x1
  rw [r2] at x2
  simp only [DataW.lit.injEq, Lit.int.injEq, Lit.bool.injEq, true_and] at x0 x1 x2
  subst x0 x1 x2
  match cs, hl with
  | [c0, c1, c2], _ =>
    rw [cellsI] at e0
    rw [cellsB] at e1 e2
    simp at e0 e1 e2
    rw [e0, e1, e2]
theorem list15 {l : List Value} (h : l.length = 15) (h0 : (l.drop (0 * 3)).take 3 = [.int .i64 1, .bool true, .bool false]) (h1 : (l.drop (1 * 3)).take 3 = [.int .i64 0, .bool false, .bool false]) (h2 : (l.drop (2 * 3)).take 3 = [.int .i64 1, .bool false, .bool false]) (h3 : (l.drop (3 * 3)).take 3 = [.int .i64 0, .bool false, .bool true]) (h4 : (l.drop (4 * 3)).take 3 = [.int .i64 2, .bool true, .bool false]) : l = tabV := by
  match l, h with
  | [a0, a1, a2, a3, a4, a5, a6, a7, a8, a9, a10, a11, a12, a13, a14], _ =>
    simp at h0 h1 h2 h3 h4
    simp [tabV, h0, h1, h2, h3, h4]
theorem tab_of {W : World} (h0 : laidMetH Tryd.prog [("gazette/net.table", Rows.laid_gazette_net_table)] W) : Tab W := by
  have h : laidMet Tryd.prog [("gazette/net.table", Rows.laid_gazette_net_table)] W := h0
  obtain ⟨ps, ⟨g', t', cs, fuel, p, q, hg', ht', hvar, hd, -, -⟩, -⟩ := h
  obtain rfl := Option.some.inj (gTab.symm.trans hg')
  obtain rfl := Option.some.inj (gTabType.symm.trans ht')
  obtain ⟨xs, m, -, hx1, hlen, hn5, hel⟩ := DataW.trod_array Tryd.underlying61 hd
  rw [cellsF] at hel
  rw [cellsT] at hlen
  have hx2 := congrArg Prod.fst hx1
  simp only [Rows.laid_gazette_net_table] at hx2
  match xs, hn5, hx2, hel with
  | [x0, x1, x2, x3, x4], _, hx2, hel =>
    simp only [List.map_cons, List.map_nil, DataW.agg.injEq, List.cons.injEq, and_true] at hx2
    obtain ⟨e0, e1, e2, e3, e4⟩ := hx2
    have hl := list15 hlen (fate_cells (hel 0 (by decide)) e0.symm) (fate_cells (hel 1 (by decide)) e1.symm) (fate_cells (hel 2 (by decide)) e2.symm) (fate_cells (hel 3 (by decide)) e3.symm) (fate_cells (hel 4 (by decide)) e4.symm)
    have hc : ∀ i, W.cell? ⟨0, i, none⟩ = tabV[i]? := fun i => by
      rw [World.var?_cell gTab hvar i, ← Array.getElem?_toList, hl]
    refine ⟨World.block_lt_of_cell? W ⟨0, 0, none⟩ (u := .int .i64 1) (hc 0), fun i _ => hc i⟩
end Go.Proofs.YtgbjlkaaniaaaaaDoor
