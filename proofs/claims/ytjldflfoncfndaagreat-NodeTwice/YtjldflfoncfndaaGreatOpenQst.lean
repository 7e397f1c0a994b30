/- How a request (of the document's package) that came in is read. -/
import Derived.Test.YtjldflfoncfndaaGreatOpenFour
namespace Go.Proofs.YtjldflfoncfndaaGreat
open Go.RowKit
open Go.ChangeShapes Go.WideShapes Go.ChangeAt
variable {H : Type} {enc : TypeId × Value → H} {W : World}
theorem Tryz.cellsRq : Tryz.prog.cellsOf 24 = 4 := by kernel_rfl
set_option maxRecDepth 100000 in
theorem open_request {r : Reach} {b0 : Nat} {v : Value} {d : DataW H} {p : List MemPlace} (hv : Value.okWide Tryz.prog W r b0 24 v) (h : DataW.Trod enc Tryz.prog W 0 (fun _ => true) true 24 v d p)
    (hd : ∀ m ∈ d.weights Tryz.prog 24, m ≤ 140737488351232) :
    ∃ e t s ad len cap l, v = .agg #[.int .i64 e, .int .i64 t, .int .i64 s, .slice ad len cap] ∧ Part.ok W ⟨ad, len, cap, l⟩ ∧ len ≤ cap ∧ cap ≤ 140737488351232 := by
  obtain ⟨cs, rfl, hsz⟩ := okWide_struct Tryz.underlying24 hv
  rw [Tryz.cellsRq] at hsz
  obtain ⟨c0, c1, c2, c3, rfl⟩ := array4 hsz
  obtain ⟨fuel, hf⟩ := h
  obtain ⟨y0, y1, y2, y3, m, hx, f0, f1, f2, f3⟩ := trod4 Tryz.underlying24 hf
  simp only [Value.cells, Tryz.cells4I, Tryz.cells4L, List.drop_zero, List.drop_succ_cons, List.take_succ_cons, List.take_zero] at f0 f1 f2 f3
  obtain ⟨e, e0, -⟩ := DataW.trod_int Tryz.underlying3 f0
  obtain ⟨t, e1, -⟩ := DataW.trod_int Tryz.underlying3 f1
  obtain ⟨s, e2, -⟩ := DataW.trod_int Tryz.underlying3 f2
  simp only [List.cons.injEq, and_true] at e0 e1 e2
  subst e0 e1 e2
  simp only at hx
  obtain ⟨ad, len, cap, l, rfl, h1, h2, h3⟩ := open_data f3 (fun m hm => hd m (by
    rw [hx, DataW.weights, Tryz.underlying24]
    exact weights_four _ _ _ _ _ _ _ _ m hm))
  exact ⟨e, t, s, ad, len, cap, l, rfl, h1, h2, h3⟩
end Go.Proofs.YtjldflfoncfndaaGreat
