/- Apply of package group, of any event: all Kinds; a group that a caller made. -/
import Derived.Test.YtipgociofjokeaaGreatGKnows
import Derived.Test.YtipgociofjokeaaGreatGDo6
namespace Go.Proofs.YtipgociofjokeaaGreat
open Go.RowKit Go.Shelf
variable {w w' : World} {g n : Nat} {G : Gp} {F : List Nat}

theorem GAt.decMark (x : Ev) (hx : x.may) (hk : x.kind = 7) {W' : World} {M1 M2 M3 : Nat} {A : Nm → Sl} {pv : Value} (hg : GP W' F g M1 M2 M3 n A pv G) : Calls Tryz.prog 46 #[.pointer (some ⟨g, 0, none⟩), .agg (evA x)] W' fun r w' => r = decC (G.whyNot x) (G.done x) ∧ Below W'.heap.size W' w' := by
  have ew : G.whyNot x = (if G.epo x.prod ≤ x.ep then 0 else 50) := by unfold Gp.whyNot; rw [if_neg (by omega), if_neg (by omega), if_neg (by omega), if_neg (by omega), if_neg (by omega), if_neg (by omega)]
  have ed : G.done x = (G.ep x.prod == some x.ep && !pendOf x.prod G.pend) := by unfold Gp.done; rw [if_neg (by omega), if_pos hk]
  rw [ew, ed]
  exact decMark_any hg x (may_i64 hx.2.2.2.1.2.2.2.1)
theorem GAt.decide (h : GAt w F g n G) (x : Ev) : Calls Tryz.prog 14 #[.pointer (some ⟨g, 0, none⟩), .agg (evA x)] w fun r w' => r = .returned (.tuple #[.bool (G.dec x).1, .int .i64 (G.dec x).2]) ∧ Below w.heap.size w w' := by
  obtain ⟨⟨M1, M2, M3, A, pv, hg⟩, ho, -⟩ := h
  exact Decide_any hg ho x (fun hx hk W' hW' => GAt.decMark x hx hk hW')
/-- Apply: what it answers, and what it leaves. -/
theorem GAt.apply (h : GAt w F g n G) (x : Ev) (hn : n + 102 ≤ 598134325510144) : Calls Tryz.prog 7 #[.pointer (some ⟨g, 0, none⟩), .agg (evA x)] w fun r w' => r = .returned (.int .i64 (G.dec x).2) ∧ GMv w w' F g (n + 102) (G.app x) := by
  refine Apply_any h x (by omega) (fun hx hk W' M1 M2 M3 A pv hg => GAt.decMark x hx hk hg) (fun hx hk W hW => ?_) (fun hx hk W hW => ?_)
  · have et : G.take x = { G with pend := G.pend ++ [(x.prod, x.part, x.off)], ep := setN G.ep x.prod (some x.ep) } := by unfold Gp.take; rw [if_neg (by omega), if_neg (by omega), if_neg (by omega), if_neg (by omega), if_neg (by omega), if_pos hk]
    rw [et]
    exact promise_any hW x (may_i64 hx.2.2.2.1.2.2.2.1) hx.2.2.2.1.2.1 hn
  · have et : G.take x = { G with off := offN x.yes x.prod G.pend G.off, pend := G.pend.filter (fun y => !(y.1 == x.prod)), ep := setN G.ep x.prod (some x.ep) } := by
      unfold Gp.take
      rw [if_neg (by omega), if_neg (by omega), if_neg (by omega), if_neg (by omega), if_neg (by omega), if_neg (by omega)]
      rfl
    rw [et]
    exact mark_any hW x (may_i64 hx.2.2.2.1.2.2.2.1) hn
variable {B : Nat}
/-- .. of a group that a caller made. -/
theorem GOf.applyA (h : GOf B w g n G) (hB : B ≤ w.heap.size) (x : Ev) (hn : n + 102 ≤ 598134325510144) :
    Calls Tryz.prog 7 #[.pointer (some ⟨g, 0, none⟩), .agg (evA x)] w fun r w' => r = .returned (.int .i64 (G.dec x).2) ∧ GOf B w' g (n + 102) (G.app x) ∧ Below B w w' := by
  obtain ⟨F, h1, h2⟩ := h
  refine (h1.apply x hn).mono ?_
  rintro r w' ⟨rfl, F', h3, h4, h5⟩
  exact ⟨rfl, ⟨F', h3, fun b hb => (h5 b hb).elim (h2 b) (fun h => Nat.le_trans hB h)⟩, h4.below (fun k hk => h2 k hk) hB⟩
end Go.Proofs.YtipgociofjokeaaGreat
