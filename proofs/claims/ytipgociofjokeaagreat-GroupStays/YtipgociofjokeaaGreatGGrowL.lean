/- Apply beside what Members answered; what a group answers, as a law's walk wants it. -/
import Derived.Test.YtipgociofjokeaaGreatGGrowM
import Derived.Test.YtipgociofjokeaaGreatGAll
import Derived.Test.YtipgociofjokeaaGreatGKnows
namespace Go.Proofs.YtipgociofjokeaaGreat
open Go.RowKit Go.Shelf
variable {w w' W : World} {g n B : Nat} {G : Gp} {F : List Nat}

theorem tm32 (x : Int) : -32 < x.tmod 32 ∧ x.tmod 32 < 32 := by
  constructor
  · have := Int.lt_tmod_of_pos x (show (0 : Int) < 32 by omega); omega
  · exact Int.tmod_lt_of_pos x (by omega)
theorem par_rng (x : Int) : 0 ≤ (x.tmod 32 + 32).tmod 32 ∧ (x.tmod 32 + 32).tmod 32 ≤ 31 := by
  have h := tm32 x
  have h2 : 0 ≤ x.tmod 32 + 32 := by omega
  rw [Int.tmod_eq_emod_of_nonneg h2]
  omega
/-- Apply, beside a row that is none of the group's. -/
theorem GAt.stepK (h : GAt W F g n G) (hB : ∀ b ∈ F, B ≤ b) (hBW : B ≤ W.heap.size) (x : Ev) (hn : n + 102 ≤ 598134325510144) {base : Nat} {v : Value} {l : List Nm} (hF : ∀ b ∈ F, b < base) (hO : OwnK kS W base v l) :
    Calls Tryz.prog 7 #[.pointer (some ⟨g, 0, none⟩), .agg (evA x)] W fun r w' => (∃ y, r = .returned (.int .i64 y)) ∧ GOf B w' g (n + 102) (G.app x) ∧ OwnK kS w' base v l ∧ Below B W w' := by
  refine (h.apply x hn).mono ?_
  rintro r w' ⟨rfl, F', h3, h4, h5⟩
  refine ⟨⟨_, rfl⟩, ⟨F', h3, fun b hb => (h5 b hb).elim (hB b) (fun h => Nat.le_trans hBW h)⟩, hO.chg h4 (fun q hq hm => ?_), h4.below (fun k hk => hB k hk) hBW⟩
  have h6 := (hO.block q hq).1
  have h7 := hF q hm
  omega
theorem GOf.gen (h : GOf B W g n G) : Calls Tryz.prog 11 #[.pointer (some ⟨g, 0, none⟩)] W fun e w' => e = .returned (.int .i64 G.gen) ∧ w' = W := by
  obtain ⟨F, h1, -⟩ := h
  exact Generation_any h1
theorem GOf.members (h : GOf B W g n G) : Calls Tryz.prog 8 #[.pointer (some ⟨g, 0, none⟩)] W fun e w' => ∃ a c, e = .returned (.slice a G.ks.length c) ∧ OwnK kS w' W.heap.size (.slice a G.ks.length c) G.ks ∧ Below W.heap.size W w' := by
  obtain ⟨F, h1, -⟩ := h
  refine (Members_at h1).mono ?_
  rintro r w' ⟨v, rfl, h2, h3⟩
  obtain ⟨a, c, rfl, -⟩ := h2.form kS_ok.tofit
  exact ⟨a, c, rfl, h2, h3⟩
theorem GOf.shareOf (h : GOf B W g n G) (s : Nm) (hs : s.length ≤ maxLen) {m : Nat} (hm : (G.share s).length = m) : Calls Tryz.prog 9 #[.pointer (some ⟨g, 0, none⟩), .string (nmS s)] W fun e w' => ∃ a c, e = .returned (.slice a m c) ∧ OwnK kZ w' W.heap.size (.slice a m c) (G.share s) ∧ Below W.heap.size W w' := by
  obtain ⟨F, h1, -⟩ := h
  refine (Share_any h1 s hs).mono ?_
  rintro r w' ⟨v, rfl, h2, h3⟩
  obtain ⟨a, c, rfl, -⟩ := h2.form kZ_ok.tofit
  subst hm
  exact ⟨a, c, rfl, h2, h3⟩
/-- Apply of a group that a caller made, beside what Members answered. -/
theorem GOf.stepM (h : GOf B W g n G) (hBW : B ≤ W.heap.size) (x : Ev) (hn : n + 102 ≤ 598134325510144) {W1 : World} {v : Value} {l : List Nm} (hO : OwnK kS W1 W.heap.size v l) (hb : Below W.heap.size W W1) {W2 : World} (hb2 : Below W1.heap.size W1 W2) :
    Calls Tryz.prog 7 #[.pointer (some ⟨g, 0, none⟩), .agg (evA x)] W2 fun r w' => (∃ y, r = .returned (.int .i64 y)) ∧ GOf B w' g (n + 102) (G.app x) ∧ OwnK kS w' W.heap.size v l ∧ Below B W2 w' := by
  obtain ⟨F, h1, h2⟩ := h
  have h3 := (h1.later hb).later hb2
  exact h3.stepK h2 (Nat.le_trans hBW (Nat.le_trans hb.size hb2.size)) x hn h1.2.2 (hO.later hb2)
theorem GOf.ok (h : GOf B W g n G) : GOk n G := by obtain ⟨F, h1, -⟩ := h; exact h1.2.1
theorem own_arg {α : Type} {K : Kd α} (hK : K.fit) {base m c : Nat} {a : Option Addr} {l : List α} (h : OwnK K W base (.slice a m c) l) : ArgK K W l a m c := by
  obtain ⟨a', c', e, hA⟩ := h.form hK
  injection e with e1 e2 e3
  subst e1 e2 e3
  exact hA
theorem own_cells {base m c : Nat} {a : Option Addr} {l : List Int} (h : OwnK kZ W base (.slice a m c) l) (hm : 0 < m) : ∃ b off, a = some ⟨b, off, none⟩ ∧ base ≤ b ∧ b < W.heap.size ∧ ∀ i, i < m → W.cell? ⟨b, off + i, none⟩ = some (.int .i64 (l.getD i 0)) := by
  obtain ⟨b, off, rfl, hs, hc⟩ := (own_arg kZ_ok.tofit h).cells hm
  refine ⟨b, off, rfl, (h.block b rfl).1, hs, fun i hi => ?_⟩
  have h := hc i hi 0 (by decide)
  rw [Nat.mul_one, Nat.add_zero] at h
  exact h
end Go.Proofs.YtipgociofjokeaaGreat
