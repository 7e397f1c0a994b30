/- What GroupReplayed asks: two groups beside each other that hold the same. -/
import Derived.Test.YtiiepmljcjbflaaGreatGTellP
import Derived.Test.YtiiepmljcjbflaaGreatGByG
import Derived.Test.YtiiepmljcjbflaaGreatGPendC
import Derived.Test.YtiiepmljcjbflaaGreatOpenEvs
import Derived.Test.YtiiepmljcjbflaaGreatGOwn15
import Derived.BigQuiet
namespace Go.Proofs.YtiiepmljcjbflaaGreat
open Go.RowKit Go.Shelf
variable {w w' W : World} {N ga gb na nb n g B : Nat} {A C G : Gp}

/-- Two groups that a caller made, apart from each other. -/
def Two (N : Nat) (w : World) (ga gb na nb : Nat) (A C : Gp) : Prop := ∃ Fa Fb, GAt w Fa ga na A ∧ GAt w Fb gb nb C ∧ (∀ q ∈ Fa, N ≤ q ∧ q ∉ Fb) ∧ ∀ q ∈ Fb, N ≤ q
theorem Two.a (h : Two N w ga gb na nb A C) : GOf N w ga na A := by obtain ⟨Fa, Fb, h1, h2, h3, h4⟩ := h; exact ⟨Fa, h1, fun q hq => (h3 q hq).1⟩
theorem Two.b (h : Two N w ga gb na nb A C) : GOf N w gb nb C := by obtain ⟨Fa, Fb, h1, h2, h3, h4⟩ := h; exact ⟨Fb, h2, h4⟩
theorem Two.later (h : Two N w ga gb na nb A C) (hb : Below w.heap.size w w') : Two N w' ga gb na nb A C := by
  obtain ⟨Fa, Fb, h1, h2, h3, h4⟩ := h
  exact ⟨Fa, Fb, h1.later hb, h2.later hb, h3, h4⟩
theorem Two.mono (h : Two N w ga gb na nb A C) {ma mb : Nat} (ha : na ≤ ma) (hb : nb ≤ mb) : Two N w ga gb ma mb A C := by
  obtain ⟨Fa, Fb, h1, h2, h3, h4⟩ := h
  exact ⟨Fa, Fb, h1.mono ha, h2.mono hb, h3, h4⟩
theorem Two.new (ha : GOf N w ga na A) (hb : Below w.heap.size w w') (hB : GOf w.heap.size w' gb nb C) (hN : N ≤ w.heap.size) : Two N w' ga gb na nb A C := by
  obtain ⟨Fa, h1, h2⟩ := ha
  obtain ⟨Fb, h3, h4⟩ := hB
  exact ⟨Fa, Fb, h1.later hb, h3, fun q hq => ⟨h2 q hq, fun hm => by have := h1.2.2 q hq; have := h4 q hm; omega⟩, fun q hq => Nat.le_trans hN (h4 q hq)⟩
theorem Two.applyA (h : Two N w ga gb na nb A C) (hN : N ≤ w.heap.size) (x : Ev) (hn : na + 102 ≤ 598134325510144) : Calls Tryz.prog 17 #[.pointer (some ⟨ga, 0, none⟩), .agg (evA x)] w fun e w' => e = .returned (.int .i64 (A.dec x).2) ∧ Two N w' ga gb (na + 102) nb (A.app x) C ∧ Below N w w' := by
  obtain ⟨Fa, Fb, h1, h2, h3, h4⟩ := h
  refine (h1.apply x hn).mono ?_
  rintro e w' ⟨rfl, F', k1, k2, k3⟩
  refine ⟨rfl, ⟨F', Fb, k1, h2.chg k2 (fun q hq hm => (h3 q hm).2 hq), fun q hq => ?_, h4⟩, k2.below (fun k hk => (h3 k hk).1) hN⟩
  rcases k3 q hq with h5 | h5
  · exact h3 q h5
  · exact ⟨Nat.le_trans hN h5, fun hm => by have := h2.2.2 q hm; omega⟩
theorem Two.applyB (h : Two N w ga gb na nb A C) (hN : N ≤ w.heap.size) (x : Ev) (hn : nb + 102 ≤ 598134325510144) : Calls Tryz.prog 17 #[.pointer (some ⟨gb, 0, none⟩), .agg (evA x)] w fun e w' => e = .returned (.int .i64 (C.dec x).2) ∧ Two N w' ga gb na (nb + 102) A (C.app x) ∧ Below N w w' := by
  obtain ⟨Fa, Fb, h1, h2, h3, h4⟩ := h
  refine (h2.apply x hn).mono ?_
  rintro e w' ⟨rfl, F', k1, k2, k3⟩
  have h6 : ∀ q ∈ F', N ≤ q := fun q hq => (k3 q hq).elim (h4 q) (fun h5 => Nat.le_trans hN h5)
  refine ⟨rfl, ⟨Fa, F', h1.chg k2 (fun q hq => (h3 q hq).2), k1, fun q hq => ⟨(h3 q hq).1, fun hm => ?_⟩, h6⟩, k2.below (fun k hk => h4 k hk) hN⟩
  rcases k3 q hm with h5 | h5
  · exact (h3 q hq).2 h5
  · have := h1.2.2 q hq; omega
theorem dec_may15 {x : Ev} (h : G.dec x = (false, 0)) : x.may := by
  by_cases hm : x.may
  · exact hm
  · unfold Gp.dec at h
    rw [if_neg hm] at h
    exact absurd (congrArg Prod.snd h) (by decide)
theorem app_no15 {x : Ev} (h : G.dec x ≠ (false, 0)) : G.app x = G := by
  unfold Gp.app
  refine if_neg (fun ⟨h1, h2, h3⟩ => h ?_)
  unfold Gp.dec
  rw [if_pos h1, if_pos h2, h3]
theorem own_argR {α : Type} {K : Kd α} (hK : K.fit) {base m c : Nat} {a : Option Addr} {l : List α} (h : OwnK K W base (.slice a m c) l) : ArgK K W l a m c := by
  obtain ⟨a', c', e, hA⟩ := h.form hK
  injection e with e1 e2 e3
  subst e1 e2 e3
  exact hA
theorem GOf.decideR (h : GOf B w g n G) (x : Ev) : Calls Tryz.prog 16 #[.pointer (some ⟨g, 0, none⟩), .agg (evA x)] w fun r w' => r = .returned (.tuple #[.bool (G.dec x).1, .int .i64 (G.dec x).2]) ∧ Below w.heap.size w w' := by
  obtain ⟨F, h1, -⟩ := h
  exact h1.decide x
theorem GOf.genR (h : GOf B W g n G) : Calls Tryz.prog 18 #[.pointer (some ⟨g, 0, none⟩)] W fun e w' => e = .returned (.int .i64 G.gen) ∧ w' = W := by
  obtain ⟨F, h1, -⟩ := h
  exact Generation_any h1
theorem GOf.offsetR (h : GOf B W g n G) (k : Nat) (hk : k < 5) : Calls Tryz.prog 22 #[.pointer (some ⟨g, 0, none⟩), .int .i64 (k : Int)] W fun e w' => e = .returned (.tuple #[.int .i64 ((G.off (k : Int)).getD 0), .bool (G.off (k : Int)).isSome]) ∧ w' = W := by
  obtain ⟨F, h1, -⟩ := h
  exact Offset_any h1 (k : Int) (by omega)
theorem GOf.membersR (h : GOf B W g n G) : Calls Tryz.prog 20 #[.pointer (some ⟨g, 0, none⟩)] W fun e w' => ∃ a c, e = .returned (.slice a G.ks.length c) ∧ ArgK kS w' G.ks a G.ks.length c ∧ Below W.heap.size W w' := by
  obtain ⟨F, h1, -⟩ := h
  refine (Members_at h1).mono ?_
  rintro r w' ⟨v, rfl, h2, h3⟩
  obtain ⟨a, c, rfl, hA⟩ := h2.form kS_ok.tofit
  exact ⟨a, c, rfl, hA, h3⟩
theorem GOf.shareR (h : GOf B W g n G) (s : Nm) (hs : s.length ≤ maxLen) {m : Nat} (hm : (G.share s).length = m) : Calls Tryz.prog 24 #[.pointer (some ⟨g, 0, none⟩), .string (nmS s)] W fun e w' => ∃ a c, e = .returned (.slice a m c) ∧ ArgK kZ w' (G.share s) a m c ∧ Below W.heap.size W w' := by
  obtain ⟨F, h1, -⟩ := h
  refine (Share_any h1 s hs).mono ?_
  rintro r w' ⟨v, rfl, h2, h3⟩
  obtain ⟨a, c, rfl, hA⟩ := h2.form kZ_ok.tofit
  subst hm
  exact ⟨a, c, rfl, hA, h3⟩
end Go.Proofs.YtiiepmljcjbflaaGreat
