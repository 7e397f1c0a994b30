/- P1507's mathematics: what a group's members have covers its partitions; its generation grows by one when its members change, and only then. -/
import Derived.Test.YtipgociofjokeaaGreatGKnM
import Derived.Test.YtipgociofjokeaaGreatPGDo
namespace Go.Proofs.YtipgociofjokeaaGreat
open Go.RowKit Go.Shelf Go.Sort
variable {G : Gp}

/-- What the members have covers all partitions. -/
def GCov (G : Gp) : Prop := G.ks = [] ∨ CovP (G.ks.map G.share) G.parts.toNat
theorem deal_shares {k : Nat} (ho : GOk k G) : G.ks.map G.deal.share = G.dealt := by
  have hl : G.dealt.length = G.ks.length := sticky_len _ _ _ _
  apply List.ext_getElem?
  intro j
  by_cases hj : j < G.ks.length
  · rw [List.getElem?_map, List.getElem?_eq_getElem hj, List.getElem?_eq_getElem (by omega)]
    have e : G.ks.getD j [] = G.ks[j] := getD_at _ _ _ hj
    have hi := idxOf_at ho hj
    have hs := (ho.mem _).1 (getD_name hj)
    rw [e] at hi hs
    show some (((dealTo G G.dealt G.ks.length G.ks[j]).getD ⟨0, []⟩).parts) = _
    unfold dealTo
    rw [hi, if_pos hj]
    cases hm : G.mem G.ks[j] with
    | none => rw [hm] at hs; cases hs
    | some mb =>
      show some (G.dealt.getD j []) = _
      rw [getD_at _ _ _ (by omega)]
  · rw [List.getElem?_eq_none (by rw [List.length_map]; omega), List.getElem?_eq_none (by omega)]
theorem GCov.dealt {k : Nat} (ho : GOk k G) : GCov G.deal := by
  by_cases h0 : G.ks = []
  · exact Or.inl h0
  · refine Or.inr ?_
    show CovP (G.ks.map G.deal.share) G.parts.toNat
    rw [deal_shares ho]
    exact sticky_cov G.ks (G.ks.map G.share) G.ks G.parts.toNat h0
theorem GCov.new (p s : Int) : GCov (gp0 p s) := Or.inl rfl
/-- What an event leaves: the shares cover, the parts are the same, the generation tells of the members. -/
structure GNext (G G' : Gp) : Prop where
  cov : GCov G'
  parts : G'.parts = G.parts
  gen : (G'.ks = G.ks ∧ G'.gen = G.gen) ∨ (G'.ks ≠ G.ks ∧ G'.gen = G.gen + 1)
theorem GNext.same {G' : Gp} (h : GCov G) (h1 : G'.ks = G.ks) (h2 : G'.gen = G.gen) (h3 : G'.parts = G.parts) (h4 : ∀ nm, G'.share nm = G.share nm) : GNext G G' := by
  refine ⟨?_, h3, Or.inl ⟨h1, h2⟩⟩
  unfold GCov
  rw [h1, h3, show G'.share = G.share from funext h4]
  exact h
theorem GNext.deal {G1 : Gp} {k : Nat} (ho : GOk k G1) (h1 : G1.ks ≠ G.ks) (h2 : G1.gen = G.gen) (h3 : G1.parts = G.parts) : GNext G G1.deal :=
  ⟨GCov.dealt ho, h3, Or.inr ⟨h1, by show G1.gen + 1 = _; rw [h2]⟩⟩
theorem share_set (nm : Nm) (y : Int) (q : Nm) : ({ G with mem := setN G.mem nm (some ⟨y, G.share nm⟩) } : Gp).share q = G.share q := by
  show ((setN G.mem nm (some ⟨y, G.share nm⟩) q).getD ⟨0, []⟩).parts = _
  by_cases e : q = nm
  · subst e; rw [setN_same]; rfl
  · rw [setN_other _ e]; rfl
theorem GNext.app {k : Nat} (ho : GOk k G) (h : GCov G) (x : Ev) : GNext G (G.app x) := by
  unfold Gp.app
  split
  · rename_i hc
    obtain ⟨hx, hw, hd⟩ := hc
    have hk := hx.1
    have hnm := hx.2.2.1
    have hnow := hx.2.2.2.1.2.2.2.2.2
    unfold Gp.take
    split
    · rename_i k1
      split
      · exact GNext.same h rfl rfl rfl (share_set _ _)
      · rename_i hh
        have hh : G.has x.mem = false := by simpa using hh
        have hlt : G.ks.length < 100 := by
          unfold Gp.whyNot at hw
          rw [if_pos k1, hh] at hw
          by_cases hl : G.ks.length < 100
          · exact hl
          · rw [Bool.false_or, decide_eq_false hl] at hw
            exact absurd hw (by decide)
        have hno : nameOk x.mem = true := by rw [hnm]; unfold Ev.isM; rw [k1]; rfl
        refine GNext.deal (ho.came x.mem hh hlt hno hnow) ?_ rfl rfl
        intro e
        have := congrArg List.length (show risN (x.mem :: G.ks) = G.ks from e)
        rw [risN_len, List.length_cons] at this
        omega
    · split
      · rename_i k1 k2
        have hh : G.has x.mem = true := by
          unfold Gp.whyNot at hw
          rw [if_neg k1, if_pos k2] at hw
          by_cases hh : G.has x.mem = true
          · exact hh
          · rw [if_neg hh] at hw; exact absurd hw (by decide)
        refine GNext.deal (ho.left x.mem) ?_ rfl rfl
        intro e
        have hm : x.mem ∈ G.ks := (ho.mem _).2 hh
        rw [← (show G.ks.filter (fun q => decide (q ≠ x.mem)) = G.ks from e)] at hm
        have := (List.mem_filter.1 hm).2
        simp at this
      · split
        · exact GNext.same h rfl rfl rfl (share_set _ _)
        · split
          · exact GNext.same h rfl rfl rfl (fun _ => rfl)
          · split
            · rename_i k1 k2 k3 k4 k5
              refine GNext.deal (ho.gone x.now) ?_ rfl rfl
              intro e
              unfold Gp.done at hd
              rw [if_pos k5] at hd
              have hne : G.silent x.now ≠ [] := fun e => by rw [e] at hd; exact absurd hd (by decide)
              obtain ⟨q, hq⟩ := List.exists_mem_of_ne_nil _ hne
              unfold Gp.silent at hq
              obtain ⟨hq1, hq2⟩ := List.mem_filter.1 hq
              rw [← (show G.ks.filter (fun nm => decide (x.now < G.heard nm + G.sess)) = G.ks from e)] at hq1
              have := (List.mem_filter.1 hq1).2
              rw [this] at hq2
              exact absurd hq2 (by decide)
            · split
              · exact GNext.same h rfl rfl rfl (fun _ => rfl)
              · exact GNext.same h rfl rfl rfl (fun _ => rfl)
  · exact GNext.same h rfl rfl rfl (fun _ => rfl)
end Go.Proofs.YtipgociofjokeaaGreat
