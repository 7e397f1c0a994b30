/- What GroupFences asks, over plain data: behind a Mark of an epoch, a Mark and a Promise of the epoch before it are refused. -/
import Derived.Test.YtabnjdknnabhmaaGreatPGStep
namespace Go.Proofs.YtabnjdknnabhmaaGreat
open Go.RowKit Go.Sort
variable {G : Gp}

/-- A Mark. -/
def evM (p e : Int) (y : Bool) : Ev := ⟨7, [], 0, 0, 0, p, e, 0, y⟩
theorem evM_may {p e : Int} {y : Bool} (hp : 0 ≤ p ∧ p < 1000) (he : 0 ≤ e ∧ e ≤ 1000) : (evM p e y).may := by
  refine ⟨by show (1 : Int) ≤ 7 ∧ (7 : Int) < 8; omega, rfl, rfl, ?_, ?_, ?_⟩
  · show inN 0 ∧ inN 0 ∧ inN 0 ∧ inN p ∧ inN e ∧ inN 0
    unfold inN
    omega
  · show (0 : Int) < 32
    omega
  · show e ≤ 2147483647
    omega
theorem whyM (p e : Int) (y : Bool) : G.whyNot (evM p e y) = if G.epo p ≤ e then 0 else 50 := rfl
theorem decM {p e : Int} {y : Bool} (hp : 0 ≤ p ∧ p < 1000) (he : 0 ≤ e ∧ e ≤ 1000) : (G.dec (evM p e y)).2 = if G.epo p ≤ e then 0 else 50 := by
  unfold Gp.dec
  rw [if_pos (evM_may hp he), whyM]
  by_cases h : G.epo p ≤ e
  · rw [if_pos h]; rfl
  · rw [if_neg h]; rfl
/-- What a Mark that is taken leaves of its producer's epoch. -/
theorem appM {p e : Int} {y : Bool} (hp : 0 ≤ p ∧ p < 1000) (he : 0 ≤ e ∧ e ≤ 1000) (h : G.epo p ≤ e) : (G.app (evM p e y)).epo p = e := by
  have hw : G.whyNot (evM p e y) = 0 := by rw [whyM, if_pos h]
  unfold Gp.app
  by_cases hd : G.done (evM p e y) = false
  · rw [if_pos ⟨evM_may hp he, hw, hd⟩]
    show ((setN G.ep p (some e)) p).getD 0 = e
    rw [setN_same]
    rfl
  · rw [if_neg (fun hc => hd hc.2.2)]
    have hd : (G.ep p == some e && !pendOf p G.pend) = true := by
      have h1 : G.done (evM p e y) = true := by simpa using hd
      exact h1
    rw [Bool.and_eq_true] at hd
    unfold Gp.epo
    rw [eq_of_beq hd.1]
    rfl
/-- A Mark of the epoch before is refused, and leaves all as it is. -/
theorem lateM {p e : Int} {y : Bool} (hp : 0 ≤ p ∧ p < 1000) (he : 1 ≤ e ∧ e ≤ 1000) (h : G.epo p = e) : (G.dec (evM p (e - 1) y)).2 = 50 ∧ G.app (evM p (e - 1) y) = G := by
  refine ⟨by rw [decM hp (by omega), if_neg (by omega)], ?_⟩
  unfold Gp.app
  rw [if_neg]
  rintro ⟨-, hw, -⟩
  rw [whyM, if_neg (by omega)] at hw
  exact absurd hw (by decide)
/-- .. and so is a Promise of a member of the present generation. -/
theorem lateP {k : Nat} (ho : GOk k G) {p e : Int} (hp : 0 ≤ p ∧ p < 1000) (he : 1 ≤ e ∧ e ≤ 1000) (h : G.epo p = e) (hk : (k : Int) < 281474976710656) {nm : Nm} (hn : nm ∈ G.ks) :
    (G.dec ⟨6, nm, G.gen, 0, 0, p, e - 1, 0, false⟩).2 = 50 ∧ G.app ⟨6, nm, G.gen, 0, 0, p, e - 1, 0, false⟩ = G := by
  have hg := ho.gen
  have hpa := ho.parts
  have hm : Ev.may ⟨6, nm, G.gen, 0, 0, p, e - 1, 0, false⟩ := by
    refine ⟨by show (1 : Int) ≤ 6 ∧ (6 : Int) < 8; omega, rfl, ho.name nm hn, ?_, ?_, ?_⟩
    · show inN G.gen ∧ inN 0 ∧ inN 0 ∧ inN p ∧ inN (e - 1) ∧ inN 0
      unfold inN
      omega
    · show (0 : Int) < 32
      omega
    · show e - 1 ≤ 2147483647
      omega
  have hw : G.whyNot ⟨6, nm, G.gen, 0, 0, p, e - 1, 0, false⟩ = 50 := by
    show (if (G.has nm && G.gen == G.gen) = true then (if (0 : Int) < G.parts then (if G.epo p ≤ e - 1 then 0 else 50) else 1) else 60) = (50 : Int)
    have hh : G.has nm = true := (ho.mem nm).1 hn
    rw [hh, if_pos (by simp), if_pos (by omega), if_neg (by omega)]
  constructor
  · unfold Gp.dec
    rw [if_pos hm, hw]
    rfl
  · unfold Gp.app
    rw [if_neg]
    rintro ⟨-, h1, -⟩
    rw [hw] at h1
    exact absurd h1 (by decide)
end Go.Proofs.YtabnjdknnabhmaaGreat
