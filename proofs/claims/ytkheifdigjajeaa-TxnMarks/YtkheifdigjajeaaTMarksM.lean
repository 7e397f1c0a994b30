/- A book with one producer: its places as they are added and marked (P1608), as plain data. -/
import Derived.Test.YtkheifdigjajeaaTKnows
namespace Go.Proofs.Ytkheifdigjajeaa
open Go.RowKit
variable {pl : List Int} {p : Int} {yes : Bool}

noncomputable def mB (st : Int) (pl : List Int) : Bk := ⟨[⟨10, 0, st, 0, pl⟩], kN⟩
/-- .. whose transaction is open, if it has places. -/
noncomputable def mO (pl : List Int) : Bk := mB (if pl = [] then 0 else 1) pl
/-- .. whose transaction is decided, if it has places. -/
noncomputable def mE (yes : Bool) (pl : List Int) : Bk := mB (if pl = [] then 0 else outc yes) pl
def addP (pl : List Int) (p : Int) : List Int := if pl.contains p then pl else insZ pl (cntP p pl) p
def mx2 (p : Int) : Ev := ⟨2, [], 0, 0, p, 0, 0, false⟩
def mx3 (yes : Bool) : Ev := ⟨3, [], 0, 0, 0, 0, 0, yes⟩
def mx4 (p : Int) : Ev := ⟨4, [], 0, 0, p, 0, 0, false⟩
theorem in0 : inN 0 := by unfold inN; omega
theorem mx2_may (hp : inN p) : (mx2 p).may := ⟨(show (1 : Int) ≤ 2 ∧ (2 : Int) ≤ 5 by decide), rfl, fun h => absurd h (show ¬ (2 : Int) = 1 by decide), ⟨in0, in0, hp, in0, in0⟩, (show (0 : Int) ≤ 2147483647 by decide)⟩
theorem mx3_may : (mx3 yes).may := ⟨(show (1 : Int) ≤ 3 ∧ (3 : Int) ≤ 5 by decide), rfl, fun h => absurd h (show ¬ (3 : Int) = 1 by decide), ⟨in0, in0, in0, in0, in0⟩, (show (0 : Int) ≤ 2147483647 by decide)⟩
theorem mx4_may (hp : inN p) : (mx4 p).may := ⟨(show (1 : Int) ≤ 4 ∧ (4 : Int) ≤ 5 by decide), rfl, fun h => absurd h (show ¬ (4 : Int) = 1 by decide), ⟨in0, in0, hp, in0, in0⟩, (show (0 : Int) ≤ 2147483647 by decide)⟩
theorem mB_ask2 (st : Int) : (mB st pl).ask (mx2 p) = ask2 ⟨10, 0, st, 0, pl⟩ (mx2 p) := rfl
theorem mB_ask3 (st : Int) : (mB st pl).ask (mx3 yes) = ask3 ⟨10, 0, st, 0, pl⟩ (mx3 yes) := rfl
theorem mB_ask4 (st : Int) : (mB st pl).ask (mx4 p) = ask4 ⟨10, 0, st, 0, pl⟩ (mx4 p) := rfl
theorem m1 : kB1 = mO [] := rfl
/-- One place more. -/
theorem m_add (hp : inN p) (hl : pl.length ≤ 50) : ((mO pl).dec (mx2 p)).2 = 0 ∧ (mO pl).app (mx2 p) = mO (addP pl p) := by
  have hd : (⟨10, 0, (if pl = [] then 0 else 1), 0, pl⟩ : Pr).dec = false := by
    unfold Pr.dec
    by_cases h : pl = []
    · simp [h]
    · simp [h]
  have ea : (mO pl).dec (mx2 p) = (if pl.contains p then (true, 0) else (false, 0)) := by
    unfold Bk.dec
    rw [if_pos (mx2_may hp)]
    show ask2 ⟨10, 0, (if pl = [] then 0 else 1), 0, pl⟩ (mx2 p) = _
    unfold ask2
    rw [hd, if_neg (by decide)]
    show (if pl.contains p then ((true, 0) : Bool × Int) else if pl.length = 100 then (false, 7) else (false, 0)) = _
    rw [if_neg (show ¬ pl.length = 100 by omega)]
  cases hc : pl.contains p with
  | true =>
    rw [hc] at ea
    refine ⟨by rw [ea]; rfl, ?_⟩
    rw [app_no (by rw [ea]; decide)]
    unfold addP
    rw [hc]; rfl
  | false =>
    rw [hc] at ea
    refine ⟨by rw [ea]; rfl, ?_⟩
    rw [app_yes (by rw [ea]; rfl)]
    have e2 : addP pl p = insZ pl (cntP p pl) p := by unfold addP; rw [hc]; rfl
    have hne : insZ pl (cntP p pl) p ≠ [] := fun h => by have := congrArg List.length h; rw [insZ_len] at this; simp at this
    rw [e2]
    unfold mO
    rw [if_neg hne]
    show (⟨[Pr.add ⟨10, 0, (if pl = [] then 0 else 1), 0, pl⟩ p 0], kN⟩ : Bk) = _
    unfold Pr.add Pr.open mB
    by_cases h : pl = []
    · simp [h]
    · simp [h]
theorem addP_len (pl : List Int) (p : Int) : (addP pl p).length = if pl.contains p then pl.length else pl.length + 1 := by
  unfold addP
  split
  · rfl
  · rw [insZ_len]
theorem insZ_mem (i : Nat) (q : Int) : q ∈ insZ pl i p ↔ q = p ∨ q ∈ pl := by
  unfold insZ
  rw [List.mem_append, List.mem_cons]
  constructor
  · rintro (h | h | h)
    · exact Or.inr (List.mem_of_mem_take h)
    · exact Or.inl h
    · exact Or.inr (List.mem_of_mem_drop h)
  · rintro (h | h)
    · exact Or.inr (Or.inl h)
    · rw [← List.take_append_drop i pl, List.mem_append] at h
      exact h.elim Or.inl (fun h => Or.inr (Or.inr h))
theorem addP_mem (q : Int) : q ∈ addP pl p ↔ q = p ∨ q ∈ pl := by
  unfold addP
  cases hc : pl.contains p with
  | true =>
    have : p ∈ pl := by simpa using hc
    simp only [if_true]
    exact ⟨Or.inr, fun h => h.elim (fun e => e ▸ this) id⟩
  | false => exact insZ_mem _ _
theorem addP_rise (h : pl.Pairwise (· < ·)) : (addP pl p).Pairwise (· < ·) := by
  unfold addP
  cases hc : pl.contains p with
  | true => exact h
  | false => exact insZ_rise h hc
/-- The end. -/
theorem m_end : ((mO pl).dec (mx3 yes)).2 = 0 ∧ (mO pl).app (mx3 yes) = mE yes pl := by
  by_cases h : pl = []
  · subst h
    have e : (mO []).dec (mx3 yes) = (true, 0) := by
      unfold Bk.dec
      rw [if_pos mx3_may]
      rfl
    exact ⟨by rw [e], app_no (by rw [e]; decide)⟩
  · have e : (mO pl).dec (mx3 yes) = (false, 0) := by
      unfold Bk.dec
      rw [if_pos mx3_may]
      show ask3 ⟨10, 0, (if pl = [] then 0 else 1), 0, pl⟩ (mx3 yes) = _
      rw [if_neg h]
      rfl
    refine ⟨by rw [e], ?_⟩
    rw [app_yes e]
    show (⟨[Pr.decide ⟨10, 0, (if pl = [] then 0 else 1), 0, pl⟩ yes], kN⟩ : Bk) = _
    unfold Pr.decide Pr.settle mE mB
    rw [if_neg h, if_neg h, if_neg (by show ¬ pl.length = 0; simpa using h)]
theorem mE_todo : (mE yes pl).todo = pl.map (fun x => (⟨0, 0, x, yes⟩ : Td)) := by
  by_cases h : pl = []
  · subst h; rfl
  · unfold mE
    rw [if_neg h]
    show todoP 0 ⟨10, 0, outc yes, 0, pl⟩ ++ [] = _
    cases yes <;> simp [todoP, Pr.dec, outc]
theorem mE_st : (mE yes pl).stA 0 = (if pl = [] then 0 else outc yes) ∧ (mE yes pl).epA 0 = 0 ∧ (mE yes pl).isA 0 = true := ⟨rfl, rfl, rfl⟩
/-- One place is marked. -/
theorem m_mark (hr : pl.Pairwise (· < ·)) (hp : inN p) (hm : p ∈ pl) : ((mE yes pl).dec (mx4 p)).2 = 0 ∧ (mE yes pl).app (mx4 p) = mE yes (pl.erase p) := by
  have h : pl ≠ [] := fun e => by rw [e] at hm; cases hm
  have hd : (⟨10, 0, outc yes, 0, pl⟩ : Pr).dec = true := by cases yes <;> rfl
  have e : (mE yes pl).dec (mx4 p) = (false, 0) := by
    unfold Bk.dec
    rw [if_pos (mx4_may hp)]
    show ask4 ⟨10, 0, (if pl = [] then 0 else outc yes), 0, pl⟩ (mx4 p) = _
    rw [if_neg h]
    unfold ask4
    rw [hd]
    have : pl.contains p = true := by simpa using hm
    show (!true || !pl.contains p, (0 : Int)) = _
    rw [this]; rfl
  refine ⟨by rw [e], ?_⟩
  rw [app_yes e]
  obtain ⟨-, e2⟩ := erase_cnt hr hm
  show (⟨[Pr.mark ⟨10, 0, (if pl = [] then 0 else outc yes), 0, pl⟩ p], kN⟩ : Bk) = _
  unfold Pr.mark Pr.settle mE mB
  rw [if_neg h]
  dsimp only
  rw [e2]
  by_cases h0 : pl.erase p = []
  · rw [h0]; rfl
  · rw [if_neg (by simpa using h0), if_neg h0]
theorem erase_mem (hr : pl.Pairwise (· < ·)) (q : Int) : q ∈ pl.erase p ↔ q ≠ p ∧ q ∈ pl := by
  have hn : pl.Nodup := hr.imp (fun h => by omega)
  exact hn.mem_erase_iff
end Go.Proofs.Ytkheifdigjajeaa
