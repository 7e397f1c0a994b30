/- How package batch reads: a Record is dead just if its byte is 1. What comes of it is what the document says. -/
import Derived.Test.YtmkdkclakndkpaaBatchMath
namespace Go.Proofs.Ytmkdkclakndkpaa
open Go.RowKit

/-- The Record at p as package batch reads it. -/
def recAt1 (l : List Nat) (p : Nat) : Option (Rec × Nat) := (recAt l p).map fun x => (⟨x.1.key, x.1.val, l.getD p 0 == 1⟩, x.2)
def readN1 (l : List Nat) (p : Nat) : Nat → Option (List Rec × Nat)
  | 0 => some ([], p)
  | n + 1 => match readN1 l p n with
    | none => none
    | some (rs, q) => match recAt1 l q with
      | none => none
      | some (r, q') => some (rs ++ [r], q')
/-- Both read as far as the other. -/
theorem readN1_place (l : List Nat) (p n : Nat) : (readN1 l p n).map (·.2) = (readN l p n).map (·.2) := by
  induction n with
  | zero => rfl
  | succ n ih =>
    rw [readN1, readN]
    cases h1 : readN1 l p n with
    | none =>
      rw [h1] at ih
      cases h2 : readN l p n with
      | none => rfl
      | some x => rw [h2] at ih; cases ih
    | some x =>
      obtain ⟨rs, q⟩ := x
      rw [h1] at ih
      cases h2 : readN l p n with
      | none => rw [h2] at ih; cases ih
      | some y =>
        obtain ⟨ss, q2⟩ := y
        rw [h2] at ih
        simp only [Option.map_some, Option.some.injEq] at ih
        subst ih
        simp only
        unfold recAt1
        cases recAt l q with
        | none => rfl
        | some z => rfl
theorem recAt1_back (A B : List Nat) (r : Rec) (p : Nat) (hp : A.length = p) (hk : r.key.size ≤ 65535) (hv : r.val.size ≤ 65535) (q : Nat) (h : recAt (A ++ (recBs r ++ B)) p = some (r, q)) : recAt1 (A ++ (recBs r ++ B)) p = some (r, q) := by
  unfold recAt1
  rw [h]
  have e : (A ++ (recBs r ++ B)).getD p 0 = if r.dead then 1 else 0 := by
    rw [List.getD_eq_getElem?_getD, List.getElem?_append_right (by omega), hp, Nat.sub_self, recBs]
    rfl
  simp only [Option.map_some]
  rw [e]
  obtain ⟨a, b, c⟩ := r
  cases c <;> rfl
theorem readN1_back (A : List Nat) (p : Nat) (hp : A.length = p) (rs : List Rec) (ok : ∀ r ∈ rs, r.key.size ≤ 65535 ∧ r.val.size ≤ 65535) (B : List Nat) :
    ∀ k, k ≤ rs.length → readN1 (A ++ (recsBs rs ++ B)) p k = some (rs.take k, p + (recsBs (rs.take k)).length) := by
  intro k
  induction k with
  | zero => intro _; simp [readN1, recsBs]
  | succ k ih =>
    intro hk
    rw [readN1, ih (by omega)]
    simp only
    have hlt : k < rs.length := by omega
    have e : rs = rs.take k ++ (rs[k] :: rs.drop (k + 1)) := by rw [List.getElem_cons_drop, List.take_append_drop]
    have hA : A ++ (recsBs rs ++ B) = (A ++ recsBs (rs.take k)) ++ (recBs rs[k] ++ (recsBs (rs.drop (k + 1)) ++ B)) := by
      conv => lhs; rw [e]
      rw [recsBs_append, recsBs]
      simp only [List.append_assoc]
    obtain ⟨o1, o2⟩ := ok rs[k] (List.getElem_mem hlt)
    rw [hA, recAt1_back _ _ _ _ (by rw [List.length_append, hp]) o1 o2 _ (recAt_back _ _ _ _ (by rw [List.length_append, hp]) o1 o2)]
    simp only
    rw [List.take_succ_eq_append_getElem hlt, recsBs_append, recsBs_one, List.length_append, Nat.add_assoc]
theorem readN1_write (b : Bat) (h : checkN b = 0) : readN1 (writeN b) 18 (toldRecs (writeN b)) = some (b.recs, 18 + recsSize b.recs) := by
  have ht : toldRecs (writeN b) = b.recs.length := told_back b _ (by have := (checkN_nums h).2.2.2.2.2.2.2.1; omega)
  have hk := readN1_back (headBs b) 18 (headBs_length b) b.recs (recs_ok h) [] b.recs.length (Nat.le_refl _)
  rw [List.take_length, recsBs_length, List.append_nil] at hk
  rw [ht]
  exact hk
open Classical in
/-- Decode as package batch does it. -/
noncomputable def decode1 (l : List Nat) : Bat × Int :=
  if l.length < 18 then (bat0, 20)
  else match readN1 l 18 (toldRecs l) with
    | none => (bat0, 20)
    | some (rs, _) => if checkN (batOf l rs) = 0 ∧ writeN (batOf l rs) = l then (batOf l rs, 0) else (bat0, 22)
theorem decode1_eq (l : List Nat) : decode1 l = decodeN l := by
  unfold decode1
  by_cases h : l.length < 18
  · rw [if_pos h, decodeN_err l h]
  · rw [if_neg h]
    have hp := readN1_place l 18 (toldRecs l)
    cases h1 : readN1 l 18 (toldRecs l) with
    | none =>
      rw [h1] at hp
      cases h2 : readN l 18 (toldRecs l) with
      | none => rw [decodeN_end l h h2]
      | some x => rw [h2] at hp; cases hp
    | some x =>
      obtain ⟨rs, q⟩ := x
      rw [h1] at hp
      cases h2 : readN l 18 (toldRecs l) with
      | none => rw [h2] at hp; cases hp
      | some y =>
        obtain ⟨ss, q2⟩ := y
        simp only
        by_cases hc : checkN (batOf l rs) = 0 ∧ writeN (batOf l rs) = l
        · rw [if_pos hc]
          have hd := decode_back (batOf l rs) hc.1
          rw [hc.2] at hd
          exact hd.symm
        · rw [if_neg hc]
          by_cases hc2 : checkN (batOf l ss) = 0 ∧ writeN (batOf l ss) = l
          · exfalso
            apply hc
            have hw := readN1_write _ hc2.1
            rw [hc2.2, h1] at hw
            have e : rs = ss := (Prod.mk.inj (Option.some.inj hw)).1
            rw [e]
            exact hc2
          · rw [decodeN_form l ss q2 h h2 hc2]
end Go.Proofs.Ytmkdkclakndkpaa
