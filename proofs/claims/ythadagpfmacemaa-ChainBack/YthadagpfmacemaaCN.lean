/- Chains as plain data: which may be, where addresses are, what becomes of them. -/
import Derived.Test.YthadagpfmacemaaLCheck
namespace Go.Proofs.Ythadagpfmacemaa
open Go.RowKit

theorem hid {p : Prop} (h : p) : Hid p := h
/-- A part. -/
structure Pt where
  first : Int
  id : Int
  nodes : List Int
/-- No part. -/
def pt0 : Pt := ⟨0, 0, []⟩
/-- A chain. -/
structure Ch where
  owner : Int
  trim : Int
  parts : List Pt
def ptAt (l : List Pt) (i : Nat) : Pt := l.getD i pt0
theorem ptAt_take (l : List Pt) (j i : Nat) (h : i < j) : ptAt (l.take j) i = ptAt l i := by
  unfold ptAt; rw [List.getD_eq_getElem?_getD, List.getD_eq_getElem?_getD, List.getElem?_take, if_pos h]
theorem ptAt_drop (l : List Pt) (j i : Nat) : ptAt (l.drop j) i = ptAt l (j + i) := by
  unfold ptAt; rw [List.getD_eq_getElem?_getD, List.getD_eq_getElem?_getD, List.getElem?_drop]
theorem ptAt_mem (l : List Pt) (j : Nat) (h : j < l.length) : ptAt l j ∈ l := by
  unfold ptAt; rw [List.getD_eq_getElem?_getD, List.getElem?_eq_getElem h]; exact List.getElem_mem h
theorem ptAt_snoc (l : List Pt) (p : Pt) : ptAt (l ++ [p]) l.length = p := by
  unfold ptAt; rw [List.getD_eq_getElem?_getD, List.getElem?_append_right (Nat.le_refl _)]; simp
theorem ptAt_left (l m : List Pt) (i : Nat) (h : i < l.length) : ptAt (l ++ m) i = ptAt l i := by
  unfold ptAt; rw [List.getD_eq_getElem?_getD, List.getD_eq_getElem?_getD, List.getElem?_append_left h]
theorem take_snocP (l : List Pt) (j : Nat) (h : j < l.length) : l.take (j + 1) = l.take j ++ [ptAt l j] := by
  unfold ptAt; rw [List.take_succ_eq_append_getElem h, List.getD_eq_getElem?_getD, List.getElem?_eq_getElem h]; rfl
theorem mem_ptAt {l : List Pt} {p : Pt} (h : p ∈ l) : ∃ i, i < l.length ∧ ptAt l i = p := by
  obtain ⟨i, hi, e⟩ := List.getElem_of_mem h
  exact ⟨i, hi, by unfold ptAt; rw [List.getD_eq_getElem?_getD, List.getElem?_eq_getElem hi]; exact e⟩
/-- The last First; 0 without parts. -/
def lastF (l : List Pt) : Int := if l.length = 0 then 0 else (ptAt l (l.length - 1)).first
/-- Where the parts end if the last one is full. -/
def farF (l : List Pt) : Int := if l.length = 0 then 0 else lastF l + 4096
/-- Number n is one. -/
def isN (n : Int) : Prop := 0 ≤ n ∧ n < 281474976710656
instance (n : Int) : Decidable (isN n) := by unfold isN; infer_instance
/-- No part has that ID. -/
def newId (id : Int) (l : List Pt) : Prop := ∀ q ∈ l, q.id ≠ id
instance (id : Int) (l : List Pt) : Decidable (newId id l) := by unfold newId; infer_instance
/-- A part may begin at f behind those of l. -/
def followsP (f : Int) (l : List Pt) : Prop := l.length = 0 ∨ (lastF l ≤ f ∧ f ≤ farF l)
instance (f : Int) (l : List Pt) : Decidable (followsP f l) := by unfold followsP; infer_instance
/-- Part i may be. -/
def partOk (n : Int) (l : List Pt) (i : Nat) : Prop := isN (ptAt l i).first ∧ checkL (ptAt l i).id (ptAt l i).nodes n = 0 ∧ newId (ptAt l i).id (l.take i) ∧ followsP (ptAt l i).first (l.take i)
instance (n : Int) (l : List Pt) (i : Nat) : Decidable (partOk n l i) := by unfold partOk; infer_instance
/-- The Trim lies in the first part. -/
def trimOk (t : Int) (l : List Pt) : Prop := if l.length = 0 then t = 0 else ¬ (1 < l.length ∧ (ptAt l 1).first ≤ t) ∧ (ptAt l 0).first ≤ t ∧ t ≤ farF l
instance (t : Int) (l : List Pt) : Decidable (trimOk t l) := by unfold trimOk; infer_instance
/-- The first j parts may be. -/
def partsOk (n : Int) (l : List Pt) (j : Nat) : Prop := ∀ i, i < j → partOk n l i
instance (n : Int) (l : List Pt) (j : Nat) : Decidable (partsOk n l j) := by unfold partsOk; infer_instance
/-- A chain that may be. -/
def mayC (o t : Int) (l : List Pt) (n : Int) : Prop := (0 ≤ o ∧ o ≤ 15) ∧ (isN t ∧ l.length ≤ 64) ∧ partsOk n l l.length ∧ trimOk t l
instance (o t : Int) (l : List Pt) (n : Int) : Decidable (mayC o t l n) := by unfold mayC; infer_instance
theorem isN_dec (n : Int) : decide (isN n) = (decide (0 ≤ n) && decide (n < 281474976710656)) := by rw [Bool.eq_iff_iff]; simp only [decide_eq_true_eq, Bool.and_eq_true]; exact Iff.rfl
theorem follows_dec {f : Int} {l : List Pt} (h : l.length ≠ 0) : decide (followsP f l) = (decide (lastF l ≤ f) && decide (f ≤ farF l)) := by rw [Bool.eq_iff_iff]; simp [followsP, h]
theorem trim_dec0 {t : Int} {l : List Pt} (h : l.length = 0) : decide (trimOk t l) = (t == 0) := by rw [Bool.eq_iff_iff]; simp [trimOk, h]
theorem trim_dec1 {t : Int} {l : List Pt} (h : 1 < l.length) (h1 : (ptAt l 1).first ≤ t) : decide (trimOk t l) = false := decide_eq_false (fun h2 => by unfold trimOk at h2; rw [if_neg (by omega)] at h2; exact h2.1 ⟨h, h1⟩)
theorem trim_dec {t : Int} {l : List Pt} (h : l.length ≠ 0) (h1 : ¬ (1 < l.length ∧ (ptAt l 1).first ≤ t)) : decide (trimOk t l) = (decide ((ptAt l 0).first ≤ t) && decide (t ≤ farF l)) := by rw [Bool.eq_iff_iff]; simp only [trimOk, h, if_false]; simp [h1]
theorem partsOk.more {n : Int} {l : List Pt} {j : Nat} (h : partsOk n l j) (h1 : partOk n l j) : partsOk n l (j + 1) := by
  intro i hi
  by_cases e : i = j
  · subst e; exact h1
  · exact h i (by omega)
theorem lastF_take (l : List Pt) (j : Nat) (h0 : 0 < j) (hj : j ≤ l.length) : lastF (l.take j) = (ptAt l (j - 1)).first := by
  unfold lastF
  have e : (l.take j).length = j := by simp; omega
  rw [e, if_neg (by omega), ptAt_take l j (j - 1) (by omega)]
theorem lastF_take_rng {n : Int} {l : List Pt} {j : Nat} (h : partsOk n l j) (hj : j ≤ l.length) : 0 ≤ lastF (l.take j) ∧ lastF (l.take j) < 281474976710656 := by
  by_cases h0 : j = 0
  · subst h0; unfold lastF; simp
  · rw [lastF_take l j (by omega) hj]
    exact (h (j - 1) (by omega)).1
theorem lastF_rng {n : Int} {l : List Pt} (h : partsOk n l l.length) : 0 ≤ lastF l ∧ lastF l < 281474976710656 := by
  have := lastF_take_rng h (Nat.le_refl _)
  rwa [List.take_length] at this
end Go.Proofs.Ythadagpfmacemaa
