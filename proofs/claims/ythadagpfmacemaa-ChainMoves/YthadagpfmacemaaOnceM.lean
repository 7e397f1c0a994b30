/- Behind an Extend, and behind a Cut, each address that stays is where it was; what comes of them may be: over plain data. -/
import Derived.Test.YthadagpfmacemaaHoldM
import Derived.Test.YthadagpfmacemaaCCutF
namespace Go.Proofs.Ythadagpfmacemaa
open Go.RowKit
variable {l : List Pt} {n : Int}

/-- Firsts of parts that may be. -/
theorem partsOk.step {k : Nat} (h : partsOk n l l.length) (hk : k + 1 < l.length) : (ptAt l k).first ≤ (ptAt l (k + 1)).first ∧ (ptAt l (k + 1)).first ≤ (ptAt l k).first + 4096 := by
  have h1 := (h (k + 1) hk).2.2.2
  have e : (l.take (k + 1)).length = k + 1 := by simp; omega
  rcases h1 with h1 | ⟨h1, h2⟩
  · omega
  · unfold farF at h2
    rw [e, if_neg (by omega)] at h2
    rw [lastF_take l (k + 1) (by omega) (by omega)] at h1 h2
    exact ⟨h1, h2⟩
theorem partsOk.mono (h : partsOk n l l.length) {i j : Nat} (hij : i ≤ j) (hj : j < l.length) : (ptAt l i).first ≤ (ptAt l j).first := by
  induction j with
  | zero => obtain rfl : i = 0 := by omega
            exact Int.le_refl _
  | succ j ih =>
    by_cases e : i = j + 1
    · subst e; exact Int.le_refl _
    · exact Int.le_trans (ih (by omega) (by omega)) (h.step hj).1
theorem lastF_eq (h0 : l.length ≠ 0) : lastF l = (ptAt l (l.length - 1)).first := by unfold lastF; rw [if_neg h0]
theorem lastF_nil (h0 : l.length = 0) : lastF l = 0 := by unfold lastF; rw [if_pos h0]
/-- What an Extend that is OK says. -/
structure ExtOk (o t : Int) (l : List Pt) (n ow e id : Int) (ns : List Int) : Prop where
  may : mayC o t l n
  next : mayC ow t (extL t l e ⟨e, id, ns⟩) n
  lo : lastF l ≤ e
  tr : t ≤ e
theorem ext_ok {o t ow e id : Int} {ns : List Int} (h : extE o t l n ow e id ns = 0) : ExtOk o t l n ow e id ns := by
  unfold extE at h
  split at h
  · rename_i h1
    split at h
    · split at h
      · rename_i h3
        split at h
        · rename_i h4
          exact ⟨h1, h4, by have := h3.1; omega, by have := h3.1; omega⟩
        · cases h
      · cases h
    · cases h
  · cases h
theorem where_ext_lt {o t ow e id a : Int} {ns : List Int} (h : ExtOk o t l n ow e id ns) (ha : a < e) : whereN t (extL t l e ⟨e, id, ns⟩) a = whereN t l a := by
  have hT := h.may.2.2.1
  by_cases hat : a < 0 ∨ a < t
  · unfold whereN findN
    rw [if_pos hat, if_pos hat]
  · have e1 : holdN (extL t l e ⟨e, id, ns⟩) a = holdT l a (needN t l e) := by
      unfold holdN
      rw [extL_len, holdT, extL_new, if_neg (by show ¬ e ≤ a; omega)]
      exact holdT_congr (fun j hj => extL_old t l e _ hj)
    have e2 : holdN l a = holdT l a (needN t l e) := by
      unfold holdN
      have hn : needN t l e = (if l.length = 0 then 0 else if (ptAt l (l.length - 1)).first = e ∨ (l.length = 1 ∧ t = e) then l.length - 1 else l.length) := rfl
      by_cases h0 : l.length = 0
      · rw [hn, if_pos h0, h0]
      · rw [if_neg h0] at hn
        split at hn
        · rename_i hc
          rcases hc with hc | hc
          · obtain ⟨k, hk⟩ : ∃ k, l.length = k + 1 := ⟨l.length - 1, by omega⟩
            rw [hn, hk, holdT]
            rw [hk] at hc
            simp only [Nat.add_sub_cancel] at hc ⊢
            rw [if_neg (by omega)]
          · omega
        · rw [hn]
    unfold whereN findN
    rw [if_neg hat, if_neg hat, e1, e2]
    cases hh : holdT l a (needN t l e) with
    | none => rfl
    | some i =>
      have hi := (holdT_lt hh).1
      simp only
      rw [extL_old t l e _ hi]
      by_cases hc : (ptAt l i).first ≤ a - 4096
      · rw [if_pos hc]
      · rw [if_neg hc]
        show some ((ptAt (extL t l e ⟨e, id, ns⟩) i).id, _) = some ((ptAt l i).id, _)
        rw [extL_old t l e _ hi]
theorem where_ext_ge {o t ow e id a : Int} {ns : List Int} (h : ExtOk o t l n ow e id ns) (ha : e ≤ a) (hb : a - e < 4096) : whereN t (extL t l e ⟨e, id, ns⟩) a = some (id, a - e) := by
  have h0 : 0 ≤ t := h.may.2.1.1.1
  have ht := h.tr
  have e1 : holdN (extL t l e ⟨e, id, ns⟩) a = some (needN t l e) := by
    unfold holdN
    rw [extL_len, holdT, extL_new, if_pos ha]
  unfold whereN findN
  rw [if_neg (by omega), e1]
  simp only
  rw [extL_new, if_neg (by show ¬ e ≤ a - 4096; omega)]
  simp only
  rw [extL_new]
/-- What a Cut that is OK says. -/
structure CutOk (o t : Int) (l : List Pt) (n a : Int) : Prop where
  may : mayC o t l n
  lo : t ≤ a
  hi : a ≤ lastF l
theorem cut_ok {o t a : Int} (h : cutE o t l n a = 0) : CutOk o t l n a := by
  unfold cutE at h
  split at h
  · rename_i h1
    split at h
    · rename_i h2; exact ⟨h1, h2.1, h2.2⟩
    · cases h
  · cases h
theorem CutOk.hold {o t a : Int} (h : CutOk o t l n a) (h0 : l.length ≠ 0) : holdN l a = some (cutK l a) ∧ cutK l a < l.length ∧ (ptAt l (cutK l a)).first ≤ a ∧ ∀ j, cutK l a < j → j < l.length → a < (ptAt l j).first := by
  have ht := h.may.2.2.2
  unfold trimOk at ht
  rw [if_neg h0] at ht
  have hf := ht.2.1
  cases hh : holdN l a with
  | none =>
    have := holdT_none.1 hh 0 (by omega)
    have := h.lo
    omega
  | some k =>
    have hk : cutK l a = k := by unfold cutK; rw [hh]; rfl
    rw [hk]
    exact ⟨rfl, holdT_some.1 hh⟩
theorem where_cut {o t a x : Int} (h : CutOk o t l n a) (hx : a ≤ x) : whereN a (l.drop (cutK l a)) x = whereN t l x := by
  have h0 : 0 ≤ t := h.may.2.1.1.1
  have hl := h.lo
  by_cases hz : l.length = 0
  · obtain rfl : l = [] := List.eq_nil_of_length_eq_zero hz
    unfold whereN findN
    rw [if_neg (by omega), if_neg (by omega)]
    simp [holdN, holdT]
  · obtain ⟨-, hk, hf, hj⟩ := h.hold hz
    have hlen : (l.drop (cutK l a)).length = l.length - cutK l a := List.length_drop
    have hx1 : ∃ i, holdN l x = some i ∧ cutK l a ≤ i ∧ i < l.length := by
      cases hh : holdN l x with
      | none =>
        have := holdT_none.1 hh (cutK l a) hk
        omega
      | some i =>
        have h3 := holdT_some.1 hh
        refine ⟨i, rfl, ?_, h3.1⟩
        rcases Nat.lt_or_ge i (cutK l a) with h4 | h4
        · have := h3.2.2 (cutK l a) h4 hk; omega
        · exact h4
    obtain ⟨i, hi, hki, hil⟩ := hx1
    have h3 := holdT_some.1 hi
    have h4 : holdN (l.drop (cutK l a)) x = some (i - cutK l a) := by
      unfold holdN
      rw [holdT_some, hlen]
      refine ⟨by omega, ?_, fun j hj1 hj2 => ?_⟩
      · rw [ptAt_drop, show cutK l a + (i - cutK l a) = i by omega]; exact h3.2.1
      · rw [ptAt_drop]; exact h3.2.2 _ (by omega) (by omega)
    unfold whereN findN
    rw [if_neg (by omega), if_neg (by omega), hi, h4]
    simp only
    rw [ptAt_drop, show cutK l a + (i - cutK l a) = i by omega]
    by_cases hc : (ptAt l i).first ≤ x - 4096
    · rw [if_pos hc, if_pos hc]
    · rw [if_neg hc, if_neg hc]
      show some ((ptAt (l.drop (cutK l a)) (i - cutK l a)).id, _) = some ((ptAt l i).id, _)
      rw [ptAt_drop, show cutK l a + (i - cutK l a) = i by omega]
theorem where_cut_lt {a x : Int} {l2 : List Pt} (hx : x < a) : whereN a l2 x = none := by
  unfold whereN findN
  rw [if_pos (Or.inr hx)]
theorem may_cut {o t a : Int} (h : CutOk o t l n a) : mayC o a (l.drop (cutK l a)) n := by
  have ho := h.may.1
  have h0 : 0 ≤ t := h.may.2.1.1.1
  have hP := h.may.2.2.1
  have hlr := lastF_rng hP
  have hlo := h.lo
  have hhi := h.hi
  by_cases hz : l.length = 0
  · have e := lastF_nil hz
    obtain rfl : l = [] := List.eq_nil_of_length_eq_zero hz
    obtain rfl : a = 0 := by omega
    simp only [List.drop_nil]
    exact ⟨ho, ⟨⟨by omega, by omega⟩, by simp⟩, fun i hi => absurd hi (Nat.not_lt_zero _), by simp [trimOk]⟩
  · obtain ⟨-, hk, hf, hj⟩ := h.hold hz
    generalize cutK l a = k at *
    have hlen : (l.drop k).length = l.length - k := List.length_drop
    have hla : lastF (l.drop k) = lastF l := by
      rw [lastF_eq hz, lastF_eq (by omega), hlen, ptAt_drop, show k + (l.length - k - 1) = l.length - 1 by omega]
    refine ⟨ho, ⟨⟨by omega, by omega⟩, by have := h.may.2.1.2; omega⟩, fun i hi => ?_, ?_⟩
    · rw [hlen] at hi
      have hp := hP (k + i) (by omega)
      unfold partOk
      rw [ptAt_drop]
      refine ⟨hp.1, hp.2.1, fun q hq => ?_, ?_⟩
      · obtain ⟨j, hj1, hj2⟩ := mem_ptAt hq
        rw [List.length_take, hlen] at hj1
        rw [ptAt_take _ _ _ (by omega), ptAt_drop] at hj2
        apply hp.2.2.1
        rw [← hj2]
        have := ptAt_mem (l.take (k + i)) (k + j) (by rw [List.length_take]; omega)
        rw [ptAt_take _ _ _ (by omega)] at this
        exact this
      · by_cases hi0 : i = 0
        · subst hi0; exact Or.inl (by simp)
        · have hs := hP.step (k := k + i - 1) (by omega)
          rw [show k + i - 1 + 1 = k + i by omega] at hs
          have e1 : lastF ((l.drop k).take i) = (ptAt l (k + i - 1)).first := by
            rw [lastF_take _ i (by omega) (by omega), ptAt_drop, show k + (i - 1) = k + i - 1 by omega]
          refine Or.inr ⟨by rw [e1]; exact hs.1, ?_⟩
          unfold farF
          rw [if_neg (by rw [List.length_take]; omega), e1]
          exact hs.2
    · unfold trimOk
      rw [if_neg (by omega)]
      refine ⟨fun hc => ?_, by rw [ptAt_drop]; exact hf, ?_⟩
      · have h5 := hj (k + 1) (by omega) (by omega)
        rw [ptAt_drop] at hc
        omega
      · unfold farF
        rw [if_neg (by omega), hla]
        omega
end Go.Proofs.Ythadagpfmacemaa
