/- A chain that is extended again and again: over plain data. -/
import Derived.Test.YtgkabdmeggaphabHoldM
import Derived.Test.YtgkabdmeggaphabLKnow
import Derived.Test.YtgkabdmeggaphabCChk
namespace Go.Proofs.Ytgkabdmeggaphab
open Go.RowKit
variable {l : List Pt} {n : Int}

/-- How much a length adds. -/
def dN (x : Int) : Int := (x.tmod 4097 + 4097).tmod 4097
theorem dN_rng (x : Int) : 0 ≤ dN x ∧ dN x ≤ 4096 := by
  unfold dN
  have h1 : -4097 < x.tmod 4097 ∧ x.tmod 4097 < 4097 := by
    constructor
    · have := Int.lt_tmod_of_pos x (show (0 : Int) < 4097 by omega); omega
    · exact Int.tmod_lt_of_pos x (by omega)
  have h2 : 0 ≤ x.tmod 4097 + 4097 := by omega
  rw [Int.tmod_eq_emod_of_nonneg h2]
  omega
/-- Where part k begins. -/
def endsN (xs : List Int) : Nat → Int
  | 0 => 0
  | k + 1 => endsN xs k + dN (xs.getD k 0)
theorem endsN_step (xs : List Int) (k : Nat) : endsN xs k ≤ endsN xs (k + 1) ∧ endsN xs (k + 1) ≤ endsN xs k + 4096 := by
  have := dN_rng (xs.getD k 0)
  rw [endsN]
  omega
theorem endsN_mono (xs : List Int) {i j : Nat} (h : i ≤ j) : endsN xs i ≤ endsN xs j := by
  induction j with
  | zero => obtain rfl : i = 0 := by omega
            exact Int.le_refl _
  | succ j ih =>
    by_cases e : i = j + 1
    · subst e; exact Int.le_refl _
    · exact Int.le_trans (ih (by omega)) (endsN_step xs j).1
theorem endsN_rng (xs : List Int) (k : Nat) : 0 ≤ endsN xs k ∧ endsN xs k ≤ 4096 * k := by
  induction k with
  | zero => exact ⟨Int.le_refl _, by simp [endsN]⟩
  | succ k ih =>
    have := endsN_step xs k
    omega
/-- The parts behind k Extends. -/
def growsN (xs : List Int) : Nat → List Pt
  | 0 => []
  | k + 1 => extL 0 (growsN xs k) (endsN xs k) ⟨endsN xs k, (k : Int), [0, 1, 2]⟩
/-- What is known of them. -/
structure GI (xs : List Int) (k : Nat) (L : List Pt) : Prop where
  len : L.length ≤ k
  pos : 1 ≤ k → 1 ≤ L.length
  part : ∀ j, j < L.length → ∃ i : Nat, i < k ∧ ptAt L j = ⟨endsN xs i, (i : Int), [0, 1, 2]⟩
  strict : ∀ j, j + 1 < L.length → (ptAt L j).first < (ptAt L (j + 1)).first ∧ (ptAt L (j + 1)).first ≤ (ptAt L j).first + 4096 ∧ (ptAt L j).id < (ptAt L (j + 1)).id
  first : 1 ≤ k → (ptAt L 0).first = 0
  last : 1 ≤ k → ptAt L (L.length - 1) = ⟨endsN xs (k - 1), ((k - 1 : Nat) : Int), [0, 1, 2]⟩
  cover : ∀ i, i < k → (i + 1 = k ∨ endsN xs i < endsN xs (i + 1)) → ∃ j, j < L.length ∧ ptAt L j = ⟨endsN xs i, (i : Int), [0, 1, 2]⟩
theorem GI.incr {xs : List Int} {k : Nat} (h : GI xs k l) {i j : Nat} (hij : i < j) (hj : j < l.length) : (ptAt l i).first < (ptAt l j).first ∧ (ptAt l i).id < (ptAt l j).id := by
  induction j with
  | zero => omega
  | succ j ih =>
    have hs := h.strict j hj
    by_cases e : i = j
    · subst e; exact ⟨hs.1, hs.2.2⟩
    · have := ih (by omega) (by omega)
      exact ⟨by omega, by omega⟩
theorem check_012 {id : Int} (h0 : 0 ≤ id) (h1 : id < 281474976710656) : checkL id [0, 1, 2] 3 = 0 := by
  unfold checkL
  rw [if_pos ⟨h0, h1, by decide, by decide, by decide⟩]
theorem GI.may {xs : List Int} {k : Nat} (h : GI xs k l) (hk : k ≤ 60) {o : Int} (ho : 0 ≤ o ∧ o ≤ 15) : mayC o 0 l 3 := by
  have hl := h.len
  refine ⟨ho, ⟨⟨by omega, by omega⟩, by omega⟩, fun j hj => ?_, ?_⟩
  · obtain ⟨i, hi, e⟩ := h.part j hj
    have hr := endsN_rng xs i
    have hf : (ptAt l j).first = endsN xs i := by rw [e]
    unfold partOk
    refine ⟨?_, ?_, ?_, ?_⟩
    · rw [hf]; exact ⟨by omega, by omega⟩
    · rw [e]; exact check_012 (by show (0 : Int) ≤ (i : Int); omega) (by show (i : Int) < _; omega)
    · intro q hq
      obtain ⟨j', hj1, hj2⟩ := mem_ptAt hq
      rw [List.length_take] at hj1
      rw [ptAt_take _ _ _ (by omega)] at hj2
      have := (h.incr (show j' < j by omega) hj).2
      rw [← hj2]
      omega
    · by_cases h0 : j = 0
      · subst h0; exact Or.inl (by simp)
      · have hs := h.strict (j - 1) (by omega)
        rw [show j - 1 + 1 = j by omega] at hs
        have e1 : lastF (l.take j) = (ptAt l (j - 1)).first := lastF_take l j (by omega) (by omega)
        refine Or.inr ⟨by rw [e1]; omega, ?_⟩
        unfold farF
        rw [if_neg (by rw [List.length_take]; omega), e1]
        omega
  · unfold trimOk
    by_cases h0 : l.length = 0
    · rw [if_pos h0]
    · rw [if_neg h0]
      have hk1 : 1 ≤ k := by omega
      have hf := h.first hk1
      have hla := h.last hk1
      refine ⟨fun hc => ?_, by omega, ?_⟩
      · have h1 := (h.strict 0 (by omega)).1
        rw [Nat.zero_add] at h1
        omega
      · unfold farF
        rw [if_neg h0]
        unfold lastF
        rw [if_neg h0, hla]
        have := endsN_rng xs (k - 1)
        show 0 ≤ endsN xs (k - 1) + 4096
        omega
theorem GI.zero (xs : List Int) : GI xs 0 [] := ⟨Nat.le_refl _, fun h => by omega, fun j hj => absurd hj (Nat.not_lt_zero _), fun j hj => absurd hj (by simp), fun h => by omega, fun h => by omega, fun i hi => absurd hi (Nat.not_lt_zero _)⟩
theorem needG {xs : List Int} {k : Nat} (h : GI xs k l) : (l.length = 0 ∧ k = 0 ∧ needN 0 l (endsN xs k) = 0) ∨ (1 ≤ k ∧ 1 ≤ l.length ∧ endsN xs (k - 1) = endsN xs k ∧ needN 0 l (endsN xs k) = l.length - 1) ∨ (1 ≤ k ∧ 1 ≤ l.length ∧ endsN xs (k - 1) < endsN xs k ∧ needN 0 l (endsN xs k) = l.length) := by
  by_cases h0 : l.length = 0
  · have hk : k = 0 := by
      rcases Nat.eq_zero_or_pos k with hk | hk
      · exact hk
      · have := h.pos hk; omega
    exact Or.inl ⟨h0, hk, by unfold needN; rw [if_pos h0]⟩
  · have hk : 1 ≤ k := by have := h.len; omega
    have hla := h.last hk
    have hlf : (ptAt l (l.length - 1)).first = endsN xs (k - 1) := by rw [hla]
    have hst := (endsN_step xs (k - 1)).1
    rw [show k - 1 + 1 = k by omega] at hst
    right
    by_cases he : endsN xs (k - 1) = endsN xs k
    · exact Or.inl ⟨hk, by omega, he, by unfold needN; rw [if_neg h0, if_pos (Or.inl (by rw [hlf]; exact he))]⟩
    · refine Or.inr ⟨hk, by omega, by omega, ?_⟩
      unfold needN
      rw [if_neg h0, if_neg]
      rintro (hc | ⟨h1, h2⟩)
      · rw [hlf] at hc; exact he hc
      · have hf := h.first hk
        rw [h1] at hlf
        simp only [Nat.sub_self] at hlf
        omega
theorem GI.step {xs : List Int} {k : Nat} (h : GI xs k l) : GI xs (k + 1) (extL 0 l (endsN xs k) ⟨endsN xs k, (k : Int), [0, 1, 2]⟩) := by
  obtain ⟨nd, hnd⟩ : ∃ nd, needN 0 l (endsN xs k) = nd := ⟨_, rfl⟩
  have hlen := extL_len 0 l (endsN xs k) ⟨endsN xs k, (k : Int), [0, 1, 2]⟩
  have hold := fun j => @extL_old 0 l (endsN xs k) ⟨endsN xs k, (k : Int), [0, 1, 2]⟩ j
  have hnew := extL_new 0 l (endsN xs k) ⟨endsN xs k, (k : Int), [0, 1, 2]⟩
  have hle := needN_le 0 l (endsN xs k)
  have hg := needG h
  rw [hnd] at hlen hold hnew hle hg
  generalize extL 0 l (endsN xs k) ⟨endsN xs k, (k : Int), [0, 1, 2]⟩ = L at *
  have hl := h.len
  refine ⟨by omega, fun _ => by omega, fun j hj => ?_, fun j hj => ?_, fun _ => ?_, fun _ => ?_, fun i hi hc => ?_⟩
  · by_cases e : j = nd
    · subst e; exact ⟨k, by omega, hnew⟩
    · rw [hold j (by omega)]
      obtain ⟨i, hi, e2⟩ := h.part j (by omega)
      exact ⟨i, by omega, e2⟩
  · by_cases e : j + 1 = nd
    · rw [e, hnew, hold j (by omega)]
      rcases hg with ⟨h1, h2, h3⟩ | ⟨h1, h2, h3, h4⟩ | ⟨h1, h2, h3, h4⟩
      · omega
      · have hs := h.strict j (by omega)
        have hla := h.last h1
        rw [show l.length - 1 = j + 1 by omega] at hla
        rw [hla] at hs
        simp only at hs ⊢
        omega
      · have hla := h.last h1
        have hst := (endsN_step xs (k - 1)).2
        rw [show k - 1 + 1 = k by omega] at hst
        rw [show l.length - 1 = j by omega] at hla
        rw [hla]
        simp only
        omega
    · rw [hold j (by omega), hold (j + 1) (by omega)]
      exact h.strict j (by omega)
  · by_cases e : nd = 0
    · rw [← e, hnew]
      show endsN xs k = 0
      rcases hg with ⟨h1, h2, h3⟩ | ⟨h1, h2, h3, h4⟩ | ⟨h1, h2, h3, h4⟩
      · subst h2; rfl
      · have hla := h.last h1
        have hf := h.first h1
        rw [show l.length - 1 = 0 by omega] at hla
        rw [hla] at hf
        simp only at hf
        omega
      · omega
    · rw [hold 0 (by omega)]
      rcases hg with ⟨h1, h2, h3⟩ | ⟨h1, h2, h3, h4⟩ | ⟨h1, h2, h3, h4⟩
      · omega
      · exact h.first h1
      · exact h.first h1
  · rw [hlen, Nat.add_sub_cancel, Nat.add_sub_cancel]; exact hnew
  · by_cases e : i = k
    · subst e; exact ⟨nd, by omega, hnew⟩
    · have hc2 : endsN xs i < endsN xs (i + 1) := by
        rcases hc with hc | hc
        · omega
        · exact hc
      obtain ⟨j, hj, e2⟩ := h.cover i (by omega) (Or.inr hc2)
      have hjn : j < nd := by
        rcases hg with ⟨h1, h2, h3⟩ | ⟨h1, h2, h3, h4⟩ | ⟨h1, h2, h3, h4⟩
        · omega
        · rcases Nat.lt_or_ge j nd with hlt | hge
          · exact hlt
          · have hla := h.last h1
            rw [show l.length - 1 = j by omega, e2] at hla
            simp only [Pt.mk.injEq] at hla
            have hik : i = k - 1 := by omega
            subst hik
            rw [show k - 1 + 1 = k by omega] at hc2
            omega
        · omega
      exact ⟨j, by omega, by rw [hold j hjn]; exact e2⟩
theorem grows_gi (xs : List Int) (k : Nat) : GI xs k (growsN xs k) := by
  induction k with
  | zero => exact GI.zero xs
  | succ k ih => rw [growsN]; exact ih.step
/-- Each Extend is OK. -/
theorem grows_ext (xs : List Int) {k : Nat} (hk : k < 60) {o ow : Int} (ho : 0 ≤ o ∧ o ≤ 15) (hw : 0 ≤ ow ∧ ow ≤ 15) : extE o 0 (growsN xs k) 3 ow (endsN xs k) (k : Int) [0, 1, 2] = 0 := by
  have h := grows_gi xs k
  have hl := h.len
  unfold extE
  rw [if_pos (h.may (by omega) ho), if_pos (Or.inl (by omega)), if_pos, if_pos (h.step.may (by omega) hw)]
  by_cases h0 : (growsN xs k).length = 0
  · have hk0 : k = 0 := by
      rcases Nat.eq_zero_or_pos k with hk | hk
      · exact hk
      · have := h.pos hk; omega
    subst hk0
    unfold lastF farF
    rw [if_pos h0, if_pos h0]
    simp [endsN]
  · have hk1 : 1 ≤ k := by omega
    have hla := h.last hk1
    have hst := endsN_step xs (k - 1)
    rw [show k - 1 + 1 = k by omega] at hst
    have hr := endsN_rng xs k
    have e1 : lastF (growsN xs k) = endsN xs (k - 1) := by unfold lastF; rw [if_neg h0, hla]
    unfold farF
    rw [if_neg h0, e1]
    omega
/-- Where each one's addresses are. -/
theorem grows_where (xs : List Int) {k i : Nat} (hi : i < k) (hE : endsN xs i < endsN xs (i + 1)) : whereN 0 (growsN xs k) (endsN xs i) = some ((i : Int), 0) ∧ whereN 0 (growsN xs k) (endsN xs (i + 1) - 1) = some ((i : Int), endsN xs (i + 1) - 1 - endsN xs i) := by
  have h := grows_gi xs k
  obtain ⟨j, hj, e⟩ := h.cover i hi (Or.inr hE)
  have hr := endsN_rng xs i
  have hst := endsN_step xs i
  have key : ∀ a, endsN xs i ≤ a → a < endsN xs (i + 1) → whereN 0 (growsN xs k) a = some ((i : Int), a - endsN xs i) := by
    intro a h1 h2
    have hh : holdN (growsN xs k) a = some j := by
      unfold holdN
      rw [holdT_some]
      refine ⟨hj, by rw [e]; exact h1, fun j' hj1 hj2 => ?_⟩
      have hid := (h.incr hj1 hj2).2
      obtain ⟨i', hi', e'⟩ := h.part j' hj2
      rw [e, e'] at hid
      simp only at hid
      have := endsN_mono xs (show i + 1 ≤ i' by omega)
      rw [e']
      show a < endsN xs i'
      omega
    unfold whereN findN
    rw [if_neg (by omega), hh]
    simp only
    rw [e, if_neg (by show ¬ endsN xs i ≤ a - 4096; omega)]
    simp only
    rw [e]
  exact ⟨by have := key _ (Int.le_refl _) hE; rw [this]; simp, key _ (by omega) (by omega)⟩
end Go.Proofs.Ytgkabdmeggaphab
