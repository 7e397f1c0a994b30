/- The questions that package batch asks of a batch, and what the document says: the same. -/
import Derived.Test.YtdifchlbnilenaaGreatLen
namespace Go.Proofs.YtdifchlbnilenaaGreat

/-- What the question number j answers of b. -/
def ansN (b : Bat) (j : Nat) : Bool :=
  match j with
  | 0 => b.kind != 1 && !b.marker
  | 1 => if b.prod == -1 then b.marker else decide (b.prod < 0) || decide (281474976710656 ≤ b.prod)
  | 2 => if b.prod == -1 then b.epoch != 0 else decide (b.epoch < 0) || decide (2147483647 < b.epoch)
  | 3 => b.txn && (b.marker || b.prod == -1)
  | 4 => b.seq != 0 && (b.marker || b.prod == -1)
  | 5 => if b.marker then decide ((0 : Int) < b.recs.length) else decide ((b.recs.length : Int) < 1) || decide ((64 : Int) < b.recs.length)
  | 6 => !b.recs.all recOk
  | 7 => decide (b.seq < 0) || decide (2147483648 - lenN b < b.seq)
  | _ => decide ((65536 : Int) < (sizeN b : Int))
/-- Its error. -/
def errN (j : Nat) : Int := if j < 5 then 1 else if j = 7 then 53 else 6
theorem ans_arg (b : Bat) : argOk b = (!ansN b 0 && !ansN b 1 && !ansN b 2 && !ansN b 3 && !ansN b 4) := by
  obtain ⟨k, p, e, s, t, rs⟩ := b
  simp only [argOk, ansN, Bat.marker]
  generalize hm : (k == 2 || k == 3) = m
  by_cases hp : p = -1
  · subst hp
    cases t <;> cases m <;> cases h1 : (k == 1) <;> cases h2 : (e == 0) <;> cases h3 : (s == 0) <;> simp_all
  · have hp' : (p == -1) = false := by simpa using hp
    rw [hp']
    by_cases h0 : p < 0
    · have : ¬ (0 ≤ p) := by omega
      simp [h0, this]
    · by_cases h1 : 281474976710656 ≤ p
      · have : ¬ (p < 281474976710656) := by omega
        simp [h1, this]
      · by_cases h2 : e < 0
        · have : ¬ (0 ≤ e) := by omega
          simp [h2, this]
        · by_cases h3 : 2147483647 < e
          · have : ¬ (e < 2147483648) := by omega
            simp [h3, this]
          · have a0 : 0 ≤ p := by omega
            have a1 : p < 281474976710656 := by omega
            have a2 : 0 ≤ e := by omega
            have a3 : e < 2147483648 := by omega
            cases t <;> cases m <;> cases h1 : (k == 1) <;> cases h3 : (s == 0) <;> simp_all
theorem ans_many (b : Bat) : manyOk b = !ansN b 5 := by
  simp only [manyOk, ansN]
  generalize b.recs.length = n
  cases b.marker
  · simp only [Bool.false_eq_true, if_false]
    by_cases h1 : n = 0
    · subst h1; rfl
    · by_cases h2 : n ≤ 64
      · have h3 : ¬ ((n : Int) < 1) := by omega
        have h4 : ¬ ((64 : Int) < n) := by omega
        simp [h1, h2, h3, h4]
      · have h4 : (64 : Int) < n := by omega
        simp [h2, h4]
  · simp only [if_true]
    cases n with
    | zero => rfl
    | succ n =>
      have h3 : (0 : Int) < ((n + 1 : Nat) : Int) := by omega
      simp only [decide_eq_true h3]; rfl
theorem ans_seq (b : Bat) : seqOk b = !ansN b 7 := by
  simp only [seqOk, ansN]
  rw [Bool.eq_iff_iff]; simp
theorem ans_all (b : Bat) : b.recs.all recOk = !ansN b 6 := by simp [ansN]
theorem ans_size (b : Bat) : decide (sizeN b ≤ 65536) = !ansN b 8 := by
  simp only [ansN]
  rw [Bool.eq_iff_iff]; simp; omega
/-- The first question that is answered yes has the error. -/
theorem check_hit (b : Bat) (j : Nat) (hj : j < 9) (h0 : ∀ i, i < j → ansN b i = false) (h : ansN b j = true) : checkN b = errN j := by
  have h1 := ans_arg b
  have h2 := ans_many b
  have h3 := ans_seq b
  have h4 := ans_all b
  have h5 := ans_size b
  unfold checkN
  rcases (show j = 0 ∨ j = 1 ∨ j = 2 ∨ j = 3 ∨ j = 4 ∨ j = 5 ∨ j = 6 ∨ j = 7 ∨ j = 8 by omega) with rfl | rfl | rfl | rfl | rfl | rfl | rfl | rfl | rfl
  · simp [h1, h, errN]
  · simp [h1, h, errN]
  · simp [h1, h, errN]
  · simp [h1, h, errN]
  · simp [h1, h, errN]
  · simp [h1, h2, h, h0, errN]
  · simp [h1, h2, h4, h, h0, errN]
  · simp [h1, h2, h3, h4, h, h0, errN]
  · rw [h] at h5
    have h6 : ¬ sizeN b ≤ 65536 := by simpa using h5
    simp [h1, h2, h3, h4, h6, h0, errN]
theorem check_none (b : Bat) (h0 : ∀ i, i < 9 → ansN b i = false) : checkN b = 0 := by
  have h1 := ans_arg b
  have h2 := ans_many b
  have h3 := ans_seq b
  have h4 := ans_all b
  have h5 := ans_size b
  rw [h0 8 (by omega)] at h5
  have h6 : sizeN b ≤ 65536 := by simpa using h5
  unfold checkN
  simp [h1, h2, h3, h4, h6, h0]
end Go.Proofs.YtdifchlbnilenaaGreat
