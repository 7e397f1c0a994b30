/- A ledger that can be stays one that can be: what a batch does. -/
import Derived.Test.YtdifchlbnilenaaGreatLTake1
namespace Go.Proofs.YtdifchlbnilenaaGreat
open Go.RowKit Go.Shelf
variable {g : Lg} {b : Bat}

theorem rowsB_mem {o : Int} {b : Bat} {l : List Rec} {r : Rw} (h : r ∈ rowsB o b l) : o ≤ r.off ∧ r.off < o + l.length := by
  induction l generalizing o with
  | nil => cases h
  | cons x l ih =>
    rcases List.mem_cons.1 h with h | h
    · subst h; simp; omega
    · have := ih h
      simp only [List.length_cons]
      omega
theorem rowsB_rise (o : Int) (b : Bat) (l : List Rec) : (rowsB o b l).Pairwise (fun a b => a.off < b.off) := by
  induction l generalizing o with
  | nil => exact List.Pairwise.nil
  | cons x l ih =>
    refine List.Pairwise.cons (fun r hr => ?_) (ih (o + 1))
    have := rowsB_mem hr
    show o < r.off
    omega
theorem recs_le_len (h : checkN b = 0) : (b.recs.length : Int) ≤ lenN b ∧ 1 ≤ lenN b := by
  have hn := checkN_nums h
  unfold lenN
  cases hm : b.marker with
  | true =>
    have := hn.2.2.2.2.2.2.2.2.1 hm
    rw [if_pos rfl]; omega
  | false =>
    have := hn.2.2.2.2.2.2.2.2.2.1 hm
    rw [if_neg (by simp)]; omega
theorem takeB_ok (hg : LgOk g) (hc : checkN b = 0) (hf : g.fin + lenN b ≤ 281474976710656) : LgOk (takeB g b) := by
  obtain ⟨h1, h2⟩ := recs_le_len hc
  have hs := hg.start
  refine ⟨⟨hs.1, by show g.start ≤ g.fin + lenN b; omega⟩, hf, ?_, ?_, ?_, ?_, ?_⟩
  · show (g.rows ++ rowsB g.fin b b.recs).Pairwise _
    refine List.pairwise_append.2 ⟨hg.rise, rowsB_rise _ _ _, fun a ha c hc => ?_⟩
    have := (hg.rows a ha).2
    have := (rowsB_mem hc).1
    omega
  · intro r hr
    have hr' : r ∈ g.rows ++ rowsB g.fin b b.recs := hr
    show g.start ≤ r.off ∧ r.off < g.fin + lenN b
    rcases List.mem_append.1 hr' with hr' | hr'
    · have := hg.rows r hr'; omega
    · have := rowsB_mem hr'; omega
  · intro t ht
    show g.start ≤ t.first ∧ t.first < g.fin + lenN b
    have key : t ∈ g.opn ∨ t.first = g.fin := by
      have ht' : t ∈ (if b.kind ≠ 1 then (match opAt b.prod g.opn with | some i => g.opn.eraseIdx i | none => g.opn) else if b.txn = true ∧ opAt b.prod g.opn = none then g.opn ++ [⟨b.prod, g.fin⟩] else g.opn) := ht
      split at ht'
      · split at ht'
        · exact Or.inl (List.mem_of_mem_eraseIdx ht')
        · exact Or.inl ht'
      · split at ht'
        · rcases List.mem_append.1 ht' with h | h
          · exact Or.inl h
          · rw [List.mem_singleton.1 h]; exact Or.inr rfl
        · exact Or.inl ht'
    rcases key with h | h
    · have := hg.opn t h; omega
    · omega
  · show List.Pairwise _ (if b.kind ≠ 1 then (match opAt b.prod g.opn with | some i => g.opn.eraseIdx i | none => g.opn) else if b.txn = true ∧ opAt b.prod g.opn = none then g.opn ++ [⟨b.prod, g.fin⟩] else g.opn)
    split
    · split
      · exact hg.oprise.sublist (List.eraseIdx_sublist _ _)
      · exact hg.oprise
    · split
      · refine List.pairwise_append.2 ⟨hg.oprise, List.pairwise_singleton _ _, fun a ha c hc => ?_⟩
        rw [List.mem_singleton.1 hc]
        exact (hg.opn a ha).2
      · exact hg.oprise
  · intro x hx
    show 0 ≤ x.first ∧ x.first ≤ x.last ∧ x.last < g.fin + lenN b
    have hx' : x ∈ (if b.kind = 3 then (match opAt b.prod g.opn with | some i => g.gone ++ [⟨(g.opn.getD i ⟨0, 0⟩).prod, (g.opn.getD i ⟨0, 0⟩).first, g.fin⟩] | none => g.gone) else g.gone) := hx
    have old : ∀ y ∈ g.gone, 0 ≤ y.first ∧ y.first ≤ y.last ∧ y.last < g.fin + lenN b := fun y hy => by have := hg.gone y hy; omega
    split at hx'
    · split at hx'
      · rename_i i hi
        rcases List.mem_append.1 hx' with h | h
        · exact old x h
        · rw [List.mem_singleton.1 h]
          have hm : g.opn.getD i ⟨0, 0⟩ ∈ g.opn := by
            have hl : i < g.opn.length := idx_lt hi
            rw [List.getD_eq_getElem?_getD, List.getElem?_eq_getElem hl]
            exact List.getElem_mem hl
          have := hg.opn _ hm
          show 0 ≤ (g.opn.getD i ⟨0, 0⟩).first ∧ (g.opn.getD i ⟨0, 0⟩).first ≤ g.fin ∧ g.fin < g.fin + lenN b
          omega
      · exact old x hx'
    · exact old x hx'
theorem decB_take {o : Int} (h : decB g b = (o, false, 0)) : checkN b = 0 ∧ g.fin + lenN b ≤ 281474976710656 ∧ o = g.fin ∧ ¬ (b.kind = 1 ∧ (opAt b.prod g.opn).isSome = true ∧ b.txn = false) := by
  unfold decB at h
  split at h
  · rename_i h0
    rw [h] at h0
    simp at h0
  · rename_i h0
    obtain ⟨x, d, e, hd⟩ : ∃ x d e, decN g.tb b = (x, d, e) := ⟨_, _, _, rfl⟩
    rw [hd] at h0
    simp only [not_or, ne_eq, Decidable.not_not] at h0
    have hc : checkN b = 0 := by
      obtain ⟨h1, h2⟩ := h0
      subst h1
      exact dec_check hd
    split at h
    · cases h
    · split at h
      · cases h
      · rename_i h2
        split at h
        · cases h
        · rename_i h3
          injection h with h4
          exact ⟨hc, by omega, h4.symm, h2⟩
theorem check_mark (h : checkN b = 0) (hk : b.kind ≠ 1) : b.txn = false := by
  obtain ⟨ha, -⟩ := checkN_ok h
  have hn := checkN_nums h
  have hm : b.marker = true := by
    unfold Bat.marker
    have := hn.1
    have : b.kind = 2 ∨ b.kind = 3 := by omega
    rcases this with h | h <;> rw [h] <;> rfl
  have hp := (hn.2.2.2.2.2.2.2.2.2.2 hm).2
  unfold argOk at ha
  rw [if_neg (by simpa using hp), hm] at ha
  simp only [Bool.and_eq_true, Bool.true_and] at ha
  cases ht : b.txn with
  | false => rfl
  | true => rw [ht] at ha; simp at ha
end Go.Proofs.YtdifchlbnilenaaGreat
