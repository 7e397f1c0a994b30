/- Less: without a read there can have been such a log, too; and what stands anywhere may be taken to the end. -/
import Derived.Test.YtpjemifoilbjeaaHHapM
namespace Go.Proofs.Ytpjemifoilbjeaa
namespace Hy

theorem plays_drop : ∀ (o1 : List Hc) (log : List Nm) (c : Hc) (o2 : List Hc), c.rd = true → plays log (o1 ++ c :: o2) → plays log (o1 ++ o2)
  | [], log, c, o2, hr, h => by
    have h : plays log (c :: o2) := h
    unfold plays at h
    rw [if_pos hr] at h
    exact h.2
  | a :: o1, log, c, o2, hr, h => by
    have h : plays log (a :: (o1 ++ c :: o2)) := h
    show plays log (a :: (o1 ++ o2))
    unfold plays at h ⊢
    cases ha : a.rd with
    | true =>
      rw [ha] at h
      simp only [if_true] at h ⊢
      exact ⟨h.1, plays_drop o1 _ c o2 hr h.2⟩
    | false =>
      rw [ha] at h
      simp only [Bool.false_eq_true, if_false] at h ⊢
      exact ⟨h.1, plays_drop o1 _ c o2 hr h.2⟩
theorem ok_less {c : Hc} {l : List Hc} (hr : c.rd = true) (h : HOk (c :: l)) : HOk l := by
  obtain ⟨o, r, hp, h1, h2, h3, h4⟩ := h
  have hc : c ∈ o ++ r := hp.mem_iff.2 (by simp)
  rcases List.mem_append.1 hc with hc | hc
  · obtain ⟨o1, o2, rfl⟩ := List.append_of_mem hc
    have hp2 : (c :: ((o1 ++ o2) ++ r)).Perm (c :: l) := by
      refine List.Perm.trans ?_ hp
      rw [List.append_assoc, List.append_assoc]
      exact (List.perm_middle (a := c) (l₁ := o1) (l₂ := o2 ++ r)).symm
    refine ⟨o1 ++ o2, r, (List.perm_cons c).1 hp2, h1, fun x hx => h2 x ?_, plays_drop o1 [] c o2 hr h3, h4.sublist ?_⟩
    · rcases List.mem_append.1 hx with h | h
      · exact List.mem_append_left _ h
      · exact List.mem_append_right _ (List.mem_cons_of_mem _ h)
    · exact List.Sublist.append (List.Sublist.refl _) (List.sublist_cons_self _ _)
  · obtain ⟨r1, r2, rfl⟩ := List.append_of_mem hc
    have hp2 : (c :: (o ++ (r1 ++ r2))).Perm (c :: l) := by
      refine List.Perm.trans ?_ hp
      have := (List.perm_middle (a := c) (l₁ := o ++ r1) (l₂ := r2)).symm
      rw [List.append_assoc, List.append_assoc] at this
      exact this
    refine ⟨o, r1 ++ r2, (List.perm_cons c).1 hp2, fun x hx => h1 x ?_, h2, h3, h4⟩
    rcases List.mem_append.1 hx with h | h
    · exact List.mem_append_left _ h
    · exact List.mem_append_right _ (List.mem_cons_of_mem _ h)
theorem right_less {c : Hc} {l : List Hc} (h : Right (c :: l)) : Right l := by
  refine ⟨by have := h.1; simp at this; omega, fun x hx => h.2.1 x (List.mem_cons_of_mem _ hx), ?_⟩
  have := h.2.2
  rw [apps_cons] at this
  split at this
  · exact this
  · exact (List.nodup_cons.1 this).2
theorem take_perm {α : Type} (l : List α) (z : α) (k : Nat) (h : k < l.length) : (l.getD k z :: (l.take k ++ l.drop (k + 1))).Perm l := by
  have e : l = l.take k ++ l.getD k z :: l.drop (k + 1) := by
    rw [List.getD_eq_getElem?_getD, List.getElem?_eq_getElem h]
    show l = l.take k ++ l[k] :: l.drop (k + 1)
    rw [← List.drop_eq_getElem_cons h, List.take_append_drop]
  have h2 := (List.perm_middle (a := l.getD k z) (l₁ := l.take k) (l₂ := l.drop (k + 1))).symm
  rw [← e] at h2
  exact h2
end Hy
end Go.Proofs.Ytpjemifoilbjeaa
