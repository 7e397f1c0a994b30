/- P506 over plain data: what is put is got, what is got is put the same. -/
import Derived.Test.YtjldflfoncfndaaGreatPLawQ
namespace Go.Proofs.YtjldflfoncfndaaGreat
open Go.RowKit Crcm

theorem back_req {k g p : Int} {l b : List Nat} (h : putReqN k g p l = (0, b)) : getReqN b = ⟨0, k, g, p, l⟩ ∧ b.length ≤ 65545 := by
  unfold putReqN at h
  by_cases hm : reqMay k g p l.length = true
  · rw [if_pos hm] at h
    obtain ⟨a, c, d, rfl, rfl, rfl⟩ := reqMay_nat hm
    simp only [Int.toNat_natCast, Prod.mk.injEq, true_and] at h
    subst h
    obtain ⟨l1, l2, l3, l4⟩ := reqMay_lim hm
    have hl := requestN_length a c d l
    obtain ⟨u1, u2⟩ := unpack_frame 1 9 (requestN a c d l) (by omega) (by omega) (by omega)
    obtain ⟨r1, r2, r3, r4⟩ := reqBack a c d l (by omega) l2 (by omega)
    refine ⟨?_, by rw [frameBs_length, hl]; omega⟩
    unfold getReqN
    have hin : reqIn (requestN a c d l) = true := by
      unfold reqIn
      rw [r1, r2, r3, hl, show 9 + l.length - 9 = l.length by omega]
      exact hm
    rw [u2, if_pos ⟨u1, hin⟩, r1, r2, r3, r4]
  · rw [if_neg hm] at h
    simp at h
theorem back_rep {e t : Int} {s : Bool} {l b : List Nat} (h : putRepN e t s l = (0, b)) : getRepN b = ⟨0, e, t, s, l⟩ ∧ b.length ≤ 65545 := by
  unfold putRepN at h
  by_cases hm : repMay e t l.length = true
  · rw [if_pos hm] at h
    obtain ⟨a, c, rfl, rfl, h1, h2, h3⟩ := repMay_nat hm
    simp only [Int.toNat_natCast, Prod.mk.injEq, true_and] at h
    subst h
    have hs1 : s.toNat ≤ 1 := by cases s <;> decide
    have hl := replyN_length a c s.toNat l
    obtain ⟨u1, u2⟩ := unpack_frame 2 4 (replyN a c s.toNat l) (by omega) (by omega) (by omega)
    obtain ⟨r1, r2, r3, r4⟩ := repBack a c s.toNat l (by omega) (by omega) (by omega)
    refine ⟨?_, by rw [frameBs_length, hl]; omega⟩
    unfold getRepN
    have hin : repIn (replyN a c s.toNat l) = true := by
      unfold repIn
      rw [r2, r3, hl]
      simp only [Bool.and_eq_true, decide_eq_true_eq]
      omega
    rw [u2, if_pos ⟨u1, hin⟩, r1, r2, r3, r4]
    cases s <;> rfl
  · rw [if_neg hm] at h
    simp at h
theorem forth_req {l : List Nat} {k g p : Int} {d : List Nat} (h8 : ∀ x ∈ l, x < 256) (h : getReqN l = ⟨0, k, g, p, d⟩) : putReqN k g p d = (0, l) := by
  unfold getReqN at h
  by_cases hm : unpackN l 1 9 = true ∧ reqIn (bodyAt l 0) = true
  · rw [if_pos hm] at h
    simp only [ReqN.mk.injEq, true_and] at h
    obtain ⟨rfl, rfl, rfl, rfl⟩ := h
    have hb : ∀ x ∈ bodyAt l 0, x < 256 := fun x hx => drop_take_lt h8 _ _ x hx
    have hu := hm.1
    unfold unpackN at hu
    obtain ⟨h1, h2, h3, h4⟩ := of_decide_eq_true hu
    have hlen : 9 ≤ (bodyAt l 0).length := by rw [bodyAt_length h1]; exact h4
    unfold putReqN
    have hin := hm.2
    unfold reqIn at hin
    rw [List.length_drop, if_pos hin]
    simp only [Int.toNat_natCast]
    rw [requestN_of _ hlen hb, ← frame_unpack hm.1 h8]
  · rw [if_neg hm] at h
    simp at h
theorem forth_rep {l : List Nat} {e t : Int} {s : Bool} {d : List Nat} (h8 : ∀ x ∈ l, x < 256) (h : getRepN l = ⟨0, e, t, s, d⟩) : putRepN e t s d = (0, l) := by
  unfold getRepN at h
  by_cases hm : unpackN l 2 4 = true ∧ repIn (bodyAt l 0) = true
  · rw [if_pos hm] at h
    simp only [RepN.mk.injEq, true_and] at h
    obtain ⟨rfl, rfl, rfl, rfl⟩ := h
    have hb : ∀ x ∈ bodyAt l 0, x < 256 := fun x hx => drop_take_lt h8 _ _ x hx
    have hu := hm.1
    unfold unpackN at hu
    obtain ⟨h1, h2, h3, h4⟩ := of_decide_eq_true hu
    have hlen : 4 ≤ (bodyAt l 0).length := by rw [bodyAt_length h1]; exact h4
    have hin := hm.2
    unfold repIn at hin
    simp only [Bool.and_eq_true, decide_eq_true_eq] at hin
    have he := repE_le hb
    have hs : ((repS (bodyAt l 0) : Int) == 1).toNat = repS (bodyAt l 0) := by
      rcases (show repS (bodyAt l 0) = 0 ∨ repS (bodyAt l 0) = 1 by omega) with h0 | h0 <;> rw [h0] <;> rfl
    unfold putRepN
    rw [List.length_drop, if_pos (by simp [repMay]; omega)]
    simp only [Int.toNat_natCast]
    rw [hs, replyN_of _ hlen hb, ← frame_unpack hm.1 h8]
  · rw [if_neg hm] at h
    simp at h
end Go.Proofs.YtjldflfoncfndaaGreat
