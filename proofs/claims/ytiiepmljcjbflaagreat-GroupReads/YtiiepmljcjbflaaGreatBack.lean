/- Plain mathematics of P106: numbers and frames are read as they were written, with anything ahead and behind. -/
import Derived.Test.YtiiepmljcjbflaaGreatFrameN
namespace Go.Proofs.YtiiepmljcjbflaaGreat
open Go.RowKit Crcm

theorem drop_ahead (A M : List Nat) (p j : Nat) (hp : A.length = p) : (A ++ M).drop (p + j) = M.drop j := by
  subst hp
  rw [← List.drop_drop, List.drop_left]
theorem take_front (M B : List Nat) (n : Nat) (h : M.length = n) : (M ++ B).take n = M := by subst h; exact List.take_left
theorem drop_front (M B : List Nat) (n : Nat) (h : M.length = n) : (M ++ B).drop n = B := by subst h; exact List.drop_left
theorem pow_two_mod (n k : Nat) (h : n < 2 ^ (8 * k)) : valN (spellN n k) = n := by rw [valN_spellN]; exact Nat.mod_eq_of_lt h
/-- A number that was put is got, with anything ahead and behind. -/
theorem get_back (A B : List Nat) (n size p : Nat) (hp : A.length = p) (h1 : 1 ≤ size) (h6 : size ≤ 6) (hn : n < 2 ^ (8 * size)) : getN (A ++ (spellN n size ++ B)) p size = ((n : Int), ((p + size : Nat) : Int), 0) := by
  rw [getN_ok _ p size ⟨h1, h6⟩ (by simp [spellN_length]; omega)]
  have e := drop_ahead A (spellN n size ++ B) p 0 hp
  rw [Nat.add_zero, List.drop_zero] at e
  rw [e, take_front _ _ _ (spellN_length n size), pow_two_mod n size hn]
/-- A frame that was framed is unframed, with anything ahead and behind. -/
theorem frame_parts (A B l : List Nat) (kind p : Nat) (hp : A.length = p) (hk : kind ≤ 255) (hl : l.length ≤ 65536) :
    sizeAt (A ++ (frameBs kind l ++ B)) p = l.length ∧ kindAt (A ++ (frameBs kind l ++ B)) p = kind ∧ bodyAt (A ++ (frameBs kind l ++ B)) p = l ∧ toldAt (A ++ (frameBs kind l ++ B)) p = toldN kind l ∧
      sumAt (A ++ (frameBs kind l ++ B)) p = crc (toldN kind l) := by
  have hF : frameBs kind l ++ B = spellN kind 1 ++ (spellN l.length 4 ++ (l ++ (spellN (crc (toldN kind l)) 4 ++ B))) := by
    simp [frameBs, toldN]
  have s1 : sizeAt (A ++ (frameBs kind l ++ B)) p = l.length := by
    unfold sizeAt
    rw [drop_ahead A _ p 1 hp, hF, drop_front _ _ 1 (spellN_length _ _), take_front _ _ 4 (spellN_length _ _)]
    exact pow_two_mod _ 4 (by omega)
  refine ⟨s1, ?_, ?_, ?_, ?_⟩
  · unfold kindAt
    have e := drop_ahead A (frameBs kind l ++ B) p 0 hp
    rw [Nat.add_zero, List.drop_zero] at e
    rw [e, hF, take_front _ _ 1 (spellN_length _ _)]
    exact pow_two_mod _ 1 (by omega)
  · unfold bodyAt
    rw [s1, drop_ahead A _ p 5 hp, hF, show (5 : Nat) = 1 + 4 from rfl, ← List.drop_drop, drop_front _ _ 1 (spellN_length _ _), drop_front _ _ 4 (spellN_length _ _), take_front _ _ _ rfl]
  · unfold toldAt
    have e := drop_ahead A (frameBs kind l ++ B) p 0 hp
    rw [Nat.add_zero, List.drop_zero] at e
    rw [s1, e]
    unfold frameBs
    rw [List.append_assoc, take_front _ _ _ (toldN_length kind l)]
  · unfold sumAt
    rw [s1, Nat.add_assoc, drop_ahead A _ p _ hp]
    unfold frameBs
    rw [List.append_assoc, drop_front _ _ _ (toldN_length kind l), take_front _ _ 4 (spellN_length _ _)]
    exact pow_two_mod _ 4 (crc_lt _)
theorem frame_back (A B l : List Nat) (kind p : Nat) (hp : A.length = p) (hk : kind ≤ 255) (hl : l.length ≤ 65536) :
    unframeN (A ++ (frameBs kind l ++ B)) p = ((kind : Int), l, ((p + 9 + l.length : Nat) : Int), 0) := by
  obtain ⟨h1, h2, h3, h4, h5⟩ := frame_parts A B l kind p hp hk hl
  have hlen : (A ++ (frameBs kind l ++ B)).length = p + (9 + l.length + B.length) := by simp [frameBs_length, hp]
  have e : unframeE (A ++ (frameBs kind l ++ B)) p = 0 := by
    unfold unframeE
    rw [h1, hlen, if_neg (by omega), if_neg (by omega), if_neg (by omega), h4, h5, if_pos rfl]
  rw [unframeN_ok _ p e, h1, h2, h3]
end Go.Proofs.YtiiepmljcjbflaaGreat
