/- P1307 over plain data: an entry that was put is got as it was. -/
import Derived.Test.YtgihmkgbkffgbaaGreatLPut
import Derived.Test.YtgihmkgbkffgbaaGreatPZGt
namespace Go.Proofs.YtgihmkgbkffgbaaGreat
open Go.RowKit Crcm

theorem unframe_put (kind : Nat) (l : List Nat) (hk : kind ≤ 255) (hl : l.length ≤ 65536) : unframeN (frameBs kind l) 0 = ((kind : Int), l, ((frameBs kind l).length : Int), 0) := by
  have h := frame_back [] [] l kind 0 rfl hk hl
  rw [List.nil_append, List.append_nil, show ((0 : Nat) : Int) = 0 from rfl] at h
  rw [h, frameBs_length, Nat.zero_add]
theorem read_tell13 (n : Int) (h0 : 0 ≤ n) (h1 : n ≤ 281474976710656) : read13 (tell13 n) = (n, 0) := by
  by_cases h : n = 281474976710656
  · subst h
    have e : tell13 281474976710656 = [0, 0, 0, 0, 0, 0, 1] := if_pos rfl
    rw [e]
    exact if_pos rfl
  · obtain ⟨k, rfl⟩ := Int.eq_ofNat_of_zero_le h0
    have e : tell13 (k : Int) = spellN k 6 := if_neg h
    have hlen := spellN_length k 6
    rw [e]
    unfold read13
    have hg := getN_ok (spellN k 6) 0 6 (by omega) (by omega)
    rw [if_neg (by intro h2; rw [h2] at hlen; simp at hlen), show getN (spellN k 6) 0 6 = _ from hg]
    dsimp only
    rw [if_neg (by rintro ⟨-, h2⟩; rw [hlen] at h2; exact h2 rfl), List.drop_zero, List.take_of_length_le (by omega), valN_spellN, Nat.mod_eq_of_lt (by omega)]
theorem bare_is {b : Bat} (h : bareB b = true) : b = bat0 := by
  obtain ⟨k, p, e, s, t, rs⟩ := b
  unfold bareB at h
  simp only [Bool.and_eq_true, beq_iff_eq, Bool.not_eq_true', List.length_eq_zero_iff] at h
  obtain ⟨⟨⟨⟨⟨rfl, rfl⟩, rfl⟩, rfl⟩, rfl⟩, rfl⟩ := h
  rfl
theorem tell13_len (n : Int) : (tell13 n).length ≤ 65536 := by
  unfold tell13
  split
  · show 7 ≤ 65536; omega
  · rw [spellN_length]; omega
theorem get_put {x : Et} (h : mayE x = true) : getE (putE x).2 = (x, 0) := by
  obtain ⟨kd, nn, b⟩ := x
  unfold putE
  rw [if_neg (by rw [h]; simp)]
  unfold mayE at h
  dsimp only at h ⊢
  by_cases h1 : kd = 1
  · subst h1
    rw [if_pos rfl] at h ⊢
    simp only [Bool.and_eq_true, beq_iff_eq] at h
    obtain ⟨rfl, hc⟩ := h
    have hw : encodeN b = (0, writeN b) := by unfold encodeN; rw [if_pos hc]
    have hl : (writeN b).length ≤ 65536 := by
      have e1 := writeN_length b
      have e2 := (checkN_ok hc).2.2.2.2
      omega
    rw [hw, show (1 : Int) + 15 = ((16 : Nat) : Int) from rfl, frameN_ok 16 _ (by omega) hl]
    have hk16 : ((16 : Nat) : Int) = 16 := rfl
    have hu := unframe_put 16 (writeN b) (by omega) hl
    unfold getE
    rw [hu, if_neg (by simp)]
    dsimp only
    rw [hk16, if_pos rfl, decode_back b hc, if_neg (by simp)]
  · rw [if_neg h1] at h ⊢
    by_cases h2 : kd = 2 ∨ kd = 3
    · rw [if_pos h2] at h
      simp only [Bool.and_eq_true, decide_eq_true_eq] at h
      obtain ⟨⟨hn0, hn1⟩, hb⟩ := h
      obtain rfl := bare_is hb
      have hr := read_tell13 nn hn0 hn1
      rcases h2 with rfl | rfl
      · rw [show (2 : Int) + 15 = ((17 : Nat) : Int) from rfl, frameN_ok 17 _ (by omega) (tell13_len nn)]
        have hk17 : ((17 : Nat) : Int) = 17 := rfl
        have hu := unframe_put 17 (tell13 nn) (by omega) (tell13_len nn)
        unfold getE
        rw [hu, if_neg (by simp)]
        dsimp only
        rw [hk17, if_neg (by decide), if_pos (by decide), hr, if_neg (by simp)]
        rfl
      · rw [show (3 : Int) + 15 = ((18 : Nat) : Int) from rfl, frameN_ok 18 _ (by omega) (tell13_len nn)]
        have hk18 : ((18 : Nat) : Int) = 18 := rfl
        have hu := unframe_put 18 (tell13 nn) (by omega) (tell13_len nn)
        unfold getE
        rw [hu, if_neg (by simp)]
        dsimp only
        rw [hk18, if_neg (by decide), if_pos (by decide), hr, if_neg (by simp)]
        rfl
    · rw [if_neg h2] at h
      cases h
end Go.Proofs.YtgihmkgbkffgbaaGreat
