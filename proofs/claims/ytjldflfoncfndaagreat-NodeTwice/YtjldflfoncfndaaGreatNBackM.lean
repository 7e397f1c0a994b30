/- Plain mathematics of P506: requests and replies there and back. -/
import Derived.Test.YtjldflfoncfndaaGreatNGetReq
import Derived.Test.YtjldflfoncfndaaGreatPPut
import Derived.Test.YtjldflfoncfndaaGreatPMath
namespace Go.Proofs.YtjldflfoncfndaaGreat
open Go.RowKit Crcm

theorem valN_inj : ∀ {a b : List Nat}, a.length = b.length → (∀ x ∈ a, x < 256) → (∀ x ∈ b, x < 256) → valN a = valN b → a = b
  | [], [], _, _, _, _ => rfl
  | [], _ :: _, h, _, _, _ => by simp at h
  | _ :: _, [], h, _, _, _ => by simp at h
  | x :: a, y :: b, h, ha, hb, hv => by
    simp only [valN] at hv
    have h1 := ha x (by simp)
    have h2 := hb y (by simp)
    have e1 : x = y := by omega
    have e2 : valN a = valN b := by omega
    rw [e1, valN_inj (by simpa using h) (fun z hz => ha z (by simp [hz])) (fun z hz => hb z (by simp [hz])) e2]
theorem spell_val (l : List Nat) (n : Nat) (hn : l.length = n) (h : ∀ x ∈ l, x < 256) : spellN (valN l) n = l := by
  subst hn
  refine valN_inj (spellN_length _ _) (spellN_lt _ _) h ?_
  rw [valN_spellN]
  exact Nat.mod_eq_of_lt (valN_lt l h)
theorem take_split (l : List Nat) (p n m : Nat) : (l.drop p).take (n + m) = (l.drop p).take n ++ (l.drop (p + n)).take m := by
  rw [List.take_add, List.drop_drop]
theorem unpack_frame (kind least : Nat) (b : List Nat) (hk : kind ≤ 255) (hl : b.length ≤ 65536) (hm : least ≤ b.length) : unpackN (frameBs kind b) kind least = true ∧ bodyAt (frameBs kind b) 0 = b := by
  obtain ⟨h1, h2, h3, h4, h5⟩ := frame_parts [] [] b kind 0 rfl hk hl
  simp only [List.nil_append, List.append_nil] at h1 h2 h3 h4 h5
  have e : unframeE (frameBs kind b) 0 = 0 := by
    unfold unframeE
    rw [h1, frameBs_length, if_neg (by omega), if_neg (by omega), if_neg (by omega), h4, h5, if_pos rfl]
  refine ⟨?_, h3⟩
  unfold unpackN
  rw [h1, h2, e, frameBs_length]
  simp [hm]
theorem frame_unpack {l : List Nat} {kind least : Nat} (h : unpackN l kind least = true) (h8 : ∀ x ∈ l, x < 256) : l = frameBs kind (bodyAt l 0) := by
  unfold unpackN at h
  obtain ⟨h1, h2, h3, h4⟩ := of_decide_eq_true h
  obtain ⟨z1, z2, z3⟩ := unframeE_zero h1
  have hb := bodyAt_length h1
  have e1 : spellN kind 1 = (l.drop 0).take 1 := by
    rw [← h2]
    exact spell_val _ 1 (drop_take_length l 0 1 (by omega)) (drop_take_lt h8 0 1)
  have e2 : spellN (bodyAt l 0).length 4 = (l.drop 1).take 4 := by
    rw [hb]
    exact spell_val _ 4 (drop_take_length l 1 4 (by omega)) (drop_take_lt h8 1 4)
  have e3 : toldN kind (bodyAt l 0) = toldAt l 0 := by
    unfold toldN toldAt
    rw [e1, e2, show 5 + sizeAt l 0 = 1 + (4 + sizeAt l 0) by omega, take_split, Nat.zero_add, take_split, List.append_assoc]
    rfl
  have e4 : spellN (crc (toldAt l 0)) 4 = (l.drop (5 + sizeAt l 0)).take 4 := by
    rw [← z3]
    have q := spell_val ((l.drop (0 + 5 + sizeAt l 0)).take 4) 4 (drop_take_length l _ 4 (by omega)) (drop_take_lt h8 _ 4)
    unfold sumAt
    rw [q, Nat.zero_add]
  unfold frameBs
  rw [e3, e4]
  unfold toldAt
  have q := take_split l 0 (5 + sizeAt l 0) 4
  rw [Nat.zero_add] at q
  rw [← q, List.drop_zero, List.take_of_length_le (by omega)]
theorem reqBack (k g p : Nat) (l : List Nat) (hk : k < 256) (hg : g < 281474976710656) (hp : p < 65536) : reqK (requestN k g p l) = k ∧ reqL (requestN k g p l) = g ∧ reqP (requestN k g p l) = p ∧ (requestN k g p l).drop 9 = l := by
  have hF : requestN k g p l = spellN k 1 ++ (spellN g 6 ++ (spellN p 2 ++ l)) := by simp [requestN]
  have d1 : (requestN k g p l).drop 1 = spellN g 6 ++ (spellN p 2 ++ l) := by rw [hF]; exact drop_front _ _ 1 (spellN_length _ _)
  have d7 : (requestN k g p l).drop 7 = spellN p 2 ++ l := by rw [show 7 = 1 + 6 from rfl, ← List.drop_drop, d1]; exact drop_front _ _ 6 (spellN_length _ _)
  have d9 : (requestN k g p l).drop 9 = l := by rw [show 9 = 7 + 2 from rfl, ← List.drop_drop, d7]; exact drop_front _ _ 2 (spellN_length _ _)
  refine ⟨?_, ?_, ?_, d9⟩
  · unfold reqK; rw [hF, take_front _ _ 1 (spellN_length _ _)]; exact pow_two_mod _ 1 (by omega)
  · unfold reqL; rw [← List.drop_one, d1, take_front _ _ 6 (spellN_length _ _)]; exact pow_two_mod _ 6 (by omega)
  · unfold reqP; rw [d7, take_front _ _ 2 (spellN_length _ _)]; exact pow_two_mod _ 2 (by omega)
theorem repBack (e t s : Nat) (l : List Nat) (he : e < 256) (ht : t < 65536) (hs : s < 256) : repE (replyN e t s l) = e ∧ repT (replyN e t s l) = t ∧ repS (replyN e t s l) = s ∧ (replyN e t s l).drop 4 = l := by
  have hF : replyN e t s l = spellN e 1 ++ (spellN t 2 ++ (spellN s 1 ++ l)) := by simp [replyN]
  have d1 : (replyN e t s l).drop 1 = spellN t 2 ++ (spellN s 1 ++ l) := by rw [hF]; exact drop_front _ _ 1 (spellN_length _ _)
  have d3 : (replyN e t s l).drop 3 = spellN s 1 ++ l := by rw [show 3 = 1 + 2 from rfl, ← List.drop_drop, d1]; exact drop_front _ _ 2 (spellN_length _ _)
  have d4 : (replyN e t s l).drop 4 = l := by rw [show 4 = 3 + 1 from rfl, ← List.drop_drop, d3]; exact drop_front _ _ 1 (spellN_length _ _)
  refine ⟨?_, ?_, ?_, d4⟩
  · unfold repE; rw [hF, take_front _ _ 1 (spellN_length _ _)]; exact pow_two_mod _ 1 (by omega)
  · unfold repT; rw [← List.drop_one, d1, take_front _ _ 2 (spellN_length _ _)]; exact pow_two_mod _ 2 (by omega)
  · unfold repS; rw [d3, take_front _ _ 1 (spellN_length _ _)]; exact pow_two_mod _ 1 (by omega)
theorem requestN_of (b : List Nat) (h : 9 ≤ b.length) (h8 : ∀ x ∈ b, x < 256) : requestN (reqK b) (reqL b) (reqP b) (b.drop 9) = b := by
  have e1 : spellN (reqK b) 1 = (b.drop 0).take 1 := spell_val _ 1 (drop_take_length b 0 1 (by omega)) (drop_take_lt h8 0 1)
  have e2 : spellN (reqL b) 6 = (b.drop 1).take 6 := by
    unfold reqL
    rw [← List.drop_one]
    exact spell_val _ 6 (drop_take_length b 1 6 (by omega)) (drop_take_lt h8 1 6)
  have e3 : spellN (reqP b) 2 = (b.drop 7).take 2 := spell_val _ 2 (drop_take_length b 7 2 (by omega)) (drop_take_lt h8 7 2)
  unfold requestN
  rw [e1, e2, e3]
  have q1 := take_split b 0 1 6
  have q2 := take_split b 0 7 2
  simp only [Nat.zero_add, List.drop_zero] at q1 q2 ⊢
  rw [← q1, ← q2]
  exact List.take_append_drop 9 b
theorem replyN_of (b : List Nat) (h : 4 ≤ b.length) (h8 : ∀ x ∈ b, x < 256) : replyN (repE b) (repT b) (repS b) (b.drop 4) = b := by
  have e1 : spellN (repE b) 1 = (b.drop 0).take 1 := spell_val _ 1 (drop_take_length b 0 1 (by omega)) (drop_take_lt h8 0 1)
  have e2 : spellN (repT b) 2 = (b.drop 1).take 2 := by
    unfold repT
    rw [← List.drop_one]
    exact spell_val _ 2 (drop_take_length b 1 2 (by omega)) (drop_take_lt h8 1 2)
  have e3 : spellN (repS b) 1 = (b.drop 3).take 1 := spell_val _ 1 (drop_take_length b 3 1 (by omega)) (drop_take_lt h8 3 1)
  unfold replyN
  rw [e1, e2, e3]
  have q1 := take_split b 0 1 2
  have q2 := take_split b 0 3 1
  simp only [Nat.zero_add, List.drop_zero] at q1 q2 ⊢
  rw [← q1, ← q2]
  exact List.take_append_drop 4 b
end Go.Proofs.YtjldflfoncfndaaGreat
