/- Plain mathematics of P107 and P108: the register as one great number; a burst of at most 32 turned bits is told; a frame without its last byte ends too early. -/
import Derived.Test.YthfildanpcmfaaaBack
namespace Go.Proofs.Ythfildanpcmfaaa
open Go.RowKit Crcm

theorem xor_join (i x y : Nat) (hx : x % 2 ^ i = 0) (hy : y < 2 ^ i) : x ^^^ y = x + y := by
  have h2 : x ^^^ y = x ||| y := by
    apply Nat.eq_of_testBit_eq
    intro j
    rw [Nat.testBit_xor, Nat.testBit_or]
    by_cases hj : j < i
    · have e : x = 2 ^ i * (x / 2 ^ i) := by
        have := Nat.div_add_mod x (2 ^ i); omega
      have : x.testBit j = false := by
        rw [e, Nat.testBit_two_pow_mul]; simp; omega
      simp [this]
    · have : y.testBit j = false := Nat.testBit_lt_two_pow (Nat.lt_of_lt_of_le hy (Nat.pow_le_pow_right (by omega) (by omega)))
      simp [this]
  rw [h2, nat_join i x y hx hy]
theorem mul_pow_xor (a b n : Nat) : (a ^^^ b) * 2 ^ n = a * 2 ^ n ^^^ b * 2 ^ n := by
  rw [← Nat.shiftLeft_eq, ← Nat.shiftLeft_eq, ← Nat.shiftLeft_eq, Nat.shiftLeft_xor_distrib]
theorem stps_pow (n q : Nat) : stps n (q * 2 ^ n) = q := by
  induction n with
  | zero => simp [stps]
  | succ n ih =>
    have e : stp (q * 2 ^ (n + 1)) = q * 2 ^ n := by
      unfold stp
      rw [Nat.pow_succ, ← Nat.mul_assoc, if_neg (by omega)]
      omega
    show stps n (stp (q * 2 ^ (n + 1))) = q
    rw [e, ih]

theorem valN_cons (x : Nat) (l : List Nat) (h : x < 256) : valN (x :: l) = valN l * 2 ^ 8 ^^^ x := by
  rw [xor_join 8 (valN l * 2 ^ 8) x (by omega) (by omega), valN]; omega
theorem reg_val : ∀ (l : List Nat) (r : Nat), (∀ x ∈ l, x < 256) → reg r l = stps (8 * l.length) (r ^^^ valN l)
  | [], r, _ => by show r = stps 0 (r ^^^ 0); rw [Nat.xor_zero]; rfl
  | x :: l, r, h => by
    have hx := h x (by simp)
    show reg (stps 8 (r ^^^ x)) l = _
    rw [reg_val l _ (fun y hy => h y (by simp [hy])), valN_cons x l hx, List.length_cons, show 8 * (l.length + 1) = 8 + 8 * l.length by omega, stps_add]
    congr 1
    rw [Nat.xor_comm (valN l * 2 ^ 8) x, ← Nat.xor_assoc, stps_xor 8 (r ^^^ x), stps_pow]

/-- One bit of a byte turned, as a number. -/
theorem valN_turn : ∀ (l : List Nat) (i y : Nat), (∀ x ∈ l, x < 256) → i < l.length → y < 256 → valN (l.set i (l.getD i 0 ^^^ y)) = valN l ^^^ y * 2 ^ (8 * i)
  | [], i, _, _, h, _ => by simp at h
  | x :: l, 0, y, h, _, hy => by
    have hx := h x (by simp)
    have hxy : x ^^^ y < 256 := Nat.xor_lt_two_pow (n := 8) hx hy
    simp only [List.set_cons_zero, List.getD_cons_zero]
    rw [valN_cons _ l hxy, valN_cons x l hx, ← Nat.xor_assoc]
    simp
  | x :: l, i + 1, y, h, hi, hy => by
    have hx := h x (by simp)
    simp only [List.set_cons_succ, List.getD_cons_succ]
    rw [valN_cons _ _ hx, valN_cons x l hx, valN_turn l i y (fun z hz => h z (by simp [hz])) (by simpa using hi) hy, mul_pow_xor, Nat.mul_assoc y, ← Nat.pow_add, show 8 * i + 8 = 8 * (i + 1) by omega, Nat.xor_assoc, Nat.xor_comm (y * 2 ^ (8 * (i + 1))) x, ← Nat.xor_assoc]

/-- Bytes and four of sum: the sum is right just where the register ends at one number. -/
theorem sum_right (l s : List Nat) (hl : ∀ x ∈ l, x < 256) (hs : ∀ x ∈ s, x < 256) (h4 : s.length = 4) : reg 4294967295 (l ++ s) = stps 32 4294967295 ↔ valN s = crc l := by
  have hr : reg 4294967295 l < 2 ^ 32 := reg_lt _ _ (by omega) hl
  have hv : valN s < 2 ^ 32 := by have := valN_lt s hs; rw [h4] at this; exact this
  have hn : 4294967295 ^^^ reg 4294967295 l = crc l := not_nat _ hr
  rw [reg_append, reg_val s _ hs, h4, ← hn]
  generalize reg 4294967295 l = r at *
  generalize valN s = v at *
  constructor
  · intro h
    have e := stps_inj 32 _ _ (Nat.xor_lt_two_pow hr hv) (by omega) h
    rw [← e, Nat.xor_comm r v, Nat.xor_assoc, Nat.xor_self, Nat.xor_zero]
  · intro h
    rw [h, Nat.xor_comm 4294967295, ← Nat.xor_assoc, Nat.xor_self, Nat.zero_xor]

/-- A burst of at most 32 turned bits leaves another register. -/
theorem burst (L L' : List Nat) (m t : Nat) (hL : ∀ x ∈ L, x < 256) (hL' : ∀ x ∈ L', x < 256) (hlen : L'.length = L.length) (hm : m < 2 ^ 32) (hm0 : m ≠ 0) (ht : t ≤ 8 * L.length) (hv : valN L' = valN L ^^^ m * 2 ^ t) : reg 4294967295 L' ≠ reg 4294967295 L := by
  intro h
  rw [reg_val L' _ hL', reg_val L _ hL, hlen, hv, ← Nat.xor_assoc, stps_xor] at h
  have h0 : stps (8 * L.length) (m * 2 ^ t) = 0 := by
    have e := congrArg (stps (8 * L.length) (4294967295 ^^^ valN L) ^^^ ·) h
    simp only [← Nat.xor_assoc, Nat.xor_self, Nat.zero_xor] at e
    exact e
  rw [show 8 * L.length = t + (8 * L.length - t) by omega, stps_add, stps_pow] at h0
  exact hm0 (stps_ne _ m hm h0)

theorem frameBs_lt (kind : Nat) (l : List Nat) (hl : ∀ x ∈ l, x < 256) : ∀ x ∈ frameBs kind l, x < 256 := by
  intro x hx
  simp only [frameBs, toldN, List.mem_append] at hx
  rcases hx with ((h | h) | h) | h
  · exact spellN_lt _ _ x h
  · exact spellN_lt _ _ x h
  · exact hl x h
  · exact spellN_lt _ _ x h

theorem sizeAt_take (L L' : List Nat) (h : L'.take 5 = L.take 5) : sizeAt L' 0 = sizeAt L 0 := by
  have e : ∀ X : List Nat, (X.drop (0 + 1)).take 4 = (X.take 5).drop 1 := fun X => by rw [List.drop_take]
  unfold sizeAt
  rw [e L', e L, h]

theorem frame_alone (kind : Nat) (l : List Nat) (hk : kind ≤ 255) (hl : l.length ≤ 65536) : sizeAt (frameBs kind l) 0 = l.length := by
  have h := (frame_parts [] [] l kind 0 rfl hk hl).1
  simpa using h

/-- P107: with a burst of at most 32 turned bits behind its first five bytes a frame is ErrSum. -/
theorem told_sum (kind : Nat) (l B : List Nat) (m t : Nat) (hk : kind ≤ 255) (hl : l.length ≤ 65536) (hb : ∀ x ∈ l, x < 256) (hB : ∀ x ∈ B, x < 256) (hlen : B.length = 9 + l.length) (h5 : B.take 5 = (frameBs kind l).take 5)
    (hm : m < 2 ^ 32) (hm0 : m ≠ 0) (ht : t ≤ 8 * (9 + l.length)) (hv : valN B = valN (frameBs kind l) ^^^ m * 2 ^ t) : unframeN B 0 = (0, [], 0, 21) := by
  have hF := frameBs_lt kind l hb
  have hFl := frameBs_length kind l
  have hs : sizeAt B 0 = l.length := by rw [sizeAt_take _ _ h5, frame_alone kind l hk hl]
  have hne := burst (frameBs kind l) B m t hF hB (by rw [hlen, hFl]) hm hm0 (by rw [hFl]; exact ht) hv
  have hR : reg 4294967295 (frameBs kind l) = stps 32 4294967295 := by
    have h := (sum_right (toldN kind l) (spellN (crc (toldN kind l)) 4) (fun x hx => hF x (by simp [frameBs, hx])) (spellN_lt _ _) (spellN_length _ _)).2 (pow_two_mod _ 4 (crc_lt _))
    exact h
  have hsum : ¬ sumAt B 0 = crc (toldAt B 0) := by
    intro h
    have e : B = toldAt B 0 ++ (B.drop (0 + 5 + sizeAt B 0)).take 4 := by
      unfold toldAt
      rw [hs, List.drop_zero, Nat.zero_add, List.take_of_length_le (l := B.drop (5 + l.length)) (by simp; omega), List.take_append_drop]
    have h2 := (sum_right (toldAt B 0) ((B.drop (0 + 5 + sizeAt B 0)).take 4) (drop_take_lt hB _ _) (drop_take_lt hB _ _) (drop_take_length _ _ _ (by rw [hs]; omega))).2 h
    rw [← e] at h2
    exact hne (h2.trans hR.symm)
  have he : unframeE B 0 = 21 := by
    unfold unframeE
    rw [hs, hlen, if_neg (by omega), if_neg (by omega), if_neg (by omega), if_neg hsum]
  have h := unframeN_err B 0 (by rw [he]; omega)
  rw [he] at h
  exact h
/-- P108: without its last byte a frame ends too early. -/
theorem told_end (kind : Nat) (l : List Nat) (n : Nat) (hk : kind ≤ 255) (hl : l.length ≤ 65536) (hn : n = 8 + l.length) : unframeN ((frameBs kind l).take n) 0 = (0, [], 0, 20) := by
  have hFl := frameBs_length kind l
  have hs : sizeAt ((frameBs kind l).take n) 0 = l.length := by
    rw [sizeAt_take (frameBs kind l) _ (by rw [List.take_take, Nat.min_eq_left (by omega)]), frame_alone kind l hk hl]
  have he : unframeE ((frameBs kind l).take n) 0 = 20 := by
    unfold unframeE
    rw [hs, List.length_take, hFl, if_neg (by omega), if_neg (by omega), if_pos (by omega)]
  have h := unframeN_err ((frameBs kind l).take n) 0 (by rw [he]; omega)
  rw [he] at h
  exact h
/-- Nothing turned: as it was. -/
theorem told_ok (kind : Nat) (l : List Nat) (hk : kind ≤ 255) (hl : l.length ≤ 65536) : unframeN (frameBs kind l) 0 = ((kind : Int), l, ((9 + l.length : Nat) : Int), 0) := by
  have h := frame_back [] [] l kind 0 rfl hk hl
  simpa using h
/-- One bit more is turned. -/
theorem turn_step (F B : List Nat) (q k m y s : Nat) (hB : ∀ x ∈ B, x < 256) (hlen : 5 + (q + k) / 8 < B.length) (hm : m < 2 ^ k) (hv : valN B = valN F ^^^ m * 2 ^ (40 + q)) (hy : y = B.getD (5 + (q + k) / 8) 0) (hs : s = y ^^^ 2 ^ ((q + k) % 8)) :
    valN (B.set (5 + (q + k) / 8) s) = valN F ^^^ (m + 2 ^ k) * 2 ^ (40 + q) := by
  have h8 : 2 ^ ((q + k) % 8) < 256 := Nat.lt_of_le_of_lt (Nat.pow_le_pow_right (n := 2) (j := 7) (by omega) (by omega)) (by omega)
  have hj : m ^^^ 2 ^ k = m + 2 ^ k := by rw [Nat.xor_comm, xor_join k (2 ^ k) m (by simp) hm, Nat.add_comm]
  have he : 2 ^ ((q + k) % 8) * 2 ^ (8 * (5 + (q + k) / 8)) = 2 ^ k * 2 ^ (40 + q) := by
    rw [← Nat.pow_add, ← Nat.pow_add]; congr 1; omega
  rw [hs, hy, valN_turn B _ _ hB hlen h8, hv, he, Nat.xor_assoc, ← mul_pow_xor, hj]
theorem byte_turn (y e : Nat) (hy : y < 256) (he : e < 8) : ∃ s : Nat, s < 256 ∧ bits .xor .u8 (y : Int) ((2 : Int) ^ e % 256) = (s : Int) ∧ s = y ^^^ 2 ^ e := by
  have h8 : 2 ^ e < 256 := Nat.lt_of_le_of_lt (Nat.pow_le_pow_right (n := 2) (j := 7) (by omega) (by omega)) (by omega)
  have e1 : ((2 ^ e : Nat) : Int) = (2 : Int) ^ e := by rw [Int.natCast_pow]; rfl
  have e2 : (2 : Int) ^ e % 256 = ((2 ^ e : Nat) : Int) := by
    rw [← e1]
    generalize (2 : Nat) ^ e = z at *
    omega
  refine ⟨y ^^^ 2 ^ e, Nat.xor_lt_two_pow (n := 8) hy h8, ?_, rfl⟩
  rw [e2]
  exact u8_xor_nat y (2 ^ e) hy h8
end Go.Proofs.Ythfildanpcmfaaa
