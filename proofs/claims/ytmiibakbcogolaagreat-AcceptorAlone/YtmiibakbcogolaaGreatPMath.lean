/- Plain mathematics of CRC-32C over natural numbers: one step of the register, its linearity, that it forgets nothing; no Go program is named here. Plain mathematics: a number as its bytes, the lowest first; there and back. P103, Put, as a function over plain numbers. All bytes of the first parts of a row of them. No function of the program is named here. P103, Get, as a function over plain lists: the number, the place behind it, the error's number. P105, Unframe, as a function over plain lists. P105, Frame, as a function over plain lists. Plain mathematics of P106: numbers and frames are read as they were written, with anything ahead and behind. Chapter 4's entries as bytes: an entry's text, its parts, a part as a block. Chapter 3 as functions over plain lists: a disk's blocks, its power, its fuse (P302 to P305), and what follows of them (P306 to P308). Chapter 4 as functions over plain data: a store's state, what an entry does, how an entry comes onto the disk (P402 to P405). -/
import Derived.Laws.BitsAllLaws
import Derived.Test.YtmiibakbcogolaaGreatBase
namespace Go.Proofs.YtmiibakbcogolaaGreat.Crcm

/-- The polynomial, bits turned round. -/
def poly : Nat := 2197175160
/-- One step of the register, no bit fed. -/
def stp (r : Nat) : Nat := if r % 2 = 1 then (r / 2) ^^^ poly else r / 2
def stps : Nat → Nat → Nat
  | 0, r => r
  | n + 1, r => stps n (stp r)
/-- The register behind some bytes. -/
def reg (r : Nat) : List Nat → Nat
  | [] => r
  | x :: l => reg (stps 8 (r ^^^ x)) l
def crc (l : List Nat) : Nat := 4294967295 - reg 4294967295 l

theorem poly_lt : poly < 2 ^ 32 := by unfold poly; omega

theorem stp_lt (r : Nat) (h : r < 2 ^ 32) : stp r < 2 ^ 32 := by
  unfold stp
  split
  · exact Nat.xor_lt_two_pow (by omega) poly_lt
  · omega
theorem stps_lt (n : Nat) : ∀ r, r < 2 ^ 32 → stps n r < 2 ^ 32 := by
  induction n with
  | zero => intro r h; exact h
  | succ n ih => intro r h; exact ih _ (stp_lt r h)
theorem stps_succ' (n : Nat) : ∀ r, stps (n + 1) r = stp (stps n r) := by
  induction n with
  | zero => intro r; rfl
  | succ n ih => intro r; show stps (n + 1) (stp r) = _; rw [ih]; rfl
theorem stps_add (m n : Nat) : ∀ r, stps (m + n) r = stps n (stps m r) := by
  induction m with
  | zero => intro r; rw [Nat.zero_add]; rfl
  | succ m ih => intro r; rw [show m + 1 + n = (m + n) + 1 by omega]; exact ih (stp r)
theorem reg_lt : ∀ (l : List Nat) (r : Nat), r < 2 ^ 32 → (∀ x ∈ l, x < 256) → reg r l < 2 ^ 32
  | [], r, h, _ => h
  | x :: l, r, h, hl => reg_lt l _ (stps_lt 8 _ (Nat.xor_lt_two_pow h (by have := hl x (by simp); omega))) (fun y hy => hl y (by simp [hy]))
theorem crc_lt (l : List Nat) : crc l < 2 ^ 32 := by unfold crc; omega

theorem xor_mod2 (a b : Nat) : (a ^^^ b) % 2 = (a % 2) ^^^ (b % 2) := by
  have := @Nat.xor_mod_two_pow a b 1
  simpa using this
theorem xor_div2 (a b : Nat) : (a ^^^ b) / 2 = (a / 2) ^^^ (b / 2) := by
  have := @Nat.xor_div_two_pow a b 1
  simpa using this
theorem xor4 (a b c d : Nat) : (a ^^^ b) ^^^ (c ^^^ d) = (a ^^^ c) ^^^ (b ^^^ d) := by
  rw [Nat.xor_assoc, Nat.xor_assoc, ← Nat.xor_assoc b c d, Nat.xor_comm b c, Nat.xor_assoc c b d]

theorem stp_xor (a b : Nat) : stp (a ^^^ b) = stp a ^^^ stp b := by
  unfold stp
  rw [xor_mod2, xor_div2]
  rcases Nat.mod_two_eq_zero_or_one a with ha | ha <;> rcases Nat.mod_two_eq_zero_or_one b with hb | hb <;> simp only [ha, hb]
  · simp
  · simp [Nat.xor_assoc]
  · simp [Nat.xor_assoc, Nat.xor_comm poly]
  · simp
    rw [xor4, Nat.xor_self, Nat.xor_zero]
theorem stps_xor (n : Nat) : ∀ a b, stps n (a ^^^ b) = stps n a ^^^ stps n b := by
  induction n with
  | zero => intro a b; rfl
  | succ n ih => intro a b; show stps n (stp (a ^^^ b)) = _; rw [stp_xor, ih]; rfl
theorem stp_zero : stp 0 = 0 := by decide
theorem stps_zero (n : Nat) : stps n 0 = 0 := by
  induction n with
  | zero => rfl
  | succ n ih => show stps n (stp 0) = 0; rw [stp_zero, ih]

theorem stp_ne (d : Nat) (h : d < 2 ^ 32) (h0 : stp d = 0) : d = 0 := by
  unfold stp at h0
  split at h0
  · exfalso
    have e : d / 2 = poly := by
      have := congrArg (· ^^^ poly) h0
      simpa [Nat.xor_assoc] using this
    unfold poly at e
    omega
  · omega
theorem stps_ne (n : Nat) : ∀ d, d < 2 ^ 32 → stps n d = 0 → d = 0 := by
  induction n with
  | zero => intro d _ h; exact h
  | succ n ih => intro d h h0; exact stp_ne d h (ih _ (stp_lt d h) h0)
theorem xor_eq_zero {a b : Nat} (h : a ^^^ b = 0) : a = b := by
  have := congrArg (· ^^^ b) h
  simpa [Nat.xor_assoc] using this
theorem stps_inj (n a b : Nat) (ha : a < 2 ^ 32) (hb : b < 2 ^ 32) (h : stps n a = stps n b) : a = b := by
  apply xor_eq_zero
  apply stps_ne n _ (Nat.xor_lt_two_pow ha hb)
  rw [stps_xor, h, Nat.xor_self]

theorem reg_snoc : ∀ (l : List Nat) (r x : Nat), reg r (l ++ [x]) = stps 8 (reg r l ^^^ x)
  | [], _, _ => rfl
  | _ :: l, _, x => reg_snoc l _ x
theorem reg_append : ∀ (l m : List Nat) (r : Nat), reg r (l ++ m) = reg (reg r l) m
  | [], _, _ => rfl
  | _ :: l, m, _ => reg_append l m _
theorem reg_inj : ∀ (l : List Nat) (r s : Nat), r < 2 ^ 32 → s < 2 ^ 32 → (∀ x ∈ l, x < 256) → reg r l = reg s l → r = s
  | [], _, _, _, _, _, h => h
  | x :: l, r, s, hr, hs, hl, h => by
    have hx := hl x (by simp)
    have h1 := reg_inj l _ _ (stps_lt 8 _ (Nat.xor_lt_two_pow hr (by omega))) (stps_lt 8 _ (Nat.xor_lt_two_pow hs (by omega))) (fun y hy => hl y (by simp [hy])) h
    have h2 := stps_inj 8 _ _ (Nat.xor_lt_two_pow hr (by omega)) (Nat.xor_lt_two_pow hs (by omega)) h1
    have := congrArg (· ^^^ x) h2
    simpa [Nat.xor_assoc] using this

/-- Four steps by a table of sixteen. -/
theorem four (s : Nat) : stps 4 s = (s / 16) ^^^ stps 4 (s % 16) := by
  have e : s = (s / 16 * 16) ^^^ (s % 16) := by
    have h1 := Go.nat_join 4 (s / 16 * 16) (s % 16) (by omega) (by omega)
    have h2 : (s / 16 * 16) ^^^ (s % 16) = (s / 16 * 16) ||| (s % 16) := by
      apply Nat.eq_of_testBit_eq
      intro i
      rw [Nat.testBit_xor, Nat.testBit_or]
      by_cases hi : i < 4
      · have : (s / 16 * 16).testBit i = false := by
          rw [show s / 16 * 16 = 2 ^ 4 * (s / 16) by omega, Nat.testBit_two_pow_mul]
          simp; omega
        simp [this]
      · have : (s % 16).testBit i = false := by
          apply Nat.testBit_lt_two_pow
          exact Nat.lt_of_lt_of_le (show s % 16 < 2 ^ 4 by omega) (Nat.pow_le_pow_right (by omega) (by omega))
        simp [this]
    rw [h2, h1]; omega
  have z : stps 4 (s / 16 * 16) = s / 16 := by
    have d : ∀ q, stp (2 * q) = q := by intro q; unfold stp; rw [if_neg (by omega)]; omega
    show stp (stp (stp (stp (s / 16 * 16)))) = _
    rw [show s / 16 * 16 = 2 * (2 * (2 * (2 * (s / 16)))) by omega, d, d, d, d]
  conv => lhs; rw [e]
  rw [stps_xor, z]
theorem eight (s : Nat) : stps 8 s = stps 4 (stps 4 s) := stps_add 4 4 s

/-- Bit by bit: the register and the byte, both shifted. -/
theorem bit_step (r x : Nat) : (if (r ^^^ x) % 2 = 1 then (r / 2) ^^^ poly else r / 2) ^^^ (x / 2) = stp (r ^^^ x) := by
  unfold stp
  rw [xor_div2]
  split
  · rw [Nat.xor_assoc, Nat.xor_comm poly, ← Nat.xor_assoc]
  · rfl

/-- One byte turned: another sum. -/
theorem crc_turned (l m : List Nat) (a b : Nat) (hl : ∀ x ∈ l, x < 256) (hm : ∀ x ∈ m, x < 256) (ha : a < 256) (hb : b < 256) (h : crc (l ++ a :: m) = crc (l ++ b :: m)) : a = b := by
  have la : reg 4294967295 (l ++ a :: m) < 2 ^ 32 := reg_lt _ _ (by omega) (by
    intro x hx; simp at hx; rcases hx with h | h | h
    · exact hl x h
    · omega
    · exact hm x h)
  have lb : reg 4294967295 (l ++ b :: m) < 2 ^ 32 := reg_lt _ _ (by omega) (by
    intro x hx; simp at hx; rcases hx with h | h | h
    · exact hl x h
    · omega
    · exact hm x h)
  have e : reg 4294967295 (l ++ a :: m) = reg 4294967295 (l ++ b :: m) := by
    unfold crc at h; omega
  rw [reg_append, reg_append] at e
  have hr : reg 4294967295 l < 2 ^ 32 := reg_lt _ _ (by omega) hl
  have h1 := reg_inj m _ _ (stps_lt 8 _ (Nat.xor_lt_two_pow hr (by omega))) (stps_lt 8 _ (Nat.xor_lt_two_pow hr (by omega))) hm e
  have h2 := stps_inj 8 _ _ (Nat.xor_lt_two_pow hr (by omega)) (Nat.xor_lt_two_pow hr (by omega)) h1
  have := congrArg (reg 4294967295 l ^^^ ·) h2
  simpa [← Nat.xor_assoc] using this

theorem and1 (a : Nat) (h : a < 4294967296) : Go.bits .and .u32 (a : Int) 1 = ((a % 2 : Nat) : Int) := by
  have e := Go.u32_and_nat a 1 h (by omega)
  rw [Go.nat_mask1] at e
  exact e
theorem and15 (a : Nat) (h : a < 4294967296) : Go.bits .and .u32 (a : Int) 15 = ((a % 16 : Nat) : Int) := by
  have e := Go.u32_and_nat a 15 h (by omega)
  rw [Go.nat_mask4] at e
  exact e
theorem xorp (a : Nat) (h : a < 4294967296) : Go.bits .xor .u32 ((a : Int) / 2) 2197175160 = (((a / 2) ^^^ poly : Nat) : Int) := by
  have e := Go.u32_xor_nat (a / 2) 2197175160 (by omega) (by omega)
  have d : ((a / 2 : Nat) : Int) = (a : Int) / 2 := by omega
  rw [d] at e
  exact e
theorem stp_odd (a : Nat) (h : a < 4294967296) (ho : (Go.bits .and .u32 (a : Int) 1 == 1) = true) : Go.bits .xor .u32 ((a : Int) / 2) 2197175160 = ((stp a : Nat) : Int) := by
  rw [and1 a h] at ho
  have : a % 2 = 1 := by have := eq_of_beq ho; omega
  rw [xorp a h]; unfold stp; rw [if_pos this]
theorem stp_even (a : Nat) (h : a < 4294967296) (ho : (Go.bits .and .u32 (a : Int) 1 == 1) = false) : (a : Int) / 2 = ((stp a : Nat) : Int) := by
  rw [and1 a h] at ho
  have : ¬ a % 2 = 1 := by have := ne_of_beq_false ho; omega
  unfold stp; rw [if_neg this]; omega
theorem stps_lt' (n r : Nat) (h : r < 4294967296) : stps n r < 4294967296 := stps_lt n r h

theorem crc_known : crc [49, 50, 51, 52, 53, 54, 55, 56, 57] = 3808858755 := by decide +kernel
end Go.Proofs.YtmiibakbcogolaaGreat.Crcm
namespace Go.Proofs.YtmiibakbcogolaaGreat
open Go.RowKit

/-- The bytes of n, the lowest first. -/
def spellN (n : Nat) : Nat → List Nat
  | 0 => []
  | k + 1 => spellN n k ++ [n / 2 ^ (8 * k) % 256]
theorem spellN_length (n k : Nat) : (spellN n k).length = k := by
  induction k with
  | zero => rfl
  | succ k ih => simp [spellN, ih]
theorem spellN_lt (n k : Nat) : ∀ x ∈ spellN n k, x < 256 := by
  induction k with
  | zero => intro x hx; simp [spellN] at hx
  | succ k ih =>
    intro x hx
    simp only [spellN, List.mem_append, List.mem_singleton] at hx
    rcases hx with h | h
    · exact ih x h
    · subst h; exact Nat.mod_lt _ (by omega)
theorem spell_one (k : Nat) (h : k ≤ 255) : spellN k 1 = [k] := by
  simp [spellN]; omega
/-- The number that some bytes tell, the lowest first. -/
def valN : List Nat → Nat
  | [] => 0
  | x :: l => x + 256 * valN l
theorem pow8 (k : Nat) : 2 ^ (8 * (k + 1)) = 256 * 2 ^ (8 * k) := by
  rw [show 8 * (k + 1) = 8 * k + 8 by omega, Nat.pow_add]; omega
theorem valN_snoc (l : List Nat) (x : Nat) : valN (l ++ [x]) = valN l + x * 2 ^ (8 * l.length) := by
  induction l with
  | nil => simp [valN]
  | cons y l ih =>
    rw [List.cons_append, valN, ih, valN, List.length_cons, pow8]
    rw [Nat.mul_add, Nat.add_assoc]
    congr 2
    rw [← Nat.mul_assoc, Nat.mul_comm 256 x, Nat.mul_assoc]
theorem valN_lt (l : List Nat) (h : ∀ x ∈ l, x < 256) : valN l < 2 ^ (8 * l.length) := by
  induction l with
  | nil => simp [valN]
  | cons y l ih =>
    have h1 := ih (fun x hx => h x (by simp [hx]))
    have h2 := h y (by simp)
    rw [valN, List.length_cons, pow8]
    omega
theorem pow8_le (k : Nat) (h : k ≤ 6) : 2 ^ (8 * k) ≤ 281474976710656 := Nat.pow_le_pow_right (n := 2) (j := 48) (by omega) (by omega)
theorem valN_bound (l : List Nat) (h : ∀ x ∈ l, x < 256) (h6 : l.length ≤ 6) : valN l < 281474976710656 := Nat.lt_of_lt_of_le (valN_lt l h) (pow8_le _ h6)
/-- There and back. -/
theorem valN_spellN (n k : Nat) : valN (spellN n k) = n % 2 ^ (8 * k) := by
  induction k with
  | zero => simp [spellN, valN, Nat.mod_one]
  | succ k ih =>
    rw [spellN, valN_snoc, ih, spellN_length, pow8, Nat.mul_comm 256, Nat.mod_mul, Nat.mul_comm (2 ^ (8 * k)) (_ % 256)]
theorem i64_or_nat (a b : Nat) (ha : a < 9223372036854775808) (hb : b < 9223372036854775808) : bits .or .i64 (a : Int) (b : Int) = ((a ||| b : Nat) : Int) := by
  have hx : a ||| b < 2 ^ 63 := Nat.or_lt_two_pow (by omega) (by omega)
  have h1 : (BitVec.ofInt 64 (a : Int)).toNat = a := by
    rw [BitVec.ofInt_natCast, BitVec.toNat_ofNat]; exact Nat.mod_eq_of_lt (by omega)
  have h2 : (BitVec.ofInt 64 (b : Int)).toNat = b := by
    rw [BitVec.ofInt_natCast, BitVec.toNat_ofNat]; exact Nat.mod_eq_of_lt (by omega)
  show IntKind.i64.wrap ((BitVec.ofInt 64 (a : Int) ||| BitVec.ofInt 64 (b : Int)).toNat : Int) = _
  rw [BitVec.toNat_or, h1, h2]
  simp [IntKind.wrap, IntKind.bits, IntKind.signed]
  omega
/-- One byte more. -/
theorem or_step (l : List Nat) (x : Nat) (h : ∀ y ∈ l, y < 256) (hx : x < 256) (h6 : l.length < 6) :
    bits .or .i64 ((valN l : Nat) : Int) ((x * 2 ^ (8 * l.length) : Nat) : Int) = ((valN (l ++ [x]) : Nat) : Int) := by
  have hv := valN_lt l h
  have hp := pow8_le (l.length + 1) (by omega)
  rw [pow8] at hp
  have hm : x * 2 ^ (8 * l.length) < 256 * 2 ^ (8 * l.length) := Nat.mul_lt_mul_of_pos_right hx (Nat.pow_pos (by omega))
  rw [i64_or_nat _ _ (by omega) (by omega), valN_snoc]
  rw [Nat.or_comm, nat_join (8 * l.length) (x * 2 ^ (8 * l.length)) (valN l) (by simp) hv, Nat.add_comm]
theorem shl_eq (x k : Nat) (hx : x < 256) (h6 : k < 6) : wrap64 ((x : Int) * 2 ^ (8 * k)) = ((x * 2 ^ (8 * k) : Nat) : Int) := by
  have hp := pow8_le (k + 1) (by omega)
  rw [pow8] at hp
  have hm : x * 2 ^ (8 * k) < 256 * 2 ^ (8 * k) := Nat.mul_lt_mul_of_pos_right hx (Nat.pow_pos (by omega))
  have e : (x : Int) * 2 ^ (8 * k) = ((x * 2 ^ (8 * k) : Nat) : Int) := by rw [Int.natCast_mul, Int.natCast_pow]; rfl
  rw [e]
  generalize x * 2 ^ (8 * k) = q at *
  simp [wrap64]; omega
theorem add_step (l : List Nat) (x k : Nat) (h : ∀ y ∈ l, y < 256) (hx : x < 256) (hk : l.length = k) (h6 : k < 6) :
    wrap64 (((valN l : Nat) : Int) + wrap64 ((x : Int) * 2 ^ (8 * k))) = ((valN (l ++ [x]) : Nat) : Int) := by
  rw [shl_eq x k hx h6, valN_snoc, hk]
  have hv := valN_bound l h (by omega)
  have hp := pow8_le (k + 1) (by omega)
  rw [pow8] at hp
  have hm : x * 2 ^ (8 * k) < 256 * 2 ^ (8 * k) := Nat.mul_lt_mul_of_pos_right hx (Nat.pow_pos (by omega))
  generalize x * 2 ^ (8 * k) = q at *
  simp [wrap64]; omega
theorem orw_step (l : List Nat) (x k : Nat) (h : ∀ y ∈ l, y < 256) (hx : x < 256) (hk : l.length = k) (h6 : k < 6) :
    bits .or .i64 ((valN l : Nat) : Int) (wrap64 ((x : Int) * 2 ^ (8 * k))) = ((valN (l ++ [x]) : Nat) : Int) := by
  rw [shl_eq x k hx h6]
  subst hk
  exact or_step l x h hx h6
end Go.Proofs.YtmiibakbcogolaaGreat
namespace Go.Proofs.YtmiibakbcogolaaGreat
open Go.RowKit

/-- P103, Put: the error's number and the bytes. -/
def putN (n size : Int) : Int × List Nat :=
  if 1 ≤ size ∧ size ≤ 6 then (if 0 ≤ n ∧ n < 2 ^ (8 * size.toNat) then (0, spellN n.toNat size.toNat) else (11, [])) else (1, [])
theorem pow_size (size : Nat) (h6 : size ≤ 6) : ∃ p : Nat, wrap64 (2 ^ (8 * size)) = (p : Int) ∧ p ≤ 281474976710656 ∧ p = 2 ^ (8 * size) := by
  have h : (2 : Nat) ^ (8 * size) ≤ 2 ^ 48 := Nat.pow_le_pow_right (by omega) (by omega)
  have e : ((2 ^ (8 * size) : Nat) : Int) = (2 : Int) ^ (8 * size) := by rw [Int.natCast_pow]; rfl
  refine ⟨2 ^ (8 * size), ?_, h, rfl⟩
  rw [← e]
  generalize (2 : Nat) ^ (8 * size) = q at *
  have : (q : Int) ≤ 281474976710656 := by omega
  simp [wrap64]; omega
theorem putN_no (n size : Int) (h : ¬ (1 ≤ size ∧ size ≤ 6)) : putN n size = (1, []) := by unfold putN; rw [if_neg h]
theorem putN_range (n : Int) (size : Nat) (h1 : 1 ≤ size) (h6 : size ≤ 6) (h : ¬ (0 ≤ n ∧ n < 2 ^ (8 * size))) : putN n size = (11, []) := by
  unfold putN; rw [if_pos (by omega), Int.toNat_natCast, if_neg h]
theorem putN_ok (n size : Nat) (h1 : 1 ≤ size) (h6 : size ≤ 6) (h : n < 2 ^ (8 * size)) : putN n size = (0, spellN n size) := by
  have e : ((2 ^ (8 * size) : Nat) : Int) = (2 : Int) ^ (8 * size) := by rw [Int.natCast_pow]; rfl
  unfold putN; rw [if_pos (by omega), Int.toNat_natCast, Int.toNat_natCast, if_pos ⟨by omega, by rw [← e]; omega⟩]
end Go.Proofs.YtmiibakbcogolaaGreat
namespace Go.Proofs.YtmiibakbcogolaaGreat
open Go.RowKit

/-- All bytes of the first k parts. -/
def allN (ps : List Part) (k : Nat) : List Nat := ((ps.take k).map (·.l)).flatten
theorem allN_succ (ps : List Part) (k : Nat) (p : Part) (h : ps[k]? = some p) : allN ps (k + 1) = allN ps k ++ p.l := by
  unfold allN
  obtain ⟨hk, e⟩ := List.getElem?_eq_some_iff.1 h
  rw [List.take_succ_eq_append_getElem hk, e]
  simp
theorem allN_le (ps : List Part) (k : Nat) : (allN ps k).length ≤ (allN ps ps.length).length := by
  have e : allN ps ps.length = allN ps k ++ ((ps.drop k).map (·.l)).flatten := by
    unfold allN
    rw [List.take_length, ← List.flatten_append, ← List.map_append, List.take_append_drop]
  rw [e]; simp
theorem allN_lt (w : World) (ps : List Part) (h : ∀ (i : Nat) (p : Part), ps[i]? = some p → p.ok w) (k : Nat) : ∀ x ∈ allN ps k, x < 256 := by
  intro x hx
  unfold allN at hx
  rw [List.mem_flatten] at hx
  obtain ⟨l, hl, hx⟩ := hx
  rw [List.mem_map] at hl
  obtain ⟨p, hp, rfl⟩ := hl
  obtain ⟨i, hi, e⟩ := List.getElem_of_mem (List.mem_of_mem_take hp)
  exact (h i p (by rw [List.getElem?_eq_getElem hi, e])).2.2.1 x hx
end Go.Proofs.YtmiibakbcogolaaGreat
namespace Go.Proofs.YtmiibakbcogolaaGreat
open Go.RowKit

/-- P103, Get. -/
def getN (l : List Nat) (p size : Int) : Int × Int × Int :=
  if 1 ≤ size ∧ size ≤ 6 ∧ 0 ≤ p then
    (if p + size ≤ l.length then (((valN ((l.drop p.toNat).take size.toNat) : Nat) : Int), p + size, 0) else (0, 0, 20))
  else (0, 0, 1)
theorem getN_arg (l : List Nat) (p size : Int) (h : ¬ (1 ≤ size ∧ size ≤ 6 ∧ 0 ≤ p)) : getN l p size = (0, 0, 1) := by unfold getN; rw [if_neg h]
theorem getN_end (l : List Nat) (p size : Int) (h : 1 ≤ size ∧ size ≤ 6 ∧ 0 ≤ p) (h2 : ¬ p + size ≤ l.length) : getN l p size = (0, 0, 20) := by unfold getN; rw [if_pos h, if_neg h2]
theorem getN_ok (l : List Nat) (p s : Nat) (h : 1 ≤ s ∧ s ≤ 6) (h2 : p + s ≤ l.length) : getN l p s = (((valN ((l.drop p).take s) : Nat) : Int), ((p + s : Nat) : Int), 0) := by
  unfold getN; rw [if_pos (by omega), if_pos (by omega), Int.toNat_natCast, Int.toNat_natCast, Int.natCast_add]
end Go.Proofs.YtmiibakbcogolaaGreat
namespace Go.Proofs.YtmiibakbcogolaaGreat
open Go.RowKit Crcm

/-- The body's length that a frame at p tells. -/
def sizeAt (l : List Nat) (p : Nat) : Nat := valN ((l.drop (p + 1)).take 4)
/-- What is summed of the frame at p. -/
def toldAt (l : List Nat) (p : Nat) : List Nat := (l.drop p).take (5 + sizeAt l p)
/-- The sum that the frame at p bears. -/
def sumAt (l : List Nat) (p : Nat) : Nat := valN ((l.drop (p + 5 + sizeAt l p)).take 4)
def bodyAt (l : List Nat) (p : Nat) : List Nat := (l.drop (p + 5)).take (sizeAt l p)
def kindAt (l : List Nat) (p : Nat) : Nat := valN ((l.drop p).take 1)
/-- P105, Unframe: the error's number. -/
def unframeE (l : List Nat) (p : Nat) : Int :=
  if l.length < p + 5 then 20 else if 65536 < sizeAt l p then 22 else if l.length < p + 9 + sizeAt l p then 20 else if sumAt l p = crc (toldAt l p) then 0 else 21
/-- P105, Unframe: the kind, the body, the place behind it, the error's number. -/
def unframeN (l : List Nat) (p : Int) : Int × List Nat × Int × Int :=
  if 0 ≤ p then (if unframeE l p.toNat = 0 then (((kindAt l p.toNat : Nat) : Int), bodyAt l p.toNat, ((p.toNat + 9 + sizeAt l p.toNat : Nat) : Int), 0) else (0, [], 0, unframeE l p.toNat)) else (0, [], 0, 1)
theorem sizeAt_lt (l : List Nat) (p : Nat) (h : ∀ x ∈ l, x < 256) : sizeAt l p < 4294967296 := by
  have h1 := valN_lt ((l.drop (p + 1)).take 4) (drop_take_lt h (p + 1) 4)
  have h2 : ((l.drop (p + 1)).take 4).length ≤ 4 := List.length_take_le _ _
  have h3 : 2 ^ (8 * ((l.drop (p + 1)).take 4).length) ≤ 2 ^ 32 := Nat.pow_le_pow_right (by omega) (by omega)
  unfold sizeAt
  omega
theorem unframeE_zero {l : List Nat} {p : Nat} (h : unframeE l p = 0) : sizeAt l p ≤ 65536 ∧ p + 9 + sizeAt l p ≤ l.length ∧ sumAt l p = crc (toldAt l p) := by
  unfold unframeE at h
  by_cases h1 : l.length < p + 5
  · rw [if_pos h1] at h; omega
  · rw [if_neg h1] at h
    by_cases h2 : 65536 < sizeAt l p
    · rw [if_pos h2] at h; omega
    · rw [if_neg h2] at h
      by_cases h3 : l.length < p + 9 + sizeAt l p
      · rw [if_pos h3] at h; omega
      · rw [if_neg h3] at h
        by_cases h4 : sumAt l p = crc (toldAt l p)
        · exact ⟨by omega, by omega, h4⟩
        · rw [if_neg h4] at h; omega
theorem unframeN_arg (l : List Nat) (p : Int) (h : ¬ 0 ≤ p) : unframeN l p = (0, [], 0, 1) := by unfold unframeN; rw [if_neg h]
theorem unframeN_ok (l : List Nat) (p : Nat) (h : unframeE l p = 0) : unframeN l p = (((kindAt l p : Nat) : Int), bodyAt l p, ((p + 9 + sizeAt l p : Nat) : Int), 0) := by
  unfold unframeN; rw [if_pos (by omega), Int.toNat_natCast, if_pos h]
theorem unframeN_err (l : List Nat) (p : Nat) (h : unframeE l p ≠ 0) : unframeN l p = (0, [], 0, unframeE l p) := by
  unfold unframeN; rw [if_pos (by omega), Int.toNat_natCast, if_neg h]
theorem kindAt_eq (l : List Nat) (p : Nat) (h : p < l.length) : kindAt l p = l.getD p 0 := by
  unfold kindAt
  have e := drop_take_snoc l p 0 (by omega)
  rw [Nat.zero_add] at e
  rw [e]
  simp [valN]
end Go.Proofs.YtmiibakbcogolaaGreat
namespace Go.Proofs.YtmiibakbcogolaaGreat
open Go.RowKit Crcm

/-- What is summed of a frame. -/
def toldN (kind : Nat) (l : List Nat) : List Nat := spellN kind 1 ++ spellN l.length 4 ++ l
/-- A frame's bytes. -/
def frameBs (kind : Nat) (l : List Nat) : List Nat := toldN kind l ++ spellN (crc (toldN kind l)) 4
/-- P105, Frame: the error's number and the bytes. -/
def frameN (kind : Int) (l : List Nat) : Int × List Nat :=
  if 0 ≤ kind ∧ kind ≤ 255 then (if l.length ≤ 65536 then (0, frameBs kind.toNat l) else (6, [])) else (1, [])
theorem toldN_length (kind : Nat) (l : List Nat) : (toldN kind l).length = 5 + l.length := by simp [toldN, spellN_length]; omega
theorem frameBs_length (kind : Nat) (l : List Nat) : (frameBs kind l).length = 9 + l.length := by simp [frameBs, toldN_length, spellN_length]; omega
theorem frameN_ok (kind : Nat) (l : List Nat) (hk : kind ≤ 255) (hl : l.length ≤ 65536) : frameN kind l = (0, frameBs kind l) := by
  unfold frameN; rw [if_pos (by omega), if_pos hl, Int.toNat_natCast]
theorem frameN_kind (kind : Int) (l : List Nat) (hk : ¬ (0 ≤ kind ∧ kind ≤ 255)) : frameN kind l = (1, []) := by unfold frameN; rw [if_neg hk]
theorem frameN_size (kind : Int) (l : List Nat) (hk : 0 ≤ kind ∧ kind ≤ 255) (hl : ¬ l.length ≤ 65536) : frameN kind l = (6, []) := by unfold frameN; rw [if_pos hk, if_neg hl]
end Go.Proofs.YtmiibakbcogolaaGreat
namespace Go.Proofs.YtmiibakbcogolaaGreat
open Go.RowKit Crcm

theorem drop_ahead (A M : List Nat) (p j : Nat) (hp : A.length = p) : (A ++ M).drop (p + j) = M.drop j := by
  subst hp
  rw [← List.drop_drop, List.drop_left]
theorem take_front (M B : List Nat) (n : Nat) (h : M.length = n) : (M ++ B).take n = M := by subst h; exact List.take_left
theorem drop_front (M B : List Nat) (n : Nat) (h : M.length = n) : (M ++ B).drop n = B := by subst h; exact List.drop_left
theorem pow_two_mod (n k : Nat) (h : n < 2 ^ (8 * k)) : valN (spellN n k) = n := by rw [valN_spellN]; exact Nat.mod_eq_of_lt h
/-- A number that was put is got, with anything ahead and behind. -/
theorem get_back (A B : List Nat) (n size p : Nat) (hp : A.length = p) (h1 : 1 ≤ size) (h6 : size ≤ 6) (hn : n < 2 ^ (8 * size)) : getN (A ++ (spellN n size ++ B)) p size = ((n : Int), ((p + size : Nat) : Int), 0) := by
  rw [getN_ok _ p size ⟨h1, h6⟩ (by simp [spellN_length]; omega)]
  have e := drop_ahead A (spellN n size ++ B) p 0 hp
  rw [Nat.add_zero, List.drop_zero] at e
  rw [e, take_front _ _ _ (spellN_length n size), pow_two_mod n size hn]
/-- A frame that was framed is unframed, with anything ahead and behind. -/
theorem frame_parts (A B l : List Nat) (kind p : Nat) (hp : A.length = p) (hk : kind ≤ 255) (hl : l.length ≤ 65536) :
    sizeAt (A ++ (frameBs kind l ++ B)) p = l.length ∧ kindAt (A ++ (frameBs kind l ++ B)) p = kind ∧ bodyAt (A ++ (frameBs kind l ++ B)) p = l ∧ toldAt (A ++ (frameBs kind l ++ B)) p = toldN kind l ∧
      sumAt (A ++ (frameBs kind l ++ B)) p = crc (toldN kind l) := by
  have hF : frameBs kind l ++ B = spellN kind 1 ++ (spellN l.length 4 ++ (l ++ (spellN (crc (toldN kind l)) 4 ++ B))) := by
    simp [frameBs, toldN]
  have s1 : sizeAt (A ++ (frameBs kind l ++ B)) p = l.length := by
    unfold sizeAt
    rw [drop_ahead A _ p 1 hp, hF, drop_front _ _ 1 (spellN_length _ _), take_front _ _ 4 (spellN_length _ _)]
    exact pow_two_mod _ 4 (by omega)
  refine ⟨s1, ?_, ?_, ?_, ?_⟩
  · unfold kindAt
    have e := drop_ahead A (frameBs kind l ++ B) p 0 hp
    rw [Nat.add_zero, List.drop_zero] at e
    rw [e, hF, take_front _ _ 1 (spellN_length _ _)]
    exact pow_two_mod _ 1 (by omega)
  · unfold bodyAt
    rw [s1, drop_ahead A _ p 5 hp, hF, show (5 : Nat) = 1 + 4 from rfl, ← List.drop_drop, drop_front _ _ 1 (spellN_length _ _), drop_front _ _ 4 (spellN_length _ _), take_front _ _ _ rfl]
  · unfold toldAt
    have e := drop_ahead A (frameBs kind l ++ B) p 0 hp
    rw [Nat.add_zero, List.drop_zero] at e
    rw [s1, e]
    unfold frameBs
    rw [List.append_assoc, take_front _ _ _ (toldN_length kind l)]
  · unfold sumAt
    rw [s1, Nat.add_assoc, drop_ahead A _ p _ hp]
    unfold frameBs
    rw [List.append_assoc, drop_front _ _ _ (toldN_length kind l), take_front _ _ 4 (spellN_length _ _)]
    exact pow_two_mod _ 4 (crc_lt _)
theorem frame_back (A B l : List Nat) (kind p : Nat) (hp : A.length = p) (hk : kind ≤ 255) (hl : l.length ≤ 65536) :
    unframeN (A ++ (frameBs kind l ++ B)) p = ((kind : Int), l, ((p + 9 + l.length : Nat) : Int), 0) := by
  obtain ⟨h1, h2, h3, h4, h5⟩ := frame_parts A B l kind p hp hk hl
  have hlen : (A ++ (frameBs kind l ++ B)).length = p + (9 + l.length + B.length) := by simp [frameBs_length, hp]
  have e : unframeE (A ++ (frameBs kind l ++ B)) p = 0 := by
    unfold unframeE
    rw [h1, hlen, if_neg (by omega), if_neg (by omega), if_neg (by omega), h4, h5, if_pos rfl]
  rw [unframeN_ok _ p e, h1, h2, h3]
end Go.Proofs.YtmiibakbcogolaaGreat
namespace Go.Proofs.YtmiibakbcogolaaGreat
open Go.RowKit Crcm

/-- An entry's bytes. -/
def entryN (kind loglet pos : Nat) (data : List Nat) : List Nat := spellN kind 1 ++ spellN loglet 6 ++ spellN pos 6 ++ data
theorem entryN_length (kind loglet pos : Nat) (data : List Nat) : (entryN kind loglet pos data).length = 13 + data.length := by simp [entryN, spellN_length]; omega
/-- How many parts so many bytes stand in. -/
def partsN (n : Nat) : Nat := (n + 239) / 240
/-- A part, ahead of its sum. -/
def partBs (number k count : Nat) (piece : List Nat) : List Nat := spellN 165 1 ++ spellN number 6 ++ spellN k 2 ++ spellN count 2 ++ spellN piece.length 1 ++ piece ++ List.replicate (240 - piece.length) 0
theorem partBs_length (number k count : Nat) (piece : List Nat) (h : piece.length ≤ 240) : (partBs number k count piece).length = 252 := by simp [partBs, spellN_length]; omega
/-- A part as a block. -/
def partN (number k count : Nat) (piece : List Nat) : List Nat := partBs number k count piece ++ spellN (crc (partBs number k count piece)) 4
theorem partN_length (number k count : Nat) (piece : List Nat) (h : piece.length ≤ 240) : (partN number k count piece).length = 256 := by simp [partN, partBs_length _ _ _ _ h, spellN_length]
/-- Part k of a text. -/
def pieceN (text : List Nat) (k : Nat) : List Nat := (text.drop (k * 240)).take 240
theorem pieceN_length (text : List Nat) (k : Nat) : (pieceN text k).length ≤ 240 := by simp [pieceN]; omega
/-- The blocks of the entry of that number. -/
def blocksN (number : Nat) (text : List Nat) : List (List Nat) := (List.range (partsN text.length)).map fun k => partN number k (partsN text.length) (pieceN text k)
theorem blocksN_length (number : Nat) (text : List Nat) : (blocksN number text).length = partsN text.length := by simp [blocksN]
theorem blocksN_at (number : Nat) (text : List Nat) (k : Nat) (h : k < partsN text.length) : (blocksN number text)[k]? = some (partN number k (partsN text.length) (pieceN text k)) := by
  simp [blocksN, List.getElem?_range h]
theorem partN_lt (number k count : Nat) (piece : List Nat) (h : ∀ x ∈ piece, x < 256) : ∀ x ∈ partN number k count piece, x < 256 := by
  intro x hx
  simp only [partN, partBs, List.mem_append, List.mem_replicate] at hx
  rcases hx with (((((((hx | hx) | hx) | hx) | hx) | hx) | hx)) | hx
  · exact spellN_lt _ _ x hx
  · exact spellN_lt _ _ x hx
  · exact spellN_lt _ _ x hx
  · exact spellN_lt _ _ x hx
  · exact spellN_lt _ _ x hx
  · exact h x hx
  · omega
  · exact spellN_lt _ _ x hx
theorem pieceN_lt {text : List Nat} (h : ∀ x ∈ text, x < 256) (k : Nat) : ∀ x ∈ pieceN text k, x < 256 := fun x hx => h x (List.mem_of_mem_drop (List.mem_of_mem_take hx))
end Go.Proofs.YtmiibakbcogolaaGreat
namespace Go.Proofs.YtmiibakbcogolaaGreat
open Go.RowKit

/-- A block: its durable text (none: unreadable), its versions. -/
structure DBlock where
  dur : Option (List Nat)
  vs : List (List Nat)
/-- A disk: its blocks, whether the power is gone, its fuse (below 0: none). -/
structure DSt where
  bs : List DBlock
  off : Bool
  fuse : Int
def zeros : List Nat := List.replicate 256 0
def fullN (c : Nat) : List Nat := List.replicate 256 c
def b0 : DBlock := ⟨some zeros, []⟩
def newD (n : Nat) : DSt := ⟨List.replicate n b0, false, -1⟩
/-- May an operation be done, and the disk behind it. -/
def opD (s : DSt) : Bool × DSt :=
  if s.off then (false, s)
  else if s.fuse = 0 then (false, ⟨s.bs, true, -1⟩)
  else if 0 < s.fuse then (true, ⟨s.bs, false, s.fuse - 1⟩)
  else (true, s)
def DBlock.add (x : DBlock) (b : List Nat) : DBlock := ⟨x.dur, x.vs ++ [b]⟩
def DSt.setB (s : DSt) (i : Nat) (x : DBlock) : DSt := ⟨s.bs.set i x, s.off, s.fuse⟩
def DSt.at (s : DSt) (i : Nat) : DBlock := s.bs.getD i b0
def DSt.has (s : DSt) (i : Int) : Bool := decide (0 ≤ i) && decide (i < s.bs.length)
/-- P303, Write. -/
def writeD (s : DSt) (i : Int) (b : List Nat) : Int × DSt :=
  if s.has i && b.length == 256 then
    (if (opD s).1 then (0, (opD s).2.setB i.toNat (((opD s).2.at i.toNat).add b)) else (8, (opD s).2))
  else (1, s)
def DBlock.sync (x : DBlock) : DBlock := if x.vs = [] then x else ⟨x.vs.getLast?, []⟩
/-- P303, Sync. -/
def syncD (s : DSt) : Int × DSt :=
  if (opD s).1 then (0, ⟨(opD s).2.bs.map DBlock.sync, (opD s).2.off, (opD s).2.fuse⟩) else (8, (opD s).2)
/-- P303, Cut. -/
def cutD (s : DSt) (n : Int) : DSt := if s.off then s else ⟨s.bs, false, if n < 0 then -1 else n⟩
/-- The present text. -/
def DBlock.now (x : DBlock) : Option (List Nat) := if x.vs = [] then x.dur else x.vs.getLast?
/-- P304, Read. -/
def readD (s : DSt) (i : Int) : List Nat × Int :=
  if s.has i then
    (if s.off then ([], 8) else match (s.at i.toNat).now with
      | some t => (t, 0)
      | none => ([], 22))
  else ([], 1)
def dirtyBs : List DBlock → Nat
  | [] => 0
  | x :: xs => (if x.vs = [] then 0 else 1) + dirtyBs xs
def dirtyD (s : DSt) : Nat := dirtyBs s.bs
def DBlock.crash (x : DBlock) (c : Int) : DBlock :=
  if c = 0 then ⟨x.dur, []⟩ else if 0 < c ∧ c ≤ x.vs.length then ⟨some (x.vs.getD (c.toNat - 1) []), []⟩ else ⟨none, []⟩
def crashBs : List DBlock → List Int → List DBlock
  | [], _ => []
  | x :: xs, cs => if x.vs = [] then x :: crashBs xs cs else x.crash (cs.headD 0) :: crashBs xs cs.tail
/-- P305. -/
def crashD (s : DSt) (cs : List Int) : DSt := ⟨crashBs s.bs cs, false, -1⟩
/-- Texts are of 256 bytes; a fuse is -1 or more; no power: no fuse. -/
structure DSt.ok (s : DSt) : Prop where
  dur : ∀ x ∈ s.bs, ∀ t, x.dur = some t → t.length = 256 ∧ ∀ y ∈ t, y < 256
  vs : ∀ x ∈ s.bs, ∀ t ∈ x.vs, t.length = 256 ∧ ∀ y ∈ t, y < 256
  fuse : -1 ≤ s.fuse
theorem zeros_ok : zeros.length = 256 ∧ ∀ y ∈ zeros, y < 256 := ⟨List.length_replicate, fun y hy => by rw [zeros, List.mem_replicate] at hy; omega⟩
theorem fullN_ok (c : Nat) (h : c < 256) : (fullN c).length = 256 ∧ ∀ y ∈ fullN c, y < 256 := ⟨List.length_replicate, fun y hy => by rw [fullN, List.mem_replicate] at hy; omega⟩
theorem newD_ok (n : Nat) : (newD n).ok := by
  refine ⟨?_, ?_, by simp [newD]⟩
  · intro x hx t ht
    rw [newD, List.mem_replicate] at hx
    rw [hx.2] at ht
    cases ht
    exact zeros_ok
  · intro x hx t ht
    rw [newD, List.mem_replicate] at hx
    rw [hx.2] at ht
    cases ht
theorem opD_bs (s : DSt) : (opD s).2.bs = s.bs := by
  unfold opD
  split
  · rfl
  · split
    · rfl
    · split <;> rfl
theorem opD_ok {s : DSt} (h : s.ok) : (opD s).2.ok := by
  refine ⟨by rw [opD_bs]; exact h.1, by rw [opD_bs]; exact h.2, ?_⟩
  have := h.fuse
  unfold opD
  split
  · exact h.fuse
  · split
    · simp
    · split
      · simp; omega
      · exact h.fuse
theorem mem_set {α : Type} {l : List α} {i : Nat} {a x : α} (h : x ∈ l.set i a) : x = a ∨ x ∈ l := by
  rcases List.mem_or_eq_of_mem_set h with h | h
  · exact Or.inr h
  · exact Or.inl h
theorem at_mem {s : DSt} {i : Nat} (h : i < s.bs.length) : s.at i ∈ s.bs := by
  rw [DSt.at, List.getD_eq_getElem?_getD, List.getElem?_eq_getElem h]; exact List.getElem_mem h
theorem has_lt {s : DSt} {i : Int} (h : s.has i = true) : 0 ≤ i ∧ i.toNat < s.bs.length := by
  simp only [DSt.has, Bool.and_eq_true, decide_eq_true_eq] at h; omega
theorem writeD_ok {s : DSt} (h : s.ok) (i : Int) (b : List Nat) (hb : ∀ y ∈ b, y < 256) : (writeD s i b).2.ok := by
  unfold writeD
  split
  · rename_i hc
    simp only [Bool.and_eq_true, beq_iff_eq] at hc
    have ho := opD_ok h
    split
    · have hl : i.toNat < (opD s).2.bs.length := by rw [opD_bs]; exact (has_lt hc.1).2
      refine ⟨?_, ?_, ho.fuse⟩
      · intro x hx t ht
        rcases mem_set hx with rfl | hx
        · exact ho.dur _ (at_mem hl) t ht
        · exact ho.dur x hx t ht
      · intro x hx t ht
        rcases mem_set hx with rfl | hx
        · rw [DBlock.add, List.mem_append] at ht
          rcases ht with ht | ht
          · exact ho.vs _ (at_mem hl) t ht
          · simp at ht; rw [ht]; exact ⟨hc.2, hb⟩
        · exact ho.vs x hx t ht
    · exact ho
  · exact h
theorem getLast_mem {l : List (List Nat)} {t : List Nat} (h : l.getLast? = some t) : t ∈ l := List.mem_of_getLast? h
theorem syncD_ok {s : DSt} (h : s.ok) : (syncD s).2.ok := by
  have ho := opD_ok h
  unfold syncD
  split
  · refine ⟨?_, ?_, ho.fuse⟩
    · intro x hx t ht
      obtain ⟨y, hy, rfl⟩ := List.mem_map.1 hx
      unfold DBlock.sync at ht
      split at ht
      · exact ho.dur y hy t ht
      · exact ho.vs y hy t (getLast_mem ht)
    · intro x hx t ht
      obtain ⟨y, hy, rfl⟩ := List.mem_map.1 hx
      unfold DBlock.sync at ht
      split at ht
      · rename_i h0; rw [h0] at ht; cases ht
      · cases ht
  · exact ho
theorem cutD_ok {s : DSt} (h : s.ok) (n : Int) : (cutD s n).ok := by
  unfold cutD
  split
  · exact h
  · exact ⟨h.1, h.2, by simp only; split <;> omega⟩
theorem crash_ok {x : DBlock} (c : Int) (h1 : ∀ t, x.dur = some t → t.length = 256 ∧ ∀ y ∈ t, y < 256) (h2 : ∀ t ∈ x.vs, t.length = 256 ∧ ∀ y ∈ t, y < 256) :
    (∀ t, (x.crash c).dur = some t → t.length = 256 ∧ ∀ y ∈ t, y < 256) ∧ (x.crash c).vs = [] := by
  unfold DBlock.crash
  split
  · exact ⟨h1, rfl⟩
  · split
    · rename_i hc
      refine ⟨fun t ht => ?_, rfl⟩
      cases ht
      rw [List.getD_eq_getElem?_getD, List.getElem?_eq_getElem (by omega)]
      exact h2 _ (List.getElem_mem _)
    · exact ⟨fun t ht => (by cases ht), rfl⟩
theorem crashBs_mem (bs : List DBlock) : ∀ (cs : List Int), ∀ x ∈ crashBs bs cs, x ∈ bs ∨ ∃ y ∈ bs, ∃ c, x = y.crash c := by
  induction bs with
  | nil => intro cs x hx; cases hx
  | cons b bs ih =>
    intro cs x hx
    rw [crashBs] at hx
    split at hx
    · rcases List.mem_cons.1 hx with rfl | hx
      · exact Or.inl (by simp)
      · rcases ih cs x hx with h | ⟨y, hy, c, hc⟩
        · exact Or.inl (by simp [h])
        · exact Or.inr ⟨y, by simp [hy], c, hc⟩
    · rcases List.mem_cons.1 hx with rfl | hx
      · exact Or.inr ⟨b, by simp, _, rfl⟩
      · rcases ih cs.tail x hx with h | ⟨y, hy, c, hc⟩
        · exact Or.inl (by simp [h])
        · exact Or.inr ⟨y, by simp [hy], c, hc⟩
theorem crashD_ok {s : DSt} (h : s.ok) (cs : List Int) : (crashD s cs).ok := by
  refine ⟨?_, ?_, by simp [crashD]⟩
  · intro x hx t ht
    rcases crashBs_mem _ _ x hx with h1 | ⟨y, hy, c, rfl⟩
    · exact h.dur x h1 t ht
    · exact (crash_ok c (h.dur y hy) (h.vs y hy)).1 t ht
  · intro x hx t ht
    rcases crashBs_mem _ _ x hx with h1 | ⟨y, hy, c, rfl⟩
    · exact h.vs x h1 t ht
    · rw [(crash_ok c (h.dur y hy) (h.vs y hy)).2] at ht; cases ht
theorem crashBs_length (bs : List DBlock) : ∀ cs : List Int, (crashBs bs cs).length = bs.length := by
  induction bs with
  | nil => intro cs; rfl
  | cons b bs ih =>
    intro cs
    rw [crashBs]
    split <;> simp [ih]
/-- P308: behind a Crash nothing is dirty. -/
theorem crashBs_clean (bs : List DBlock) : ∀ cs : List Int, ∀ x ∈ crashBs bs cs, x.vs = [] := by
  induction bs with
  | nil => intro cs x hx; cases hx
  | cons b bs ih =>
    intro cs x hx
    rw [crashBs] at hx
    split at hx
    · rename_i h0
      rcases List.mem_cons.1 hx with rfl | hx
      · exact h0
      · exact ih cs x hx
    · rcases List.mem_cons.1 hx with rfl | hx
      · unfold DBlock.crash; split
        · rfl
        · split <;> rfl
      · exact ih _ x hx
theorem crashBs_id (bs : List DBlock) (h : ∀ x ∈ bs, x.vs = []) : ∀ cs : List Int, crashBs bs cs = bs := by
  induction bs with
  | nil => intro cs; rfl
  | cons b bs ih =>
    intro cs
    rw [crashBs, if_pos (h b (by simp)), ih (fun x hx => h x (by simp [hx]))]
/-- P308: a second Crash changes nothing. -/
theorem crash_twice (s : DSt) (cs ds : List Int) : crashD (crashD s cs) ds = crashD s cs := by
  unfold crashD
  rw [crashBs_id _ (crashBs_clean _ _)]
theorem dirty_zero (bs : List DBlock) (h : ∀ x ∈ bs, x.vs = []) : dirtyBs bs = 0 := by
  induction bs with
  | nil => rfl
  | cons b bs ih => rw [dirtyBs, if_pos (h b (by simp)), ih (fun x hx => h x (by simp [hx]))]
theorem crash_dirty (s : DSt) (cs : List Int) : dirtyD (crashD s cs) = 0 := dirty_zero _ (crashBs_clean _ _)
/-- A block that is not dirty stays as it is. -/
theorem crashBs_at (bs : List DBlock) : ∀ (cs : List Int) (i : Nat), (bs.getD i b0).vs = [] → (crashBs bs cs).getD i b0 = bs.getD i b0 := by
  induction bs with
  | nil => intro cs i _; rfl
  | cons b bs ih =>
    intro cs i h
    rw [crashBs]
    cases i with
    | zero =>
      simp at h
      rw [if_pos h]; simp
    | succ i =>
      simp at h
      split
      · simpa using ih cs i (by simpa using h)
      · simpa using ih cs.tail i (by simpa using h)
theorem opD_has (s : DSt) (i : Int) : (opD s).2.has i = s.has i := by unfold DSt.has; rw [opD_bs]
theorem opD_at (s : DSt) (i : Nat) : (opD s).2.at i = s.at i := by unfold DSt.at; rw [opD_bs]
theorem writeD_length (s : DSt) (i : Int) (b : List Nat) : (writeD s i b).2.bs.length = s.bs.length := by
  unfold writeD
  split
  · split
    · simp [DSt.setB, opD_bs]
    · rw [opD_bs]
  · rfl
theorem syncD_length (s : DSt) : (syncD s).2.bs.length = s.bs.length := by
  unfold syncD
  split
  · simp [opD_bs]
  · rw [opD_bs]
/-- With power and no fuse. -/
structure DSt.free (s : DSt) : Prop where
  on : s.off = false
  none : s.fuse = -1
theorem opD_free {s : DSt} (h : s.free) : opD s = (true, s) := by
  unfold opD
  rw [h.on, h.none]
  simp
theorem writeD_free {s : DSt} (h : s.free) {i : Nat} (hi : i < s.bs.length) {b : List Nat} (hb : b.length = 256) : writeD s i b = (0, s.setB i ((s.at i).add b)) := by
  unfold writeD
  rw [opD_free h]
  have h1 : s.has (i : Nat) = true := by simp [DSt.has]; omega
  rw [h1, hb]
  simp
theorem syncD_free {s : DSt} (h : s.free) : syncD s = (0, ⟨s.bs.map DBlock.sync, s.off, s.fuse⟩) := by
  unfold syncD
  rw [opD_free h]
  simp
theorem setB_at (s : DSt) (i j : Nat) (x : DBlock) (hi : i < s.bs.length) : (s.setB i x).at j = if j = i then x else s.at j := by
  unfold DSt.setB DSt.at
  simp only
  rw [List.getD_eq_getElem?_getD, List.getD_eq_getElem?_getD, List.getElem?_set]
  by_cases h : j = i
  · subst h; simp [hi]
  · rw [if_neg (fun e => h e.symm), if_neg h]
theorem sync_at (s : DSt) (j : Nat) : (⟨s.bs.map DBlock.sync, s.off, s.fuse⟩ : DSt).at j = (s.at j).sync := by
  unfold DSt.at
  simp only
  rw [List.getD_eq_getElem?_getD, List.getD_eq_getElem?_getD, List.getElem?_map]
  cases s.bs[j]? with
  | none => rfl
  | some x => rfl
theorem sync_now (x : DBlock) : x.sync.now = x.now := by
  unfold DBlock.sync DBlock.now
  by_cases h : x.vs = []
  · simp [h]
  · simp [h]
theorem sync_vs (x : DBlock) : x.sync.vs = [] := by
  unfold DBlock.sync
  split
  · assumption
  · rfl
theorem add_now (x : DBlock) (b : List Nat) : (x.add b).now = some b := by
  unfold DBlock.add DBlock.now
  simp
theorem readD_free {s : DSt} (h : s.off = false) {i : Nat} (hi : i < s.bs.length) {t : List Nat} (ht : (s.at i).now = some t) : readD s i = (t, 0) := by
  unfold readD
  have h1 : s.has (i : Nat) = true := by simp [DSt.has]; omega
  rw [h1, h]
  simp [ht]
end Go.Proofs.YtmiibakbcogolaaGreat
namespace Go.Proofs.YtmiibakbcogolaaGreat
open Go.RowKit

/-- What a loglet has beside its slots. -/
structure LSt where
  tail : Nat
  trim : Nat
  sealed : Bool
def l0 : LSt := ⟨0, 0, false⟩
/-- A store: its disk, its slots, its loglets, how many entries there are, the block behind them, whether it has fallen. -/
structure SSt where
  d : DSt
  slots : Nat → Nat → Option (List Nat)
  logs : Nat → Option LSt
  num : Nat
  fin : Nat
  fallen : Bool
def SSt.log (s : SSt) (id : Nat) : LSt := (s.logs id).getD l0
/-- An entry. -/
structure Ent where
  kind : Nat
  loglet : Nat
  pos : Nat
  data : List Nat
def Ent.text (e : Ent) : List Nat := entryN e.kind e.loglet e.pos e.data
def Ent.parts (e : Ent) : Nat := partsN (13 + e.data.length)
theorem Ent.text_length (e : Ent) : e.text.length = 13 + e.data.length := entryN_length _ _ _ _
theorem Ent.parts_pos (e : Ent) : 1 ≤ e.parts := by unfold Ent.parts partsN; omega
/-- Blocks, written one behind the other: were all, and the disk. -/
def writesD (d : DSt) : List (Nat × List Nat) → Bool × DSt
  | [] => (true, d)
  | x :: r => if (writeD d x.1 x.2).1 = 0 then writesD (writeD d x.1 x.2).2 r else (false, (writeD d x.1 x.2).2)
/-- The first k of them. -/
def midD (d : DSt) (xs : List (Nat × List Nat)) (k : Nat) : DSt := (writesD d (xs.take k)).2
/-- Blocks that are to last. -/
def lastsD (d : DSt) (xs : List (Nat × List Nat)) : Bool × DSt :=
  if (writesD d xs).1 then (if xs = [] then (true, d) else (decide ((syncD (writesD d xs).2).1 = 0), (syncD (writesD d xs).2).2)) else (false, (writesD d xs).2)
theorem writesD_append (d : DSt) (xs ys : List (Nat × List Nat)) : writesD d (xs ++ ys) = if (writesD d xs).1 then writesD (writesD d xs).2 ys else writesD d xs := by
  induction xs generalizing d with
  | nil => simp [writesD]
  | cons x r ih =>
    simp only [List.cons_append, writesD]
    split
    · rw [ih]
    · simp
theorem writesD_snoc (d : DSt) (xs : List (Nat × List Nat)) (x : Nat × List Nat) (h : (writesD d xs).1 = true) : writesD d (xs ++ [x]) = (decide ((writeD (writesD d xs).2 x.1 x.2).1 = 0), (writeD (writesD d xs).2 x.1 x.2).2) := by
  rw [writesD_append, if_pos h]
  simp only [writesD]
  split
  · rename_i h1; simp [h1]
  · rename_i h1; simp [h1]
theorem writesD_take (d : DSt) (xs : List (Nat × List Nat)) (k : Nat) (h : (writesD d (xs.take (k + 1))).1 = true) : (writesD d (xs.take k)).1 = true := by
  by_cases hk : k < xs.length
  · rw [List.take_succ_eq_append_getElem hk, writesD_append] at h
    by_cases h1 : (writesD d (xs.take k)).1 = true
    · exact h1
    · rw [if_neg h1] at h; exact absurd h h1
  · rw [List.take_of_length_le (by omega)] at h ⊢; exact h
theorem writesD_stop (d : DSt) (xs : List (Nat × List Nat)) (k : Nat) (h : (writesD d (xs.take k)).1 = false) : writesD d xs = writesD d (xs.take k) := by
  have e : xs = xs.take k ++ xs.drop k := (List.take_append_drop k xs).symm
  conv => lhs; rw [e, writesD_append]
  rw [h]; rfl
theorem writesD_length (d : DSt) (xs : List (Nat × List Nat)) : (writesD d xs).2.bs.length = d.bs.length := by
  induction xs generalizing d with
  | nil => rfl
  | cons x r ih =>
    simp only [writesD]
    split
    · rw [ih, writeD_length]
    · exact writeD_length _ _ _
theorem lastsD_length (d : DSt) (xs : List (Nat × List Nat)) : (lastsD d xs).2.bs.length = d.bs.length := by
  unfold lastsD
  split
  · split
    · rfl
    · rw [syncD_length, writesD_length]
  · exact writesD_length _ _
/-- The blocks of an entry, at their places. -/
def rowAt (at_ : Nat) (bs : List (List Nat)) : List (Nat × List Nat) := bs.zipIdx.map fun x => (at_ + x.2, x.1)
theorem rowAt_length (p : Nat) (bs : List (List Nat)) : (rowAt p bs).length = bs.length := by simp [rowAt]
theorem rowAt_at (p : Nat) (bs : List (List Nat)) (k : Nat) : (rowAt p bs)[k]? = bs[k]?.map fun b => (p + k, b) := by
  simp only [rowAt, List.getElem?_map, List.getElem?_zipIdx]
  cases bs[k]? <;> simp
def SSt.setLog (s : SSt) (id : Nat) (x : LSt) : SSt := { s with logs := fun j => if j = id then some x else s.logs j }
def SSt.setSlot (s : SSt) (l p : Nat) (x : Option (List Nat)) : SSt := { s with slots := fun i q => if i = l ∧ q = p then x else s.slots i q }
def SSt.fill (s : SSt) (l p : Nat) (data : List Nat) : SSt :=
  if s.slots l p = none ∧ (s.log l).trim ≤ p then (s.setLog l ⟨max (s.log l).tail (p + 1), (s.log l).trim, (s.log l).sealed⟩).setSlot l p (some data)
  else s.setLog l ⟨max (s.log l).tail (p + 1), (s.log l).trim, (s.log l).sealed⟩
def SSt.sealL (s : SSt) (l : Nat) : SSt := s.setLog l ⟨(s.log l).tail, (s.log l).trim, true⟩
def SSt.giveUp (s : SSt) (l p : Nat) : SSt :=
  { s.setLog l ⟨max (s.log l).tail p, max (s.log l).trim p, (s.log l).sealed⟩ with slots := fun i q => if i = l ∧ (s.log l).trim ≤ q ∧ q < p then none else s.slots i q }
/-- What an entry says is done. -/
def SSt.doE (s : SSt) (e : Ent) : SSt := if e.kind = 1 then s.fill e.loglet e.pos e.data else if e.kind = 2 then s.sealL e.loglet else s.giveUp e.loglet e.pos
def SSt.takeE (s : SSt) (e : Ent) : SSt := { s.doE e with num := s.num + 1, fin := s.fin + e.parts }
/-- The blocks of an entry of this store. -/
def SSt.rowE (s : SSt) (e : Ent) : List (Nat × List Nat) := rowAt s.fin (blocksN s.num e.text)
/-- An entry is written, and done. -/
def SSt.record (s : SSt) (e : Ent) : Int × SSt :=
  if s.d.bs.length < s.fin + e.parts then (7, s)
  else if (lastsD s.d (s.rowE e)).1 then (0, ({ s with d := (lastsD s.d (s.rowE e)).2 } : SSt).takeE e)
  else (8, { s with d := (lastsD s.d (s.rowE e)).2, fallen := true })
def isLogletN (n : Int) : Bool := decide (0 ≤ n) && decide (n < 281474976710656)
def isPlaceN (n : Int) : Bool := decide (0 ≤ n) && decide (n < 4096)
def isTrimN (n : Int) : Bool := decide (0 ≤ n) && decide (n ≤ 4096)
def SSt.down (s : SSt) : Bool := s.fallen || s.d.off
/-- P403. -/
def SSt.put (s : SSt) (l p : Int) (data : List Nat) (repair : Bool) : Int × SSt :=
  if isLogletN l && isPlaceN p then
    (if 65536 < data.length then (6, s)
     else if s.down then (8, s)
     else if p.toNat < (s.log l.toNat).trim then (32, s)
     else match s.slots l.toNat p.toNat with
       | some was => if was = data then (0, s) else (31, s)
       | none => if (s.log l.toNat).sealed && !repair then (30, s) else s.record ⟨1, l.toNat, p.toNat, data⟩)
  else (1, s)
/-- P404. -/
def SSt.seal (s : SSt) (l : Int) : Int × SSt :=
  if isLogletN l then (if s.down then (8, s) else if (s.log l.toNat).sealed then (0, s) else s.record ⟨2, l.toNat, 0, []⟩) else (1, s)
def SSt.trim (s : SSt) (l p : Int) : Int × SSt :=
  if isLogletN l && isTrimN p then (if s.down then (8, s) else if p.toNat ≤ (s.log l.toNat).trim then (0, s) else s.record ⟨3, l.toNat, p.toNat, []⟩) else (1, s)
/-- P405. -/
def SSt.get (s : SSt) (l p : Int) : List Nat × Int :=
  if isLogletN l && isPlaceN p then
    (if p.toNat < (s.log l.toNat).trim then ([], 32) else match s.slots l.toNat p.toNat with
      | some d => (d, 0)
      | none => ([], 3))
  else ([], 1)
def SSt.free (s : SSt) : Nat := s.d.bs.length - s.fin
/-- The state that a loglet of any number has: none but the default at one that can't be. -/
def SSt.look (s : SSt) (l : Int) : LSt := if 0 ≤ l then s.log l.toNat else l0
end Go.Proofs.YtmiibakbcogolaaGreat
