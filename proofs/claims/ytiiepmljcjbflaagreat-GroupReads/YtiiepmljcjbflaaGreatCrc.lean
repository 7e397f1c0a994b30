/- Plain mathematics of CRC-32C over natural numbers: one step of the register, its linearity, that it forgets nothing; no Go program is named here. -/
import Derived.Laws.BitsAllLaws
namespace Go.Proofs.YtiiepmljcjbflaaGreat.Crcm

/-- The polynomial, bits turned round. -/
def poly : Nat := 2197175160
/-- One step of the register, no bit fed. -/
def stp (r : Nat) : Nat := if r % 2 = 1 then (r / 2) ^^^ poly else r / 2
def stps : Nat → Nat → Nat
  | 0, r => r
  | n + 1, r => stps n (stp r)
/-- The register behind some bytes. -/
def reg (r : Nat) : List Nat → Nat
  | [] => r
  | x :: l => reg (stps 8 (r ^^^ x)) l
def crc (l : List Nat) : Nat := 4294967295 - reg 4294967295 l

theorem poly_lt : poly < 2 ^ 32 := by unfold poly; omega

theorem stp_lt (r : Nat) (h : r < 2 ^ 32) : stp r < 2 ^ 32 := by
  unfold stp
  split
  · exact Nat.xor_lt_two_pow (by omega) poly_lt
  · omega
theorem stps_lt (n : Nat) : ∀ r, r < 2 ^ 32 → stps n r < 2 ^ 32 := by
  induction n with
  | zero => intro r h; exact h
  | succ n ih => intro r h; exact ih _ (stp_lt r h)
theorem stps_succ' (n : Nat) : ∀ r, stps (n + 1) r = stp (stps n r) := by
  induction n with
  | zero => intro r; rfl
  | succ n ih => intro r; show stps (n + 1) (stp r) = _; rw [ih]; rfl
theorem stps_add (m n : Nat) : ∀ r, stps (m + n) r = stps n (stps m r) := by
  induction m with
  | zero => intro r; rw [Nat.zero_add]; rfl
  | succ m ih => intro r; rw [show m + 1 + n = (m + n) + 1 by omega]; exact ih (stp r)
theorem reg_lt : ∀ (l : List Nat) (r : Nat), r < 2 ^ 32 → (∀ x ∈ l, x < 256) → reg r l < 2 ^ 32
  | [], r, h, _ => h
  | x :: l, r, h, hl => reg_lt l _ (stps_lt 8 _ (Nat.xor_lt_two_pow h (by have := hl x (by simp); omega))) (fun y hy => hl y (by simp [hy]))
theorem crc_lt (l : List Nat) : crc l < 2 ^ 32 := by unfold crc; omega

theorem xor_mod2 (a b : Nat) : (a ^^^ b) % 2 = (a % 2) ^^^ (b % 2) := by
  have := @Nat.xor_mod_two_pow a b 1
  simpa using this
theorem xor_div2 (a b : Nat) : (a ^^^ b) / 2 = (a / 2) ^^^ (b / 2) := by
  have := @Nat.xor_div_two_pow a b 1
  simpa using this
theorem xor4 (a b c d : Nat) : (a ^^^ b) ^^^ (c ^^^ d) = (a ^^^ c) ^^^ (b ^^^ d) := by
  rw [Nat.xor_assoc, Nat.xor_assoc, ← Nat.xor_assoc b c d, Nat.xor_comm b c, Nat.xor_assoc c b d]

theorem stp_xor (a b : Nat) : stp (a ^^^ b) = stp a ^^^ stp b := by
  unfold stp
  rw [xor_mod2, xor_div2]
  rcases Nat.mod_two_eq_zero_or_one a with ha | ha <;> rcases Nat.mod_two_eq_zero_or_one b with hb | hb <;> simp only [ha, hb]
  · simp
  · simp [Nat.xor_assoc]
  · simp [Nat.xor_assoc, Nat.xor_comm poly]
  · simp
    rw [xor4, Nat.xor_self, Nat.xor_zero]
theorem stps_xor (n : Nat) : ∀ a b, stps n (a ^^^ b) = stps n a ^^^ stps n b := by
  induction n with
  | zero => intro a b; rfl
  | succ n ih => intro a b; show stps n (stp (a ^^^ b)) = _; rw [stp_xor, ih]; rfl
theorem stp_zero : stp 0 = 0 := by decide
theorem stps_zero (n : Nat) : stps n 0 = 0 := by
  induction n with
  | zero => rfl
  | succ n ih => show stps n (stp 0) = 0; rw [stp_zero, ih]

theorem stp_ne (d : Nat) (h : d < 2 ^ 32) (h0 : stp d = 0) : d = 0 := by
  unfold stp at h0
  split at h0
  · exfalso
    have e : d / 2 = poly := by
      have := congrArg (· ^^^ poly) h0
      simpa [Nat.xor_assoc] using this
    unfold poly at e
    omega
  · omega
theorem stps_ne (n : Nat) : ∀ d, d < 2 ^ 32 → stps n d = 0 → d = 0 := by
  induction n with
  | zero => intro d _ h; exact h
  | succ n ih => intro d h h0; exact stp_ne d h (ih _ (stp_lt d h) h0)
theorem xor_eq_zero {a b : Nat} (h : a ^^^ b = 0) : a = b := by
  have := congrArg (· ^^^ b) h
  simpa [Nat.xor_assoc] using this
theorem stps_inj (n a b : Nat) (ha : a < 2 ^ 32) (hb : b < 2 ^ 32) (h : stps n a = stps n b) : a = b := by
  apply xor_eq_zero
  apply stps_ne n _ (Nat.xor_lt_two_pow ha hb)
  rw [stps_xor, h, Nat.xor_self]

theorem reg_snoc : ∀ (l : List Nat) (r x : Nat), reg r (l ++ [x]) = stps 8 (reg r l ^^^ x)
  | [], _, _ => rfl
  | _ :: l, _, x => reg_snoc l _ x
theorem reg_append : ∀ (l m : List Nat) (r : Nat), reg r (l ++ m) = reg (reg r l) m
  | [], _, _ => rfl
  | _ :: l, m, _ => reg_append l m _
theorem reg_inj : ∀ (l : List Nat) (r s : Nat), r < 2 ^ 32 → s < 2 ^ 32 → (∀ x ∈ l, x < 256) → reg r l = reg s l → r = s
  | [], _, _, _, _, _, h => h
  | x :: l, r, s, hr, hs, hl, h => by
    have hx := hl x (by simp)
    have h1 := reg_inj l _ _ (stps_lt 8 _ (Nat.xor_lt_two_pow hr (by omega))) (stps_lt 8 _ (Nat.xor_lt_two_pow hs (by omega))) (fun y hy => hl y (by simp [hy])) h
    have h2 := stps_inj 8 _ _ (Nat.xor_lt_two_pow hr (by omega)) (Nat.xor_lt_two_pow hs (by omega)) h1
    have := congrArg (· ^^^ x) h2
    simpa [Nat.xor_assoc] using this

/-- Four steps by a table of sixteen. -/
theorem four (s : Nat) : stps 4 s = (s / 16) ^^^ stps 4 (s % 16) := by
  have e : s = (s / 16 * 16) ^^^ (s % 16) := by
    have h1 := Go.nat_join 4 (s / 16 * 16) (s % 16) (by omega) (by omega)
    have h2 : (s / 16 * 16) ^^^ (s % 16) = (s / 16 * 16) ||| (s % 16) := by
      apply Nat.eq_of_testBit_eq
      intro i
      rw [Nat.testBit_xor, Nat.testBit_or]
      by_cases hi : i < 4
      · have : (s / 16 * 16).testBit i = false := by
          rw [show s / 16 * 16 = 2 ^ 4 * (s / 16) by omega, Nat.testBit_two_pow_mul]
          simp; omega
        simp [this]
      · have : (s % 16).testBit i = false := by
          apply Nat.testBit_lt_two_pow
          exact Nat.lt_of_lt_of_le (show s % 16 < 2 ^ 4 by omega) (Nat.pow_le_pow_right (by omega) (by omega))
        simp [this]
    rw [h2, h1]; omega
  have z : stps 4 (s / 16 * 16) = s / 16 := by
    have d : ∀ q, stp (2 * q) = q := by intro q; unfold stp; rw [if_neg (by omega)]; omega
    show stp (stp (stp (stp (s / 16 * 16)))) = _
    rw [show s / 16 * 16 = 2 * (2 * (2 * (2 * (s / 16)))) by omega, d, d, d, d]
  conv => lhs; rw [e]
  rw [stps_xor, z]
theorem eight (s : Nat) : stps 8 s = stps 4 (stps 4 s) := stps_add 4 4 s

/-- Bit by bit: the register and the byte, both shifted. -/
theorem bit_step (r x : Nat) : (if (r ^^^ x) % 2 = 1 then (r / 2) ^^^ poly else r / 2) ^^^ (x / 2) = stp (r ^^^ x) := by
  unfold stp
  rw [xor_div2]
  split
  · rw [Nat.xor_assoc, Nat.xor_comm poly, ← Nat.xor_assoc]
  · rfl

/-- One byte turned: another sum. -/
theorem crc_turned (l m : List Nat) (a b : Nat) (hl : ∀ x ∈ l, x < 256) (hm : ∀ x ∈ m, x < 256) (ha : a < 256) (hb : b < 256) (h : crc (l ++ a :: m) = crc (l ++ b :: m)) : a = b := by
  have la : reg 4294967295 (l ++ a :: m) < 2 ^ 32 := reg_lt _ _ (by omega) (by
    intro x hx; simp at hx; rcases hx with h | h | h
    · exact hl x h
    · omega
    · exact hm x h)
  have lb : reg 4294967295 (l ++ b :: m) < 2 ^ 32 := reg_lt _ _ (by omega) (by
    intro x hx; simp at hx; rcases hx with h | h | h
    · exact hl x h
    · omega
    · exact hm x h)
  have e : reg 4294967295 (l ++ a :: m) = reg 4294967295 (l ++ b :: m) := by
    unfold crc at h; omega
  rw [reg_append, reg_append] at e
  have hr : reg 4294967295 l < 2 ^ 32 := reg_lt _ _ (by omega) hl
  have h1 := reg_inj m _ _ (stps_lt 8 _ (Nat.xor_lt_two_pow hr (by omega))) (stps_lt 8 _ (Nat.xor_lt_two_pow hr (by omega))) hm e
  have h2 := stps_inj 8 _ _ (Nat.xor_lt_two_pow hr (by omega)) (Nat.xor_lt_two_pow hr (by omega)) h1
  have := congrArg (reg 4294967295 l ^^^ ·) h2
  simpa [← Nat.xor_assoc] using this

theorem and1 (a : Nat) (h : a < 4294967296) : Go.bits .and .u32 (a : Int) 1 = ((a % 2 : Nat) : Int) := by
  have e := Go.u32_and_nat a 1 h (by omega)
  rw [Go.nat_mask1] at e
  exact e
theorem and15 (a : Nat) (h : a < 4294967296) : Go.bits .and .u32 (a : Int) 15 = ((a % 16 : Nat) : Int) := by
  have e := Go.u32_and_nat a 15 h (by omega)
  rw [Go.nat_mask4] at e
  exact e
theorem xorp (a : Nat) (h : a < 4294967296) : Go.bits .xor .u32 ((a : Int) / 2) 2197175160 = (((a / 2) ^^^ poly : Nat) : Int) := by
  have e := Go.u32_xor_nat (a / 2) 2197175160 (by omega) (by omega)
  have d : ((a / 2 : Nat) : Int) = (a : Int) / 2 := by omega
  rw [d] at e
  exact e
theorem stp_odd (a : Nat) (h : a < 4294967296) (ho : (Go.bits .and .u32 (a : Int) 1 == 1) = true) : Go.bits .xor .u32 ((a : Int) / 2) 2197175160 = ((stp a : Nat) : Int) := by
  rw [and1 a h] at ho
  have : a % 2 = 1 := by have := eq_of_beq ho; omega
  rw [xorp a h]; unfold stp; rw [if_pos this]
theorem stp_even (a : Nat) (h : a < 4294967296) (ho : (Go.bits .and .u32 (a : Int) 1 == 1) = false) : (a : Int) / 2 = ((stp a : Nat) : Int) := by
  rw [and1 a h] at ho
  have : ¬ a % 2 = 1 := by have := ne_of_beq_false ho; omega
  unfold stp; rw [if_neg this]; omega
theorem stps_lt' (n r : Nat) (h : r < 4294967296) : stps n r < 4294967296 := stps_lt n r h

theorem crc_known : crc [49, 50, 51, 52, 53, 54, 55, 56, 57] = 3808858755 := by decide +kernel
end Go.Proofs.YtiiepmljcjbflaaGreat.Crcm
