/- Plain mathematics: a number as its bytes, the lowest first; there and back. Laws on texts and bytes: a text's bytes in new memory; a text appended to bytes of the call's own. P104, Text, as a function. P103, Get, as a function over plain lists: the number, the place behind it, the error's number. P104, GetText, as a function over plain lists. P103, Put, as a function over plain numbers. Plain mathematics of CRC-32C over natural numbers: one step of the register, its linearity, that it forgets nothing; no Go program is named here. P105, Unframe, as a function over plain lists. P105, Frame, as a function over plain lists. Plain mathematics of P106: numbers and frames are read as they were written, with anything ahead and behind. Plain mathematics of P106: a text is read as it was written, with anything ahead and behind. All bytes of the first parts of a row of them. No function of the program is named here. -/
import Derived.Test.YtfgamkcnnijloaaGreatBase
import Derived.Deep.AppendSrc
import Derived.Laws.IdiomStrings
import Derived.Laws.BitsAllLaws
namespace Go.Proofs.YtfgamkcnnijloaaGreat
open Go.RowKit

/-- The bytes of n, the lowest first. -/
def spellN (n : Nat) : Nat → List Nat
  | 0 => []
  | k + 1 => spellN n k ++ [n / 2 ^ (8 * k) % 256]
theorem spellN_length (n k : Nat) : (spellN n k).length = k := by
  induction k with
  | zero => rfl
  | succ k ih => simp [spellN, ih]
theorem spellN_lt (n k : Nat) : ∀ x ∈ spellN n k, x < 256 := by
  induction k with
  | zero => intro x hx; simp [spellN] at hx
  | succ k ih =>
    intro x hx
    simp only [spellN, List.mem_append, List.mem_singleton] at hx
    rcases hx with h | h
    · exact ih x h
    · subst h; exact Nat.mod_lt _ (by omega)
theorem spell_one (k : Nat) (h : k ≤ 255) : spellN k 1 = [k] := by
  simp [spellN]; omega
/-- The number that some bytes tell, the lowest first. -/
def valN : List Nat → Nat
  | [] => 0
  | x :: l => x + 256 * valN l
theorem pow8 (k : Nat) : 2 ^ (8 * (k + 1)) = 256 * 2 ^ (8 * k) := by
  rw [show 8 * (k + 1) = 8 * k + 8 by omega, Nat.pow_add]; omega
theorem valN_snoc (l : List Nat) (x : Nat) : valN (l ++ [x]) = valN l + x * 2 ^ (8 * l.length) := by
  induction l with
  | nil => simp [valN]
  | cons y l ih =>
    rw [List.cons_append, valN, ih, valN, List.length_cons, pow8]
    rw [Nat.mul_add, Nat.add_assoc]
    congr 2
    rw [← Nat.mul_assoc, Nat.mul_comm 256 x, Nat.mul_assoc]
theorem valN_lt (l : List Nat) (h : ∀ x ∈ l, x < 256) : valN l < 2 ^ (8 * l.length) := by
  induction l with
  | nil => simp [valN]
  | cons y l ih =>
    have h1 := ih (fun x hx => h x (by simp [hx]))
    have h2 := h y (by simp)
    rw [valN, List.length_cons, pow8]
    omega
theorem pow8_le (k : Nat) (h : k ≤ 6) : 2 ^ (8 * k) ≤ 281474976710656 := Nat.pow_le_pow_right (n := 2) (j := 48) (by omega) (by omega)
/-- There and back. -/
theorem valN_spellN (n k : Nat) : valN (spellN n k) = n % 2 ^ (8 * k) := by
  induction k with
  | zero => simp [spellN, valN, Nat.mod_one]
  | succ k ih =>
    rw [spellN, valN_snoc, ih, spellN_length, pow8, Nat.mul_comm 256, Nat.mod_mul, Nat.mul_comm (2 ^ (8 * k)) (_ % 256)]
theorem i64_or_nat (a b : Nat) (ha : a < 9223372036854775808) (hb : b < 9223372036854775808) : bits .or .i64 (a : Int) (b : Int) = ((a ||| b : Nat) : Int) := by
  have hx : a ||| b < 2 ^ 63 := Nat.or_lt_two_pow (by omega) (by omega)
  have h1 : (BitVec.ofInt 64 (a : Int)).toNat = a := by
    rw [BitVec.ofInt_natCast, BitVec.toNat_ofNat]; exact Nat.mod_eq_of_lt (by omega)
  have h2 : (BitVec.ofInt 64 (b : Int)).toNat = b := by
    rw [BitVec.ofInt_natCast, BitVec.toNat_ofNat]; exact Nat.mod_eq_of_lt (by omega)
  show IntKind.i64.wrap ((BitVec.ofInt 64 (a : Int) ||| BitVec.ofInt 64 (b : Int)).toNat : Int) = _
  rw [BitVec.toNat_or, h1, h2]
  simp [IntKind.wrap, IntKind.bits, IntKind.signed]
  omega
/-- One byte more. -/
theorem or_step (l : List Nat) (x : Nat) (h : ∀ y ∈ l, y < 256) (hx : x < 256) (h6 : l.length < 6) :
    bits .or .i64 ((valN l : Nat) : Int) ((x * 2 ^ (8 * l.length) : Nat) : Int) = ((valN (l ++ [x]) : Nat) : Int) := by
  have hv := valN_lt l h
  have hp := pow8_le (l.length + 1) (by omega)
  rw [pow8] at hp
  have hm : x * 2 ^ (8 * l.length) < 256 * 2 ^ (8 * l.length) := Nat.mul_lt_mul_of_pos_right hx (Nat.pow_pos (by omega))
  rw [i64_or_nat _ _ (by omega) (by omega), valN_snoc]
  rw [Nat.or_comm, nat_join (8 * l.length) (x * 2 ^ (8 * l.length)) (valN l) (by simp) hv, Nat.add_comm]
theorem shl_eq (x k : Nat) (hx : x < 256) (h6 : k < 6) : wrap64 ((x : Int) * 2 ^ (8 * k)) = ((x * 2 ^ (8 * k) : Nat) : Int) := by
  have hp := pow8_le (k + 1) (by omega)
  rw [pow8] at hp
  have hm : x * 2 ^ (8 * k) < 256 * 2 ^ (8 * k) := Nat.mul_lt_mul_of_pos_right hx (Nat.pow_pos (by omega))
  have e : (x : Int) * 2 ^ (8 * k) = ((x * 2 ^ (8 * k) : Nat) : Int) := by rw [Int.natCast_mul, Int.natCast_pow]; rfl
  rw [e]
  generalize x * 2 ^ (8 * k) = q at *
  simp [wrap64]; omega
theorem orw_step (l : List Nat) (x k : Nat) (h : ∀ y ∈ l, y < 256) (hx : x < 256) (hk : l.length = k) (h6 : k < 6) :
    bits .or .i64 ((valN l : Nat) : Int) (wrap64 ((x : Int) * 2 ^ (8 * k))) = ((valN (l ++ [x]) : Nat) : Int) := by
  rw [shl_eq x k hx h6]
  subst hk
  exact or_step l x h hx h6
end Go.Proofs.YtfgamkcnnijloaaGreat
namespace Go.Proofs.YtfgamkcnnijloaaGreat
open Go.RowKit

/-- The bytes of a text. -/
def sbytes (s : ByteArray) : List Nat := s.data.toList.map UInt8.toNat
theorem sbytes_length (s : ByteArray) : (sbytes s).length = s.size := by simp [sbytes]
theorem sbytes_lt (s : ByteArray) : ∀ x ∈ sbytes s, x < 256 := by
  intro x hx
  obtain ⟨b, _, rfl⟩ := List.mem_map.1 hx
  exact b.toNat_lt
/-- Bytes made a text and back. -/
theorem sbytes_bstr (l : List Nat) (h : ∀ x ∈ l, x < 256) : sbytes (bstr l) = l := by
  simp only [sbytes, bstr, strOfNums_data, List.map_map]
  conv => rhs; rw [← List.map_id l]
  apply List.map_congr_left
  intro x hx
  have := h x hx
  simp
  omega
theorem bstr_sbytes (s : ByteArray) : bstr (sbytes s) = s := by
  apply ByteArray.ext
  apply Array.ext'
  have e : (bstr (sbytes s)).data.toList = (List.map Int.ofNat (sbytes s)).map fun n => UInt8.ofNat n.toNat := rfl
  rw [e, List.map_map, sbytes, List.map_map]
  conv => rhs; rw [← List.map_id s.data.toList]
  apply List.map_congr_left
  intro x _
  simp
/-- '[]byte(s)'. -/
theorem conv_string (s : ByteArray) (w : World) :
    ∃ (Q : Part) (w' : World), (convert 9 53 (.string s)).run Tryz.prog w = .ok (.slice Q.ad Q.len Q.cap) w' ∧ Hid (Q.l = sbytes s ∧ Q.ok w') ∧ Below w.heap.size w w' := by
  refine ⟨⟨some ⟨w.heap.size, 0, none⟩, s.size, grownCap w s.size 0 5, sbytes s⟩, _, run_bytes_of_string w 9 53 5 s Tryz.underlying9 Tryz.underlying53 Tryz.underlying5, ⟨rfl, sbytes_length s, fun e => (by cases e), sbytes_lt s, ?_⟩, ?_⟩
  · right
    refine ⟨w.heap.size, 0, rfl, by simp, ?_⟩
    intro i hi
    have hi' : i < s.size := by rw [← sbytes_length]; exact hi
    have hd : i < s.data.size := hi'
    have hsl : i < (sbytes s).length := hi
    rw [cell_of_row _ w.heap.size _ _ 5 _ (heap_alloc_new w.drew _)]
    rw [bytesRow, Nat.zero_add, Array.getElem?_append_left (by simpa using hd), List.getD_eq_getElem?_getD, List.getElem?_eq_getElem hsl]
    simp [sbytes]
    exact ⟨_, Array.getElem?_eq_getElem hd, rfl⟩
  · exact ((Below.refl _ _).drew).alloc (Nat.le_refl _) _
end Go.Proofs.YtfgamkcnnijloaaGreat
namespace Go.Proofs.YtfgamkcnnijloaaGreat
open Go.RowKit

/-- P104, Text: the error's number and the bytes. -/
def textN (s : ByteArray) : Int × List Nat := if s.size ≤ 65535 then (0, spellN s.size 2 ++ sbytes s) else (6, [])
theorem textN_ok (s : ByteArray) (h : s.size ≤ 65535) : textN s = (0, spellN s.size 2 ++ sbytes s) := by unfold textN; rw [if_pos h]
theorem textN_no (s : ByteArray) (h : ¬ s.size ≤ 65535) : textN s = (6, []) := by unfold textN; rw [if_neg h]
end Go.Proofs.YtfgamkcnnijloaaGreat
namespace Go.Proofs.YtfgamkcnnijloaaGreat
open Go.RowKit

/-- P103, Get. -/
def getN (l : List Nat) (p size : Int) : Int × Int × Int :=
  if 1 ≤ size ∧ size ≤ 6 ∧ 0 ≤ p then
    (if p + size ≤ l.length then (((valN ((l.drop p.toNat).take size.toNat) : Nat) : Int), p + size, 0) else (0, 0, 20))
  else (0, 0, 1)
theorem getN_arg (l : List Nat) (p size : Int) (h : ¬ (1 ≤ size ∧ size ≤ 6 ∧ 0 ≤ p)) : getN l p size = (0, 0, 1) := by unfold getN; rw [if_neg h]
theorem getN_end (l : List Nat) (p size : Int) (h : 1 ≤ size ∧ size ≤ 6 ∧ 0 ≤ p) (h2 : ¬ p + size ≤ l.length) : getN l p size = (0, 0, 20) := by unfold getN; rw [if_pos h, if_neg h2]
theorem getN_ok (l : List Nat) (p s : Nat) (h : 1 ≤ s ∧ s ≤ 6) (h2 : p + s ≤ l.length) : getN l p s = (((valN ((l.drop p).take s) : Nat) : Int), ((p + s : Nat) : Int), 0) := by
  unfold getN; rw [if_pos (by omega), if_pos (by omega), Int.toNat_natCast, Int.toNat_natCast, Int.natCast_add]
end Go.Proofs.YtfgamkcnnijloaaGreat
namespace Go.Proofs.YtfgamkcnnijloaaGreat
open Go.RowKit

/-- How long the text at p is, by its two bytes. -/
def lenAt (l : List Nat) (p : Nat) : Nat := valN ((l.drop p).take 2)
/-- P104, GetText: the text, the place behind it, the error's number. -/
def getTextN (l : List Nat) (p : Int) : ByteArray × Int × Int :=
  if 0 ≤ p then
    (if p.toNat + 2 + lenAt l p.toNat ≤ l.length then (bstr ((l.drop (p.toNat + 2)).take (lenAt l p.toNat)), ((p.toNat + 2 + lenAt l p.toNat : Nat) : Int), 0) else (bstr [], 0, 20))
  else (bstr [], 0, 1)
theorem getTextN_arg (l : List Nat) (p : Int) (h : ¬ 0 ≤ p) : getTextN l p = (bstr [], 0, 1) := by unfold getTextN; rw [if_neg h]
theorem getTextN_end (l : List Nat) (p : Nat) (h2 : ¬ p + 2 + lenAt l p ≤ l.length) : getTextN l p = (bstr [], 0, 20) := by
  unfold getTextN; rw [if_pos (by omega), Int.toNat_natCast, if_neg h2]
theorem getTextN_ok (l : List Nat) (p : Nat) (h2 : p + 2 + lenAt l p ≤ l.length) : getTextN l p = (bstr ((l.drop (p + 2)).take (lenAt l p)), ((p + 2 + lenAt l p : Nat) : Int), 0) := by
  unfold getTextN; rw [if_pos (by omega), Int.toNat_natCast, if_pos h2]
end Go.Proofs.YtfgamkcnnijloaaGreat
namespace Go.Proofs.YtfgamkcnnijloaaGreat
open Go.RowKit

/-- P103, Put: the error's number and the bytes. -/
def putN (n size : Int) : Int × List Nat :=
  if 1 ≤ size ∧ size ≤ 6 then (if 0 ≤ n ∧ n < 2 ^ (8 * size.toNat) then (0, spellN n.toNat size.toNat) else (11, [])) else (1, [])
theorem pow_size (size : Nat) (h6 : size ≤ 6) : ∃ p : Nat, wrap64 (2 ^ (8 * size)) = (p : Int) ∧ p ≤ 281474976710656 ∧ p = 2 ^ (8 * size) := by
  have h : (2 : Nat) ^ (8 * size) ≤ 2 ^ 48 := Nat.pow_le_pow_right (by omega) (by omega)
  have e : ((2 ^ (8 * size) : Nat) : Int) = (2 : Int) ^ (8 * size) := by rw [Int.natCast_pow]; rfl
  refine ⟨2 ^ (8 * size), ?_, h, rfl⟩
  rw [← e]
  generalize (2 : Nat) ^ (8 * size) = q at *
  have : (q : Int) ≤ 281474976710656 := by omega
  simp [wrap64]; omega
theorem putN_no (n size : Int) (h : ¬ (1 ≤ size ∧ size ≤ 6)) : putN n size = (1, []) := by unfold putN; rw [if_neg h]
theorem putN_range (n : Int) (size : Nat) (h1 : 1 ≤ size) (h6 : size ≤ 6) (h : ¬ (0 ≤ n ∧ n < 2 ^ (8 * size))) : putN n size = (11, []) := by
  unfold putN; rw [if_pos (by omega), Int.toNat_natCast, if_neg h]
theorem putN_ok (n size : Nat) (h1 : 1 ≤ size) (h6 : size ≤ 6) (h : n < 2 ^ (8 * size)) : putN n size = (0, spellN n size) := by
  have e : ((2 ^ (8 * size) : Nat) : Int) = (2 : Int) ^ (8 * size) := by rw [Int.natCast_pow]; rfl
  unfold putN; rw [if_pos (by omega), Int.toNat_natCast, Int.toNat_natCast, if_pos ⟨by omega, by rw [← e]; omega⟩]
end Go.Proofs.YtfgamkcnnijloaaGreat
namespace Go.Proofs.YtfgamkcnnijloaaGreat.Crcm

/-- The polynomial, bits turned round. -/
def poly : Nat := 2197175160
/-- One step of the register, no bit fed. -/
def stp (r : Nat) : Nat := if r % 2 = 1 then (r / 2) ^^^ poly else r / 2
def stps : Nat → Nat → Nat
  | 0, r => r
  | n + 1, r => stps n (stp r)
/-- The register behind some bytes. -/
def reg (r : Nat) : List Nat → Nat
  | [] => r
  | x :: l => reg (stps 8 (r ^^^ x)) l
def crc (l : List Nat) : Nat := 4294967295 - reg 4294967295 l

theorem poly_lt : poly < 2 ^ 32 := by unfold poly; omega

theorem stp_lt (r : Nat) (h : r < 2 ^ 32) : stp r < 2 ^ 32 := by
  unfold stp
  split
  · exact Nat.xor_lt_two_pow (by omega) poly_lt
  · omega
theorem stps_lt (n : Nat) : ∀ r, r < 2 ^ 32 → stps n r < 2 ^ 32 := by
  induction n with
  | zero => intro r h; exact h
  | succ n ih => intro r h; exact ih _ (stp_lt r h)
theorem stps_succ' (n : Nat) : ∀ r, stps (n + 1) r = stp (stps n r) := by
  induction n with
  | zero => intro r; rfl
  | succ n ih => intro r; show stps (n + 1) (stp r) = _; rw [ih]; rfl
theorem stps_add (m n : Nat) : ∀ r, stps (m + n) r = stps n (stps m r) := by
  induction m with
  | zero => intro r; rw [Nat.zero_add]; rfl
  | succ m ih => intro r; rw [show m + 1 + n = (m + n) + 1 by omega]; exact ih (stp r)
theorem reg_lt : ∀ (l : List Nat) (r : Nat), r < 2 ^ 32 → (∀ x ∈ l, x < 256) → reg r l < 2 ^ 32
  | [], r, h, _ => h
  | x :: l, r, h, hl => reg_lt l _ (stps_lt 8 _ (Nat.xor_lt_two_pow h (by have := hl x (by simp); omega))) (fun y hy => hl y (by simp [hy]))
theorem crc_lt (l : List Nat) : crc l < 2 ^ 32 := by unfold crc; omega

theorem xor_mod2 (a b : Nat) : (a ^^^ b) % 2 = (a % 2) ^^^ (b % 2) := by
  have := @Nat.xor_mod_two_pow a b 1
  simpa using this
theorem xor_div2 (a b : Nat) : (a ^^^ b) / 2 = (a / 2) ^^^ (b / 2) := by
  have := @Nat.xor_div_two_pow a b 1
  simpa using this
theorem xor4 (a b c d : Nat) : (a ^^^ b) ^^^ (c ^^^ d) = (a ^^^ c) ^^^ (b ^^^ d) := by
  rw [Nat.xor_assoc, Nat.xor_assoc, ← Nat.xor_assoc b c d, Nat.xor_comm b c, Nat.xor_assoc c b d]

theorem stp_xor (a b : Nat) : stp (a ^^^ b) = stp a ^^^ stp b := by
  unfold stp
  rw [xor_mod2, xor_div2]
  rcases Nat.mod_two_eq_zero_or_one a with ha | ha <;> rcases Nat.mod_two_eq_zero_or_one b with hb | hb <;> simp only [ha, hb]
  · simp
  · simp [Nat.xor_assoc]
  · simp [Nat.xor_assoc, Nat.xor_comm poly]
  · simp
    rw [xor4, Nat.xor_self, Nat.xor_zero]
theorem stps_xor (n : Nat) : ∀ a b, stps n (a ^^^ b) = stps n a ^^^ stps n b := by
  induction n with
  | zero => intro a b; rfl
  | succ n ih => intro a b; show stps n (stp (a ^^^ b)) = _; rw [stp_xor, ih]; rfl
theorem reg_snoc : ∀ (l : List Nat) (r x : Nat), reg r (l ++ [x]) = stps 8 (reg r l ^^^ x)
  | [], _, _ => rfl
  | _ :: l, _, x => reg_snoc l _ x
/-- Four steps by a table of sixteen. -/
theorem four (s : Nat) : stps 4 s = (s / 16) ^^^ stps 4 (s % 16) := by
  have e : s = (s / 16 * 16) ^^^ (s % 16) := by
    have h1 := Go.nat_join 4 (s / 16 * 16) (s % 16) (by omega) (by omega)
    have h2 : (s / 16 * 16) ^^^ (s % 16) = (s / 16 * 16) ||| (s % 16) := by
      apply Nat.eq_of_testBit_eq
      intro i
      rw [Nat.testBit_xor, Nat.testBit_or]
      by_cases hi : i < 4
      · have : (s / 16 * 16).testBit i = false := by
          rw [show s / 16 * 16 = 2 ^ 4 * (s / 16) by omega, Nat.testBit_two_pow_mul]
          simp; omega
        simp [this]
      · have : (s % 16).testBit i = false := by
          apply Nat.testBit_lt_two_pow
          exact Nat.lt_of_lt_of_le (show s % 16 < 2 ^ 4 by omega) (Nat.pow_le_pow_right (by omega) (by omega))
        simp [this]
    rw [h2, h1]; omega
  have z : stps 4 (s / 16 * 16) = s / 16 := by
    have d : ∀ q, stp (2 * q) = q := by intro q; unfold stp; rw [if_neg (by omega)]; omega
    show stp (stp (stp (stp (s / 16 * 16)))) = _
    rw [show s / 16 * 16 = 2 * (2 * (2 * (2 * (s / 16)))) by omega, d, d, d, d]
  conv => lhs; rw [e]
  rw [stps_xor, z]
theorem eight (s : Nat) : stps 8 s = stps 4 (stps 4 s) := stps_add 4 4 s

theorem and1 (a : Nat) (h : a < 4294967296) : Go.bits .and .u32 (a : Int) 1 = ((a % 2 : Nat) : Int) := by
  have e := Go.u32_and_nat a 1 h (by omega)
  rw [Go.nat_mask1] at e
  exact e
theorem and15 (a : Nat) (h : a < 4294967296) : Go.bits .and .u32 (a : Int) 15 = ((a % 16 : Nat) : Int) := by
  have e := Go.u32_and_nat a 15 h (by omega)
  rw [Go.nat_mask4] at e
  exact e
theorem xorp (a : Nat) (h : a < 4294967296) : Go.bits .xor .u32 ((a : Int) / 2) 2197175160 = (((a / 2) ^^^ poly : Nat) : Int) := by
  have e := Go.u32_xor_nat (a / 2) 2197175160 (by omega) (by omega)
  have d : ((a / 2 : Nat) : Int) = (a : Int) / 2 := by omega
  rw [d] at e
  exact e
theorem stp_odd (a : Nat) (h : a < 4294967296) (ho : (Go.bits .and .u32 (a : Int) 1 == 1) = true) : Go.bits .xor .u32 ((a : Int) / 2) 2197175160 = ((stp a : Nat) : Int) := by
  rw [and1 a h] at ho
  have : a % 2 = 1 := by have := eq_of_beq ho; omega
  rw [xorp a h]; unfold stp; rw [if_pos this]
theorem stp_even (a : Nat) (h : a < 4294967296) (ho : (Go.bits .and .u32 (a : Int) 1 == 1) = false) : (a : Int) / 2 = ((stp a : Nat) : Int) := by
  rw [and1 a h] at ho
  have : ¬ a % 2 = 1 := by have := ne_of_beq_false ho; omega
  unfold stp; rw [if_neg this]; omega
theorem stps_lt' (n r : Nat) (h : r < 4294967296) : stps n r < 4294967296 := stps_lt n r h

end Go.Proofs.YtfgamkcnnijloaaGreat.Crcm
namespace Go.Proofs.YtfgamkcnnijloaaGreat
open Go.RowKit Crcm

/-- The body's length that a frame at p tells. -/
def sizeAt (l : List Nat) (p : Nat) : Nat := valN ((l.drop (p + 1)).take 4)
/-- What is summed of the frame at p. -/
def toldAt (l : List Nat) (p : Nat) : List Nat := (l.drop p).take (5 + sizeAt l p)
/-- The sum that the frame at p bears. -/
def sumAt (l : List Nat) (p : Nat) : Nat := valN ((l.drop (p + 5 + sizeAt l p)).take 4)
def bodyAt (l : List Nat) (p : Nat) : List Nat := (l.drop (p + 5)).take (sizeAt l p)
def kindAt (l : List Nat) (p : Nat) : Nat := valN ((l.drop p).take 1)
/-- P105, Unframe: the error's number. -/
def unframeE (l : List Nat) (p : Nat) : Int :=
  if l.length < p + 5 then 20 else if 65536 < sizeAt l p then 22 else if l.length < p + 9 + sizeAt l p then 20 else if sumAt l p = crc (toldAt l p) then 0 else 21
/-- P105, Unframe: the kind, the body, the place behind it, the error's number. -/
def unframeN (l : List Nat) (p : Int) : Int × List Nat × Int × Int :=
  if 0 ≤ p then (if unframeE l p.toNat = 0 then (((kindAt l p.toNat : Nat) : Int), bodyAt l p.toNat, ((p.toNat + 9 + sizeAt l p.toNat : Nat) : Int), 0) else (0, [], 0, unframeE l p.toNat)) else (0, [], 0, 1)
theorem unframeE_zero {l : List Nat} {p : Nat} (h : unframeE l p = 0) : sizeAt l p ≤ 65536 ∧ p + 9 + sizeAt l p ≤ l.length ∧ sumAt l p = crc (toldAt l p) := by
  unfold unframeE at h
  by_cases h1 : l.length < p + 5
  · rw [if_pos h1] at h; omega
  · rw [if_neg h1] at h
    by_cases h2 : 65536 < sizeAt l p
    · rw [if_pos h2] at h; omega
    · rw [if_neg h2] at h
      by_cases h3 : l.length < p + 9 + sizeAt l p
      · rw [if_pos h3] at h; omega
      · rw [if_neg h3] at h
        by_cases h4 : sumAt l p = crc (toldAt l p)
        · exact ⟨by omega, by omega, h4⟩
        · rw [if_neg h4] at h; omega
theorem unframeN_arg (l : List Nat) (p : Int) (h : ¬ 0 ≤ p) : unframeN l p = (0, [], 0, 1) := by unfold unframeN; rw [if_neg h]
theorem unframeN_ok (l : List Nat) (p : Nat) (h : unframeE l p = 0) : unframeN l p = (((kindAt l p : Nat) : Int), bodyAt l p, ((p + 9 + sizeAt l p : Nat) : Int), 0) := by
  unfold unframeN; rw [if_pos (by omega), Int.toNat_natCast, if_pos h]
theorem unframeN_err (l : List Nat) (p : Nat) (h : unframeE l p ≠ 0) : unframeN l p = (0, [], 0, unframeE l p) := by
  unfold unframeN; rw [if_pos (by omega), Int.toNat_natCast, if_neg h]
end Go.Proofs.YtfgamkcnnijloaaGreat
namespace Go.Proofs.YtfgamkcnnijloaaGreat
open Go.RowKit Crcm

/-- What is summed of a frame. -/
def toldN (kind : Nat) (l : List Nat) : List Nat := spellN kind 1 ++ spellN l.length 4 ++ l
/-- A frame's bytes. -/
def frameBs (kind : Nat) (l : List Nat) : List Nat := toldN kind l ++ spellN (crc (toldN kind l)) 4
/-- P105, Frame: the error's number and the bytes. -/
def frameN (kind : Int) (l : List Nat) : Int × List Nat :=
  if 0 ≤ kind ∧ kind ≤ 255 then (if l.length ≤ 65536 then (0, frameBs kind.toNat l) else (6, [])) else (1, [])
theorem toldN_length (kind : Nat) (l : List Nat) : (toldN kind l).length = 5 + l.length := by simp [toldN, spellN_length]; omega
theorem frameBs_length (kind : Nat) (l : List Nat) : (frameBs kind l).length = 9 + l.length := by simp [frameBs, toldN_length, spellN_length]; omega
theorem frameN_ok (kind : Nat) (l : List Nat) (hk : kind ≤ 255) (hl : l.length ≤ 65536) : frameN kind l = (0, frameBs kind l) := by
  unfold frameN; rw [if_pos (by omega), if_pos hl, Int.toNat_natCast]
theorem frameN_kind (kind : Int) (l : List Nat) (hk : ¬ (0 ≤ kind ∧ kind ≤ 255)) : frameN kind l = (1, []) := by unfold frameN; rw [if_neg hk]
theorem frameN_size (kind : Int) (l : List Nat) (hk : 0 ≤ kind ∧ kind ≤ 255) (hl : ¬ l.length ≤ 65536) : frameN kind l = (6, []) := by unfold frameN; rw [if_pos hk, if_neg hl]
end Go.Proofs.YtfgamkcnnijloaaGreat
namespace Go.Proofs.YtfgamkcnnijloaaGreat
open Go.RowKit Crcm

theorem drop_ahead (A M : List Nat) (p j : Nat) (hp : A.length = p) : (A ++ M).drop (p + j) = M.drop j := by
  subst hp
  rw [← List.drop_drop, List.drop_left]
theorem take_front (M B : List Nat) (n : Nat) (h : M.length = n) : (M ++ B).take n = M := by subst h; exact List.take_left
theorem drop_front (M B : List Nat) (n : Nat) (h : M.length = n) : (M ++ B).drop n = B := by subst h; exact List.drop_left
theorem pow_two_mod (n k : Nat) (h : n < 2 ^ (8 * k)) : valN (spellN n k) = n := by rw [valN_spellN]; exact Nat.mod_eq_of_lt h
/-- A frame that was framed is unframed, with anything ahead and behind. -/
theorem frame_parts (A B l : List Nat) (kind p : Nat) (hp : A.length = p) (hk : kind ≤ 255) (hl : l.length ≤ 65536) :
    sizeAt (A ++ (frameBs kind l ++ B)) p = l.length ∧ kindAt (A ++ (frameBs kind l ++ B)) p = kind ∧ bodyAt (A ++ (frameBs kind l ++ B)) p = l ∧ toldAt (A ++ (frameBs kind l ++ B)) p = toldN kind l ∧
      sumAt (A ++ (frameBs kind l ++ B)) p = crc (toldN kind l) := by
  have hF : frameBs kind l ++ B = spellN kind 1 ++ (spellN l.length 4 ++ (l ++ (spellN (crc (toldN kind l)) 4 ++ B))) := by
    simp [frameBs, toldN]
  have s1 : sizeAt (A ++ (frameBs kind l ++ B)) p = l.length := by
    unfold sizeAt
    rw [drop_ahead A _ p 1 hp, hF, drop_front _ _ 1 (spellN_length _ _), take_front _ _ 4 (spellN_length _ _)]
    exact pow_two_mod _ 4 (by omega)
  refine ⟨s1, ?_, ?_, ?_, ?_⟩
  · unfold kindAt
    have e := drop_ahead A (frameBs kind l ++ B) p 0 hp
    rw [Nat.add_zero, List.drop_zero] at e
    rw [e, hF, take_front _ _ 1 (spellN_length _ _)]
    exact pow_two_mod _ 1 (by omega)
  · unfold bodyAt
    rw [s1, drop_ahead A _ p 5 hp, hF, show (5 : Nat) = 1 + 4 from rfl, ← List.drop_drop, drop_front _ _ 1 (spellN_length _ _), drop_front _ _ 4 (spellN_length _ _), take_front _ _ _ rfl]
  · unfold toldAt
    have e := drop_ahead A (frameBs kind l ++ B) p 0 hp
    rw [Nat.add_zero, List.drop_zero] at e
    rw [s1, e]
    unfold frameBs
    rw [List.append_assoc, take_front _ _ _ (toldN_length kind l)]
  · unfold sumAt
    rw [s1, Nat.add_assoc, drop_ahead A _ p _ hp]
    unfold frameBs
    rw [List.append_assoc, drop_front _ _ _ (toldN_length kind l), take_front _ _ 4 (spellN_length _ _)]
    exact pow_two_mod _ 4 (crc_lt _)
theorem frame_back (A B l : List Nat) (kind p : Nat) (hp : A.length = p) (hk : kind ≤ 255) (hl : l.length ≤ 65536) :
    unframeN (A ++ (frameBs kind l ++ B)) p = ((kind : Int), l, ((p + 9 + l.length : Nat) : Int), 0) := by
  obtain ⟨h1, h2, h3, h4, h5⟩ := frame_parts A B l kind p hp hk hl
  have hlen : (A ++ (frameBs kind l ++ B)).length = p + (9 + l.length + B.length) := by simp [frameBs_length, hp]
  have e : unframeE (A ++ (frameBs kind l ++ B)) p = 0 := by
    unfold unframeE
    rw [h1, hlen, if_neg (by omega), if_neg (by omega), if_neg (by omega), h4, h5, if_pos rfl]
  rw [unframeN_ok _ p e, h1, h2, h3]
end Go.Proofs.YtfgamkcnnijloaaGreat
namespace Go.Proofs.YtfgamkcnnijloaaGreat
open Go.RowKit Crcm

end Go.Proofs.YtfgamkcnnijloaaGreat
namespace Go.Proofs.YtfgamkcnnijloaaGreat
open Go.RowKit

/-- All bytes of the first k parts. -/
def allN (ps : List Part) (k : Nat) : List Nat := ((ps.take k).map (·.l)).flatten
theorem allN_succ (ps : List Part) (k : Nat) (p : Part) (h : ps[k]? = some p) : allN ps (k + 1) = allN ps k ++ p.l := by
  unfold allN
  obtain ⟨hk, e⟩ := List.getElem?_eq_some_iff.1 h
  rw [List.take_succ_eq_append_getElem hk, e]
  simp
theorem allN_le (ps : List Part) (k : Nat) : (allN ps k).length ≤ (allN ps ps.length).length := by
  have e : allN ps ps.length = allN ps k ++ ((ps.drop k).map (·.l)).flatten := by
    unfold allN
    rw [List.take_length, ← List.flatten_append, ← List.map_append, List.take_append_drop]
  rw [e]; simp
theorem allN_lt (w : World) (ps : List Part) (h : ∀ (i : Nat) (p : Part), ps[i]? = some p → p.ok w) (k : Nat) : ∀ x ∈ allN ps k, x < 256 := by
  intro x hx
  unfold allN at hx
  rw [List.mem_flatten] at hx
  obtain ⟨l, hl, hx⟩ := hx
  rw [List.mem_map] at hl
  obtain ⟨p, hp, rfl⟩ := hl
  obtain ⟨i, hi, e⟩ := List.getElem_of_mem (List.mem_of_mem_take hp)
  exact (h i p (by rw [List.getElem?_eq_getElem hi, e])).2.2.1 x hx
end Go.Proofs.YtfgamkcnnijloaaGreat
