/- A map in memory as a function of its keys: what a look-up, a store, a delete make of it. No function of the program is named here. -/
import Derived.Test.YtoopnafdpenofaaPic2
import Derived.Maps.OwnSet
import Derived.DeepKeys4
import Derived.Test.YtoopnafdpenofaaDiskN
import Derived.Laws.BitsAllLaws
import Derived.Deep.RegionLaw
import Derived.Deep.RegionHeld
namespace Go.Proofs.Ytoopnafdpenofaa
open Go.RowKit

/-- In w the map at M has just what f says; n bounds its size. -/
def MapF (w : World) (T : TypeId) (M n : Nat) (f : Lit → Option Value) : Prop :=
  ∃ Dm : DataW Value, w.ownsMap Try.prog T RV M n Dm ∧ (∀ kl, Maps.has Dm kl = (f kl).isSome) ∧ ∀ kl v, f kl = some v → ∀ z, Dm.atKey kl z = .held v
open Classical in
/-- f, but for one key. -/
noncomputable def updF (f : Lit → Option Value) (kl : Lit) (x : Option Value) : Lit → Option Value := fun k => if k = kl then x else f k
theorem updF_same (f : Lit → Option Value) (kl : Lit) (x : Option Value) : updF f kl x kl = x := by simp [updF]
theorem updF_other (f : Lit → Option Value) {k kl : Lit} (h : k ≠ kl) (x : Option Value) : updF f kl x k = f k := by simp [updF, h]
variable {w w' : World} {T t e : TypeId} {M n : Nat} {f : Lit → Option Value}
theorem MapF.lt (h : MapF w T M n f) : M < w.heap.size := by
  obtain ⟨Dm, h, _⟩ := h
  exact h.lt
theorem MapF.isMap (h : MapF w T M n f) : ∃ es c, w.heap[M]? = some (.map es c) := by
  obtain ⟨Dm, ⟨es, c, hb, _⟩, _⟩ := h
  exact ⟨es, c, hb⟩
theorem MapF.keep (h : MapF w T M n f) (hk : w'.heap[M]? = w.heap[M]?) : MapF w' T M n f := by
  obtain ⟨Dm, ⟨es, c, hb, r⟩, h2, h3⟩ := h
  exact ⟨Dm, ⟨es, c, hk.trans hb, r⟩, h2, h3⟩
theorem MapF.mono (h : MapF w T M n f) {m : Nat} (hm : n ≤ m) : MapF w T M m f := by
  obtain ⟨Dm, h1, h2⟩ := h
  exact ⟨Dm, h1.mono hm, h2⟩
theorem MapF.congr (h : MapF w T M n f) {g : Lit → Option Value} (hg : ∀ kl, f kl = g kl) : MapF w T M n g := by
  obtain rfl : f = g := funext hg
  exact h
theorem MapF.empty (h : w.heap[M]? = some (.map #[] 0)) : MapF w T M 0 (fun _ => none) :=
  ⟨.map [], ⟨#[], 0, h, ⟨by simp, MapKept.stamped_empty 0, by simp⟩, Nat.le_refl _, rfl⟩, fun _ => rfl, fun _ _ h => by cases h⟩
theorem MapF.look_ok (h : MapF w T M n f) (K : Maps.Keyed Try.prog T) (ht : Try.prog.underlying t = some (.map T e)) {z : Value} (hz : (zeroValue e).run Try.prog w = .ok z w) {key : Value} {kl : Lit} (hkey : keyOf Try.prog T key = some kl) :
    (Instr.lookup t (.map (some M)) key true).run Try.prog w = .ok (.tuple #[(f kl).getD z, .bool (f kl).isSome]) w := by
  obtain ⟨Dm, h1, h2, h3⟩ := h
  obtain ⟨v, ps, hr, hv⟩ := h1.look_ok K ht hz (zd := .held z) (zp := []) rfl hkey
  rw [hr, h2]
  simp only [RV, Option.some.injEq, Prod.mk.injEq] at hv
  cases hf : f kl with
  | none =>
    have h4 : Maps.has Dm kl = false := by rw [h2, hf]; rfl
    rw [Maps.atKey_of_not_has h4] at hv
    rw [DataW.held.inj hv.1]; rfl
  | some x =>
    rw [h3 kl x hf] at hv
    rw [DataW.held.inj hv.1]; rfl
theorem MapF.look (h : MapF w T M n f) (K : Maps.Keyed Try.prog T) (ht : Try.prog.underlying t = some (.map T e)) {z : Value} (hz : (zeroValue e).run Try.prog w = .ok z w) {key : Value} {kl : Lit} (hkey : keyOf Try.prog T key = some kl) :
    (Instr.lookup t (.map (some M)) key false).run Try.prog w = .ok ((f kl).getD z) w := by
  obtain ⟨Dm, h1, h2, h3⟩ := h
  obtain ⟨v, ps, hr, hv⟩ := h1.lookup K ht hz (zd := .held z) (zp := []) rfl hkey
  rw [hr]
  simp only [RV, Option.some.injEq, Prod.mk.injEq] at hv
  cases hf : f kl with
  | none =>
    have h4 : Maps.has Dm kl = false := by rw [h2, hf]; rfl
    rw [Maps.atKey_of_not_has h4] at hv
    rw [DataW.held.inj hv.1]; rfl
  | some x =>
    rw [h3 kl x hf] at hv
    rw [DataW.held.inj hv.1]; rfl
theorem turned_chg (h : w.mapTurned w' M) : Chg [M] w w' := by
  have hg := h.grown
  exact ⟨hg.os, hg.tape, hg.output, hg.size, fun k hk hn => hg.block k hk (fun e => hn (by cases e; simp))⟩
theorem MapF.store (h : MapF w T M n f) (K : Maps.Keyed Try.prog T) (ht : Try.prog.underlying t = some (.map T e)) (hn : n < maxLen) {key val : Value} {kl : Lit} (hkey : keyOf Try.prog T key = some kl) :
    ∃ w', (Instr.mapUpdate t (.map (some M)) key val).run Try.prog w = .ok () w' ∧ MapF w' T M (n + 1) (updF f kl (some val)) ∧ Chg [M] w w' := by
  obtain ⟨Dm, h1, h2, h3⟩ := h
  obtain ⟨w', hr, h4, h5⟩ := h1.store K ht hn (d := .held val) (ps := []) hkey rfl
  refine ⟨w', hr, ⟨_, h4, fun k => ?_, fun k v hk z => ?_⟩, turned_chg h5⟩
  · by_cases hkk : k = kl
    · subst hkk; rw [Maps.has_put_same h1.isMap (K.key hkey), updF_same]; rfl
    · rw [Maps.has_put_other hkk, h2, updF_other f hkk]
  · by_cases hkk : k = kl
    · subst hkk; rw [Maps.atKey_put_same h1.isMap (K.key hkey)]; rw [updF_same] at hk; cases hk; rfl
    · rw [Maps.atKey_put_other hkk]; rw [updF_other f hkk] at hk; exact h3 k v hk z
theorem MapF.drop (h : MapF w T M n f) (K : Maps.Keyed Try.prog T) (ht : Try.prog.underlying t = some (.map T e)) {key : Value} {kl : Lit} (hkey : keyOf Try.prog T key = some kl) (ty : TypeId) :
    ∃ w', (Builtin.delete_ #[t, T] ty #[.map (some M), key]).run Try.prog w = .ok (.tuple #[]) w' ∧ MapF w' T M n (updF f kl none) ∧ Chg [M] w w' := by
  obtain ⟨Dm, h1, h2, h3⟩ := h
  obtain ⟨w', hr, h4, h5⟩ := h1.drop K ht hkey ty
  refine ⟨w', hr, ⟨_, h4, fun k => ?_, fun k v hk z => ?_⟩, turned_chg h5⟩
  · by_cases hkk : k = kl
    · subst hkk; rw [Maps.has_del_same, updF_same]; rfl
    · rw [Maps.has_del_other hkk, h2, updF_other f hkk]
  · by_cases hkk : k = kl
    · subst hkk; rw [updF_same] at hk; cases hk
    · rw [Maps.atKey_del_other hkk]; rw [updF_other f hkk] at hk; exact h3 k v hk z
end Go.Proofs.Ytoopnafdpenofaa

/- Plain mathematics: a number as its bytes, the lowest first; there and back. -/
namespace Go.Proofs.Ytoopnafdpenofaa
open Go.RowKit

/-- The bytes of n, the lowest first. -/
def spellN (n : Nat) : Nat → List Nat
  | 0 => []
  | k + 1 => spellN n k ++ [n / 2 ^ (8 * k) % 256]
theorem spellN_length (n k : Nat) : (spellN n k).length = k := by
  induction k with
  | zero => rfl
  | succ k ih => simp [spellN, ih]
theorem spellN_lt (n k : Nat) : ∀ x ∈ spellN n k, x < 256 := by
  induction k with
  | zero => intro x hx; simp [spellN] at hx
  | succ k ih =>
    intro x hx
    simp only [spellN, List.mem_append, List.mem_singleton] at hx
    rcases hx with h | h
    · exact ih x h
    · subst h; exact Nat.mod_lt _ (by omega)
theorem spell_one (k : Nat) (h : k ≤ 255) : spellN k 1 = [k] := by
  simp [spellN]; omega
/-- The number that some bytes tell, the lowest first. -/
def valN : List Nat → Nat
  | [] => 0
  | x :: l => x + 256 * valN l
theorem pow8 (k : Nat) : 2 ^ (8 * (k + 1)) = 256 * 2 ^ (8 * k) := by
  rw [show 8 * (k + 1) = 8 * k + 8 by omega, Nat.pow_add]; omega
theorem valN_snoc (l : List Nat) (x : Nat) : valN (l ++ [x]) = valN l + x * 2 ^ (8 * l.length) := by
  induction l with
  | nil => simp [valN]
  | cons y l ih =>
    rw [List.cons_append, valN, ih, valN, List.length_cons, pow8]
    rw [Nat.mul_add, Nat.add_assoc]
    congr 2
    rw [← Nat.mul_assoc, Nat.mul_comm 256 x, Nat.mul_assoc]
theorem valN_lt (l : List Nat) (h : ∀ x ∈ l, x < 256) : valN l < 2 ^ (8 * l.length) := by
  induction l with
  | nil => simp [valN]
  | cons y l ih =>
    have h1 := ih (fun x hx => h x (by simp [hx]))
    have h2 := h y (by simp)
    rw [valN, List.length_cons, pow8]
    omega
theorem pow8_le (k : Nat) (h : k ≤ 6) : 2 ^ (8 * k) ≤ 281474976710656 := Nat.pow_le_pow_right (n := 2) (j := 48) (by omega) (by omega)
theorem valN_bound (l : List Nat) (h : ∀ x ∈ l, x < 256) (h6 : l.length ≤ 6) : valN l < 281474976710656 := Nat.lt_of_lt_of_le (valN_lt l h) (pow8_le _ h6)
/-- There and back. -/
theorem valN_spellN (n k : Nat) : valN (spellN n k) = n % 2 ^ (8 * k) := by
  induction k with
  | zero => simp [spellN, valN, Nat.mod_one]
  | succ k ih =>
    rw [spellN, valN_snoc, ih, spellN_length, pow8, Nat.mul_comm 256, Nat.mod_mul, Nat.mul_comm (2 ^ (8 * k)) (_ % 256)]
theorem i64_or_nat (a b : Nat) (ha : a < 9223372036854775808) (hb : b < 9223372036854775808) : bits .or .i64 (a : Int) (b : Int) = ((a ||| b : Nat) : Int) := by
  have hx : a ||| b < 2 ^ 63 := Nat.or_lt_two_pow (by omega) (by omega)
  have h1 : (BitVec.ofInt 64 (a : Int)).toNat = a := by
    rw [BitVec.ofInt_natCast, BitVec.toNat_ofNat]; exact Nat.mod_eq_of_lt (by omega)
  have h2 : (BitVec.ofInt 64 (b : Int)).toNat = b := by
    rw [BitVec.ofInt_natCast, BitVec.toNat_ofNat]; exact Nat.mod_eq_of_lt (by omega)
  show IntKind.i64.wrap ((BitVec.ofInt 64 (a : Int) ||| BitVec.ofInt 64 (b : Int)).toNat : Int) = _
  rw [BitVec.toNat_or, h1, h2]
  simp [IntKind.wrap, IntKind.bits, IntKind.signed]
  omega
/-- One byte more. -/
theorem or_step (l : List Nat) (x : Nat) (h : ∀ y ∈ l, y < 256) (hx : x < 256) (h6 : l.length < 6) :
    bits .or .i64 ((valN l : Nat) : Int) ((x * 2 ^ (8 * l.length) : Nat) : Int) = ((valN (l ++ [x]) : Nat) : Int) := by
  have hv := valN_lt l h
  have hp := pow8_le (l.length + 1) (by omega)
  rw [pow8] at hp
  have hm : x * 2 ^ (8 * l.length) < 256 * 2 ^ (8 * l.length) := Nat.mul_lt_mul_of_pos_right hx (Nat.pow_pos (by omega))
  rw [i64_or_nat _ _ (by omega) (by omega), valN_snoc]
  rw [Nat.or_comm, nat_join (8 * l.length) (x * 2 ^ (8 * l.length)) (valN l) (by simp) hv, Nat.add_comm]
theorem shl_eq (x k : Nat) (hx : x < 256) (h6 : k < 6) : wrap64 ((x : Int) * 2 ^ (8 * k)) = ((x * 2 ^ (8 * k) : Nat) : Int) := by
  have hp := pow8_le (k + 1) (by omega)
  rw [pow8] at hp
  have hm : x * 2 ^ (8 * k) < 256 * 2 ^ (8 * k) := Nat.mul_lt_mul_of_pos_right hx (Nat.pow_pos (by omega))
  have e : (x : Int) * 2 ^ (8 * k) = ((x * 2 ^ (8 * k) : Nat) : Int) := by rw [Int.natCast_mul, Int.natCast_pow]; rfl
  rw [e]
  generalize x * 2 ^ (8 * k) = q at *
  simp [wrap64]; omega
theorem add_step (l : List Nat) (x k : Nat) (h : ∀ y ∈ l, y < 256) (hx : x < 256) (hk : l.length = k) (h6 : k < 6) :
    wrap64 (((valN l : Nat) : Int) + wrap64 ((x : Int) * 2 ^ (8 * k))) = ((valN (l ++ [x]) : Nat) : Int) := by
  rw [shl_eq x k hx h6, valN_snoc, hk]
  have hv := valN_bound l h (by omega)
  have hp := pow8_le (k + 1) (by omega)
  rw [pow8] at hp
  have hm : x * 2 ^ (8 * k) < 256 * 2 ^ (8 * k) := Nat.mul_lt_mul_of_pos_right hx (Nat.pow_pos (by omega))
  generalize x * 2 ^ (8 * k) = q at *
  simp [wrap64]; omega
theorem orw_step (l : List Nat) (x k : Nat) (h : ∀ y ∈ l, y < 256) (hx : x < 256) (hk : l.length = k) (h6 : k < 6) :
    bits .or .i64 ((valN l : Nat) : Int) (wrap64 ((x : Int) * 2 ^ (8 * k))) = ((valN (l ++ [x]) : Nat) : Int) := by
  rw [shl_eq x k hx h6]
  subst hk
  exact or_step l x h hx h6
end Go.Proofs.Ytoopnafdpenofaa

/- P103, Put, as a function over plain numbers. -/
namespace Go.Proofs.Ytoopnafdpenofaa
open Go.RowKit

/-- P103, Put: the error's number and the bytes. -/
def putN (n size : Int) : Int × List Nat :=
  if 1 ≤ size ∧ size ≤ 6 then (if 0 ≤ n ∧ n < 2 ^ (8 * size.toNat) then (0, spellN n.toNat size.toNat) else (11, [])) else (1, [])
theorem pow_size (size : Nat) (h6 : size ≤ 6) : ∃ p : Nat, wrap64 (2 ^ (8 * size)) = (p : Int) ∧ p ≤ 281474976710656 ∧ p = 2 ^ (8 * size) := by
  have h : (2 : Nat) ^ (8 * size) ≤ 2 ^ 48 := Nat.pow_le_pow_right (by omega) (by omega)
  have e : ((2 ^ (8 * size) : Nat) : Int) = (2 : Int) ^ (8 * size) := by rw [Int.natCast_pow]; rfl
  refine ⟨2 ^ (8 * size), ?_, h, rfl⟩
  rw [← e]
  generalize (2 : Nat) ^ (8 * size) = q at *
  have : (q : Int) ≤ 281474976710656 := by omega
  simp [wrap64]; omega
theorem putN_no (n size : Int) (h : ¬ (1 ≤ size ∧ size ≤ 6)) : putN n size = (1, []) := by unfold putN; rw [if_neg h]
theorem putN_range (n : Int) (size : Nat) (h1 : 1 ≤ size) (h6 : size ≤ 6) (h : ¬ (0 ≤ n ∧ n < 2 ^ (8 * size))) : putN n size = (11, []) := by
  unfold putN; rw [if_pos (by omega), Int.toNat_natCast, if_neg h]
theorem putN_ok (n size : Nat) (h1 : 1 ≤ size) (h6 : size ≤ 6) (h : n < 2 ^ (8 * size)) : putN n size = (0, spellN n size) := by
  have e : ((2 ^ (8 * size) : Nat) : Int) = (2 : Int) ^ (8 * size) := by rw [Int.natCast_pow]; rfl
  unfold putN; rw [if_pos (by omega), Int.toNat_natCast, Int.toNat_natCast, if_pos ⟨by omega, by rw [← e]; omega⟩]
end Go.Proofs.Ytoopnafdpenofaa

/- Plain mathematics of CRC-32C over natural numbers: one step of the register, its linearity, that it forgets nothing; no Go program is named here. -/
namespace Go.Proofs.Ytoopnafdpenofaa.Crcm

/-- The polynomial, bits turned round. -/
def poly : Nat := 2197175160
/-- One step of the register, no bit fed. -/
def stp (r : Nat) : Nat := if r % 2 = 1 then (r / 2) ^^^ poly else r / 2
def stps : Nat → Nat → Nat
  | 0, r => r
  | n + 1, r => stps n (stp r)
/-- The register behind some bytes. -/
def reg (r : Nat) : List Nat → Nat
  | [] => r
  | x :: l => reg (stps 8 (r ^^^ x)) l
def crc (l : List Nat) : Nat := 4294967295 - reg 4294967295 l

theorem poly_lt : poly < 2 ^ 32 := by unfold poly; omega

theorem stp_lt (r : Nat) (h : r < 2 ^ 32) : stp r < 2 ^ 32 := by
  unfold stp
  split
  · exact Nat.xor_lt_two_pow (by omega) poly_lt
  · omega
theorem stps_lt (n : Nat) : ∀ r, r < 2 ^ 32 → stps n r < 2 ^ 32 := by
  induction n with
  | zero => intro r h; exact h
  | succ n ih => intro r h; exact ih _ (stp_lt r h)
theorem stps_succ' (n : Nat) : ∀ r, stps (n + 1) r = stp (stps n r) := by
  induction n with
  | zero => intro r; rfl
  | succ n ih => intro r; show stps (n + 1) (stp r) = _; rw [ih]; rfl
theorem stps_add (m n : Nat) : ∀ r, stps (m + n) r = stps n (stps m r) := by
  induction m with
  | zero => intro r; rw [Nat.zero_add]; rfl
  | succ m ih => intro r; rw [show m + 1 + n = (m + n) + 1 by omega]; exact ih (stp r)
theorem reg_lt : ∀ (l : List Nat) (r : Nat), r < 2 ^ 32 → (∀ x ∈ l, x < 256) → reg r l < 2 ^ 32
  | [], r, h, _ => h
  | x :: l, r, h, hl => reg_lt l _ (stps_lt 8 _ (Nat.xor_lt_two_pow h (by have := hl x (by simp); omega))) (fun y hy => hl y (by simp [hy]))
theorem crc_lt (l : List Nat) : crc l < 2 ^ 32 := by unfold crc; omega

theorem xor_mod2 (a b : Nat) : (a ^^^ b) % 2 = (a % 2) ^^^ (b % 2) := by
  have := @Nat.xor_mod_two_pow a b 1
  simpa using this
theorem xor_div2 (a b : Nat) : (a ^^^ b) / 2 = (a / 2) ^^^ (b / 2) := by
  have := @Nat.xor_div_two_pow a b 1
  simpa using this
theorem xor4 (a b c d : Nat) : (a ^^^ b) ^^^ (c ^^^ d) = (a ^^^ c) ^^^ (b ^^^ d) := by
  rw [Nat.xor_assoc, Nat.xor_assoc, ← Nat.xor_assoc b c d, Nat.xor_comm b c, Nat.xor_assoc c b d]

theorem stp_xor (a b : Nat) : stp (a ^^^ b) = stp a ^^^ stp b := by
  unfold stp
  rw [xor_mod2, xor_div2]
  rcases Nat.mod_two_eq_zero_or_one a with ha | ha <;> rcases Nat.mod_two_eq_zero_or_one b with hb | hb <;> simp only [ha, hb]
  · simp
  · simp [Nat.xor_assoc]
  · simp [Nat.xor_assoc, Nat.xor_comm poly]
  · simp
    rw [xor4, Nat.xor_self, Nat.xor_zero]
theorem stps_xor (n : Nat) : ∀ a b, stps n (a ^^^ b) = stps n a ^^^ stps n b := by
  induction n with
  | zero => intro a b; rfl
  | succ n ih => intro a b; show stps n (stp (a ^^^ b)) = _; rw [stp_xor, ih]; rfl
theorem stp_zero : stp 0 = 0 := by decide
theorem stps_zero (n : Nat) : stps n 0 = 0 := by
  induction n with
  | zero => rfl
  | succ n ih => show stps n (stp 0) = 0; rw [stp_zero, ih]

theorem stp_ne (d : Nat) (h : d < 2 ^ 32) (h0 : stp d = 0) : d = 0 := by
  unfold stp at h0
  split at h0
  · exfalso
    have e : d / 2 = poly := by
      have := congrArg (· ^^^ poly) h0
      simpa [Nat.xor_assoc] using this
    unfold poly at e
    omega
  · omega
theorem stps_ne (n : Nat) : ∀ d, d < 2 ^ 32 → stps n d = 0 → d = 0 := by
  induction n with
  | zero => intro d _ h; exact h
  | succ n ih => intro d h h0; exact stp_ne d h (ih _ (stp_lt d h) h0)
theorem xor_eq_zero {a b : Nat} (h : a ^^^ b = 0) : a = b := by
  have := congrArg (· ^^^ b) h
  simpa [Nat.xor_assoc] using this
theorem stps_inj (n a b : Nat) (ha : a < 2 ^ 32) (hb : b < 2 ^ 32) (h : stps n a = stps n b) : a = b := by
  apply xor_eq_zero
  apply stps_ne n _ (Nat.xor_lt_two_pow ha hb)
  rw [stps_xor, h, Nat.xor_self]

theorem reg_snoc : ∀ (l : List Nat) (r x : Nat), reg r (l ++ [x]) = stps 8 (reg r l ^^^ x)
  | [], _, _ => rfl
  | _ :: l, _, x => reg_snoc l _ x
theorem reg_append : ∀ (l m : List Nat) (r : Nat), reg r (l ++ m) = reg (reg r l) m
  | [], _, _ => rfl
  | _ :: l, m, _ => reg_append l m _
theorem reg_inj : ∀ (l : List Nat) (r s : Nat), r < 2 ^ 32 → s < 2 ^ 32 → (∀ x ∈ l, x < 256) → reg r l = reg s l → r = s
  | [], _, _, _, _, _, h => h
  | x :: l, r, s, hr, hs, hl, h => by
    have hx := hl x (by simp)
    have h1 := reg_inj l _ _ (stps_lt 8 _ (Nat.xor_lt_two_pow hr (by omega))) (stps_lt 8 _ (Nat.xor_lt_two_pow hs (by omega))) (fun y hy => hl y (by simp [hy])) h
    have h2 := stps_inj 8 _ _ (Nat.xor_lt_two_pow hr (by omega)) (Nat.xor_lt_two_pow hs (by omega)) h1
    have := congrArg (· ^^^ x) h2
    simpa [Nat.xor_assoc] using this

/-- Four steps by a table of sixteen. -/
theorem four (s : Nat) : stps 4 s = (s / 16) ^^^ stps 4 (s % 16) := by
  have e : s = (s / 16 * 16) ^^^ (s % 16) := by
    have h1 := Go.nat_join 4 (s / 16 * 16) (s % 16) (by omega) (by omega)
    have h2 : (s / 16 * 16) ^^^ (s % 16) = (s / 16 * 16) ||| (s % 16) := by
      apply Nat.eq_of_testBit_eq
      intro i
      rw [Nat.testBit_xor, Nat.testBit_or]
      by_cases hi : i < 4
      · have : (s / 16 * 16).testBit i = false := by
          rw [show s / 16 * 16 = 2 ^ 4 * (s / 16) by omega, Nat.testBit_two_pow_mul]
          simp; omega
        simp [this]
      · have : (s % 16).testBit i = false := by
          apply Nat.testBit_lt_two_pow
          exact Nat.lt_of_lt_of_le (show s % 16 < 2 ^ 4 by omega) (Nat.pow_le_pow_right (by omega) (by omega))
        simp [this]
    rw [h2, h1]; omega
  have z : stps 4 (s / 16 * 16) = s / 16 := by
    have d : ∀ q, stp (2 * q) = q := by intro q; unfold stp; rw [if_neg (by omega)]; omega
    show stp (stp (stp (stp (s / 16 * 16)))) = _
    rw [show s / 16 * 16 = 2 * (2 * (2 * (2 * (s / 16)))) by omega, d, d, d, d]
  conv => lhs; rw [e]
  rw [stps_xor, z]
theorem eight (s : Nat) : stps 8 s = stps 4 (stps 4 s) := stps_add 4 4 s

/-- Bit by bit: the register and the byte, both shifted. -/
theorem bit_step (r x : Nat) : (if (r ^^^ x) % 2 = 1 then (r / 2) ^^^ poly else r / 2) ^^^ (x / 2) = stp (r ^^^ x) := by
  unfold stp
  rw [xor_div2]
  split
  · rw [Nat.xor_assoc, Nat.xor_comm poly, ← Nat.xor_assoc]
  · rfl

/-- One byte turned: another sum. -/
theorem crc_turned (l m : List Nat) (a b : Nat) (hl : ∀ x ∈ l, x < 256) (hm : ∀ x ∈ m, x < 256) (ha : a < 256) (hb : b < 256) (h : crc (l ++ a :: m) = crc (l ++ b :: m)) : a = b := by
  have la : reg 4294967295 (l ++ a :: m) < 2 ^ 32 := reg_lt _ _ (by omega) (by
    intro x hx; simp at hx; rcases hx with h | h | h
    · exact hl x h
    · omega
    · exact hm x h)
  have lb : reg 4294967295 (l ++ b :: m) < 2 ^ 32 := reg_lt _ _ (by omega) (by
    intro x hx; simp at hx; rcases hx with h | h | h
    · exact hl x h
    · omega
    · exact hm x h)
  have e : reg 4294967295 (l ++ a :: m) = reg 4294967295 (l ++ b :: m) := by
    unfold crc at h; omega
  rw [reg_append, reg_append] at e
  have hr : reg 4294967295 l < 2 ^ 32 := reg_lt _ _ (by omega) hl
  have h1 := reg_inj m _ _ (stps_lt 8 _ (Nat.xor_lt_two_pow hr (by omega))) (stps_lt 8 _ (Nat.xor_lt_two_pow hr (by omega))) hm e
  have h2 := stps_inj 8 _ _ (Nat.xor_lt_two_pow hr (by omega)) (Nat.xor_lt_two_pow hr (by omega)) h1
  have := congrArg (reg 4294967295 l ^^^ ·) h2
  simpa [← Nat.xor_assoc] using this

theorem and1 (a : Nat) (h : a < 4294967296) : Go.bits .and .u32 (a : Int) 1 = ((a % 2 : Nat) : Int) := by
  have e := Go.u32_and_nat a 1 h (by omega)
  rw [Go.nat_mask1] at e
  exact e
theorem and15 (a : Nat) (h : a < 4294967296) : Go.bits .and .u32 (a : Int) 15 = ((a % 16 : Nat) : Int) := by
  have e := Go.u32_and_nat a 15 h (by omega)
  rw [Go.nat_mask4] at e
  exact e
theorem xorp (a : Nat) (h : a < 4294967296) : Go.bits .xor .u32 ((a : Int) / 2) 2197175160 = (((a / 2) ^^^ poly : Nat) : Int) := by
  have e := Go.u32_xor_nat (a / 2) 2197175160 (by omega) (by omega)
  have d : ((a / 2 : Nat) : Int) = (a : Int) / 2 := by omega
  rw [d] at e
  exact e
theorem stp_odd (a : Nat) (h : a < 4294967296) (ho : (Go.bits .and .u32 (a : Int) 1 == 1) = true) : Go.bits .xor .u32 ((a : Int) / 2) 2197175160 = ((stp a : Nat) : Int) := by
  rw [and1 a h] at ho
  have : a % 2 = 1 := by have := eq_of_beq ho; omega
  rw [xorp a h]; unfold stp; rw [if_pos this]
theorem stp_even (a : Nat) (h : a < 4294967296) (ho : (Go.bits .and .u32 (a : Int) 1 == 1) = false) : (a : Int) / 2 = ((stp a : Nat) : Int) := by
  rw [and1 a h] at ho
  have : ¬ a % 2 = 1 := by have := ne_of_beq_false ho; omega
  unfold stp; rw [if_neg this]; omega
theorem stps_lt' (n r : Nat) (h : r < 4294967296) : stps n r < 4294967296 := stps_lt n r h

theorem crc_known : crc [49, 50, 51, 52, 53, 54, 55, 56, 57] = 3808858755 := by decide +kernel
end Go.Proofs.Ytoopnafdpenofaa.Crcm

/- Chapter 4's entries as bytes: an entry's text, its parts, a part as a block. -/
namespace Go.Proofs.Ytoopnafdpenofaa
open Go.RowKit Crcm

/-- An entry's bytes. -/
def entryN (kind loglet pos : Nat) (data : List Nat) : List Nat := spellN kind 1 ++ spellN loglet 6 ++ spellN pos 6 ++ data
theorem entryN_length (kind loglet pos : Nat) (data : List Nat) : (entryN kind loglet pos data).length = 13 + data.length := by simp [entryN, spellN_length]; omega
/-- How many parts so many bytes stand in. -/
def partsN (n : Nat) : Nat := (n + 239) / 240
/-- A part, ahead of its sum. -/
def partBs (number k count : Nat) (piece : List Nat) : List Nat := spellN 165 1 ++ spellN number 6 ++ spellN k 2 ++ spellN count 2 ++ spellN piece.length 1 ++ piece ++ List.replicate (240 - piece.length) 0
theorem partBs_length (number k count : Nat) (piece : List Nat) (h : piece.length ≤ 240) : (partBs number k count piece).length = 252 := by simp [partBs, spellN_length]; omega
/-- A part as a block. -/
def partN (number k count : Nat) (piece : List Nat) : List Nat := partBs number k count piece ++ spellN (crc (partBs number k count piece)) 4
theorem partN_length (number k count : Nat) (piece : List Nat) (h : piece.length ≤ 240) : (partN number k count piece).length = 256 := by simp [partN, partBs_length _ _ _ _ h, spellN_length]
/-- Part k of a text. -/
def pieceN (text : List Nat) (k : Nat) : List Nat := (text.drop (k * 240)).take 240
theorem pieceN_length (text : List Nat) (k : Nat) : (pieceN text k).length ≤ 240 := by simp [pieceN]; omega
/-- The blocks of the entry of that number. -/
def blocksN (number : Nat) (text : List Nat) : List (List Nat) := (List.range (partsN text.length)).map fun k => partN number k (partsN text.length) (pieceN text k)
theorem blocksN_length (number : Nat) (text : List Nat) : (blocksN number text).length = partsN text.length := by simp [blocksN]
theorem blocksN_at (number : Nat) (text : List Nat) (k : Nat) (h : k < partsN text.length) : (blocksN number text)[k]? = some (partN number k (partsN text.length) (pieceN text k)) := by
  simp [blocksN, List.getElem?_range h]
theorem partN_lt (number k count : Nat) (piece : List Nat) (h : ∀ x ∈ piece, x < 256) : ∀ x ∈ partN number k count piece, x < 256 := by
  intro x hx
  simp only [partN, partBs, List.mem_append, List.mem_replicate] at hx
  rcases hx with (((((((hx | hx) | hx) | hx) | hx) | hx) | hx)) | hx
  · exact spellN_lt _ _ x hx
  · exact spellN_lt _ _ x hx
  · exact spellN_lt _ _ x hx
  · exact spellN_lt _ _ x hx
  · exact spellN_lt _ _ x hx
  · exact h x hx
  · omega
  · exact spellN_lt _ _ x hx
theorem pieceN_lt {text : List Nat} (h : ∀ x ∈ text, x < 256) (k : Nat) : ∀ x ∈ pieceN text k, x < 256 := fun x hx => h x (List.mem_of_mem_drop (List.mem_of_mem_take hx))
end Go.Proofs.Ytoopnafdpenofaa

/- Chapter 4 as functions over plain data: a store's state, what an entry does, how an entry comes onto the disk (P402 to P405). -/
namespace Go.Proofs.Ytoopnafdpenofaa
open Go.RowKit

/-- What a loglet has beside its slots. -/
structure LSt where
  tail : Nat
  trim : Nat
  sealed : Bool
def l0 : LSt := ⟨0, 0, false⟩
/-- A store: its disk, its slots, its loglets, how many entries there are, the block behind them, whether it has fallen. -/
structure SSt where
  d : DSt
  slots : Nat → Nat → Option (List Nat)
  logs : Nat → Option LSt
  num : Nat
  fin : Nat
  fallen : Bool
def SSt.log (s : SSt) (id : Nat) : LSt := (s.logs id).getD l0
/-- An entry. -/
structure Ent where
  kind : Nat
  loglet : Nat
  pos : Nat
  data : List Nat
def Ent.text (e : Ent) : List Nat := entryN e.kind e.loglet e.pos e.data
def Ent.parts (e : Ent) : Nat := partsN (13 + e.data.length)
theorem Ent.text_length (e : Ent) : e.text.length = 13 + e.data.length := entryN_length _ _ _ _
theorem Ent.parts_pos (e : Ent) : 1 ≤ e.parts := by unfold Ent.parts partsN; omega
/-- Blocks, written one behind the other: were all, and the disk. -/
def writesD (d : DSt) : List (Nat × List Nat) → Bool × DSt
  | [] => (true, d)
  | x :: r => if (writeD d x.1 x.2).1 = 0 then writesD (writeD d x.1 x.2).2 r else (false, (writeD d x.1 x.2).2)
/-- The first k of them. -/
def midD (d : DSt) (xs : List (Nat × List Nat)) (k : Nat) : DSt := (writesD d (xs.take k)).2
/-- Blocks that are to last. -/
def lastsD (d : DSt) (xs : List (Nat × List Nat)) : Bool × DSt :=
  if (writesD d xs).1 then (if xs = [] then (true, d) else (decide ((syncD (writesD d xs).2).1 = 0), (syncD (writesD d xs).2).2)) else (false, (writesD d xs).2)
theorem writesD_append (d : DSt) (xs ys : List (Nat × List Nat)) : writesD d (xs ++ ys) = if (writesD d xs).1 then writesD (writesD d xs).2 ys else writesD d xs := by
  induction xs generalizing d with
  | nil => simp [writesD]
  | cons x r ih =>
    simp only [List.cons_append, writesD]
    split
    · rw [ih]
    · simp
theorem writesD_snoc (d : DSt) (xs : List (Nat × List Nat)) (x : Nat × List Nat) (h : (writesD d xs).1 = true) : writesD d (xs ++ [x]) = (decide ((writeD (writesD d xs).2 x.1 x.2).1 = 0), (writeD (writesD d xs).2 x.1 x.2).2) := by
  rw [writesD_append, if_pos h]
  simp only [writesD]
  split
  · rename_i h1; simp [h1]
  · rename_i h1; simp [h1]
theorem writesD_take (d : DSt) (xs : List (Nat × List Nat)) (k : Nat) (h : (writesD d (xs.take (k + 1))).1 = true) : (writesD d (xs.take k)).1 = true := by
  by_cases hk : k < xs.length
  · rw [List.take_succ_eq_append_getElem hk, writesD_append] at h
    by_cases h1 : (writesD d (xs.take k)).1 = true
    · exact h1
    · rw [if_neg h1] at h; exact absurd h h1
  · rw [List.take_of_length_le (by omega)] at h ⊢; exact h
theorem writesD_stop (d : DSt) (xs : List (Nat × List Nat)) (k : Nat) (h : (writesD d (xs.take k)).1 = false) : writesD d xs = writesD d (xs.take k) := by
  have e : xs = xs.take k ++ xs.drop k := (List.take_append_drop k xs).symm
  conv => lhs; rw [e, writesD_append]
  rw [h]; rfl
theorem writesD_length (d : DSt) (xs : List (Nat × List Nat)) : (writesD d xs).2.bs.length = d.bs.length := by
  induction xs generalizing d with
  | nil => rfl
  | cons x r ih =>
    simp only [writesD]
    split
    · rw [ih, writeD_length]
    · exact writeD_length _ _ _
theorem lastsD_length (d : DSt) (xs : List (Nat × List Nat)) : (lastsD d xs).2.bs.length = d.bs.length := by
  unfold lastsD
  split
  · split
    · rfl
    · rw [syncD_length, writesD_length]
  · exact writesD_length _ _
/-- The blocks of an entry, at their places. -/
def rowAt (at_ : Nat) (bs : List (List Nat)) : List (Nat × List Nat) := bs.zipIdx.map fun x => (at_ + x.2, x.1)
theorem rowAt_length (p : Nat) (bs : List (List Nat)) : (rowAt p bs).length = bs.length := by simp [rowAt]
theorem rowAt_at (p : Nat) (bs : List (List Nat)) (k : Nat) : (rowAt p bs)[k]? = bs[k]?.map fun b => (p + k, b) := by
  simp only [rowAt, List.getElem?_map, List.getElem?_zipIdx]
  cases bs[k]? <;> simp
def SSt.setLog (s : SSt) (id : Nat) (x : LSt) : SSt := { s with logs := fun j => if j = id then some x else s.logs j }
def SSt.setSlot (s : SSt) (l p : Nat) (x : Option (List Nat)) : SSt := { s with slots := fun i q => if i = l ∧ q = p then x else s.slots i q }
def SSt.fill (s : SSt) (l p : Nat) (data : List Nat) : SSt :=
  if s.slots l p = none ∧ (s.log l).trim ≤ p then (s.setLog l ⟨max (s.log l).tail (p + 1), (s.log l).trim, (s.log l).sealed⟩).setSlot l p (some data)
  else s.setLog l ⟨max (s.log l).tail (p + 1), (s.log l).trim, (s.log l).sealed⟩
def SSt.sealL (s : SSt) (l : Nat) : SSt := s.setLog l ⟨(s.log l).tail, (s.log l).trim, true⟩
def SSt.giveUp (s : SSt) (l p : Nat) : SSt :=
  { s.setLog l ⟨max (s.log l).tail p, max (s.log l).trim p, (s.log l).sealed⟩ with slots := fun i q => if i = l ∧ (s.log l).trim ≤ q ∧ q < p then none else s.slots i q }
/-- What an entry says is done. -/
def SSt.doE (s : SSt) (e : Ent) : SSt := if e.kind = 1 then s.fill e.loglet e.pos e.data else if e.kind = 2 then s.sealL e.loglet else s.giveUp e.loglet e.pos
def SSt.takeE (s : SSt) (e : Ent) : SSt := { s.doE e with num := s.num + 1, fin := s.fin + e.parts }
/-- The blocks of an entry of this store. -/
def SSt.rowE (s : SSt) (e : Ent) : List (Nat × List Nat) := rowAt s.fin (blocksN s.num e.text)
/-- An entry is written, and done. -/
def SSt.record (s : SSt) (e : Ent) : Int × SSt :=
  if s.d.bs.length < s.fin + e.parts then (7, s)
  else if (lastsD s.d (s.rowE e)).1 then (0, ({ s with d := (lastsD s.d (s.rowE e)).2 } : SSt).takeE e)
  else (8, { s with d := (lastsD s.d (s.rowE e)).2, fallen := true })
def isLogletN (n : Int) : Bool := decide (0 ≤ n) && decide (n < 281474976710656)
def isPlaceN (n : Int) : Bool := decide (0 ≤ n) && decide (n < 4096)
def isTrimN (n : Int) : Bool := decide (0 ≤ n) && decide (n ≤ 4096)
def SSt.down (s : SSt) : Bool := s.fallen || s.d.off
/-- P403. -/
def SSt.put (s : SSt) (l p : Int) (data : List Nat) (repair : Bool) : Int × SSt :=
  if isLogletN l && isPlaceN p then
    (if 65536 < data.length then (6, s)
     else if s.down then (8, s)
     else if p.toNat < (s.log l.toNat).trim then (32, s)
     else match s.slots l.toNat p.toNat with
       | some was => if was = data then (0, s) else (31, s)
       | none => if (s.log l.toNat).sealed && !repair then (30, s) else s.record ⟨1, l.toNat, p.toNat, data⟩)
  else (1, s)
/-- P404. -/
def SSt.seal (s : SSt) (l : Int) : Int × SSt :=
  if isLogletN l then (if s.down then (8, s) else if (s.log l.toNat).sealed then (0, s) else s.record ⟨2, l.toNat, 0, []⟩) else (1, s)
def SSt.trim (s : SSt) (l p : Int) : Int × SSt :=
  if isLogletN l && isTrimN p then (if s.down then (8, s) else if p.toNat ≤ (s.log l.toNat).trim then (0, s) else s.record ⟨3, l.toNat, p.toNat, []⟩) else (1, s)
/-- P405. -/
def SSt.get (s : SSt) (l p : Int) : List Nat × Int :=
  if isLogletN l && isPlaceN p then
    (if p.toNat < (s.log l.toNat).trim then ([], 32) else match s.slots l.toNat p.toNat with
      | some d => (d, 0)
      | none => ([], 3))
  else ([], 1)
def SSt.free (s : SSt) : Nat := s.d.bs.length - s.fin
/-- The state that a loglet of any number has: none but the default at one that can't be. -/
def SSt.look (s : SSt) (l : Int) : LSt := if 0 ≤ l then s.log l.toNat else l0
end Go.Proofs.Ytoopnafdpenofaa

/- The looks of package disk: made, has, Blocks, Down; a store into the struct. -/
namespace Go.Proofs.Ytoopnafdpenofaa
open Go.RowKit
variable {w : World} {F : List Nat} {D B M : Nat} {Dm : DataW Value} {V C : Nat → Nat} {s : DSt}

set_option maxRecDepth 100000 in
set_option maxHeartbeats 1000000 in
theorem made_pic (h : Pic w F D B M Dm V C s) : Calls Try.prog 24 #[.pointer (some ⟨D, 0, none⟩)] w fun e w' => e = .returned (.bool true) ∧ w' = w := by
  obtain ⟨c0, -, -, -⟩ := h.cells
  have n1 := h.n1
  generalize s.bs.length = n at *
  clear h
  go_enter Try.func24, Try.ntmps24
  go_wp2
  all_goals go_ret
  all_goals simp
  all_goals omega
set_option maxRecDepth 100000 in
set_option maxHeartbeats 1000000 in
theorem has_pic (h : Pic w F D B M Dm V C s) (i : Int) : Calls Try.prog 40 #[.pointer (some ⟨D, 0, none⟩), .int .i64 i] w fun e w' => e = .returned (.bool (s.has i)) ∧ w' = w := by
  obtain ⟨c0, -, -, -⟩ := h.cells
  have hm := made_pic h
  unfold DSt.has
  generalize s.bs.length = n at *
  clear h
  go_enter Try.func40, Try.ntmps40
  go_wp2_with (go_at_call 24; refine hm.mono ?_; rintro e w' ⟨rfl, hw'⟩; obtain rfl := hw'.symm)
  all_goals go_ret
  all_goals simp
  all_goals omega
set_option maxRecDepth 100000 in
set_option maxHeartbeats 1000000 in
theorem blocks_pic (h : Pic w F D B M Dm V C s) : Calls Try.prog 10 #[.pointer (some ⟨D, 0, none⟩)] w fun e w' => e = .returned (.int .i64 (s.bs.length : Nat)) ∧ w' = w := by
  obtain ⟨c0, -, -, -⟩ := h.cells
  have hm := made_pic h
  generalize s.bs.length = n at *
  clear h
  go_enter Try.func10, Try.ntmps10
  go_wp2_with (go_at_call 24; refine hm.mono ?_; rintro e w' ⟨rfl, hw'⟩; obtain rfl := hw'.symm)
  all_goals go_ret
  all_goals simp
set_option maxRecDepth 100000 in
set_option maxHeartbeats 1000000 in
theorem down_pic (h : Pic w F D B M Dm V C s) : Calls Try.prog 11 #[.pointer (some ⟨D, 0, none⟩)] w fun e w' => e = .returned (.bool s.off) ∧ w' = w := by
  obtain ⟨-, -, c2, -⟩ := h.cells
  have hm := made_pic h
  generalize s.off = n at *
  clear h
  go_enter Try.func11, Try.ntmps11
  go_wp2_with (go_at_call 24; refine hm.mono ?_; rintro e w' ⟨rfl, hw'⟩; obtain rfl := hw'.symm)
  all_goals go_ret
  all_goals simp
/-- The disk behind a store into its struct. -/
theorem Pic.set (h : Pic w F D B M Dm V C s) (off : Bool) (fuse : Int) {w' : World} (hb : Chg [D] w w') (hD : w'.heap[D]? = some (.cells (diskV B M s.bs.length off fuse) TK (0, 0))) (h1 : -1 ≤ fuse) (h2 : fuse ≤ 9223372036854775807) : Pic w' F D B M Dm V C ⟨s.bs, off, fuse⟩ := by
  have hk : ∀ g ∈ F, g ≠ D → w'.heap[g]? = w.heap[g]? := fun g hg hne => hb.block g (h.lt g hg) (by simpa using hne)
  exact ⟨h.n1, h.n2, ⟨h.ok.dur, h.ok.vs, h1⟩, h2, hD, (hk B h.mB (fun e => h.neDB e.symm)).trans h.hB, ownsMap_kept h.hM (hk M h.mM (fun e => h.neM.1 e.symm)), h.has, h.look, fun i hi hv => ownsRow_kept (h.row i hi hv) (hk _ (h.mV i hi hv) (h.neV hi hv).1), h.apart, h.mD, h.mB, h.mM, h.mV, fun g hg => Nat.lt_of_lt_of_le (h.lt g hg) hb.size⟩
theorem Pic.set3 (h : Pic w F D B M Dm V C s) (fuse : Int) : (w.setCell ⟨D, 3, none⟩ (.int .i64 fuse)).heap[D]? = some (.cells (diskV B M s.bs.length s.off fuse) TK (0, 0)) := by
  rw [heap_setCell_same w D 3 _ TK _ h.hD]; rfl
theorem Pic.set23 (h : Pic w F D B M Dm V C s) (off : Bool) (fuse : Int) : ((w.setCell ⟨D, 2, none⟩ (.bool off)).setCell ⟨D, 3, none⟩ (.int .i64 fuse)).heap[D]? = some (.cells (diskV B M s.bs.length off fuse) TK (0, 0)) := by
  rw [heap_setCell_same _ D 3 _ TK _ (heap_setCell_same w D 2 _ TK _ h.hD)]; rfl
end Go.Proofs.Ytoopnafdpenofaa

/- New of package disk. -/
namespace Go.Proofs.Ytoopnafdpenofaa
open Go.RowKit

theorem new_at (n i : Nat) : (newD n).at i = b0 := by
  unfold newD DSt.at
  rw [List.getD_eq_getElem?_getD, List.getElem?_replicate]
  split <;> rfl
theorem durV_b0 : durV b0 = z256 ++ [Value.bool false] := by
  unfold durV b0
  simp only [z256_zeros]
theorem flat_rep {α β : Type} (n : Nat) (x : α) (f g : α → List β) (h : f x = g x) : (List.replicate n x).flatMap f = (List.replicate n x).flatMap g := by
  induction n with
  | zero => rfl
  | succ n ih => rw [List.replicate_succ, List.flatMap_cons, List.flatMap_cons, ih, h]
theorem new_pic {w : World} {n B M D : Nat} (h1 : 1 ≤ n) (h2 : n ≤ 4096) (hB : w.heap[B]? = some (.cells (madeCells (z256 ++ [Value.bool false]).toArray (n * 257)) TD (0, 0))) (hM : w.heap[M]? = some (.map #[] 0)) (hD : w.heap[D]? = some (.cells (diskV B M n false (-1)) TK (0, 0))) :
    Pic w [B, M, D] D B M (.map []) (fun _ => 0) (fun _ => 0) (newD n) := by
  have hl : (newD n).bs.length = n := List.length_replicate
  have hv : ∀ i, ((newD n).at i).vs = [] := fun i => by rw [new_at]; rfl
  have lt : ∀ {g o}, w.heap[g]? = some o → g < w.heap.size := fun h => (Array.getElem?_eq_some_iff.1 h).1
  refine ⟨by omega, by omega, newD_ok n, by simp [newD], by rw [hl]; exact hD, ?_, ?_, ?_, ?_, ?_, ?_, by simp, by simp, by simp, ?_, ?_⟩
  · rw [hB]
    have h3 : (newD n).bs.flatMap durV = (List.replicate n b0).flatMap (fun _ => z256 ++ [Value.bool false]) := by
      exact flat_rep n b0 durV (fun _ => z256 ++ [Value.bool false]) durV_b0
    rw [h3, ← made_row]
  · exact (show w.ownsMap Try.prog 3 RV M 0 (.map []) from ⟨#[], 0, hM, ⟨by simp, MapKept.stamped_empty 0, by simp⟩, Nat.le_refl _, rfl⟩)
  · intro kl
    constructor
    · intro h; cases h
    · rintro ⟨i, _, _, h⟩; exact absurd (hv i) h
  · intro i _ h; exact absurd (hv i) h
  · intro i _ h; exact absurd (hv i) h
  · intro i j _ _ _ h; exact absurd (hv i) h
  · intro i _ h; exact absurd (hv i) h
  · intro g hg
    simp at hg
    rcases hg with rfl | rfl | rfl
    · exact lt hB
    · exact lt hM
    · exact lt hD
set_option maxRecDepth 100000 in
set_option maxHeartbeats 2000000 in
theorem new_ok (n : Int) (w : World) (h1 : 1 ≤ n) (h2 : n ≤ 4096) : Calls Try.prog 4 #[.int .i64 n] w fun x w' => ∃ F D, x = .returned (.tuple #[.pointer (some ⟨D, 0, none⟩), .int .i64 0]) ∧ Dk w' F D (newD n.toNat) ∧ (∀ g ∈ F, w.heap.size ≤ g) ∧ Below w.heap.size w w' := by
  obtain ⟨N, hN⟩ : ∃ N : Nat, n = N := ⟨n.toNat, by omega⟩
  subst hN
  obtain ⟨it, i1, i2, i3, i4⟩ := info_parts Try.infoD
  have hmm : ∀ w, (Instr.makeMap 37 none).run Try.prog w = .ok (.map (some w.heap.size)) (w.alloc (.map #[] 0)) := fun w => run_makeMap _ w
  go_enter Try.func4, Try.ntmps4
  go_wp2_with (at_make; refine wpList_make_full _ rfl _ _ _ rfl w.heap.size TD it _ 257 Try.underlying36 i1 i2 i3 .i64 .i64 _ _ N rfl rfl rfl rfl (by rw [i4]; omega) (by unfold maxLen; omega) (Nat.le_refl _) ?_; intro w1 hrow hgr; have HR : Hid (w1.ownsRow w.heap.size TD 257 (.slice (some ⟨w.heap.size, 0, none⟩) N N) N (madeCells (z256 ++ [Value.bool false]).toArray (N * 257)).toList) := hrow; have HG : Hid (w.grownBy w1 none) := hgr; clear hrow hgr)
  go_ret2
  have hB : w1.heap[w.heap.size]? = some (.cells (madeCells (z256 ++ [Value.bool false]).toArray (N * 257)) TD (0, 0)) := by
    rcases HR.out.2 with ⟨e, _⟩ | ⟨g, cap, cur, e, _, r2, _, _, r5, r6⟩
    · cases e
    · cases e
      rw [r2]
      have : cur = madeCells (z256 ++ [Value.bool false]).toArray (N * 257) := by
        apply Array.toList_inj.1
        rw [← r6, List.take_of_length_le (by rw [Array.length_toList, r5]; exact Nat.le_refl _)]
      rw [this]
  have hlt : w.heap.size < w1.heap.size := (Array.getElem?_eq_some_iff.1 hB).1
  have h3 : (↑N : Int).toNat = N := by omega
  rw [h3]
  refine ⟨[w.heap.size, w1.heap.size, w1.heap.size + 1], w1.heap.size + 1, rfl, ⟨_, _, _, _, _, new_pic (by omega) (by omega) ?_ (heap_alloc2_old _ _ _) (heap_alloc2_new _ _ _)⟩, ?_, ?_⟩
  · rw [heap_alloc_old _ _ (by simp; omega), heap_alloc_old _ _ hlt]
    exact hB
  · intro g hg
    simp at hg
    omega
  · have b1 : Below w.heap.size w w1 := ⟨HG.out.os, HG.out.tape, HG.out.output, HG.out.size, fun k hk => HG.out.block k hk (by simp)⟩
    exact (b1.alloc (by omega) _).alloc (by simp; omega) _
set_option maxRecDepth 100000 in
set_option maxHeartbeats 2000000 in
theorem new_no (n : Int) (w : World) (h : ¬ (1 ≤ n ∧ n ≤ 4096)) : Calls Try.prog 4 #[.int .i64 n] w fun x w' => x = .returned (.tuple #[.pointer none, .int .i64 1]) ∧ Below w.heap.size w w' := by
  by_cases h1 : n < 1
  · go_enter Try.func4, Try.ntmps4
    go_wp2
    go_ret2
    exact ⟨rfl, Below.refl _ _⟩
  · have h2 : 4096 < n := by omega
    go_enter Try.func4, Try.ntmps4
    go_wp2
    go_ret2
    exact ⟨rfl, Below.refl _ _⟩
end Go.Proofs.Ytoopnafdpenofaa

/- present, Read of package disk; slices.Clone of bytes. -/
namespace Go.Proofs.Ytoopnafdpenofaa
open Go.RowKit
variable {w : World} {F : List Nat} {D B M : Nat} {Dm : DataW Value} {V C : Nat → Nat} {s : DSt}

def nowV (x : DBlock) : List Value := if x.vs = [] then durV x else verV (x.vs.getLastD []) ++ [Value.bool false]
theorem Pic.durCell (h : Pic w F D B M Dm V C s) {i : Nat} (hi : i < s.bs.length) : ∀ j, j < (durV (s.at i)).length → w.cell? ⟨B, i * 257 + j, none⟩ = (durV (s.at i))[j]? := by
  intro j hj
  rw [h.durs _ (at_mem hi)] at hj
  rw [cell_of_row _ _ _ _ _ _ h.hB, List.getElem?_toArray]
  refine flat_get durV 257 s.bs h.durs i j (s.at i) ?_ hj
  unfold DSt.at
  rw [List.getD_eq_getElem?_getD, List.getElem?_eq_getElem hi]; rfl
theorem Pic.verCell (h : Pic w F D B M Dm V C s) {i : Nat} (hi : i < s.bs.length) (hv : (s.at i).vs ≠ []) {k : Nat} {l : List Nat} (hk : (s.at i).vs[k]? = some l) : ∀ j, j < (verV l).length → w.cell? ⟨V i, k * 256 + j, none⟩ = (verV l)[j]? := by
  intro j hj
  obtain ⟨cur, hc, -, -, -, ht⟩ := h.rowBlock hi hv
  have hm : l ∈ (s.at i).vs := List.mem_of_getElem? hk
  have hl := h.vers hi l hm
  rw [hl] at hj
  have hkl : k < (s.at i).vs.length := (List.getElem?_eq_some_iff.1 hk).1
  have h1 := flat_get verV 256 (s.at i).vs (h.vers hi) k j l hk hj
  rw [← ht, List.getElem?_take, if_pos (by omega)] at h1
  rw [cell_of_row _ _ _ _ _ _ hc, ← h1, Array.getElem?_toList]
theorem verD_one (l : List Nat) : ∀ v ∈ verV l ++ [Value.bool false], v.oneCell' = true := fun v hv => by
  rcases List.mem_append.1 hv with h | h
  · exact verV_one l v h
  · simp at h; rw [h]; rfl
theorem durV_one (x : DBlock) : ∀ v ∈ durV x, v.oneCell' = true := fun v hv => by
  unfold durV at hv
  split at hv
  · exact verD_one _ v hv
  · rcases List.mem_append.1 hv with h | h
    · exact z256_one v h
    · simp at h; rw [h]; rfl
set_option maxRecDepth 100000 in
set_option maxHeartbeats 2000000 in
theorem present_pic (h : Pic w F D B M Dm V C s) (i : Nat) (hi : i < s.bs.length) : Calls Try.prog 61 #[.pointer (some ⟨D, 0, none⟩), .int .i64 (i : Int)] w fun e w' => e = .returned (.agg (nowV (s.at i)).toArray) ∧ Below w.heap.size w w' := by
  obtain ⟨c0, c1, -, -⟩ := h.cells
  have hn := h.n2
  have hltD := h.ltD
  have hlook := (h.below ((Below.refl _ w).alloc (Nat.le_refl _) (.cells Try.zeroCells95 TD))).lookup hi
  have HP : Hid (Pic w F D B M Dm V C s) := h
  clear h
  unfold verN at hlook
  by_cases hv : (s.at i).vs = []
  · rw [if_pos hv] at hlook
    unfold nowV
    rw [if_pos hv]
    go_enter Try.func61, Try.ntmps61
    go_wp2_with (first
      | (refine load_wide rfl TD _ rfl _ Try.underlying95 rfl (durV (s.at i)) (by rw [HP.out.durs _ (at_mem hi)]; exact sizeD) B (i * 257) rfl ((HP.out.below ((Below.refl _ w).alloc (Nat.le_refl _) _)).durCell hi) ?_)
      | (refine store_new (w0 := w) rfl TD _ _ rfl (durV (s.at i)) (by rw [HP.out.durs _ (at_mem hi)]; exact sizeD) rfl rfl TD Try.zeroCells95 rfl (by rw [HP.out.durs _ (at_mem hi), zcD]; simp [z256_len]) (durV_one _) ?_))
    refine bodyPost_ret (results_cell_row Try.results61 _ _ w.heap.size TD _ (0, 0) _ rfl (heap_alloc_last _ _) Try.underlying95 rfl (by rw [List.size_toArray, HP.out.durs _ (at_mem hi)]; exact sizeD)) rfl ⟨rfl, (Below.refl _ w).alloc (Nat.le_refl _) _⟩
  · rw [if_neg hv] at hlook
    unfold nowV
    rw [if_neg hv]
    obtain ⟨l, hl⟩ : ∃ l, (s.at i).vs.getLast? = some l := by cases hq : (s.at i).vs.getLast? with
      | none => exact absurd (List.getLast?_eq_none_iff.1 hq) hv
      | some l => exact ⟨l, rfl⟩
    have hlD : (s.at i).vs.getLastD [] = l := by rw [List.getLastD_eq_getLast?, hl]; rfl
    rw [hlD]
    have hk : (s.at i).vs[(s.at i).vs.length - 1]? = some l := by rw [← List.getLast?_eq_getElem?]; exact hl
    have hpos : 0 < (s.at i).vs.length := List.length_pos_iff.2 hv
    have h256 : (verV l).length = 256 := HP.out.vers hi l (List.mem_of_getElem? hk)
    have hcell := (HP.out.below ((Below.refl _ w).alloc (Nat.le_refl _) (.cells Try.zeroCells95 TD))).verCell hi hv hk
    have HC : Hid (∀ j, j < (verV l).length → (w.alloc (.cells Try.zeroCells95 TD)).cell? ⟨V i, ((s.at i).vs.length - 1) * 256 + j, none⟩ = (verV l)[j]?) := hcell
    have hmax : (s.at i).vs.length ≤ maxLen := by obtain ⟨cur, _, r1, r2, _⟩ := HP.out.rowBlock hi hv; omega
    clear hcell
    unfold verS at hlook
    have HK : Hid ((s.at i).vs ≠ []) := hv
    clear hv hl hlD hk
    unfold maxLen at hmax
    generalize (s.at i).vs.length = m at *
    obtain ⟨k, rfl⟩ : ∃ k, m = k + 1 := ⟨m - 1, by omega⟩
    simp only [Nat.add_sub_cancel] at HC
    go_enter Try.func61, Try.ntmps61
    go_wp2_with (first
      | (refine load_wide rfl TB _ rfl _ Try.underlying77 rfl (verV l) (by rw [h256]; exact sizeB) (V i) (k * 256) rfl HC.out ?_)
      | (refine build_text rfl _ rfl _ rfl (verV l ++ [Value.bool false]) ?_ ?_; (exact fun w => run_buildD w _ h256))
      | (refine store_new (w0 := w) rfl TD _ _ rfl (verV l ++ [Value.bool false]) (by rw [List.length_append, h256]; exact sizeD) rfl rfl TD Try.zeroCells95 rfl (by rw [List.length_append, h256, zcD]; simp [z256_len]) (verD_one _) ?_))
    refine bodyPost_ret (results_cell_row Try.results61 _ _ w.heap.size TD _ (0, 0) _ rfl (heap_alloc_last _ _) Try.underlying95 rfl (by rw [List.size_toArray, List.length_append, h256]; exact sizeD)) rfl ⟨rfl, (Below.refl _ w).alloc (Nat.le_refl _) _⟩
end Go.Proofs.Ytoopnafdpenofaa

/- slices.Clone of bytes; Read of package disk. -/
namespace Go.Proofs.Ytoopnafdpenofaa
open Go.RowKit
variable {w : World} {F : List Nat} {D B M : Nat} {Dm : DataW Value} {V C : Nat → Nat} {s : DSt}

set_option maxRecDepth 100000 in
set_option maxHeartbeats 1000000 in
theorem clone_any (b off n c : Nat) (l : List Nat) (w : World) (hp : Part.ok w ⟨some ⟨b, off, none⟩, n, c, l⟩) (hn : n ≤ 281474976710656 / 4) :
    Calls Try.prog 62 #[.slice (some ⟨b, off, none⟩) n c] w fun e w' => ∃ v, e = .returned v ∧ Own w' w.heap.size v l ∧ Below w.heap.size w w' := by
  have HP : Hid (Part.ok w ⟨some ⟨b, off, none⟩, n, c, l⟩) := hp
  clear hp
  have HO : Hid ((w.alloc (.cells #[] 5)).ownsRow w.heap.size 5 1 (.slice (some ⟨w.heap.size, 0, none⟩) 0 0) 0 (([] : List Nat).map bv)) :=
    (show Hid _ from ⟨by simp, Or.inr ⟨w.heap.size, 0, #[], rfl, Nat.le_refl _, heap_alloc_last _ _, by omega, by unfold maxLen; omega, by simp, by simp⟩⟩)
  have q : ∀ w, (binOp .eql 34 (.slice (some ⟨b, off, none⟩) n c) (.slice none 0 0)).run Try.prog w = .ok (.bool false) w := fun w => Lib.run_eql_slice_nil w _ _ _ n c 0 0 Try.underlying34
  go_enter Try.func62, Try.ntmps62
  go_wp2_with (at_builtin; refine app_any rfl _ _ rfl w.heap.size _ 0 [] rfl HO.out (some ⟨b, off, none⟩) n c l rfl HP.out.1 (by intro h; cases h) (HP.out.later ((Below.refl _ w).alloc (Nat.le_refl _) _)).2.2 (by omega) (by simp) ?_; intro v w1 hown hg)
  go_ret
  refine ⟨v, rfl, ⟨HP.out.2.2.1, by simpa [HP.out.1] using hown⟩, ?_⟩
  exact ((Below.refl w.heap.size w).alloc (Nat.le_refl _) _).grown hg (by simp) (fun k hk => by cases hk; exact Nat.le_refl _)
/-- The present text, as it is loaded. -/
theorem nowV_of {x : DBlock} : nowV x = match x.now with
    | some t => t.map bv ++ [Value.bool false]
    | none => z256 ++ [Value.bool true] := by
  unfold nowV DBlock.now durV
  by_cases h : x.vs = []
  · rw [if_pos h, if_pos h]
    all_goals (cases x.dur <;> rfl)
  · rw [if_neg h, if_neg h]
    cases hq : x.vs.getLast? with
    | none => exact absurd (List.getLast?_eq_none_iff.1 hq) h
    | some l => rw [List.getLastD_eq_getLast?, hq]; rfl
theorem now_ok {s : DSt} (h : s.ok) {x : DBlock} (hx : x ∈ s.bs) {t : List Nat} (ht : x.now = some t) : t.length = 256 ∧ ∀ y ∈ t, y < 256 := by
  unfold DBlock.now at ht
  split at ht
  · exact h.dur x hx t ht
  · exact h.vs x hx t (getLast_mem ht)
theorem text_row (w : World) (t : List Nat) (b : Value) (ht : t.length = 256 ∧ ∀ y ∈ t, y < 256) : Part.ok (w.alloc (.cells (t.map bv ++ [b]).toArray TD)) ⟨some ⟨w.heap.size, 0, none⟩, 256, 256, t⟩ := by
  refine ⟨ht.1, fun h => (by cases h), ht.2, Or.inr ⟨w.heap.size, 0, rfl, by simp, fun i hi => ?_⟩⟩
  have hi : i < t.length := hi
  show _ = some (Value.int .u8 (t.getD i 0 : Nat))
  rw [cell_of_row _ _ _ _ _ _ (heap_alloc_last _ _), List.getElem?_toArray, List.getElem?_append_left (by rw [List.length_map]; omega), List.getElem?_map, Nat.zero_add, List.getElem?_eq_getElem hi, List.getD_eq_getElem?_getD, List.getElem?_eq_getElem hi]
  rfl
theorem flag_cell (w : World) (l : List Value) (b : Value) (hl : l.length = 256) : (w.alloc (.cells (l ++ [b]).toArray TD)).cell? ⟨w.heap.size, 256, none⟩ = some b := by
  rw [cell_of_row _ _ _ _ _ _ (heap_alloc_last _ _), List.getElem?_toArray, List.getElem?_append_right (by omega), hl]
  rfl
theorem one_of {l : List Value} (h : ∀ v ∈ l, v.oneCell' = true) (b : Bool) : ∀ v ∈ l ++ [Value.bool b], v.oneCell' = true := fun v hv => by
  rcases List.mem_append.1 hv with h1 | h1
  · exact h v h1
  · simp at h1; rw [h1]; rfl
set_option maxRecDepth 100000 in
set_option maxHeartbeats 1000000 in
theorem read_pic (h : Pic w F D B M Dm V C s) (i : Int) : Calls Try.prog 46 #[.pointer (some ⟨D, 0, none⟩), .int .i64 i] w fun x w' => ∃ v, x = .returned (.tuple #[v, .int .i64 (readD s i).2]) ∧ Own w' w.heap.size v (readD s i).1 ∧ Below w.heap.size w w' := by
  obtain ⟨-, -, c2, -⟩ := h.cells
  have hh := has_pic h i
  unfold readD
  by_cases hi : s.has i = true
  · rw [hi] at hh
    obtain ⟨j, hj⟩ : ∃ j : Nat, i = j := ⟨i.toNat, by have := (has_lt hi).1; omega⟩
    subst hj
    have hlt : j < s.bs.length := by have := (has_lt hi).2; omega
    rw [if_pos hi]
    have hp := present_pic h j hlt
    have HP : Hid (Pic w F D B M Dm V C s) := h
    clear h
    cases hoff : s.off with
    | true =>
      rw [hoff] at c2
      go_enter Try.func46, Try.ntmps46
      go_wp2_with (go_at_call 40; refine hh.mono ?_; rintro e w' ⟨rfl, hw'⟩; obtain rfl := hw'.symm)
      go_ret2
      exact ⟨_, rfl, Own.nil _ _, Below.refl _ _⟩
    | false =>
      rw [hoff] at c2
      simp only [Bool.false_eq_true, if_false, Int.toNat_natCast]
      cases hnow : (s.at j).now with
      | none =>
        rw [nowV_of, hnow] at hp
        simp only at hp ⊢
        go_enter Try.func46, Try.ntmps46
        go_wp2_with (first
          | (go_at_call 40; refine hh.mono ?_; rintro e w' ⟨rfl, hw'⟩; obtain rfl := hw'.symm)
          | (go_at_call 61; refine hp.mono ?_; rintro e w1 ⟨rfl, b1⟩; have B1 : Hid (Below w.heap.size w w1) := b1; clear b1; have cf := flag_cell w1 z256 (.bool true) z256_len)
          | (refine store_new (w0 := w1) rfl TD _ _ rfl (z256 ++ [Value.bool true]) (by rw [List.length_append, z256_len]; exact sizeD) rfl rfl TD Try.zeroCells95 rfl (by rw [List.length_append, z256_len, zcD]; simp [z256_len]) (one_of z256_one _) ?_))
        go_ret2
        exact ⟨_, rfl, Own.nil _ _, B1.out.alloc B1.out.size _⟩
      | some t =>
        have ht := now_ok HP.out.ok (at_mem hlt) hnow
        have HT : Hid (t.length = 256 ∧ ∀ y ∈ t, y < 256) := ht
        have h256 : (t.map bv).length = 256 := by rw [List.length_map]; exact ht.1
        clear ht
        rw [nowV_of, hnow] at hp
        simp only at hp ⊢
        go_enter Try.func46, Try.ntmps46
        go_wp2_with (first
          | (go_at_call 40; refine hh.mono ?_; rintro e w' ⟨rfl, hw'⟩; obtain rfl := hw'.symm)
          | (go_at_call 61; refine hp.mono ?_; rintro e w1 ⟨rfl, b1⟩; have B1 : Hid (Below w.heap.size w w1) := b1; clear b1; have cf := flag_cell w1 (t.map bv) (.bool false) h256)
          | (refine store_new (w0 := w1) rfl TD _ _ rfl (t.map bv ++ [Value.bool false]) (by rw [List.length_append, h256]; exact sizeD) rfl rfl TD Try.zeroCells95 rfl (by rw [List.length_append, h256, zcD]; simp [z256_len]) (one_of (verV_one t) _) ?_)
          | (go_at_call 62; refine (clone_any w1.heap.size 0 256 256 t _ (text_row w1 t (.bool false) HT.out) (by omega)).mono ?_; rintro e w2 ⟨v, rfl, ho, b2⟩))
        go_ret2
        have b3 := B1.out.alloc B1.out.size (.cells (t.map bv ++ [Value.bool false]).toArray TD)
        exact ⟨v, rfl, ho.down b3.size, b3.trans (b2.mono b3.size)⟩
  · have hi2 : s.has i = false := by simpa using hi
    rw [hi2] at hh
    rw [if_neg hi]
    go_enter Try.func46, Try.ntmps46
    go_wp2_with (go_at_call 40; refine hh.mono ?_; rintro e w' ⟨rfl, hw'⟩; obtain rfl := hw'.symm)
    go_ret2
    exact ⟨_, rfl, Own.nil _ _, Below.refl _ _⟩
end Go.Proofs.Ytoopnafdpenofaa

/- operation of package disk: an operation is done, or not. -/
namespace Go.Proofs.Ytoopnafdpenofaa
open Go.RowKit
variable {w : World} {F : List Nat} {D B M : Nat} {Dm : DataW Value} {V C : Nat → Nat} {s : DSt}

theorem opD_on {s : DSt} (h : s.off = true) : opD s = (false, s) := by unfold opD; rw [if_pos h]
theorem opD_zero {s : DSt} (h : s.off = false) (h0 : s.fuse = 0) : opD s = (false, ⟨s.bs, true, -1⟩) := by unfold opD; rw [h, if_neg (by simp), if_pos h0]
theorem opD_pos {s : DSt} (h : s.off = false) (h0 : 0 < s.fuse) : opD s = (true, ⟨s.bs, false, s.fuse - 1⟩) := by unfold opD; rw [h, if_neg (by simp), if_neg (by omega), if_pos h0]
theorem opD_neg {s : DSt} (h : s.off = false) (h0 : s.fuse < 0) : opD s = (true, s) := by unfold opD; rw [h, if_neg (by simp), if_neg (by omega), if_neg (by omega)]
/-- What an operation answers, and how it leaves the world. -/
def OpPost (b : Bool) (R R' : World → Prop) (e : Ending) (w' : World) : Prop := (b = true ∧ e = .returned (.int .i64 0) ∧ R w') ∨ (b = false ∧ e = .returned (.int .i64 8) ∧ R' w')
set_option maxRecDepth 100000 in
set_option maxHeartbeats 2000000 in
theorem op_write (h : Pic w F D B M Dm V C s) (p1 p2 p3 : Value) (R : World → Prop)
    (hdo : ∀ w1, (opD s).1 = true → Pic w1 F D B M Dm V C (opD s).2 → Chg [D] w w1 → Calls Try.prog 42 #[p1, p2, p3] w1 fun e w' => e = .returned (.tuple #[]) ∧ R w') :
    Calls Try.prog 41 #[.pointer (some ⟨D, 0, none⟩), .func (.func 42) #[] #[p1, p2, p3]] w (OpPost (opD s).1 R (fun w' => Pic w' F D B M Dm V C (opD s).2 ∧ Chg [D] w w')) := by
  obtain ⟨-, -, c2, c3⟩ := h.cells
  have f2 := h.free 2
  have f3 := h.free 3
  have hf := h.ok.fuse
  have ht := h.top
  have HP : Hid (Pic w F D B M Dm V C s) := h
  have HD : Hid (∀ w1, (opD s).1 = true → Pic w1 F D B M Dm V C (opD s).2 → Chg [D] w w1 → Calls Try.prog 42 #[p1, p2, p3] w1 fun e w' => e = .returned (.tuple #[]) ∧ R w') := hdo
  clear h hdo
  cases hoff : s.off with
  | true =>
    rw [hoff] at c2
    rw [opD_on hoff]
    go_enter Try.func41, Try.ntmps41
    go_wp2
    go_ret
    exact Or.inr ⟨rfl, rfl, HP.out, Chg.refl _ _⟩
  | false =>
    rw [hoff] at c2
    rcases Int.lt_trichotomy s.fuse 0 with h0 | h0 | h0
    · have ho := opD_neg hoff h0
      have HX := HD.out w (by rw [ho]) (by rw [ho]; exact HP.out) (Chg.refl _ _)
      rw [ho]
      clear HD
      have hne : (s.fuse == 0) = false := by simp; omega
      go_enter Try.func41, Try.ntmps41
      go_wp2_with (go_at_call 42; refine HX.mono ?_; rintro e w2 ⟨rfl, hR⟩)
      go_ret
      exact Or.inl ⟨rfl, rfl, hR⟩
    · have ho := opD_zero hoff h0
      rw [h0] at c3
      rw [ho]
      clear HD
      go_enter Try.func41, Try.ntmps41
      go_wp2
      go_ret
      refine Or.inr ⟨rfl, rfl, ?_, ((Chg.refl [D] w).set (Or.inl (by simp)) _ _).set (Or.inl (by simp)) _ _⟩
      exact HP.out.set true (-1) (((Chg.refl [D] w).set (Or.inl (by simp)) _ _).set (Or.inl (by simp)) _ _) (HP.out.set23 true (-1)) (by omega) (by omega)
    · have ho := opD_pos hoff h0
      have hc : Chg [D] w (w.setCell ⟨D, 3, none⟩ (.int .i64 (s.fuse - 1))) := (Chg.refl [D] w).set (Or.inl (by simp)) _ _
      have HX := HD.out _ (by rw [ho]) (by rw [ho]; exact HP.out.set false (s.fuse - 1) hc (by rw [← hoff]; exact HP.out.set3 _) (by omega) (by omega)) hc
      rw [ho]
      clear HD
      have hne : (s.fuse == 0) = false := by simp; omega
      go_enter Try.func41, Try.ntmps41
      go_wp2_with (go_at_call 42; refine HX.mono ?_; rintro e w2 ⟨rfl, hR⟩)
      go_ret
      exact Or.inl ⟨rfl, rfl, hR⟩
set_option maxRecDepth 100000 in
set_option maxHeartbeats 2000000 in
theorem op_sync (h : Pic w F D B M Dm V C s) (p1 : Value) (R : World → Prop)
    (hdo : ∀ w1, (opD s).1 = true → Pic w1 F D B M Dm V C (opD s).2 → Chg [D] w w1 → Calls Try.prog 43 #[p1] w1 fun e w' => e = .returned (.tuple #[]) ∧ R w') :
    Calls Try.prog 41 #[.pointer (some ⟨D, 0, none⟩), .func (.func 43) #[] #[p1]] w (OpPost (opD s).1 R (fun w' => Pic w' F D B M Dm V C (opD s).2 ∧ Chg [D] w w')) := by
  obtain ⟨-, -, c2, c3⟩ := h.cells
  have f2 := h.free 2
  have f3 := h.free 3
  have hf := h.ok.fuse
  have ht := h.top
  have HP : Hid (Pic w F D B M Dm V C s) := h
  have HD : Hid (∀ w1, (opD s).1 = true → Pic w1 F D B M Dm V C (opD s).2 → Chg [D] w w1 → Calls Try.prog 43 #[p1] w1 fun e w' => e = .returned (.tuple #[]) ∧ R w') := hdo
  clear h hdo
  cases hoff : s.off with
  | true =>
    rw [hoff] at c2
    rw [opD_on hoff]
    go_enter Try.func41, Try.ntmps41
    go_wp2
    go_ret
    exact Or.inr ⟨rfl, rfl, HP.out, Chg.refl _ _⟩
  | false =>
    rw [hoff] at c2
    rcases Int.lt_trichotomy s.fuse 0 with h0 | h0 | h0
    · have ho := opD_neg hoff h0
      have HX := HD.out w (by rw [ho]) (by rw [ho]; exact HP.out) (Chg.refl _ _)
      rw [ho]
      clear HD
      have hne : (s.fuse == 0) = false := by simp; omega
      go_enter Try.func41, Try.ntmps41
      go_wp2_with (go_at_call 43; refine HX.mono ?_; rintro e w2 ⟨rfl, hR⟩)
      go_ret
      exact Or.inl ⟨rfl, rfl, hR⟩
    · have ho := opD_zero hoff h0
      rw [h0] at c3
      rw [ho]
      clear HD
      go_enter Try.func41, Try.ntmps41
      go_wp2
      go_ret
      refine Or.inr ⟨rfl, rfl, ?_, ((Chg.refl [D] w).set (Or.inl (by simp)) _ _).set (Or.inl (by simp)) _ _⟩
      exact HP.out.set true (-1) (((Chg.refl [D] w).set (Or.inl (by simp)) _ _).set (Or.inl (by simp)) _ _) (HP.out.set23 true (-1)) (by omega) (by omega)
    · have ho := opD_pos hoff h0
      have hc : Chg [D] w (w.setCell ⟨D, 3, none⟩ (.int .i64 (s.fuse - 1))) := (Chg.refl [D] w).set (Or.inl (by simp)) _ _
      have HX := HD.out _ (by rw [ho]) (by rw [ho]; exact HP.out.set false (s.fuse - 1) hc (by rw [← hoff]; exact HP.out.set3 _) (by omega) (by omega)) hc
      rw [ho]
      clear HD
      have hne : (s.fuse == 0) = false := by simp; omega
      go_enter Try.func41, Try.ntmps41
      go_wp2_with (go_at_call 43; refine HX.mono ?_; rintro e w2 ⟨rfl, hR⟩)
      go_ret
      exact Or.inl ⟨rfl, rfl, hR⟩
end Go.Proofs.Ytoopnafdpenofaa

/- 'append(versions, text)': a version more, and in which block; the disk in memory behind it. No function of the program is named here. -/
namespace Go.Proofs.Ytoopnafdpenofaa
open Go.RowKit

theorem run_app_ver {w : World} {n : Nat} {v : Value} {xs : List Value} (hown : w.ownsRow 0 TB 256 v n xs) (ty : TypeId) (g1 : Nat) (l : List Value) (hl : l.length = 256) (hc : w.heap[g1]? = some (.cells l.toArray TB (0, 0))) (h1 : ∀ u ∈ l, u.oneCell' = true) (hn : n ≤ 1073741824) :
    ∃ g' c' w', (Builtin.append_ #[78, 78] ty #[v, .slice (some ⟨g1, 0, none⟩) 1 1]).run Try.prog w = .ok (.slice (some ⟨g', 0, none⟩) (n + 1) c') w' ∧ (v.ownBlock = some g' ∨ g' = w.heap.size) ∧
      w'.ownsRow 0 TB 256 (.slice (some ⟨g', 0, none⟩) (n + 1) c') (n + 1) (xs ++ l) ∧ w.grownBy w' v.ownBlock := by
  obtain ⟨i0, hi, hz0, hz1, hz2⟩ := info_parts Try.infoB
  have hnews : ∀ j u, l[j]? = some u → w.cell? ((⟨g1, 0, none⟩ : Addr).add j) = some u := fun j u hu => by
    rw [addr_add, cell_of_row _ _ _ _ _ _ hc, List.getElem?_toArray, Nat.zero_add, hu]
  have hzc : (Value.agg z256.toArray).cells.size = 256 := by simp [Value.cells, z256_len]
  obtain ⟨v', w', hr, h2, h3, -⟩ := run_append_own (P := Try.prog) w 0 78 ty TB i0 (.agg z256.toArray) 256 256 Try.underlying78 hi hz0 hz1 hz2 hzc (by decide) v n xs hown ⟨g1, 0, none⟩ 1 1 l (by omega) hnews h1 (by unfold maxLen; omega) (by omega) (Nat.zero_le _)
  have hx : ∃ g' c', v' = .slice (some ⟨g', 0, none⟩) (n + 1) c' ∧ (v.ownBlock = some g' ∨ g' = w.heap.size) := by
    rcases hown.2 with ⟨e, e0⟩ | ⟨g0, cap0, cur, e, hbg, hg, hnc, hcm, hcs, htake⟩
    · subst e
      subst e0
      have hq := run_append_nil (P := Try.prog) w 78 ty TB i0 (.agg z256.toArray) Try.underlying78 hi hz0 ⟨g1, 0, none⟩ 1 1 l (by rw [hz1]; omega) hnews (by omega) (by omega) (by rw [hz2]; omega)
      rw [hr] at hq
      injection hq with hq1 hq2
      exact ⟨w.heap.size, _, by rw [hq1], Or.inr rfl⟩
    · subst e
      by_cases hroom : n + 1 ≤ cap0
      · have hq := run_append_room (P := Try.prog) w 78 ty TB i0 Try.underlying78 hi g0 n cap0 cur hg ⟨g1, 0, none⟩ 1 1 l (by rw [hz1]; omega) hnews h1 hroom (by rw [hz1, hcs]; omega)
        rw [hr] at hq
        injection hq with hq1 hq2
        exact ⟨g0, cap0, hq1, Or.inl rfl⟩
      · have holds : ∀ j u, xs[j]? = some u → w.cell? ((⟨g0, 0, none⟩ : Addr).add j) = some u := hown.cells (g := g0) rfl
        have hq := run_append_grow (P := Try.prog) w 78 ty TB i0 (.agg z256.toArray) Try.underlying78 hi hz0 ⟨g0, 0, none⟩ n cap0 xs (by rw [hz1]; exact hown.1) holds ⟨g1, 0, none⟩ 1 1 l (by rw [hz1]; omega) hnews (by omega) (by omega) (growslice_fits (by omega) (by rw [hz2]; omega))
        rw [hr] at hq
        injection hq with hq1 hq2
        exact ⟨w.heap.size, _, hq1, Or.inr rfl⟩
  obtain ⟨g', c', rfl, hg'⟩ := hx
  exact ⟨g', c', w', hr, hg', h2, h3⟩

variable {w w' : World} {F : List Nat} {D B M : Nat} {Dm : DataW Value} {V C : Nat → Nat} {s : DSt}
def upd (f : Nat → Nat) (i g : Nat) : Nat → Nat := fun j => if j = i then g else f j
theorem upd_same (f : Nat → Nat) (i g : Nat) : upd f i g i = g := if_pos rfl
theorem upd_other (f : Nat → Nat) {i j : Nat} (g : Nat) (h : j ≠ i) : upd f i g j = f j := if_neg h
/-- A version more of block i: g is its old block, or a new one. -/
theorem Pic.add (h : Pic w F D B M Dm V C s) {i : Nat} (hi : i < s.bs.length) (l : List Nat) (hl : l.length = 256 ∧ ∀ y ∈ l, y < 256) (g cap : Nat) (hs : w.heap.size ≤ w'.heap.size)
    (hk : ∀ k, k < w.heap.size → k ≠ M → ((s.at i).vs ≠ [] → k ≠ V i) → w'.heap[k]? = w.heap[k]?)
    (hg : ((s.at i).vs ≠ [] ∧ g = V i) ∨ w.heap.size ≤ g) (hgl : g < w'.heap.size)
    (hrow : w'.ownsRow 0 TB 256 (.slice (some ⟨g, 0, none⟩) ((s.at i).vs.length + 1) cap) ((s.at i).vs.length + 1) ((s.at i).vs.flatMap verV ++ verV l))
    {nn : Nat} (hM : w'.ownsMap Try.prog 3 RV M nn (Dm.put (kI i) (.held (.slice (some ⟨g, 0, none⟩) ((s.at i).vs.length + 1) cap)))) :
    Pic w' (g :: F) D B M (Dm.put (kI i) (.held (.slice (some ⟨g, 0, none⟩) ((s.at i).vs.length + 1) cap))) (upd V i g) (upd C i cap) (s.setB i ((s.at i).add l)) := by
  have hn := h.n2
  have hat : ∀ j, (s.setB i ((s.at i).add l)).at j = if j = i then (s.at i).add l else s.at j := fun j => setB_at _ _ _ _ hi
  have hkeep : ∀ k ∈ F, k ≠ M → ((s.at i).vs ≠ [] → k ≠ V i) → w'.heap[k]? = w.heap[k]? := fun k hkF => hk k (h.lt k hkF)
  have hnew : ∀ j, (s.setB i ((s.at i).add l)).at j = s.at j ∨ j = i := fun j => by
    rw [hat]; split
    · rename_i e; exact Or.inr e
    · exact Or.inl rfl
  have hother : ∀ j, j ≠ i → (s.setB i ((s.at i).add l)).at j = s.at j := fun j e => by rw [hat, if_neg e]
  have hsame : (s.setB i ((s.at i).add l)).at i = (s.at i).add l := by rw [hat, if_pos rfl]
  have hne : ∀ j, j < s.bs.length → j ≠ i → (s.at j).vs ≠ [] → V j ≠ g := fun j hj e hv e2 => by
    rcases hg with ⟨hv2, e3⟩ | h3
    · exact h.apart j i hj hi e hv hv2 (by rw [e2, e3])
    · have := h.lt _ (h.mV j hj hv); omega
  refine ⟨by rw [setB_len]; exact h.n1, by rw [setB_len]; exact h.n2, setB_ok h.ok (h.ok.dur (s.at i) (at_mem hi)) ?_, h.top, ?_, ?_, ownsMap_tight hM, ?_, ?_, ?_, ?_, by simp [h.mD], by simp [h.mB], by simp [h.mM], ?_, ?_⟩
  · intro t ht
    rcases List.mem_append.1 ht with ht | ht
    · exact h.ok.vs (s.at i) (at_mem hi) t ht
    · simp at ht; rw [ht]; exact hl
  · rw [setB_len, hkeep D h.mD h.neM.1 (fun hv => (h.neV hi hv).1.symm)]; exact h.hD
  · rw [hkeep B h.mB h.neM.2 (fun hv => (h.neV hi hv).2.1.symm), h.hB]
    unfold DSt.setB
    rw [flat_set durV 257 s.bs h.durs i _ hi]
    congr 3
    have e : durV ((s.at i).add l) = durV (s.at i) := rfl
    have e2 := flat_set durV 257 s.bs h.durs i (s.at i) hi
    rw [e, ← e2]
    congr 1
    unfold DSt.at
    rw [List.getD_eq_getElem?_getD, List.getElem?_eq_getElem hi]
    simp
  · intro kl
    by_cases e : kl = kI i
    · subst e
      rw [Maps.has_put_same h.hM.isMap (isKey_i i)]
      refine ⟨fun _ => ⟨i, by rw [setB_len]; exact hi, rfl, by rw [hsame]; simp [DBlock.add]⟩, fun _ => rfl⟩
    · rw [Maps.has_put_other e, h.has kl, setB_len]
      constructor
      · rintro ⟨j, h1, h2, h3⟩
        exact ⟨j, h1, h2, by rw [hother j (fun e2 => e (by rw [h2, e2]))]; exact h3⟩
      · rintro ⟨j, h1, h2, h3⟩
        exact ⟨j, h1, h2, by rw [hother j (fun e2 => e (by rw [h2, e2]))] at h3; exact h3⟩
  · intro j hj hv z
    rw [setB_len] at hj
    unfold verS
    by_cases e : j = i
    · subst e
      rw [Maps.atKey_put_same h.hM.isMap (isKey_i j), hsame, upd_same, upd_same]
      simp [DBlock.add]
    · rw [hother j e] at hv ⊢
      rw [Maps.atKey_put_other (fun e2 => e (kI_inj e2)), h.look j hj hv, upd_other _ _ e, upd_other _ _ e]
      rfl
  · intro j hj hv
    rw [setB_len] at hj
    unfold verS
    by_cases e : j = i
    · subst e
      rw [hsame, upd_same, upd_same]
      simpa [DBlock.add] using hrow
    · rw [hother j e] at hv ⊢
      rw [upd_other _ _ e, upd_other _ _ e]
      exact ownsRow_kept (h.row j hj hv) (hkeep _ (h.mV j hj hv) (h.neV hj hv).2.2 (fun hv2 => h.apart j i hj hi e hv hv2))
  · intro a b ha hb2 hab hva hvb
    rw [setB_len] at ha hb2
    by_cases e : a = i
    · subst e
      have e2 : b ≠ a := fun e2 => hab e2.symm
      rw [hother b e2] at hvb
      rw [upd_same, upd_other _ _ e2]
      exact (hne b hb2 e2 hvb).symm
    · rw [hother a e] at hva
      by_cases e2 : b = i
      · subst e2
        rw [upd_same, upd_other _ _ e]
        exact hne a ha e hva
      · rw [hother b e2] at hvb
        rw [upd_other _ _ e, upd_other _ _ e2]
        exact h.apart a b ha hb2 hab hva hvb
  · intro j hj hv
    rw [setB_len] at hj
    by_cases e : j = i
    · subst e; rw [upd_same]; simp
    · rw [hother j e] at hv
      rw [upd_other _ _ e]
      exact List.mem_cons_of_mem _ (h.mV j hj hv)
  · intro k hk2
    rcases List.mem_cons.1 hk2 with rfl | hk2
    · exact hgl
    · exact Nat.lt_of_lt_of_le (h.lt k hk2) hs
/-- The slice that is looked up, as an owned row. -/
theorem Pic.rowN (h : Pic w F D B M Dm V C s) {i : Nat} (hi : i < s.bs.length) : w.ownsRow 0 TB 256 (verN V C s i) (s.at i).vs.length ((s.at i).vs.flatMap verV) := by
  unfold verN
  by_cases h0 : (s.at i).vs = []
  · rw [if_pos h0, h0]
    exact World.ownsRow_nil w 0 TB 256
  · rw [if_neg h0]
    exact h.row i hi h0
end Go.Proofs.Ytoopnafdpenofaa

/- What Write hands on, piece by piece: the steps of a region that draws its order, the world behind append and the map's update. -/
namespace Go.Proofs.Ytoopnafdpenofaa
open Go.RowKit
variable {w w' : World} {F : List Nat} {D B M : Nat} {Dm : DataW Value} {V C : Nat → Nat} {s : DSt}

/-- 'copy(text[:], b)', as one step of a region that draws its order. -/
theorem step_copy {ops : Array Oper} {o : Oper} {a : Act} {K : Act → World → Prop} {Q : Exit → Act → World → Prop} {E : Prop} (hgd : o.guard = none) (d x : Operand)
    (ho : o.op = .call { callee := .builtin .copy, args := #[d, x], argTypes := #[34, 34] }) (g cap : Nat) (ad : Option Addr) (l : List Nat)
    (hd : a.eval d = .slice (some ⟨g, 0, none⟩) 256 256) (hs : a.eval x = .slice ad 256 cap) (hp : Part.ok w ⟨ad, 256, cap, l⟩) (cur : Array Value) (t : TypeId) (hg : w.heap[g]? = some (.cells cur t (0, 0))) (hsz : cur.size = 256)
    (N : Nat) (w0 : World) (hb : Below N w0 w) (hN : N ≤ g)
    (h : ∀ w2, w2.heap[g]? = some (.cells (verV l).toArray t (0, 0)) → Below N w0 w2 → K (a.put o.dst (.int .i64 256)) w2) :
    if Region.wanted o (yielded ops a.tmps) = true then Oper.wp Try.prog o a w K Q else E := by
  have hw : Region.wanted o (yielded ops a.tmps) = true := by simp [Region.wanted, hgd]
  rw [if_pos hw]
  have hl : l.length = 256 := hp.1
  cases ad with
  | none => have := hp.2.1 rfl; simp at this
  | some ad =>
    obtain ⟨i0, hi, hz0, hz1, hz2⟩ := info_parts Try.info5
    have hrun := run_copy_row (P := Try.prog) w 34 34 o.type 5 g 0 256 256 ad 256 cap cur t (verV l) Try.underlying34 (by rw [hi]; simp [hz1]) hg (by unfold verV; rw [List.length_map, hl]; rfl) (row_cells hp.2.2 ad rfl) (by unfold verV; rw [List.length_map, hl]; omega) (verV_one l)
    have e : (cur.toList.take 0 ++ verV l ++ cur.toList.drop (0 + (verV l).length)) = verV l := by
      rw [List.drop_of_length_le (by unfold verV; simp; omega)]; simp
    have e2 : (verV l).length = 256 := by unfold verV; rw [List.length_map, hl]
    rw [e, e2] at hrun
    unfold Oper.wp
    simp [execOp, ho, resolve, invoke, builtin, hd, hs, hrun, Result.andThen]
    exact h _ (setRow_heap w g cur _ t _ hg) ⟨hb.os, hb.tape, hb.output, by rw [setRow_size]; exact hb.size, fun k hk => by rw [setRow_other w g k _ (by omega)]; exact hb.block k hk⟩
theorem takeH {ops : Array Oper} {Q : Exit → Act → World → Prop} {S : World → Prop} {fuel : Nat} {listed : Array Bool} {a : Act} {md : Region.Mode} (i : Nat) (v : Value) (a' : Act) {oi : Oper} (hi : ops[i]? = some oi) (ha : a.put oi.dst v = a') (hs : Region.noSelect ops = true) (hf : Region.free md ops listed i = true) (hr : (Region.ready md ops listed).contains i = true)
    (hQ : ∀ c a w, Q (.panic c) (a.put oi.dst v) w → Q (.panic c) a w) (hg : oi.guard = none) (hy : ∀ w, S w → (execOp a.eval oi).run Try.prog w = .ok (.value v) w) (hS : S w)
    (h : wpAnyH Try.prog md ops Q S fuel (listed.setIfInBounds i true) a' w) : wpAnyH Try.prog md ops Q S (fuel + 1) listed a w := by
  subst ha
  exact wpAnyH_take hi hs hf hr hQ (Or.inl ⟨by simp [Region.wanted, hg], hy⟩) hS h
theorem wp_value {o : Oper} {a : Act} {K : Act → World → Prop} {Q : Exit → Act → World → Prop} {v : Value} (h : (execOp a.eval o).run Try.prog w = .ok (.value v) w') (hK : K (a.put o.dst v) w') : Oper.wp Try.prog o a w K Q := by
  unfold Oper.wp
  rw [h]
  exact hK
/-- One of those that may come up is carried out. -/
theorem stepH {ops : Array Oper} {Q : Exit → Act → World → Prop} {S : World → Prop} {fuel : Nat} {listed : Array Bool} {a : Act} {md : Region.Mode} {rs : List Nat} {i : Nat} {o : Oper} (v : Value) (w' : World) (a' : Act) (ho : ops[i]? = some o) (ha : a.put o.dst v = a') (hg : o.guard = none) (hr : (execOp a.eval o).run Try.prog w = .ok (.value v) w') (hS : S w')
    (h : wpAnyH Try.prog md ops Q S fuel (listed.setIfInBounds i true) a' w') (hs : AllReadyH Try.prog md ops Q S fuel listed a w rs) : AllReadyH Try.prog md ops Q S fuel listed a w (i :: rs) := by
  subst ha
  exact AllReadyH.cons ho (fun K' hK => by
    rw [if_pos (by simp [Region.wanted, hg])]
    exact wp_value hr (hK.out _ _ hS (fun _ => h))) hs
theorem stepSkipH {ops : Array Oper} {Q : Exit → Act → World → Prop} {S : World → Prop} {fuel : Nat} {listed : Array Bool} {a : Act} {md : Region.Mode} {rs : List Nat} {i : Nat} {o : Oper} (w' : World) (a' : Act) (ho : ops[i]? = some o) (ha : a.put o.dst undef = a') (hg : o.guard = none) (hr : (execOp a.eval o).run Try.prog w = .ok .skip w') (hS : S w')
    (h : wpAnyH Try.prog md ops Q S fuel (listed.setIfInBounds i true) a' w') (hs : AllReadyH Try.prog md ops Q S fuel listed a w rs) : AllReadyH Try.prog md ops Q S fuel listed a w (i :: rs) := by
  subst ha
  exact AllReadyH.cons ho (fun K' hK => by
    rw [if_pos (by simp [Region.wanted, hg])]
    unfold Oper.wp
    rw [hr]
    exact hK.out _ _ hS (fun _ => h)) hs
theorem exec_lookup {o : Oper} {ev : Operand → Value} (x y : Operand) (ho : o.op = .lookup 37 x y false) (u k v : Value) (hx : ev x = u) (hy : ev y = k) (hr : (Instr.lookup 37 u k false).run Try.prog w = .ok v w) : (execOp ev o).run Try.prog w = .ok (.value v) w := by
  simp [execOp, ho, hx, hy, hr, Result.andThen]
theorem exec_buildSlice {o : Oper} {ev : Operand → Value} (x : Operand) (ho : o.op = .buildSlice 78 1 #[(0, x)]) (l : List Value) (hl : l.length = 256) (hx : ev x = .agg l.toArray) : (execOp ev o).run Try.prog w = .ok (.value (.slice (some ⟨w.heap.size, 0, none⟩) 1 1)) (w.alloc (.cells l.toArray TB)) := by
  have h := run_buildSliceB w l hl
  simp [execOp, ho, hx, h, Result.andThen]
theorem exec_append {o : Oper} {ev : Operand → Value} (x y : Operand) (ho : o.op = .call { callee := .builtin .append, args := #[x, y], argTypes := #[78, 78] }) (u v r : Value) (hx : ev x = u) (hy : ev y = v) (hr : (Builtin.append_ #[78, 78] o.type #[u, v]).run Try.prog w = .ok r w') : (execOp ev o).run Try.prog w = .ok (.value r) w' := by
  simp [execOp, ho, resolve, invoke, builtin, hx, hy, hr, Result.andThen]
theorem exec_update {o : Oper} {ev : Operand → Value} (x y z : Operand) (ho : o.op = .mapUpdate 37 x y z) (m k v : Value) (hx : ev x = m) (hy : ev y = k) (hz : ev z = v) (hr : (Instr.mapUpdate 37 m k v).run Try.prog w = .ok () w') : (execOp ev o).run Try.prog w = .ok .skip w' := by
  simp [execOp, ho, hx, hy, hz, hr, Result.andThen]
theorem exec_load_wide {o : Oper} {ev : Operand → Value} (ty : TypeId) (x : Operand) (ho : o.op = .load ty x) (d : TypeDesc) (hu : Try.prog.underlying ty = some d) (hd : isWide d = true) (l : List Value) (hi : (Try.prog.info? ty).map (·.size) = some l.length) (g off : Nat) (hx : ev x = .pointer (some ⟨g, off, none⟩)) (hc : ∀ j, j < l.length → w.cell? ⟨g, off + j, none⟩ = l[j]?) :
    (execOp ev o).run Try.prog w = .ok (.value (.agg l.toArray)) w := by
  unfold execOp
  simp only [ho, hx, Instr.loadAt, Instr.sureAddr, Sem.run_bind, Sem.run_pure, Result.andThen_ok, run_loadVar_cells w ty d hu hd l hi g off hc]
/-- What a call does with a disk: the blocks that it may change are its own ones; those that it has then are of those, or new. -/
structure Moved (Dk : World → List Nat → Nat → DSt → Prop) (F : List Nat) (D : Nat) (s : DSt) (w w' : World) : Prop where
  disk : ∃ F', Dk w' F' D s ∧ ∀ g ∈ F', g ∈ F ∨ w.heap.size ≤ g
  chg : Chg F w w'
theorem ownBlock_verN {i k : Nat} (h : (verN V C s i).ownBlock = some k) : (s.at i).vs ≠ [] ∧ k = V i := by
  unfold verN at h
  split at h
  · cases h
  · rename_i hv
    unfold verS at h
    simp [Value.ownBlock] at h
    exact ⟨hv, h.symm⟩
theorem write_key (h : Pic w F D B M Dm V C s) {i : Nat} (hi : i < s.bs.length) (l : List Nat) (hl : l.length = 256 ∧ ∀ y ∈ l, y < 256) {w2 : World} (b2 : Below w.heap.size w w2) (hfew : (s.at i).vs.length ≤ 1073741824) :
    ∃ g c w4 w5, (Builtin.append_ #[78, 78] 78 #[verN V C s i, .slice (some ⟨w2.drew.heap.size, 0, none⟩) 1 1]).run Try.prog (w2.drew.alloc (.cells (verV l).toArray TB)) = .ok (.slice (some ⟨g, 0, none⟩) ((s.at i).vs.length + 1) c) w4 ∧
      (Instr.mapUpdate 37 (.map (some M)) (.int .i64 (i : Int)) (.slice (some ⟨g, 0, none⟩) ((s.at i).vs.length + 1) c)).run Try.prog w4 = .ok () w5 ∧
      Moved Dk F D (s.setB i ((s.at i).add l)) w w5 ∧ (∀ k, k < w2.heap.size → k ∉ F → w4.heap[k]? = w2.heap[k]?) ∧ (∀ k, k < w2.heap.size → k ≠ M → k ∉ F ∨ k = D → w5.heap[k]? = w2.heap[k]?) ∧ w4.heap[D]? = w2.heap[D]? := by
  have h256 : (verV l).length = 256 := by unfold verV; rw [List.length_map]; exact hl.1
  have h2 := h.below b2
  have b23 : Below w2.heap.size w2 (w2.drew.alloc (.cells (verV l).toArray TB)) := ((Below.refl w2.heap.size w2).drew).alloc (Nat.le_refl _) _
  have h3 := h2.below b23
  have hn := h.n2
  obtain ⟨g, c, w4, ha, hg, hrow, hgr⟩ := run_app_ver (h3.rowN hi) 78 w2.drew.heap.size (verV l) h256 (heap_alloc_last _ _) (verV_one l) hfew
  have hsz3 : (w2.drew.alloc (.cells (verV l).toArray TB)).heap.size = w2.heap.size + 1 := by simp
  have hM4 : w4.ownsMap Try.prog 3 RV M (Maps.size Dm) Dm := ownsMap_kept h3.hM (hgr.block M (h3.lt M h3.mM) (fun e => by have := ownBlock_verN e.symm; exact (h.neV hi this.1).2.2 this.2.symm))
  have hlt : Maps.size Dm < maxLen := by
    have := h.size
    have := dirtyBs_le s.bs
    unfold dirtyD at *
    unfold maxLen
    omega
  obtain ⟨w5, hu, hM5, hmt⟩ := hM4.store (t := 37) (e := 78) keyI Try.underlying37 hlt (keyOf_i (i := i) (by omega)) (val := .slice (some ⟨g, 0, none⟩) ((s.at i).vs.length + 1) c) (d := .held (.slice (some ⟨g, 0, none⟩) ((s.at i).vs.length + 1) c)) (ps := []) rfl
  have hg5 := hmt.grown
  have hs25 : w2.heap.size ≤ w5.heap.size := by have := hgr.size; have := hg5.size; omega
  have hown : ∀ k, some k = (verN V C s i).ownBlock → k ∈ F := fun k e => by have := ownBlock_verN e.symm; rw [this.2]; exact h.mV i hi this.1
  have hk4 : ∀ k, k < w2.heap.size → some k ≠ (verN V C s i).ownBlock → w4.heap[k]? = w2.heap[k]? := fun k hk hne => (hgr.block k (by omega) hne).trans (b23.block k hk)
  have hk5 : ∀ k, k < w2.heap.size → k ≠ M → some k ≠ (verN V C s i).ownBlock → w5.heap[k]? = w2.heap[k]? := fun k hk hne hne2 => (hg5.block k (by have := hgr.size; omega) (fun e => hne (by cases e; rfl))).trans (hk4 k hk hne2)
  have hD : some D ≠ (verN V C s i).ownBlock := fun e => by have := ownBlock_verN e.symm; exact (h.neV hi this.1).1 this.2.symm
  have hsz := b2.size
  refine ⟨g, c, w4, w5, ha, hu, ⟨⟨g :: F, ⟨B, M, _, _, _, h2.add (nn := Maps.size Dm + 1) hi l hl g c hs25 ?_ ?_ ?_ ?_ ?_⟩, ?_⟩, ?_⟩, ?_, ?_, ?_⟩
  · intro k hk hne hne2
    exact hk5 k hk hne (fun e => by have := ownBlock_verN e.symm; exact hne2 this.1 this.2)
  · rcases hg with hg | hg
    · exact Or.inl (ownBlock_verN hg)
    · exact Or.inr (by omega)
  · rcases hrow.2 with ⟨e, _⟩ | ⟨g', cap', cur, e, _, r2, _⟩
    · cases e
    · cases e
      have := (Array.getElem?_eq_some_iff.1 r2).1
      have := hg5.size
      omega
  · refine ownsRow_kept hrow (hg5.block g ?_ (fun e => ?_))
    · rcases hrow.2 with ⟨e, _⟩ | ⟨g', cap', cur, e, _, r2, _⟩
      · cases e
      · cases e
        exact (Array.getElem?_eq_some_iff.1 r2).1
    · cases e
      rcases hrow.2 with ⟨e, _⟩ | ⟨g', cap', cur, e, _, r2, _⟩
      · cases e
      · cases e
        obtain ⟨es, clock, hb, _⟩ := hM4
        rw [hb] at r2
        cases r2
  · exact hM5
  · intro k hk
    rcases List.mem_cons.1 hk with rfl | hk
    · rcases hg with hg | hg
      · exact Or.inl (hown k hg.symm)
      · exact Or.inr (by omega)
    · exact Or.inl hk
  · refine ⟨hg5.os.trans (hgr.os.trans (b23.os.trans b2.os)), hg5.tape.trans (hgr.tape.trans (b23.tape.trans b2.tape)), hg5.output.trans (hgr.output.trans (b23.output.trans b2.output)), by omega, fun k hk hn2 => ?_⟩
    exact (hk5 k (by omega) (fun e => hn2 (by rw [e]; exact h.mM)) (fun e => hn2 (hown k e))).trans (b2.block k hk)
  · exact fun k hk hn2 => hk4 k hk (fun e => hn2 (hown k e))
  · rintro k hk hne (hn2 | rfl)
    · exact hk5 k hk hne (fun e => hn2 (hown k e))
    · exact hk5 k hk hne hD
  · exact hk4 D (by have := h2.ltD; omega) hD
end Go.Proofs.Ytoopnafdpenofaa

/- A store in memory: its struct, its disk, its two maps, its data. No function of the program is named here. -/
namespace Go.Proofs.Ytoopnafdpenofaa
open Go.RowKit

abbrev TS : TypeId := 43
abbrev TSl : TypeId := 55
/-- The key of a slot. -/
def kS (l p : Nat) : Lit := .string (keyBytes [.int .i64 (l : Int), .int .i64 (p : Int)])
def slotV (l p : Nat) : Value := .agg #[.int .i64 (l : Int), .int .i64 (p : Int)]
def logV (x : LSt) : Value := .agg #[.int .i64 (x.tail : Int), .int .i64 (x.trim : Int), .bool x.sealed]
def storeV (D X Y num fin : Nat) (fallen : Bool) : Array Value := #[.pointer (some ⟨D, 0, none⟩), .map (some X), .map (some Y), .int .i64 (num : Int), .int .i64 (fin : Int), .bool fallen]
theorem laidOut : laidOutB Try.prog = true := by kernel_rfl
theorem rowSl : TSl < Try.prog.types.size := of_decide_eq_true (by kernel_rfl)
set_option maxRecDepth 100000 in
theorem wideSl : (match Try.prog.underlying TSl with | some (.array _ _) | some (.struct _) => true | _ => false) = true := by rw [Try.underlying55]
set_option maxRecDepth 100000 in
theorem keySl : Maps.Keyed Try.prog TSl := Maps.Keyed.of_law (deep_law_laid laidOut (m := 2) (by omega) rowSl (by kernel_rfl) wideSl)
theorem keyTypeSl : Try.prog.keyType TSl = true := by kernel_rfl
theorem cellsInt : Try.prog.cellsOf 3 = 1 := by kernel_rfl
theorem cellsSl : Try.prog.cellsOf TSl = 2 := by kernel_rfl
theorem wf64 {i : Nat} (hi : i < 9223372036854775808) : (Lit.int .i64 (i : Int)).wf = true := by
  have h1 : IntKind.i64.min = -9223372036854775808 := rfl
  have h2 : IntKind.i64.max = 9223372036854775807 := rfl
  simp [Lit.wf, h1, h2]; omega
theorem keyOf_s {l p : Nat} (hl : l < 9223372036854775808) (hp : p < 9223372036854775808) : keyOf Try.prog TSl (slotV l p) = some (kS l p) := by
  have h1 := wf64 hl
  have h2 := wf64 hp
  obtain ⟨m, hm⟩ : ∃ m, Try.prog.types.size = m + 1 := ⟨_, (by kernel_rfl : Try.prog.types.size = (Try.prog.types.size - 1) + 1)⟩
  unfold keyOf slotV
  simp only [Try.underlying55]
  rw [if_pos (by simp [keyTypeSl, Value.formed, Try.underlying55, cellsSl]), hm]
  unfold Program.keyLits
  simp only [Try.underlying55, Value.cells]
  simp [cellsSl, Program.keyLits, Try.underlying3, h1, h2, kS, cellsInt]
theorem kS_inj {l p l' p' : Nat} (hl : l < 9223372036854775808) (hp : p < 9223372036854775808) (hl' : l' < 9223372036854775808) (hp' : p' < 9223372036854775808) (h : kS l p = kS l' p') : l = l' ∧ p = p' := by
  have h1 := keySl.inj (keyOf_s hl hp) (h ▸ keyOf_s hl' hp')
  simp only [slotV, Value.agg.injEq, Array.mk.injEq, List.cons.injEq, Value.int.injEq, true_and, and_true] at h1
  omega
/-- What holds of a store's state. -/
structure SSt.ok (s : SSt) : Prop where
  slots : ∀ l p d, s.slots l p = some d → l < 281474976710656 ∧ p < 4096 ∧ d.length ≤ 65536
  logs : ∀ i x, s.logs i = some x → i < 281474976710656 ∧ x.tail ≤ 4096 ∧ x.trim ≤ 4096
  num : s.num ≤ s.fin
  fin : s.fin ≤ s.d.bs.length
structure SPic (w : World) (FD G : List Nat) (S D X Y : Nat) (fx fy : Lit → Option Value) (A : Nat → Nat → Value) (s : SSt) : Prop where
  ok : s.ok
  disk : Dk w FD D s.d
  hS : w.heap[S]? = some (.cells (storeV D X Y s.num s.fin s.fallen) TS (0, 0))
  hX : MapF w TSl X s.num fx
  hY : MapF w 3 Y s.num fy
  getX : ∀ l p, l < 281474976710656 → p < 4096 → fx (kS l p) = (s.slots l p).map fun _ => A l p
  dat : ∀ l p d, s.slots l p = some d → ∃ ad cap, A l p = .slice ad d.length cap ∧ Part.ok w ⟨ad, d.length, cap, d⟩ ∧ ∀ b off, ad = some ⟨b, off, none⟩ → d ≠ [] → b ∈ G
  getY : ∀ i : Nat, fy (kI i) = (s.logs i).map logV
  supY : ∀ kl v, fy kl = some v → ∃ i : Nat, i < 281474976710656 ∧ kl = kI i
  mS : S ∈ G
  mX : X ∈ G
  mY : Y ∈ G
  ne : X ≠ Y
  apart : ∀ g ∈ G, g ∉ FD
  lt : ∀ g ∈ G, g < w.heap.size
variable {w w' : World} {FD G : List Nat} {S D X Y : Nat} {fx fy : Lit → Option Value} {A : Nat → Nat → Value} {s : SSt}
theorem SPic.keep (h : SPic w FD G S D X Y fx fy A s) (hk : ∀ g, g ∈ FD ∨ g ∈ G → w'.heap[g]? = w.heap[g]?) (hs : w.heap.size ≤ w'.heap.size) : SPic w' FD G S D X Y fx fy A s :=
  ⟨h.ok, h.disk.keep (fun g hg => hk g (Or.inl hg)) hs, (hk S (Or.inr h.mS)).trans h.hS, h.hX.keep (hk X (Or.inr h.mX)), h.hY.keep (hk Y (Or.inr h.mY)), h.getX, fun l p d hd => by
    obtain ⟨ad, cap, e, hp, hg⟩ := h.dat l p d hd
    refine ⟨ad, cap, e, ⟨hp.1, hp.2.1, hp.2.2.1, ?_⟩, hg⟩
    rcases hp.2.2.2 with h0 | ⟨b, off, e2, hb, hc⟩
    · exact Or.inl h0
    · by_cases h0 : d = []
      · exact Or.inl h0
      · refine Or.inr ⟨b, off, e2, Nat.lt_of_lt_of_le hb hs, fun i hi => ?_⟩
        have h1 := hk b (Or.inr (hg b off e2 h0))
        simp only [World.cell?, h1]
        exact hc i hi, h.getY, h.supY, h.mS, h.mX, h.mY, h.ne, h.apart, fun g hg => Nat.lt_of_lt_of_le (h.lt g hg) hs⟩
theorem SPic.below (h : SPic w FD G S D X Y fx fy A s) (hb : Below w.heap.size w w') : SPic w' FD G S D X Y fx fy A s :=
  h.keep (fun g hg => hb.block g (hg.elim (h.disk.lt g) (h.lt g))) hb.size
/-- Behind a call on the disk. -/
theorem SPic.disked (h : SPic w FD G S D X Y fx fy A s) {d : DSt} (hm : Moved Dk FD D d w w') (hl : d.bs.length = s.d.bs.length) : ∃ FD', SPic w' FD' G S D X Y fx fy A { s with d := d } ∧ (∀ g ∈ FD', g ∈ FD ∨ w.heap.size ≤ g) ∧ Chg FD w w' := by
  obtain ⟨⟨FD', hd, hf⟩, hc⟩ := hm
  have hk : ∀ g ∈ G, w'.heap[g]? = w.heap[g]? := fun g hg => hc.block g (h.lt g hg) (h.apart g hg)
  refine ⟨FD', ?_, hf, hc⟩
  exact ⟨⟨h.ok.slots, h.ok.logs, h.ok.num, by show s.fin ≤ d.bs.length; rw [hl]; exact h.ok.fin⟩, hd, (hk S h.mS).trans h.hS, h.hX.keep (hk X h.mX), h.hY.keep (hk Y h.mY), h.getX, fun l p d hd => by
    obtain ⟨ad, cap, e, hp, hg⟩ := h.dat l p d hd
    exact ⟨ad, cap, e, hp.chg hc (fun b off e2 h0 => h.apart b (hg b off e2 h0)), hg⟩, h.getY, h.supY, h.mS, h.mX, h.mY, h.ne, fun g hg hm => (hf g hm).elim (h.apart g hg) (fun h1 => absurd (h.lt g hg) (by omega)), fun g hg => Nat.lt_of_lt_of_le (h.lt g hg) hc.size⟩
theorem SPic.ltS (h : SPic w FD G S D X Y fx fy A s) : S < w.heap.size := h.lt S h.mS
theorem SPic.cell (h : SPic w FD G S D X Y fx fy A s) (i : Nat) : w.cell? ⟨S, i, none⟩ = (storeV D X Y s.num s.fin s.fallen)[i]? := cell_of_row _ _ _ _ _ _ h.hS
theorem SPic.free (h : SPic w FD G S D X Y fx fy A s) (i : Nat) : w.frozen? ⟨S, i, none⟩ = false := by simp [World.frozen?, h.hS]
theorem SPic.cells (h : SPic w FD G S D X Y fx fy A s) : w.cell? ⟨S, 0, none⟩ = some (.pointer (some ⟨D, 0, none⟩)) ∧ w.cell? ⟨S, 1, none⟩ = some (.map (some X)) ∧ w.cell? ⟨S, 2, none⟩ = some (.map (some Y)) ∧ w.cell? ⟨S, 3, none⟩ = some (.int .i64 (s.num : Int)) ∧ w.cell? ⟨S, 4, none⟩ = some (.int .i64 (s.fin : Int)) ∧ w.cell? ⟨S, 5, none⟩ = some (.bool s.fallen) :=
  ⟨h.cell 0, h.cell 1, h.cell 2, h.cell 3, h.cell 4, h.cell 5⟩
theorem Dk.n2 {F : List Nat} {d : DSt} (h : Dk w F D d) : d.bs.length ≤ 4096 := by
  obtain ⟨B, M, Dm, V, C, h⟩ := h
  exact h.n2
theorem Dk.n1 {F : List Nat} {d : DSt} (h : Dk w F D d) : 1 ≤ d.bs.length := by
  obtain ⟨B, M, Dm, V, C, h⟩ := h
  exact h.n1
theorem SPic.fin_le (h : SPic w FD G S D X Y fx fy A s) : s.fin ≤ 4096 := Nat.le_trans h.ok.fin h.disk.n2
theorem SPic.num_le (h : SPic w FD G S D X Y fx fy A s) : s.num ≤ 4096 := Nat.le_trans h.ok.num h.fin_le
theorem SPic.neS (h : SPic w FD G S D X Y fx fy A s) : S ≠ X ∧ S ≠ Y := by
  obtain ⟨es, c, hx⟩ := h.hX.isMap
  obtain ⟨es', c', hy⟩ := h.hY.isMap
  refine ⟨fun e => ?_, fun e => ?_⟩
  · have h1 := h.hS; rw [e, hx] at h1; cases h1
  · have h1 := h.hS; rw [e, hy] at h1; cases h1
/-- No cell of the struct is a byte. -/
theorem SPic.not_byte (h : SPic w FD G S D X Y fx fy A s) {off : Nat} {x : Int} (hc : w.cell? ⟨S, off, none⟩ = some (.int .u8 x)) : False := by
  rw [h.cell] at hc
  rcases off with _ | _ | _ | _ | _ | _ | k
  all_goals (simp [storeV] at hc)
/-- Behind a store into the struct: the numbers, or whether it has fallen. -/
theorem SPic.setS (h : SPic w FD G S D X Y fx fy A s) (hc : Chg [S] w w') {s' : SSt} {cs : Array Value} (hS : w'.heap[S]? = some (.cells cs TS (0, 0))) (hcs : cs = storeV D X Y s'.num s'.fin s'.fallen) (hs : s' = { s with num := s'.num, fin := s'.fin, fallen := s'.fallen }) (ok : s'.ok) (hn : s.num ≤ s'.num := by exact Nat.le_refl _) : SPic w' FD G S D X Y fx fy A s' := by
  have hk : ∀ g ∈ G, g ≠ S → w'.heap[g]? = w.heap[g]? := fun g hg hne => hc.block g (h.lt g hg) (by simpa using hne)
  have hd : ∀ g ∈ FD, w'.heap[g]? = w.heap[g]? := fun g hg => hc.block g (h.disk.lt g hg) (by simp; intro e; subst e; exact h.apart _ h.mS hg)
  subst hcs
  have e1 : s'.d = s.d := by rw [hs]
  have e2 : s'.slots = s.slots := by rw [hs]
  have e3 : s'.logs = s.logs := by rw [hs]
  refine ⟨ok, by rw [e1]; exact h.disk.keep hd hc.size, hS, (h.hX.keep (hk X h.mX h.neS.1.symm)).mono hn, (h.hY.keep (hk Y h.mY h.neS.2.symm)).mono hn, by rw [e2]; exact h.getX, ?_, by rw [e3]; exact h.getY, h.supY, h.mS, h.mX, h.mY, h.ne, h.apart, fun g hg => Nat.lt_of_lt_of_le (h.lt g hg) hc.size⟩
  rw [e2]
  intro l p d hd
  obtain ⟨ad, cap, e, hp, hg⟩ := h.dat l p d hd
  refine ⟨ad, cap, e, hp.chg hc (fun b off e2 h0 => ?_), hg⟩
  have hb := hp.2.2.2
  rcases hb with h1 | ⟨b', off', e3, hlt, hcell⟩
  · exact absurd h1 h0
  · have e3 : ad = some ⟨b', off', none⟩ := e3
    have e2 : ad = some ⟨b, off, none⟩ := e2
    rw [e2] at e3
    cases e3
    intro hm
    simp at hm
    have h2 := hcell 0 (List.length_pos_iff.2 h0)
    rw [hm, Nat.add_zero] at h2
    have h3 := cell_of_row w S off _ _ _ h.hS
    rw [h3] at h2
    have : ∀ (k : Nat) (v : Value), (storeV D X Y s.num s.fin s.fallen)[k]? = some v → ∀ n, v ≠ Value.int .u8 n := by
      intro k v hv n
      rcases k with _ | _ | _ | _ | _ | _ | k
      all_goals (simp [storeV] at hv)
      all_goals (rw [← hv]; simp)
    exact this _ _ h2 _ rfl
/-- A store in w whose blocks are all in F. -/
def Sk (w : World) (F : List Nat) (S D : Nat) (s : SSt) : Prop := ∃ FD G X Y fx fy A, SPic w FD G S D X Y fx fy A s ∧ (∀ g ∈ FD, g ∈ F) ∧ (∀ g ∈ G, g ∈ F) ∧ (∀ g ∈ F, g < w.heap.size)
/-- What a call on a store leaves. -/
structure SMoved (F : List Nat) (S D : Nat) (s : SSt) (w w' : World) : Prop where
  store : ∃ F', Sk w' F' S D s ∧ ∀ g ∈ F', g ∈ F ∨ w.heap.size ≤ g
  chg : Chg F w w'
end Go.Proofs.Ytoopnafdpenofaa

/- What Write hands on: the bytes become a version more. -/
namespace Go.Proofs.Ytoopnafdpenofaa
open Go.RowKit
variable {w w' : World} {F : List Nat} {D B M : Nat} {Dm : DataW Value} {V C : Nat → Nat} {s : DSt}

set_option maxRecDepth 100000 in
set_option maxHeartbeats 2000000 in
theorem write1_pic (h : Pic w F D B M Dm V C s) (i : Nat) (hi : i < s.bs.length) (gb gd gi cap : Nat) (ad : Option Addr) (l : List Nat) (hp : Part.ok w ⟨ad, 256, cap, l⟩)
    (cb : w.cell? ⟨gb, 0, none⟩ = some (.slice ad 256 cap)) (cd : w.cell? ⟨gd, 0, none⟩ = some (.pointer (some ⟨D, 0, none⟩))) (ci : w.cell? ⟨gi, 0, none⟩ = some (.int .i64 (i : Int)))
    (hnd : gd ∉ F) (hni : gi ∉ F) (hfew : (s.at i).vs.length ≤ 1073741824) :
    Calls Try.prog 42 #[.pointer (some ⟨gb, 0, none⟩), .pointer (some ⟨gd, 0, none⟩), .pointer (some ⟨gi, 0, none⟩)] w fun e w' => e = .returned (.tuple #[]) ∧ Moved Dk F D (s.setB i ((s.at i).add l)) w w' := by
  have h256 : (verV l).length = 256 := by unfold verV; rw [List.length_map]; exact hp.1
  have HP : Hid (Pic w F D B M Dm V C s) := h
  have HA : Hid (Part.ok w ⟨ad, 256, cap, l⟩) := hp
  clear h hp
  have lb := block_lt_of_cell cb
  have ld := block_lt_of_cell cd
  have li := block_lt_of_cell ci
  simp only at lb ld li
  have cb1 := (World.cell?_alloc_lt w (.cells Try.zeroCells77 77) ⟨gb, 0, none⟩ lb).trans cb
  have B1 : Hid (Below w.heap.size w (w.alloc (.cells Try.zeroCells77 TB)).drew) := ((Below.refl w.heap.size w).alloc (Nat.le_refl _) _).drew
  go_enter Try.func42, Try.ntmps42
  go_wp2_with fail
  go_region_law (refine step_copy (by rfl) _ _ (by rfl) w.heap.size cap ad l (by rfl) (by rfl) (HA.out.later B1.out) Try.zeroCells77 TB (heap_alloc_last w _) (by rw [zcB]; simp [z256_len]) w.heap.size w B1.out (Nat.le_refl _) ?_; intro w2 hX b2; have HX : Hid (w2.heap[w.heap.size]? = some (.cells (verV l).toArray TB (0, 0))) := hX; have B2 : Hid (Below w.heap.size w w2) := b2; clear hX b2)
  go_wp2_with fail
  have hS0 : w2.drew.cell? ⟨gd, 0, none⟩ = some (.pointer (some ⟨D, 0, none⟩)) ∧ w2.drew.cell? ⟨gi, 0, none⟩ = some (.int .i64 (i : Int)) ∧ w2.drew.cell? ⟨D, 1, none⟩ = some (.map (some M)) ∧ w2.drew.heap[w.heap.size]? = some (.cells (verV l).toArray TB (0, 0)) :=
    ⟨(B2.out.cell (p := ⟨gd, 0, none⟩) ld).trans cd, (B2.out.cell (p := ⟨gi, 0, none⟩) li).trans ci, (HP.out.below B2.out).cells.2.1, HX.out⟩
  refine wp_region_held_drew (S := fun W => W.cell? ⟨gd, 0, none⟩ = some (.pointer (some ⟨D, 0, none⟩)) ∧ W.cell? ⟨gi, 0, none⟩ = some (.int .i64 (i : Int)) ∧ W.cell? ⟨D, 1, none⟩ = some (.map (some M)) ∧ W.heap[w.heap.size]? = some (.cells (verV l).toArray TB (0, 0))) (by kernel_rfl) hS0 (fun hS => ?_)
  refine takeH 0 (.pointer (some ⟨D, 0, none⟩)) ⟨#[.pointer (some ⟨gb, 0, none⟩), .pointer (some ⟨gd, 0, none⟩), .pointer (some ⟨gi, 0, none⟩), .pointer (some ⟨w.heap.size, 0, none⟩), .slice (some ⟨w.heap.size, 0, none⟩) 256 256, .slice ad 256 cap, .int .i64 256, .pointer (some ⟨D, 0, none⟩), undef, undef, undef, undef, undef, undef, undef, undef, undef, undef, undef, undef, undef], []⟩ rfl rfl (by kernel_rfl) (by kernel_rfl) (by kernel_rfl) (fun _ _ _ h => h) rfl ?_ hS ?_
  · intro W hW
    obtain ⟨s1, s2, s3, s4⟩ := hW
    go_simp
  refine takeH 1 (.pointer (some ⟨D, 0, none⟩)) ⟨#[.pointer (some ⟨gb, 0, none⟩), .pointer (some ⟨gd, 0, none⟩), .pointer (some ⟨gi, 0, none⟩), .pointer (some ⟨w.heap.size, 0, none⟩), .slice (some ⟨w.heap.size, 0, none⟩) 256 256, .slice ad 256 cap, .int .i64 256, .pointer (some ⟨D, 0, none⟩), .pointer (some ⟨D, 0, none⟩), undef, undef, undef, undef, undef, undef, undef, undef, undef, undef, undef, undef], []⟩ rfl rfl (by kernel_rfl) (by kernel_rfl) (by kernel_rfl) (fun _ _ _ h => h) rfl ?_ hS ?_
  · intro W hW
    obtain ⟨s1, s2, s3, s4⟩ := hW
    go_simp
  refine takeH 2 (.pointer (some ⟨D, 1, none⟩)) ⟨#[.pointer (some ⟨gb, 0, none⟩), .pointer (some ⟨gd, 0, none⟩), .pointer (some ⟨gi, 0, none⟩), .pointer (some ⟨w.heap.size, 0, none⟩), .slice (some ⟨w.heap.size, 0, none⟩) 256 256, .slice ad 256 cap, .int .i64 256, .pointer (some ⟨D, 0, none⟩), .pointer (some ⟨D, 0, none⟩), .pointer (some ⟨D, 1, none⟩), undef, undef, undef, undef, undef, undef, undef, undef, undef, undef, undef], []⟩ rfl rfl (by kernel_rfl) (by kernel_rfl) (by kernel_rfl) (fun _ _ _ h => h) rfl ?_ hS ?_
  · intro W hW
    obtain ⟨s1, s2, s3, s4⟩ := hW
    go_simp
  refine takeH 3 (.map (some M)) ⟨#[.pointer (some ⟨gb, 0, none⟩), .pointer (some ⟨gd, 0, none⟩), .pointer (some ⟨gi, 0, none⟩), .pointer (some ⟨w.heap.size, 0, none⟩), .slice (some ⟨w.heap.size, 0, none⟩) 256 256, .slice ad 256 cap, .int .i64 256, .pointer (some ⟨D, 0, none⟩), .pointer (some ⟨D, 0, none⟩), .pointer (some ⟨D, 1, none⟩), .map (some M), undef, undef, undef, undef, undef, undef, undef, undef, undef, undef], []⟩ rfl rfl (by kernel_rfl) (by kernel_rfl) (by kernel_rfl) (fun _ _ _ h => h) rfl ?_ hS ?_
  · intro W hW
    obtain ⟨s1, s2, s3, s4⟩ := hW
    go_simp
  refine takeH 4 (.int .i64 (i : Int)) ⟨#[.pointer (some ⟨gb, 0, none⟩), .pointer (some ⟨gd, 0, none⟩), .pointer (some ⟨gi, 0, none⟩), .pointer (some ⟨w.heap.size, 0, none⟩), .slice (some ⟨w.heap.size, 0, none⟩) 256 256, .slice ad 256 cap, .int .i64 256, .pointer (some ⟨D, 0, none⟩), .pointer (some ⟨D, 0, none⟩), .pointer (some ⟨D, 1, none⟩), .map (some M), .int .i64 (i : Int), undef, undef, undef, undef, undef, undef, undef, undef, undef], []⟩ rfl rfl (by kernel_rfl) (by kernel_rfl) (by kernel_rfl) (fun _ _ _ h => h) rfl ?_ hS ?_
  · intro W hW
    obtain ⟨s1, s2, s3, s4⟩ := hW
    go_simp
  refine takeH 5 (.pointer (some ⟨D, 0, none⟩)) ⟨#[.pointer (some ⟨gb, 0, none⟩), .pointer (some ⟨gd, 0, none⟩), .pointer (some ⟨gi, 0, none⟩), .pointer (some ⟨w.heap.size, 0, none⟩), .slice (some ⟨w.heap.size, 0, none⟩) 256 256, .slice ad 256 cap, .int .i64 256, .pointer (some ⟨D, 0, none⟩), .pointer (some ⟨D, 0, none⟩), .pointer (some ⟨D, 1, none⟩), .map (some M), .int .i64 (i : Int), .pointer (some ⟨D, 0, none⟩), undef, undef, undef, undef, undef, undef, undef, undef], []⟩ rfl rfl (by kernel_rfl) (by kernel_rfl) (by kernel_rfl) (fun _ _ _ h => h) rfl ?_ hS ?_
  · intro W hW
    obtain ⟨s1, s2, s3, s4⟩ := hW
    go_simp
  refine takeH 6 (.pointer (some ⟨D, 0, none⟩)) ⟨#[.pointer (some ⟨gb, 0, none⟩), .pointer (some ⟨gd, 0, none⟩), .pointer (some ⟨gi, 0, none⟩), .pointer (some ⟨w.heap.size, 0, none⟩), .slice (some ⟨w.heap.size, 0, none⟩) 256 256, .slice ad 256 cap, .int .i64 256, .pointer (some ⟨D, 0, none⟩), .pointer (some ⟨D, 0, none⟩), .pointer (some ⟨D, 1, none⟩), .map (some M), .int .i64 (i : Int), .pointer (some ⟨D, 0, none⟩), .pointer (some ⟨D, 0, none⟩), undef, undef, undef, undef, undef, undef, undef], []⟩ rfl rfl (by kernel_rfl) (by kernel_rfl) (by kernel_rfl) (fun _ _ _ h => h) rfl ?_ hS ?_
  · intro W hW
    obtain ⟨s1, s2, s3, s4⟩ := hW
    go_simp
  refine takeH 7 (.pointer (some ⟨D, 1, none⟩)) ⟨#[.pointer (some ⟨gb, 0, none⟩), .pointer (some ⟨gd, 0, none⟩), .pointer (some ⟨gi, 0, none⟩), .pointer (some ⟨w.heap.size, 0, none⟩), .slice (some ⟨w.heap.size, 0, none⟩) 256 256, .slice ad 256 cap, .int .i64 256, .pointer (some ⟨D, 0, none⟩), .pointer (some ⟨D, 0, none⟩), .pointer (some ⟨D, 1, none⟩), .map (some M), .int .i64 (i : Int), .pointer (some ⟨D, 0, none⟩), .pointer (some ⟨D, 0, none⟩), .pointer (some ⟨D, 1, none⟩), undef, undef, undef, undef, undef, undef], []⟩ rfl rfl (by kernel_rfl) (by kernel_rfl) (by kernel_rfl) (fun _ _ _ h => h) rfl ?_ hS ?_
  · intro W hW
    obtain ⟨s1, s2, s3, s4⟩ := hW
    go_simp
  refine takeH 8 (.map (some M)) ⟨#[.pointer (some ⟨gb, 0, none⟩), .pointer (some ⟨gd, 0, none⟩), .pointer (some ⟨gi, 0, none⟩), .pointer (some ⟨w.heap.size, 0, none⟩), .slice (some ⟨w.heap.size, 0, none⟩) 256 256, .slice ad 256 cap, .int .i64 256, .pointer (some ⟨D, 0, none⟩), .pointer (some ⟨D, 0, none⟩), .pointer (some ⟨D, 1, none⟩), .map (some M), .int .i64 (i : Int), .pointer (some ⟨D, 0, none⟩), .pointer (some ⟨D, 0, none⟩), .pointer (some ⟨D, 1, none⟩), .map (some M), undef, undef, undef, undef, undef], []⟩ rfl rfl (by kernel_rfl) (by kernel_rfl) (by kernel_rfl) (fun _ _ _ h => h) rfl ?_ hS ?_
  · intro W hW
    obtain ⟨s1, s2, s3, s4⟩ := hW
    go_simp
  refine takeH 9 (.int .i64 (i : Int)) ⟨#[.pointer (some ⟨gb, 0, none⟩), .pointer (some ⟨gd, 0, none⟩), .pointer (some ⟨gi, 0, none⟩), .pointer (some ⟨w.heap.size, 0, none⟩), .slice (some ⟨w.heap.size, 0, none⟩) 256 256, .slice ad 256 cap, .int .i64 256, .pointer (some ⟨D, 0, none⟩), .pointer (some ⟨D, 0, none⟩), .pointer (some ⟨D, 1, none⟩), .map (some M), .int .i64 (i : Int), .pointer (some ⟨D, 0, none⟩), .pointer (some ⟨D, 0, none⟩), .pointer (some ⟨D, 1, none⟩), .map (some M), .int .i64 (i : Int), undef, undef, undef, undef], []⟩ rfl rfl (by kernel_rfl) (by kernel_rfl) (by kernel_rfl) (fun _ _ _ h => h) rfl ?_ hS ?_
  · intro W hW
    obtain ⟨s1, s2, s3, s4⟩ := hW
    go_simp
  refine takeH 11 (.agg (verV l).toArray) ⟨#[.pointer (some ⟨gb, 0, none⟩), .pointer (some ⟨gd, 0, none⟩), .pointer (some ⟨gi, 0, none⟩), .pointer (some ⟨w.heap.size, 0, none⟩), .slice (some ⟨w.heap.size, 0, none⟩) 256 256, .slice ad 256 cap, .int .i64 256, .pointer (some ⟨D, 0, none⟩), .pointer (some ⟨D, 0, none⟩), .pointer (some ⟨D, 1, none⟩), .map (some M), .int .i64 (i : Int), .pointer (some ⟨D, 0, none⟩), .pointer (some ⟨D, 0, none⟩), .pointer (some ⟨D, 1, none⟩), .map (some M), .int .i64 (i : Int), undef, .agg (verV l).toArray, undef, undef], []⟩ rfl rfl (by kernel_rfl) (by kernel_rfl) (by kernel_rfl) (fun _ _ _ h => h) rfl ?_ hS ?_
  · intro W hW
    obtain ⟨s1, s2, s3, s4⟩ := hW
    refine exec_load_wide TB _ rfl _ Try.underlying77 rfl (verV l) (by rw [h256]; exact sizeB) w.heap.size 0 rfl (fun j hj => ?_)
    rw [cell_of_row _ _ _ _ _ _ s4, List.getElem?_toArray, Nat.zero_add]
  have key : ∃ g c w4 w5, (Builtin.append_ #[78, 78] 78 #[verN V C s i, .slice (some ⟨w2.drew.heap.size, 0, none⟩) 1 1]).run Try.prog (w2.drew.alloc (.cells (verV l).toArray TB)) = .ok (.slice (some ⟨g, 0, none⟩) ((s.at i).vs.length + 1) c) w4 ∧
      (Instr.mapUpdate 37 (.map (some M)) (.int .i64 (i : Int)) (.slice (some ⟨g, 0, none⟩) ((s.at i).vs.length + 1) c)).run Try.prog w4 = .ok () w5 ∧
      Moved Dk F D (s.setB i ((s.at i).add l)) w w5 ∧ (∀ k, k < w2.heap.size → k ∉ F → w4.heap[k]? = w2.heap[k]?) ∧ (∀ k, k < w2.heap.size → k ≠ M → k ∉ F ∨ k = D → w5.heap[k]? = w2.heap[k]?) ∧ w4.heap[D]? = w2.heap[D]? := write_key HP.out hi l ⟨HA.out.1, HA.out.2.2.1⟩ B2.out hfew
  obtain ⟨g, c, w4, w5, ha, hu, hm, hk4, hk5, hd4⟩ := key
  have hlook := ((HP.out.below B2.out).below ((Below.refl _ w2).drew)).lookup hi
  have hlook3 := (((HP.out.below B2.out).below ((Below.refl _ w2).drew)).below ((Below.refl _ w2.drew).alloc (Nat.le_refl _) (.cells (verV l).toArray TB))).lookup hi
  have hsz := B2.out.size
  have hXl : w.heap.size < w2.heap.size := (Array.getElem?_eq_some_iff.1 HX.out).1
  have hDl := HP.out.ltD
  have hXF : w.heap.size ∉ F := fun hm2 => absurd (HP.out.lt _ hm2) (by omega)
  have hcell : ∀ {W1 W2 : World} {g : Nat} {k : Nat}, W2.heap[g]? = W1.heap[g]? → W2.cell? ⟨g, k, none⟩ = W1.cell? ⟨g, k, none⟩ := fun {W1 W2 g k} e => by simp only [World.cell?, e]
  have hS3 : (w2.drew.alloc (.cells (verV l).toArray TB)).cell? ⟨gd, 0, none⟩ = some (.pointer (some ⟨D, 0, none⟩)) ∧ (w2.drew.alloc (.cells (verV l).toArray TB)).cell? ⟨gi, 0, none⟩ = some (.int .i64 (i : Int)) ∧ (w2.drew.alloc (.cells (verV l).toArray TB)).cell? ⟨D, 1, none⟩ = some (.map (some M)) ∧ (w2.drew.alloc (.cells (verV l).toArray TB)).heap[w.heap.size]? = some (.cells (verV l).toArray TB (0, 0)) := by
    refine ⟨(hcell (heap_alloc_old _ _ (by simp; omega))).trans hS.1, (hcell (heap_alloc_old _ _ (by simp; omega))).trans hS.2.1, (hcell (heap_alloc_old _ _ (by simp; omega))).trans hS.2.2.1, (heap_alloc_old _ _ (by simp; omega)).trans hS.2.2.2⟩
  have hS4 : w4.cell? ⟨gd, 0, none⟩ = some (.pointer (some ⟨D, 0, none⟩)) ∧ w4.cell? ⟨gi, 0, none⟩ = some (.int .i64 (i : Int)) ∧ w4.cell? ⟨D, 1, none⟩ = some (.map (some M)) ∧ w4.heap[w.heap.size]? = some (.cells (verV l).toArray TB (0, 0)) := by
    refine ⟨(hcell (hk4 gd (by omega) hnd)).trans hS.1, (hcell (hk4 gi (by omega) hni)).trans hS.2.1, (hcell hd4).trans hS.2.2.1, (hk4 _ hXl hXF).trans hS.2.2.2⟩
  have hS5 : w5.cell? ⟨gd, 0, none⟩ = some (.pointer (some ⟨D, 0, none⟩)) ∧ w5.cell? ⟨gi, 0, none⟩ = some (.int .i64 (i : Int)) ∧ w5.cell? ⟨D, 1, none⟩ = some (.map (some M)) ∧ w5.heap[w.heap.size]? = some (.cells (verV l).toArray TB (0, 0)) := by
    have hMF := HP.out.mM
    refine ⟨(hcell (hk5 gd (by omega) (fun e => hnd (by rw [e]; exact hMF)) (Or.inl hnd))).trans hS.1, (hcell (hk5 gi (by omega) (fun e => hni (by rw [e]; exact hMF)) (Or.inl hni))).trans hS.2.1, (hcell (hk5 D (by omega) HP.out.neM.1 (Or.inr rfl))).trans hS.2.2.1, (hk5 _ hXl (fun e => hXF (by rw [e]; exact hMF)) (Or.inl hXF)).trans hS.2.2.2⟩
  refine wpAnyH_ready (rs := [10, 12]) (by kernel_rfl) (by simp) (stepH (verN V C s i) w2.drew ⟨#[.pointer (some ⟨gb, 0, none⟩), .pointer (some ⟨gd, 0, none⟩), .pointer (some ⟨gi, 0, none⟩), .pointer (some ⟨w.heap.size, 0, none⟩), .slice (some ⟨w.heap.size, 0, none⟩) 256 256, .slice ad 256 cap, .int .i64 256, .pointer (some ⟨D, 0, none⟩), .pointer (some ⟨D, 0, none⟩), .pointer (some ⟨D, 1, none⟩), .map (some M), .int .i64 (i : Int), .pointer (some ⟨D, 0, none⟩), .pointer (some ⟨D, 0, none⟩), .pointer (some ⟨D, 1, none⟩), .map (some M), .int .i64 (i : Int), verN V C s i, .agg (verV l).toArray, undef, undef], []⟩ rfl rfl rfl ?_ hS ?_ (stepH (.slice (some ⟨w2.drew.heap.size, 0, none⟩) 1 1) (w2.drew.alloc (.cells (verV l).toArray TB)) ⟨#[.pointer (some ⟨gb, 0, none⟩), .pointer (some ⟨gd, 0, none⟩), .pointer (some ⟨gi, 0, none⟩), .pointer (some ⟨w.heap.size, 0, none⟩), .slice (some ⟨w.heap.size, 0, none⟩) 256 256, .slice ad 256 cap, .int .i64 256, .pointer (some ⟨D, 0, none⟩), .pointer (some ⟨D, 0, none⟩), .pointer (some ⟨D, 1, none⟩), .map (some M), .int .i64 (i : Int), .pointer (some ⟨D, 0, none⟩), .pointer (some ⟨D, 0, none⟩), .pointer (some ⟨D, 1, none⟩), .map (some M), .int .i64 (i : Int), undef, .agg (verV l).toArray, .slice (some ⟨w2.drew.heap.size, 0, none⟩) 1 1, undef], []⟩ rfl rfl rfl ?_ hS3 ?_ AllReadyH.nil))
  · exact exec_lookup (.tmp 15) (.tmp 16) rfl (.map (some M)) (.int .i64 (i : Int)) _ rfl rfl hlook
  · refine wpAnyH_ready (rs := [12]) (by kernel_rfl) (by simp) (stepH (.slice (some ⟨w2.drew.heap.size, 0, none⟩) 1 1) (w2.drew.alloc (.cells (verV l).toArray TB)) ⟨#[.pointer (some ⟨gb, 0, none⟩), .pointer (some ⟨gd, 0, none⟩), .pointer (some ⟨gi, 0, none⟩), .pointer (some ⟨w.heap.size, 0, none⟩), .slice (some ⟨w.heap.size, 0, none⟩) 256 256, .slice ad 256 cap, .int .i64 256, .pointer (some ⟨D, 0, none⟩), .pointer (some ⟨D, 0, none⟩), .pointer (some ⟨D, 1, none⟩), .map (some M), .int .i64 (i : Int), .pointer (some ⟨D, 0, none⟩), .pointer (some ⟨D, 0, none⟩), .pointer (some ⟨D, 1, none⟩), .map (some M), .int .i64 (i : Int), verN V C s i, .agg (verV l).toArray, .slice (some ⟨w2.drew.heap.size, 0, none⟩) 1 1, undef], []⟩ rfl rfl rfl ?_ hS3 ?_ AllReadyH.nil)
    · exact exec_buildSlice (.tmp 18) rfl (verV l) h256 rfl
    refine wpAnyH_ready (rs := [13]) (by kernel_rfl) (by simp) (stepH (.slice (some ⟨g, 0, none⟩) ((s.at i).vs.length + 1) c) w4 ⟨#[.pointer (some ⟨gb, 0, none⟩), .pointer (some ⟨gd, 0, none⟩), .pointer (some ⟨gi, 0, none⟩), .pointer (some ⟨w.heap.size, 0, none⟩), .slice (some ⟨w.heap.size, 0, none⟩) 256 256, .slice ad 256 cap, .int .i64 256, .pointer (some ⟨D, 0, none⟩), .pointer (some ⟨D, 0, none⟩), .pointer (some ⟨D, 1, none⟩), .map (some M), .int .i64 (i : Int), .pointer (some ⟨D, 0, none⟩), .pointer (some ⟨D, 0, none⟩), .pointer (some ⟨D, 1, none⟩), .map (some M), .int .i64 (i : Int), verN V C s i, .agg (verV l).toArray, .slice (some ⟨w2.drew.heap.size, 0, none⟩) 1 1, .slice (some ⟨g, 0, none⟩) ((s.at i).vs.length + 1) c], []⟩ rfl rfl rfl ?_ hS4 ?_ AllReadyH.nil)
    · exact exec_append (.tmp 17) (.tmp 19) rfl (verN V C s i) (.slice (some ⟨w2.drew.heap.size, 0, none⟩) 1 1) _ rfl rfl ha
    refine wpAnyH_ready (rs := [14]) (by kernel_rfl) (by simp) (stepSkipH w5 ⟨#[.pointer (some ⟨gb, 0, none⟩), .pointer (some ⟨gd, 0, none⟩), .pointer (some ⟨gi, 0, none⟩), .pointer (some ⟨w.heap.size, 0, none⟩), .slice (some ⟨w.heap.size, 0, none⟩) 256 256, .slice ad 256 cap, .int .i64 256, .pointer (some ⟨D, 0, none⟩), .pointer (some ⟨D, 0, none⟩), .pointer (some ⟨D, 1, none⟩), .map (some M), .int .i64 (i : Int), .pointer (some ⟨D, 0, none⟩), .pointer (some ⟨D, 0, none⟩), .pointer (some ⟨D, 1, none⟩), .map (some M), .int .i64 (i : Int), verN V C s i, .agg (verV l).toArray, .slice (some ⟨w2.drew.heap.size, 0, none⟩) 1 1, .slice (some ⟨g, 0, none⟩) ((s.at i).vs.length + 1) c], []⟩ rfl rfl rfl ?_ hS5 ?_ AllReadyH.nil)
    · exact exec_update (.tmp 10) (.tmp 11) (.tmp 20) rfl (.map (some M)) (.int .i64 (i : Int)) (.slice (some ⟨g, 0, none⟩) ((s.at i).vs.length + 1) c) rfl rfl rfl hu
    refine wpAnyH_done (by kernel_rfl) ?_ _
    exact bodyPost_end (results_none rfl _ _ _) rfl ⟨rfl, hm⟩
  · exact exec_buildSlice (.tmp 18) rfl (verV l) h256 rfl
  · refine wpAnyH_ready (rs := [10]) (by kernel_rfl) (by simp) (stepH (verN V C s i) (w2.drew.alloc (.cells (verV l).toArray TB)) ⟨#[.pointer (some ⟨gb, 0, none⟩), .pointer (some ⟨gd, 0, none⟩), .pointer (some ⟨gi, 0, none⟩), .pointer (some ⟨w.heap.size, 0, none⟩), .slice (some ⟨w.heap.size, 0, none⟩) 256 256, .slice ad 256 cap, .int .i64 256, .pointer (some ⟨D, 0, none⟩), .pointer (some ⟨D, 0, none⟩), .pointer (some ⟨D, 1, none⟩), .map (some M), .int .i64 (i : Int), .pointer (some ⟨D, 0, none⟩), .pointer (some ⟨D, 0, none⟩), .pointer (some ⟨D, 1, none⟩), .map (some M), .int .i64 (i : Int), verN V C s i, .agg (verV l).toArray, .slice (some ⟨w2.drew.heap.size, 0, none⟩) 1 1, undef], []⟩ rfl rfl rfl ?_ hS3 ?_ AllReadyH.nil)
    · exact exec_lookup (.tmp 15) (.tmp 16) rfl (.map (some M)) (.int .i64 (i : Int)) _ rfl rfl hlook3
    refine wpAnyH_ready (rs := [13]) (by kernel_rfl) (by simp) (stepH (.slice (some ⟨g, 0, none⟩) ((s.at i).vs.length + 1) c) w4 ⟨#[.pointer (some ⟨gb, 0, none⟩), .pointer (some ⟨gd, 0, none⟩), .pointer (some ⟨gi, 0, none⟩), .pointer (some ⟨w.heap.size, 0, none⟩), .slice (some ⟨w.heap.size, 0, none⟩) 256 256, .slice ad 256 cap, .int .i64 256, .pointer (some ⟨D, 0, none⟩), .pointer (some ⟨D, 0, none⟩), .pointer (some ⟨D, 1, none⟩), .map (some M), .int .i64 (i : Int), .pointer (some ⟨D, 0, none⟩), .pointer (some ⟨D, 0, none⟩), .pointer (some ⟨D, 1, none⟩), .map (some M), .int .i64 (i : Int), verN V C s i, .agg (verV l).toArray, .slice (some ⟨w2.drew.heap.size, 0, none⟩) 1 1, .slice (some ⟨g, 0, none⟩) ((s.at i).vs.length + 1) c], []⟩ rfl rfl rfl ?_ hS4 ?_ AllReadyH.nil)
    · exact exec_append (.tmp 17) (.tmp 19) rfl (verN V C s i) (.slice (some ⟨w2.drew.heap.size, 0, none⟩) 1 1) _ rfl rfl ha
    refine wpAnyH_ready (rs := [14]) (by kernel_rfl) (by simp) (stepSkipH w5 ⟨#[.pointer (some ⟨gb, 0, none⟩), .pointer (some ⟨gd, 0, none⟩), .pointer (some ⟨gi, 0, none⟩), .pointer (some ⟨w.heap.size, 0, none⟩), .slice (some ⟨w.heap.size, 0, none⟩) 256 256, .slice ad 256 cap, .int .i64 256, .pointer (some ⟨D, 0, none⟩), .pointer (some ⟨D, 0, none⟩), .pointer (some ⟨D, 1, none⟩), .map (some M), .int .i64 (i : Int), .pointer (some ⟨D, 0, none⟩), .pointer (some ⟨D, 0, none⟩), .pointer (some ⟨D, 1, none⟩), .map (some M), .int .i64 (i : Int), verN V C s i, .agg (verV l).toArray, .slice (some ⟨w2.drew.heap.size, 0, none⟩) 1 1, .slice (some ⟨g, 0, none⟩) ((s.at i).vs.length + 1) c], []⟩ rfl rfl rfl ?_ hS5 ?_ AllReadyH.nil)
    · exact exec_update (.tmp 10) (.tmp 11) (.tmp 20) rfl (.map (some M)) (.int .i64 (i : Int)) (.slice (some ⟨g, 0, none⟩) ((s.at i).vs.length + 1) c) rfl rfl rfl hu
    refine wpAnyH_done (by kernel_rfl) ?_ _
    exact bodyPost_end (results_none rfl _ _ _) rfl ⟨rfl, hm⟩
end Go.Proofs.Ytoopnafdpenofaa

/- Write of package disk. -/
namespace Go.Proofs.Ytoopnafdpenofaa
open Go.RowKit
variable {w w' : World} {F : List Nat} {D B M : Nat} {Dm : DataW Value} {V C : Nat → Nat} {s : DSt}

/-- No block has too many versions. -/
def DSt.few (s : DSt) : Prop := ∀ x ∈ s.bs, x.vs.length ≤ 1073741824
theorem Pic.moved (h : Pic w' F D B M Dm V C s) (hc : Chg F w w') : Moved Dk F D s w w' := ⟨⟨F, ⟨_, _, _, _, _, h⟩, fun _ hg => Or.inl hg⟩, hc⟩
theorem Moved.pre {w0 : World} (h : Moved Dk F D s w w') (hc : Chg F w0 w) : Moved Dk F D s w0 w' := by
  obtain ⟨⟨F', h1, h2⟩, h3⟩ := h
  exact ⟨⟨F', h1, fun g hg => (h2 g hg).imp id (fun h => Nat.le_trans hc.size h)⟩, hc.trans h3 (fun k hk => Or.inl hk)⟩
theorem Pic.not_byte (h : Pic w F D B M Dm V C s) {off : Nat} {x : Int} (hc : w.cell? ⟨D, off, none⟩ = some (.int .u8 x)) : False := by
  rw [h.cell] at hc
  unfold diskV at hc
  match off, hc with
  | 0, hc => simp at hc
  | 1, hc => simp at hc
  | 2, hc => simp at hc
  | 3, hc => simp at hc
  | n + 4, hc => simp at hc
/-- Bytes that came in stay as they are when the struct is written. -/
theorem Pic.part (h : Pic w F D B M Dm V C s) {p : Part} (hp : p.ok w) (hc : Chg [D] w w') : p.ok w' := hp.chg hc (fun b off e hne hm => by
  have e2 : b = D := by simpa using hm
  subst e2
  rcases hp.2.2.2 with h0 | ⟨b', off', e3, _, hcell⟩
  · exact hne h0
  · rw [e] at e3
    cases e3
    exact h.not_byte (hcell 0 (List.length_pos_iff.2 hne)))
theorem three_blocks (w : World) (a b c : Obj) : (((w.alloc a).alloc b).alloc c).heap[w.heap.size]? = some a ∧ (((w.alloc a).alloc b).alloc c).heap[w.heap.size + 1]? = some b ∧ (((w.alloc a).alloc b).alloc c).heap[w.heap.size + 2]? = some c := by
  have e1 : (w.alloc a).heap.size = w.heap.size + 1 := by simp
  have e2 : ((w.alloc a).alloc b).heap.size = w.heap.size + 2 := by simp
  refine ⟨?_, ?_, ?_⟩
  · rw [heap_alloc_old _ _ (by omega), heap_alloc_old _ _ (by omega)]; exact heap_alloc_last w a
  · rw [heap_alloc_old _ _ (by omega), ← e1]; exact heap_alloc_last (w.alloc a) b
  · rw [← e2]; exact heap_alloc_last ((w.alloc a).alloc b) c
set_option maxRecDepth 100000 in
set_option maxHeartbeats 2000000 in
theorem write_pic (h : Pic w F D B M Dm V C s) (hfew : s.few) (i : Int) (ad : Option Addr) (len cap : Nat) (l : List Nat) (hp : Part.ok w ⟨ad, len, cap, l⟩) :
    Calls Try.prog 27 #[.pointer (some ⟨D, 0, none⟩), .int .i64 i, .slice ad len cap] w fun x w' => x = .returned (.int .i64 (writeD s i l).1) ∧ Moved Dk F D (writeD s i l).2 w w' := by
  have b1 : Below w.heap.size w (((w.alloc (.cells #[.pointer (some ⟨D, 0, none⟩)] 23)).alloc (.cells #[.int .i64 i] 3)).alloc (.cells #[.slice ad len cap] 34)) :=
    (((Below.refl w.heap.size w).alloc (Nat.le_refl _) _).alloc (by simp) _).alloc (by simp; omega) _
  have hl : l.length = len := hp.1
  have h1 := h.below b1
  have hp1 := hp.later b1
  have hh := has_pic h1 i
  have B1 : Hid (Chg F w (((w.alloc (.cells #[.pointer (some ⟨D, 0, none⟩)] 23)).alloc (.cells #[.int .i64 i] 3)).alloc (.cells #[.slice ad len cap] 34))) := (show Hid _ from Chg.of b1)
  have HP1 : Hid (Pic (((w.alloc (.cells #[.pointer (some ⟨D, 0, none⟩)] 23)).alloc (.cells #[.int .i64 i] 3)).alloc (.cells #[.slice ad len cap] 34)) F D B M Dm V C s) := h1
  by_cases hi : s.has i = true
  · rw [hi] at hh
    by_cases hlen : len = 256
    · subst hlen
      have hw : writeD s i l = (if (opD s).1 then (0, (opD s).2.setB i.toNat (((opD s).2.at i.toNat).add l)) else (8, (opD s).2)) := by
        unfold writeD
        rw [hi, hl]
        rfl
      have hop : Calls Try.prog 41 #[.pointer (some ⟨D, 0, none⟩), .func (.func 42) #[] #[.pointer (some ⟨w.heap.size + 2, 0, none⟩), .pointer (some ⟨w.heap.size, 0, none⟩), .pointer (some ⟨w.heap.size + 1, 0, none⟩)]] (((w.alloc (.cells #[.pointer (some ⟨D, 0, none⟩)] 23)).alloc (.cells #[.int .i64 i] 3)).alloc (.cells #[.slice ad 256 cap] 34)) fun x w' => x = .returned (.int .i64 (writeD s i l).1) ∧ Moved Dk F D (writeD s i l).2 w w' := by
        refine (op_write h1 _ _ _ (fun w' => Moved Dk F D ((opD s).2.setB i.toNat (((opD s).2.at i.toNat).add l)) w w') (fun w2 h0 h2 hc => ?_)).mono ?_
        · have hi2 := has_lt hi
          have hci : (i.toNat : Int) = i := by omega
          have hltF := h.lt
          have hD := h.ltD
          have cell : ∀ g o, g ≠ D → (((w.alloc (.cells #[.pointer (some ⟨D, 0, none⟩)] 23)).alloc (.cells #[.int .i64 i] 3)).alloc (.cells #[.slice ad 256 cap] 34)).heap[g]? = some o → w2.heap[g]? = some o := fun g o hg ho => by
            rw [hc.block g (Array.getElem?_eq_some_iff.1 ho).1 (by simpa using hg)]; exact ho
          refine (write1_pic h2 i.toNat (by rw [opD_bs]; exact hi2.2) (w.heap.size + 2) w.heap.size (w.heap.size + 1) cap ad l (h1.part hp1 hc) ?_ ?_ ?_ ?_ ?_ ?_).mono ?_
          · rw [cell_of_row _ _ _ _ _ _ (cell (w.heap.size + 2) _ (by omega) (three_blocks w _ _ _).2.2)]; rfl
          · rw [cell_of_row _ _ _ _ _ _ (cell w.heap.size _ (by omega) (three_blocks w _ _ _).1)]; rfl
          · rw [cell_of_row _ _ _ _ _ _ (cell (w.heap.size + 1) _ (by omega) (three_blocks w _ _ _).2.1), hci]; rfl
          · exact fun hm => absurd (hltF _ hm) (by omega)
          · exact fun hm => absurd (hltF _ hm) (by omega)
          · rw [opD_at]; exact hfew _ (at_mem hi2.2)
          · rintro e w3 ⟨rfl, hm⟩
            exact ⟨rfl, hm.pre ((Chg.of b1).trans (G := [D]) hc (fun k hk => by simp at hk; rw [hk]; exact Or.inl h.mD))⟩
        · rintro e w3 (⟨h0, rfl, hm⟩ | ⟨h0, rfl, hm, hc⟩)
          · rw [hw, if_pos h0]
            exact ⟨rfl, hm⟩
          · rw [hw, if_neg (by rw [h0]; simp)]
            exact ⟨rfl, hm.moved ((Chg.of b1).trans (G := [D]) hc (fun k hk => by simp at hk; rw [hk]; exact Or.inl h.mD))⟩
      clear h h1 hp hp1 hw b1
      go_enter Try.func27, Try.ntmps27
      go_wp2_with (first
        | (go_at_call 40; refine hh.mono ?_; rintro e w' ⟨rfl, hw'⟩; obtain rfl := hw'.symm)
        | (go_at_call 41; refine hop.mono ?_; rintro e w3 ⟨rfl, hm⟩))
      go_ret
      exact ⟨rfl, hm⟩
    · have hw : writeD s i l = (1, s) := by
        unfold writeD
        rw [hi, hl]
        have : (len == 256) = false := by simpa using hlen
        rw [this]
        rfl
      rw [hw]
      clear h h1 hp hp1 hw b1
      go_enter Try.func27, Try.ntmps27
      go_wp2_with (go_at_call 40; refine hh.mono ?_; rintro e w' ⟨rfl, hw'⟩; obtain rfl := hw'.symm)
      go_ret
      exact ⟨rfl, HP1.out.moved B1.out⟩
  · have hi2 : s.has i = false := by simpa using hi
    rw [hi2] at hh
    have hw : writeD s i l = (1, s) := by
      unfold writeD
      rw [hi2]
      rfl
    rw [hw]
    clear h h1 hp hp1 hw b1
    go_enter Try.func27, Try.ntmps27
    go_wp2_with (go_at_call 40; refine hh.mono ?_; rintro e w' ⟨rfl, hw'⟩; obtain rfl := hw'.symm)
    go_ret
    exact ⟨rfl, HP1.out.moved B1.out⟩
end Go.Proofs.Ytoopnafdpenofaa

/- The looks of package store: made, powerless, look, Tail, Free; fall. -/
namespace Go.Proofs.Ytoopnafdpenofaa
open Go.RowKit
variable {w w' : World} {FD G : List Nat} {S D X Y : Nat} {fx fy : Lit → Option Value} {A : Nat → Nat → Value} {s : SSt}

set_option maxRecDepth 100000 in
theorem SPic.lookY (h : SPic w FD G S D X Y fx fy A s) (i : Int) (h1 : -9223372036854775808 ≤ i) (h2 : i ≤ 9223372036854775807) : (Instr.lookup 41 (.map (some Y)) (.int .i64 i) false).run Try.prog w = .ok (logV (s.look i)) w := by
  have hk : keyOf Try.prog 3 (.int .i64 i) = some (.int .i64 i) := Maps.keyOf_int_mk Try.underlying3 (by have e1 : IntKind.i64.min = -9223372036854775808 := rfl; have e2 : IntKind.i64.max = 9223372036854775807 := rfl; simp [Lit.wf, e1, e2]; omega)
  rw [h.hY.look keyI Try.underlying41 (Try.zeroValue52 w) hk]
  congr 1
  unfold SSt.look
  by_cases h0 : 0 ≤ i
  · rw [if_pos h0]
    obtain ⟨n, rfl⟩ : ∃ n : Nat, i = n := ⟨i.toNat, by omega⟩
    have := h.getY n
    unfold kI at this
    rw [this]
    unfold SSt.log
    simp only [Int.toNat_natCast]
    cases s.logs n <;> rfl
  · rw [if_neg h0]
    cases hf : fy (.int .i64 i) with
    | none => rfl
    | some v =>
      obtain ⟨n, _, e⟩ := h.supY _ _ hf
      unfold kI at e
      injection e with _ e
      omega
set_option maxRecDepth 100000 in
set_option maxHeartbeats 1000000 in
theorem smade_pic (h : SPic w FD G S D X Y fx fy A s) : Calls Try.prog 17 #[.pointer (some ⟨S, 0, none⟩)] w fun e w' => e = .returned (.bool true) ∧ w' = w := by
  obtain ⟨c0, -⟩ := h.cells
  clear h
  go_enter Try.func17, Try.ntmps17
  go_wp2
  all_goals go_ret
  all_goals simp
set_option maxRecDepth 100000 in
set_option maxHeartbeats 1000000 in
theorem powerless_pic (h : SPic w FD G S D X Y fx fy A s) : Calls Try.prog 20 #[.pointer (some ⟨S, 0, none⟩)] w fun e w' => e = .returned (.bool s.down) ∧ w' = w := by
  obtain ⟨c0, -, -, -, -, c5⟩ := h.cells
  obtain ⟨B, M, Dm, V, C, hd⟩ := h.disk
  have hdn := down_pic hd
  unfold SSt.down
  generalize s.d.off = off at *
  generalize s.fallen = fallen at *
  clear h hd
  cases fallen
  · go_enter Try.func20, Try.ntmps20
    go_wp2_with (go_at_call 11; refine hdn.mono ?_; rintro e w' ⟨rfl, hw'⟩; obtain rfl := hw'.symm)
    all_goals go_ret
    all_goals simp
  · go_enter Try.func20, Try.ntmps20
    go_wp2
    all_goals go_ret
    all_goals simp
set_option maxRecDepth 100000 in
set_option maxHeartbeats 1000000 in
theorem look_pic (h : SPic w FD G S D X Y fx fy A s) (i : Int) (h1 : -9223372036854775808 ≤ i) (h2 : i ≤ 9223372036854775807) : Calls Try.prog 32 #[.pointer (some ⟨S, 0, none⟩), .int .i64 i] w fun e w' => e = .returned (logV (s.look i)) ∧ Below w.heap.size w w' := by
  obtain ⟨-, -, c2, -⟩ := h.cells
  have b1 : Below w.heap.size w (w.alloc (.cells #[.int .i64 0, .int .i64 0, .bool false] 52)) := (Below.refl _ w).alloc (Nat.le_refl _) _
  have h3 := h.below b1
  obtain ⟨-, -, c2', -⟩ := h3.cells
  have hm := smade_pic h3
  have hl := h3.lookY i h1 h2
  have hS := h.ltS
  unfold logV at *
  generalize s.look i = x at *
  clear h h3 b1
  go_enter Try.func32, Try.ntmps32
  go_wp2_with (go_at_call 17; refine hm.mono ?_; rintro e w' ⟨rfl, hw'⟩; obtain rfl := hw'.symm)
  refine bodyPost_ret (v := .agg #[.int .i64 (x.tail : Int), .int .i64 (x.trim : Int), .bool x.sealed]) (by simp [results, Try.results32, go_sem]) rfl ⟨rfl, ?_⟩
  exact (Below.refl _ w).alloc (Nat.le_refl _) _
set_option maxRecDepth 100000 in
set_option maxHeartbeats 1000000 in
theorem fld52 (a b c : Value) (W : World) : (Instr.field 52 (.agg #[a, b, c]) 0).run Try.prog W = .ok a W ∧ (Instr.field 52 (.agg #[a, b, c]) 1).run Try.prog W = .ok b W ∧ (Instr.field 52 (.agg #[a, b, c]) 2).run Try.prog W = .ok c W := by
  refine ⟨?_, ?_, ?_⟩ <;> simp [Instr.field, go_sem, asAgg]
set_option maxRecDepth 100000 in
set_option maxHeartbeats 1000000 in
theorem tail_pic (h : SPic w FD G S D X Y fx fy A s) (i : Int) (h1 : -9223372036854775808 ≤ i) (h2 : i ≤ 9223372036854775807) : Calls Try.prog 16 #[.pointer (some ⟨S, 0, none⟩), .int .i64 i] w fun e w' => e = .returned (.int .i64 ((s.look i).tail : Nat)) ∧ Below w.heap.size w w' := by
  have hl := look_pic h i h1 h2
  unfold logV at hl
  have hf := fun W => (fld52 (.int .i64 ((s.look i).tail : Int)) (.int .i64 ((s.look i).trim : Int)) (.bool (s.look i).sealed) W).1
  clear h
  go_enter Try.func16, Try.ntmps16
  go_wp2_with (go_at_call 32; refine hl.mono ?_; rintro e w' ⟨rfl, hb⟩)
  go_ret
  exact ⟨rfl, hb⟩
set_option maxRecDepth 100000 in
set_option maxHeartbeats 1000000 in
theorem fall_pic (h : SPic w FD G S D X Y fx fy A s) : Calls Try.prog 28 #[.pointer (some ⟨S, 0, none⟩)] w fun e w' => e = .returned (.int .i64 8) ∧ SPic w' FD G S D X Y fx fy A { s with fallen := true } ∧ Chg [S] w w' := by
  obtain ⟨-, -, -, -, -, c5⟩ := h.cells
  have f5 := h.free 5
  have hc : Chg [S] w (w.setCell ⟨S, 5, none⟩ (.bool true)) := (Chg.refl [S] w).set (Or.inl (by simp)) _ _
  have HP : Hid (SPic w FD G S D X Y fx fy A s) := h
  clear h
  go_enter Try.func28, Try.ntmps28
  go_wp2
  go_ret
  exact ⟨rfl, HP.out.setS hc (heap_setCell_same w S 5 _ TS _ HP.out.hS) rfl rfl ⟨HP.out.ok.slots, HP.out.ok.logs, HP.out.ok.num, HP.out.ok.fin⟩, hc⟩
end Go.Proofs.Ytoopnafdpenofaa

/- What the Go functions isSize and spell answer: a number's bytes, the lowest first, in new memory. -/
namespace Go.Proofs.Ytoopnafdpenofaa
open Go.RowKit

theorem isSize_any (size : Int) (w : World) : Calls Try.prog 72 #[.int .i64 size] w fun e w' => e = .returned (.bool (decide (1 ≤ size) && decide (size ≤ 6))) ∧ w' = w := by
  by_cases h1 : 1 ≤ size
  · by_cases h2 : size ≤ 6
    · go_enter Try.func72, Try.ntmps72
      go_wp2
      go_ret
      exact ⟨by simp [h1, h2], rfl⟩
    · go_enter Try.func72, Try.ntmps72
      go_wp2
      go_ret
      exact ⟨by simp [h2], rfl⟩
  · go_enter Try.func72, Try.ntmps72
    go_wp2
    go_ret
    exact ⟨by rw [decide_eq_false (by omega : ¬ 1 ≤ size)]; rfl, rfl⟩
/-- What spell has laid behind k rounds. -/
def laidN (n size k : Nat) : List Value := (spellN n k).map bv ++ List.replicate (size - k) (.int .u8 0)
theorem laidN_zero (n size : Nat) : laidN n size 0 = List.replicate size (.int .u8 0) := by simp [laidN, spellN]
theorem laidN_full (n size : Nat) : laidN n size size = (spellN n size).map bv := by simp [laidN]
theorem laidN_at (n size k : Nat) (h : k < size) : (laidN n size k)[k]? = some (.int .u8 0) := by
  unfold laidN
  rw [List.getElem?_append_right (by simp [spellN_length])]
  rw [List.length_map, spellN_length, Nat.sub_self, List.getElem?_replicate, if_pos (by omega)]
theorem laidN_set (n size k : Nat) (h : k < size) : (laidN n size k).set k (bv (n / 2 ^ (8 * k) % 256)) = laidN n size (k + 1) := by
  unfold laidN
  rw [List.set_append_right _ _ (by simp [spellN_length])]
  rw [List.length_map, spellN_length, Nat.sub_self, show size - k = (size - (k + 1)) + 1 by omega, List.replicate_succ]
  simp [spellN]
set_option maxHeartbeats 400000 in
theorem spell_any (n size : Nat) (w : World) (h6 : size ≤ 6) :
    Calls Try.prog 73 #[.int .i64 n, .int .i64 size] w fun e w' => ∃ v, e = .returned v ∧ Own w' w.heap.size v (spellN n size) ∧ Below w.heap.size w w' := by
  obtain ⟨i0, hi, hz0, hz1, hz2⟩ := info_parts Try.info5
  go_enter Try.func73, Try.ntmps73
  go_wp2_with (at_make; refine wpList_make_full _ rfl _ _ 34 rfl w.heap.size 5 i0 (.int .u8 0) 1 Try.underlying34 hi hz0 hz1 _ _ _ _ size rfl rfl rfl rfl (by rw [hz2]; omega) (by unfold maxLen; omega) (Nat.le_refl _) ?_; intro w1 hown hgrow)
  have hb := (Below.refl w.heap.size w).grown hgrow (Nat.le_refl _) (by intro k hk; cases hk)
  have hown2 : w1.ownsRow w.heap.size 5 1 (.slice (some ⟨w.heap.size, 0, none⟩) size size) size (laidN n size 0) := by
    rw [laidN_zero]
    have e := toList_madeCells_one (.int .u8 0) (size * 1)
    simp only [Value.cells] at hown
    rw [e, Nat.mul_one] at hown
    exact hown
  clear hown hgrow
  go_loopw [11] (fun i wr => ∃ k : Nat, k ≤ size ∧ i = .int .i64 k ∧ wr.ownsRow w.heap.size 5 1 (.slice (some ⟨w.heap.size, 0, none⟩) size size) size (laidN n size k) ∧ Below w.heap.size w wr) (fun i _ => size - (intOf i).toNat)
  case atStart => exact ⟨0, Nat.zero_le _, rfl, hown2, hb⟩
  case round =>
    obtain ⟨k, hk, rfl, hownk, hbk⟩ := hrel
    clear hown2 hb
    by_cases hlt : k < size
    · have hck : wr.cell? ⟨w.heap.size, k, none⟩ = some (.int .u8 0) := by rw [hownk.cellAt k (by omega), laidN_at n size k hlt]
      have hfk := hownk.frozenAt k
      go_wp2
      have hst := hownk.stored k (bv (n / 2 ^ (8 * k) % 256))
      rw [laidN_set n size k hlt] at hst
      go_roundw
      case rel => exact ⟨k + 1, by omega, by go_num, by simpa [bv] using hst.1, hbk.setCell (Nat.le_refl _) _⟩
      case measure => simp [intOf]; omega
    · obtain rfl : k = size := by omega
      rw [laidN_full] at hownk
      go_wp2
      go_ret
      exact ⟨_, rfl, ⟨spellN_lt n k, by rw [spellN_length]; exact hownk⟩, hbk⟩
end Go.Proofs.Ytoopnafdpenofaa

/- What the Go function wire.Put answers. -/
namespace Go.Proofs.Ytoopnafdpenofaa
open Go.RowKit

theorem put_no (n size : Int) (w : World) (h : ¬ (1 ≤ size ∧ size ≤ 6)) :
    Calls Try.prog 65 #[.int .i64 n, .int .i64 size] w fun e w' => e = .returned (.tuple #[.slice none 0 0, .int .i64 1]) ∧ w' = w := by
  have hb : (decide (1 ≤ size) && decide (size ≤ 6)) = false := by
    rw [Bool.and_eq_false_iff]; simp; omega
  go_enter Try.func65, Try.ntmps65
  go_wp2_with (go_at_call 72; refine (isSize_any _ _).mono ?_; rintro e w' ⟨rfl, rfl⟩; rw [hb])
  go_ret2
  exact ⟨rfl, rfl⟩
set_option maxHeartbeats 400000 in
theorem put_size (n : Int) (size : Nat) (w : World) (h1 : 1 ≤ size) (h6 : size ≤ 6) :
    Calls Try.prog 65 #[.int .i64 n, .int .i64 size] w fun e w' => ∃ v, e = .returned (.tuple #[v, .int .i64 (putN n size).1]) ∧ Own w' w.heap.size v (putN n size).2 ∧ Below w.heap.size w w' := by
  have hb : (decide (1 ≤ (size : Int)) && decide ((size : Int) ≤ 6)) = true := by simp; omega
  obtain ⟨p, ep, hp, HP⟩ := pow_size size h6
  by_cases hn : 0 ≤ n
  · obtain ⟨n, rfl⟩ := Int.eq_ofNat_of_zero_le hn
    by_cases hlt : n < p
    · rw [putN_ok n size h1 h6 (by omega)]
      clear HP
      go_enter Try.func65, Try.ntmps65
      go_wp2_with (first | (go_at_call 72; refine (isSize_any _ _).mono ?_; rintro e w' ⟨rfl, rfl⟩; rw [hb]) | (go_at_call 73; refine (spell_any _ _ _ h6).mono ?_; rintro e w1 ⟨v, rfl, hown, hbel⟩))
      go_ret2
      exact ⟨_, rfl, hown, hbel⟩
    · rw [putN_range n size h1 h6 (by
        have e : ((2 ^ (8 * size) : Nat) : Int) = (2 : Int) ^ (8 * size) := by rw [Int.natCast_pow]; rfl
        rw [← e]; omega)]
      clear HP
      go_enter Try.func65, Try.ntmps65
      go_wp2_with (first | (go_at_call 72; refine (isSize_any _ _).mono ?_; rintro e w' ⟨rfl, rfl⟩; rw [hb]))
      go_ret2
      exact ⟨_, rfl, Own.nil _ _, Below.refl _ _⟩
  · rw [putN_range n size h1 h6 (by omega)]
    clear HP
    go_enter Try.func65, Try.ntmps65
    go_wp2_with (first | (go_at_call 72; refine (isSize_any _ _).mono ?_; rintro e w' ⟨rfl, rfl⟩; rw [hb]))
    go_ret2
    exact ⟨_, rfl, Own.nil _ _, Below.refl _ _⟩
theorem put_any (n size : Int) (w : World) :
    Calls Try.prog 65 #[.int .i64 n, .int .i64 size] w fun e w' => ∃ v, e = .returned (.tuple #[v, .int .i64 (putN n size).1]) ∧ Own w' w.heap.size v (putN n size).2 ∧ Below w.heap.size w w' := by
  by_cases h : 1 ≤ size ∧ size ≤ 6
  · obtain ⟨k, rfl⟩ := Int.eq_ofNat_of_zero_le (show 0 ≤ size by omega)
    exact put_size n k w (by omega) (by omega)
  · refine (put_no n size w h).mono ?_
    rintro e w' ⟨rfl, rfl⟩
    rw [putN_no n size h]
    exact ⟨_, rfl, Own.nil _ _, Below.refl _ _⟩
end Go.Proofs.Ytoopnafdpenofaa
