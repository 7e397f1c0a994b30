/- Events of package group as bytes and back, over plain data (P1502; by genbym15.py). -/
import Derived.Test.YtiiepmljcjbflaaGreatPGEv
import Derived.Test.YtiiepmljcjbflaaGreatPGXMath
namespace Go.Proofs.YtiiepmljcjbflaaGreat
open Go.RowKit Crcm

theorem valN_inj : ∀ {a b : List Nat}, a.length = b.length → (∀ x ∈ a, x < 256) → (∀ x ∈ b, x < 256) → valN a = valN b → a = b
  | [], [], _, _, _, _ => rfl
  | [], _ :: _, h, _, _, _ => by simp at h
  | _ :: _, [], h, _, _, _ => by simp at h
  | x :: a, y :: b, h, ha, hb, hv => by
    simp only [valN] at hv
    have h1 := ha x (by simp)
    have h2 := hb y (by simp)
    have e1 : x = y := by omega
    have e2 : valN a = valN b := by omega
    rw [e1, valN_inj (by simpa using h) (fun z hz => ha z (by simp [hz])) (fun z hz => hb z (by simp [hz])) e2]
theorem spell_val (l : List Nat) (n : Nat) (hn : l.length = n) (h : ∀ x ∈ l, x < 256) : spellN (valN l) n = l := by
  subst hn
  refine valN_inj (spellN_length _ _) (spellN_lt _ _) h ?_
  rw [valN_spellN]
  exact Nat.mod_eq_of_lt (valN_lt l h)
theorem take_split (l : List Nat) (p n m : Nat) : (l.drop p).take (n + m) = (l.drop p).take n ++ (l.drop (p + n)).take m := by
  rw [List.take_add, List.drop_drop]
theorem drop_split (l : List Nat) (p n : Nat) : l.drop p = (l.drop p).take n ++ l.drop (p + n) := by
  rw [← List.drop_drop, List.take_append_drop]
theorem unframe_frame {l : List Nat} (h : (unframeN l 0).2.2.2 = 0) (ht : (unframeN l 0).2.2.1 = l.length) (h8 : ∀ x ∈ l, x < 256) : ∃ k : Nat, (unframeN l 0).1 = (k : Int) ∧ l = frameBs k (unframeN l 0).2.1 ∧ k < 256 := by
  have h0 : unframeE l 0 = 0 := by
    by_cases hc : unframeE l 0 = 0
    · exact hc
    · have e := unframeN_err l 0 hc
      rw [show ((0 : Nat) : Int) = 0 from rfl] at e
      rw [e] at h
      exact absurd h hc
  have e := unframeN_ok l 0 h0
  rw [show ((0 : Nat) : Int) = 0 from rfl] at e
  rw [e] at ht ⊢
  obtain ⟨z1, z2, z3⟩ := unframeE_zero h0
  have ht : ((0 + 9 + sizeAt l 0 : Nat) : Int) = l.length := ht
  have hb : (bodyAt l 0).length = sizeAt l 0 := drop_take_length l _ _ (by omega)
  have hk : kindAt l 0 < 256 := by
    have h1 := valN_lt ((l.drop 0).take 1) (drop_take_lt h8 0 1)
    have h2 : ((l.drop 0).take 1).length = 1 := drop_take_length l 0 1 (by omega)
    rw [h2] at h1
    exact h1
  refine ⟨kindAt l 0, rfl, ?_, hk⟩
  have e1 : spellN (kindAt l 0) 1 = (l.drop 0).take 1 := spell_val _ 1 (drop_take_length l 0 1 (by omega)) (drop_take_lt h8 0 1)
  have e2 : spellN (bodyAt l 0).length 4 = (l.drop 1).take 4 := by
    rw [hb]
    exact spell_val _ 4 (drop_take_length l 1 4 (by omega)) (drop_take_lt h8 1 4)
  have e3 : toldN (kindAt l 0) (bodyAt l 0) = toldAt l 0 := by
    unfold toldN toldAt
    rw [e1, e2, show 5 + sizeAt l 0 = 1 + (4 + sizeAt l 0) by omega, take_split, Nat.zero_add, take_split, List.append_assoc]
    rfl
  have e4 : spellN (crc (toldAt l 0)) 4 = (l.drop (5 + sizeAt l 0)).take 4 := by
    rw [← z3]
    have q := spell_val ((l.drop (0 + 5 + sizeAt l 0)).take 4) 4 (drop_take_length l _ 4 (by omega)) (drop_take_lt h8 _ 4)
    unfold sumAt
    rw [q, Nat.zero_add]
  show l = frameBs (kindAt l 0) (bodyAt l 0)
  unfold frameBs
  rw [e3, e4]
  unfold toldAt
  have q := take_split l 0 (5 + sizeAt l 0) 4
  rw [Nat.zero_add] at q
  rw [← q, List.drop_zero, List.take_of_length_le (by omega)]

def evZ : Ev := ⟨0, [], 0, 0, 0, 0, 0, 0, false⟩
def yesN (b : Bool) : Nat := if b then 1 else 0
/-- What stands in a frame's body. -/
def bodyT (x : Ev) : List Nat := spellN x.kind.toNat 1 ++ (spellN (yesN x.yes) 1 ++ (spellN x.gen.toNat 6 ++ (spellN x.part.toNat 6 ++ (spellN x.off.toNat 6 ++ (spellN x.prod.toNat 6 ++ (spellN x.ep.toNat 6 ++ (spellN x.now.toNat 6 ++ (spellN (nmS x.mem).size 2 ++ sbytes (nmS x.mem))))))))) 
/-- P1502, PutEvent, of an event that may be. -/
def tellE (x : Ev) : List Nat := frameBs 32 (bodyT x)
/-! ### The reader: where it is, whether it failed -/
def valR (l : List Nat) (s : Int × Bool) (n : Int) : Int := (getN l s.1 n).1
def stpR (l : List Nat) (s : Int × Bool) (n : Int) : Int × Bool := if (getN l s.1 n).2.2 = 0 then ((getN l s.1 n).2.1, s.2) else (s.1, true)
def ysR (l : List Nat) (s : Int × Bool) : Int × Bool := if valR l s 1 ≤ 1 then stpR l s 1 else ((stpR l s 1).1, true)
def txR (l : List Nat) (s : Int × Bool) : Int × Bool := if (getTextN l s.1).2.2 = 0 then ((getTextN l s.1).2.1, s.2) else (s.1, true)
def rs0 : Int × Bool := (0, false)
def rs1 (l : List Nat) : Int × Bool := stpR l rs0 1
def rs2 (l : List Nat) : Int × Bool := ysR l (rs1 l)
def rs3 (l : List Nat) : Int × Bool := stpR l (rs2 l) 6
def rs4 (l : List Nat) : Int × Bool := stpR l (rs3 l) 6
def rs5 (l : List Nat) : Int × Bool := stpR l (rs4 l) 6
def rs6 (l : List Nat) : Int × Bool := stpR l (rs5 l) 6
def rs7 (l : List Nat) : Int × Bool := stpR l (rs6 l) 6
def rs8 (l : List Nat) : Int × Bool := stpR l (rs7 l) 6
def rs9 (l : List Nat) : Int × Bool := txR l (rs8 l)
/-- What it reads. -/
def rdE (l : List Nat) : Ev := ⟨valR l rs0 1, (getTextN l (rs8 l).1).1.data.toList, valR l (rs2 l) 6, valR l (rs3 l) 6, valR l (rs4 l) 6, valR l (rs5 l) 6, valR l (rs6 l) 6, valR l (rs7 l) 6, valR l (rs1 l) 1 == 1⟩
theorem stp_back {l A B : List Nat} {n size p : Nat} (hl : l = A ++ (spellN n size ++ B)) (hp : A.length = p) (h1 : 1 ≤ size) (h6 : size ≤ 6) (hn : n < 2 ^ (8 * size)) : valR l ((p : Int), false) (size : Int) = (n : Int) ∧ stpR l ((p : Int), false) (size : Int) = (((p + size : Nat) : Int), false) := by
  have h := get_back A B n size p hp h1 h6 hn
  rw [← hl] at h
  unfold valR stpR
  rw [h]
  exact ⟨rfl, rfl⟩
theorem stp_st {l : List Nat} {s : Int × Bool} {n : Int} (h : (stpR l s n).2 = false) : s.2 = false := by
  unfold stpR at h
  split at h
  · exact h
  · cases h
theorem stp_ok {l : List Nat} {s : Int × Bool} {n p : Nat} (hs : s = ((p : Int), false)) (h1 : 1 ≤ n ∧ n ≤ 6) (h : (stpR l s (n : Int)).2 = false) : p + n ≤ l.length ∧ stpR l s (n : Int) = (((p + n : Nat) : Int), false) ∧ valR l s (n : Int) = ((valN ((l.drop p).take n) : Nat) : Int) := by
  subst hs
  unfold stpR at h ⊢
  unfold valR
  dsimp only at h ⊢
  by_cases hc : p + n ≤ l.length
  · rw [getN_ok l p n h1 hc]
    exact ⟨hc, rfl, rfl⟩
  · rw [getN_end l p n (by omega) (by omega)] at h
    simp at h
/-- What is in the bytes of an event that may be. -/
structure FitE (x : Ev) : Prop where
  kind : 0 ≤ x.kind ∧ x.kind < 256
  gen : 0 ≤ x.gen ∧ x.gen < 281474976710656
  part : 0 ≤ x.part ∧ x.part < 281474976710656
  off : 0 ≤ x.off ∧ x.off < 281474976710656
  prod : 0 ≤ x.prod ∧ x.prod < 281474976710656
  ep : 0 ≤ x.ep ∧ x.ep < 281474976710656
  now : 0 ≤ x.now ∧ x.now < 281474976710656
  name : x.mem.length ≤ 64
theorem may_fit {x : Ev} (h : x.may) : FitE x := by
  obtain ⟨hk, ht, hn, ⟨h1, h2, h3, h4, h5, h6⟩, -, -⟩ := h
  refine ⟨by omega, h1, h2, h3, h4, h5, h6, ?_⟩
  cases hm : x.isM with
  | true =>
    rw [hm] at hn
    unfold nameOk at hn
    simp at hn
    exact hn.2
  | false =>
    have h57 : x.kind = 5 ∨ x.kind = 7 := by
      unfold Ev.isM at hm
      simp at hm
      by_cases h5 : x.kind = 5
      · exact Or.inl h5
      · exact Or.inr (hm h5)
    have h7 : x.mem = x.taken.mem := congrArg Ev.mem ht
    have h8 : x.taken.mem = [] := by
      unfold Ev.taken
      rcases h57 with h | h <;> rw [h] <;> rfl
    rw [h7, h8]
    simp
theorem nmS_sizeB (s : Nm) : (nmS s).size = s.length := by unfold nmS; simp [ByteArray.size]
theorem bodyT_len (x : Ev) : (bodyT x).length = 40 + x.mem.length := by
  unfold bodyT
  simp only [List.length_append, spellN_length, sbytes_length, nmS_sizeB]
  omega
theorem rd_tell {x : Ev} (hf : FitE x) : rs8 (bodyT x) = (38, false) ∧ getTextN (bodyT x) 38 = (nmS x.mem, ((bodyT x).length : Int), 0) ∧ rs9 (bodyT x) = (((bodyT x).length : Int), false) ∧ rdE (bodyT x) = x ∧
    (valR (bodyT x) (0, false) 1 = x.kind ∧ valR (bodyT x) (1, false) 1 = (yesN x.yes : Int) ∧ valR (bodyT x) (2, false) 6 = x.gen ∧ valR (bodyT x) (8, false) 6 = x.part ∧ valR (bodyT x) (14, false) 6 = x.off ∧ valR (bodyT x) (20, false) 6 = x.prod ∧ valR (bodyT x) (26, false) 6 = x.ep ∧ valR (bodyT x) (32, false) 6 = x.now) := by
  obtain ⟨k, nm, a, b, c, d, e, f, y⟩ := x
  obtain ⟨hk, ha, hb, hc, hd, he, hff, hn⟩ := hf
  dsimp only at hk ha hb hc hd he hff hn
  obtain ⟨k, rfl⟩ := Int.eq_ofNat_of_zero_le hk.1
  obtain ⟨a, rfl⟩ := Int.eq_ofNat_of_zero_le ha.1
  obtain ⟨b, rfl⟩ := Int.eq_ofNat_of_zero_le hb.1
  obtain ⟨c, rfl⟩ := Int.eq_ofNat_of_zero_le hc.1
  obtain ⟨d, rfl⟩ := Int.eq_ofNat_of_zero_le hd.1
  obtain ⟨e, rfl⟩ := Int.eq_ofNat_of_zero_le he.1
  obtain ⟨f, rfl⟩ := Int.eq_ofNat_of_zero_le hff.1
  have hy : yesN y < 256 := by unfold yesN; split <;> omega
  have hlen := bodyT_len ⟨(k : Int), nm, (a : Int), (b : Int), (c : Int), (d : Int), (e : Int), (f : Int), y⟩
  have hL : bodyT ⟨(k : Int), nm, (a : Int), (b : Int), (c : Int), (d : Int), (e : Int), (f : Int), y⟩ = spellN k 1 ++ (spellN (yesN y) 1 ++ (spellN a 6 ++ (spellN b 6 ++ (spellN c 6 ++ (spellN d 6 ++ (spellN e 6 ++ (spellN f 6 ++ (spellN (nmS nm).size 2 ++ sbytes (nmS nm))))))))) := rfl
  generalize bodyT ⟨(k : Int), nm, (a : Int), (b : Int), (c : Int), (d : Int), (e : Int), (f : Int), y⟩ = l at *
  dsimp only at hlen
  have s0 := stp_back (A := []) (p := 0) (size := 1) (n := k) (l := l) (B := spellN (yesN y) 1 ++ (spellN a 6 ++ (spellN b 6 ++ (spellN c 6 ++ (spellN d 6 ++ (spellN e 6 ++ (spellN f 6 ++ (spellN (nmS nm).size 2 ++ sbytes (nmS nm))))))))) (by rw [hL]; rfl) rfl (by omega) (by omega) (by omega)
  have s1 := stp_back (A := spellN k 1) (p := 1) (size := 1) (n := yesN y) (l := l) (B := spellN a 6 ++ (spellN b 6 ++ (spellN c 6 ++ (spellN d 6 ++ (spellN e 6 ++ (spellN f 6 ++ (spellN (nmS nm).size 2 ++ sbytes (nmS nm)))))))) hL (spellN_length _ _) (by omega) (by omega) (by omega)
  have s2 := stp_back (A := spellN k 1 ++ spellN (yesN y) 1) (p := 2) (size := 6) (n := a) (l := l) (B := spellN b 6 ++ (spellN c 6 ++ (spellN d 6 ++ (spellN e 6 ++ (spellN f 6 ++ (spellN (nmS nm).size 2 ++ sbytes (nmS nm))))))) (by rw [hL]; simp only [List.append_assoc]) (by simp [spellN_length]) (by omega) (by omega) (by omega)
  have s3 := stp_back (A := spellN k 1 ++ spellN (yesN y) 1 ++ spellN a 6) (p := 8) (size := 6) (n := b) (l := l) (B := spellN c 6 ++ (spellN d 6 ++ (spellN e 6 ++ (spellN f 6 ++ (spellN (nmS nm).size 2 ++ sbytes (nmS nm)))))) (by rw [hL]; simp only [List.append_assoc]) (by simp [spellN_length]) (by omega) (by omega) (by omega)
  have s4 := stp_back (A := spellN k 1 ++ spellN (yesN y) 1 ++ spellN a 6 ++ spellN b 6) (p := 14) (size := 6) (n := c) (l := l) (B := spellN d 6 ++ (spellN e 6 ++ (spellN f 6 ++ (spellN (nmS nm).size 2 ++ sbytes (nmS nm))))) (by rw [hL]; simp only [List.append_assoc]) (by simp [spellN_length]) (by omega) (by omega) (by omega)
  have s5 := stp_back (A := spellN k 1 ++ spellN (yesN y) 1 ++ spellN a 6 ++ spellN b 6 ++ spellN c 6) (p := 20) (size := 6) (n := d) (l := l) (B := spellN e 6 ++ (spellN f 6 ++ (spellN (nmS nm).size 2 ++ sbytes (nmS nm)))) (by rw [hL]; simp only [List.append_assoc]) (by simp [spellN_length]) (by omega) (by omega) (by omega)
  have s6 := stp_back (A := spellN k 1 ++ spellN (yesN y) 1 ++ spellN a 6 ++ spellN b 6 ++ spellN c 6 ++ spellN d 6) (p := 26) (size := 6) (n := e) (l := l) (B := spellN f 6 ++ (spellN (nmS nm).size 2 ++ sbytes (nmS nm))) (by rw [hL]; simp only [List.append_assoc]) (by simp [spellN_length]) (by omega) (by omega) (by omega)
  have s7 := stp_back (A := spellN k 1 ++ spellN (yesN y) 1 ++ spellN a 6 ++ spellN b 6 ++ spellN c 6 ++ spellN d 6 ++ spellN e 6) (p := 32) (size := 6) (n := f) (l := l) (B := spellN (nmS nm).size 2 ++ sbytes (nmS nm)) (by rw [hL]; simp only [List.append_assoc]) (by simp [spellN_length]) (by omega) (by omega) (by omega)
  have st := text_back (spellN k 1 ++ spellN (yesN y) 1 ++ spellN a 6 ++ spellN b 6 ++ spellN c 6 ++ spellN d 6 ++ spellN e 6 ++ spellN f 6) [] (nmS nm) 38 (by simp [spellN_length]) (by rw [nmS_sizeB]; omega)
  rw [List.append_nil, show spellN k 1 ++ spellN (yesN y) 1 ++ spellN a 6 ++ spellN b 6 ++ spellN c 6 ++ spellN d 6 ++ spellN e 6 ++ spellN f 6 ++ (spellN (nmS nm).size 2 ++ sbytes (nmS nm)) = l by rw [hL]; simp only [List.append_assoc]] at st
  have st : getTextN l 38 = (nmS nm, (l.length : Int), 0) := by
    rw [show (38 : Int) = ((38 : Nat) : Int) from rfl, st, hlen, nmS_sizeB]
  have e1 : rs1 l = (1, false) := s0.2
  have e2 : rs2 l = (2, false) := by
    unfold rs2 ysR
    rw [e1]
    rw [show ((1 : Int), false) = (((1 : Nat) : Int), false) from rfl, show (1 : Int) = ((1 : Nat) : Int) from rfl, s1.1, s1.2, if_pos (by unfold yesN; split <;> omega)]
    rfl
  have e3 : rs3 l = (8, false) := by unfold rs3; rw [e2]; exact s2.2
  have e4 : rs4 l = (14, false) := by unfold rs4; rw [e3]; exact s3.2
  have e5 : rs5 l = (20, false) := by unfold rs5; rw [e4]; exact s4.2
  have e6 : rs6 l = (26, false) := by unfold rs6; rw [e5]; exact s5.2
  have e7 : rs7 l = (32, false) := by unfold rs7; rw [e6]; exact s6.2
  have e8 : rs8 l = (38, false) := by unfold rs8; rw [e7]; exact s7.2
  have e9 : rs9 l = ((l.length : Int), false) := by unfold rs9 txR; rw [e8]; dsimp only; rw [st]; rfl
  refine ⟨e8, st, e9, ?_, s0.1, s1.1, s2.1, s3.1, s4.1, s5.1, s6.1, s7.1⟩
  have f0 : valR l rs0 1 = (k : Int) := s0.1
  have f1 : valR l (rs1 l) 1 = (yesN y : Int) := by rw [e1]; exact s1.1
  have f2 : valR l (rs2 l) 6 = (a : Int) := by rw [e2]; exact s2.1
  have f3 : valR l (rs3 l) 6 = (b : Int) := by rw [e3]; exact s3.1
  have f4 : valR l (rs4 l) 6 = (c : Int) := by rw [e4]; exact s4.1
  have f5 : valR l (rs5 l) 6 = (d : Int) := by rw [e5]; exact s5.1
  have f6 : valR l (rs6 l) 6 = (e : Int) := by rw [e6]; exact s6.1
  have f7 : valR l (rs7 l) 6 = (f : Int) := by rw [e7]; exact s7.1
  have f8 : (getTextN l (rs8 l).1).1.data.toList = nm := by
    rw [e8]; dsimp only; rw [st]; unfold nmS; simp
  have f9 : ((yesN y : Int) == 1) = y := by cases y <;> rfl
  unfold rdE
  rw [f0, f1, f2, f3, f4, f5, f6, f7, f8, f9]
theorem text_st {l : List Nat} {s : Int × Bool} (h : (txR l s).2 = false) : s.2 = false ∧ (getTextN l s.1).2.2 = 0 := by
  unfold txR at h
  split at h
  · rename_i h1; exact ⟨h, h1⟩
  · cases h
theorem ys_st {l : List Nat} {s : Int × Bool} (h : (ysR l s).2 = false) : valR l s 1 ≤ 1 ∧ ysR l s = stpR l s 1 := by
  unfold ysR at h ⊢
  split at h
  · rename_i h1; exact ⟨h1, if_pos h1⟩
  · cases h
theorem pair_eq {s : Int × Bool} {p : Int} (h1 : s.1 = p) (h2 : s.2 = false) : s = (p, false) := by cases s; simp at h1 h2; rw [h1, h2]
/-- What was read without a fault is what stands there. -/
theorem rd_ok {l : List Nat} (h8 : ∀ x ∈ l, x < 256) (h : rs9 l = ((l.length : Int), false)) : bodyT (rdE l) = l := by
  have t2 : (rs9 l).2 = false := by rw [h]
  obtain ⟨g8, ht⟩ := text_st t2
  have g7 := stp_st g8
  have g6 := stp_st g7
  have g5 := stp_st g6
  have g4 := stp_st g5
  have g3 := stp_st g4
  have g2 := stp_st g3
  obtain ⟨hy, hy2⟩ := ys_st g2
  have g2' : (stpR l (rs1 l) 1).2 = false := by rw [← hy2]; exact g2
  have g1 := stp_st g2'
  obtain ⟨b0, e1, v0⟩ := stp_ok (l := l) (s := rs0) (n := 1) (p := 0) rfl (by omega) g1
  obtain ⟨b1, e2, v1⟩ := stp_ok (l := l) (s := rs1 l) (n := 1) (p := 1) e1 (by omega) g2'
  have e2' : rs2 l = (((2 : Nat) : Int), false) := hy2.trans e2
  obtain ⟨b2, e3, v2⟩ := stp_ok (l := l) (s := rs2 l) (n := 6) (p := 2) e2' (by omega) g3
  obtain ⟨b3, e4, v3⟩ := stp_ok (l := l) (s := rs3 l) (n := 6) (p := 8) e3 (by omega) g4
  obtain ⟨b4, e5, v4⟩ := stp_ok (l := l) (s := rs4 l) (n := 6) (p := 14) e4 (by omega) g5
  obtain ⟨b5, e6, v5⟩ := stp_ok (l := l) (s := rs5 l) (n := 6) (p := 20) e5 (by omega) g6
  obtain ⟨b6, e7, v6⟩ := stp_ok (l := l) (s := rs6 l) (n := 6) (p := 26) e6 (by omega) g7
  obtain ⟨b7, e8, v7⟩ := stp_ok (l := l) (s := rs7 l) (n := 6) (p := 32) e7 (by omega) g8
  have e8' : rs8 l = (((38 : Nat) : Int), false) := e8
  rw [e8'] at ht
  dsimp only at ht
  have hfit : 38 + 2 + lenAt l 38 ≤ l.length := by
    by_cases hc : 38 + 2 + lenAt l 38 ≤ l.length
    · exact hc
    · rw [getTextN_end l 38 hc] at ht; exact absurd ht (by decide)
  have hg := getTextN_ok l 38 hfit
  have hlen : 38 + 2 + lenAt l 38 = l.length := by
    have h9 : rs9 l = _ := h
    unfold rs9 txR at h9
    rw [e8'] at h9
    dsimp only at h9
    rw [hg] at h9
    dsimp only at h9
    rw [if_pos rfl] at h9
    have := congrArg Prod.fst h9
    dsimp only at this
    omega
  have q0 : spellN (rdE l).kind.toNat 1 = (l.drop 0).take 1 := by
    have : (rdE l).kind = _ := v0
    rw [this, Int.toNat_natCast]
    exact spell_val _ 1 (drop_take_length l 0 1 (by omega)) (drop_take_lt h8 0 1)
  have hv1 : valR l (rs1 l) 1 = ((valN ((l.drop 1).take 1) : Nat) : Int) := v1
  have q1 : spellN (yesN (rdE l).yes) 1 = (l.drop 1).take 1 := by
    have hyb : (rdE l).yes = (valR l (rs1 l) 1 == 1) := rfl
    rw [hv1] at hy hyb
    have : yesN (rdE l).yes = valN ((l.drop 1).take 1) := by
      rw [hyb]
      rcases (show valN ((l.drop 1).take 1) = 0 ∨ valN ((l.drop 1).take 1) = 1 by omega) with e | e <;> rw [e] <;> rfl
    rw [this]
    exact spell_val _ 1 (drop_take_length l 1 1 (by omega)) (drop_take_lt h8 1 1)
  have q2 : spellN (rdE l).gen.toNat 6 = (l.drop 2).take 6 := by
    have : (rdE l).gen = _ := v2
    rw [this, Int.toNat_natCast]
    exact spell_val _ 6 (drop_take_length l 2 6 (by omega)) (drop_take_lt h8 2 6)
  have q3 : spellN (rdE l).part.toNat 6 = (l.drop 8).take 6 := by
    have : (rdE l).part = _ := v3
    rw [this, Int.toNat_natCast]
    exact spell_val _ 6 (drop_take_length l 8 6 (by omega)) (drop_take_lt h8 8 6)
  have q4 : spellN (rdE l).off.toNat 6 = (l.drop 14).take 6 := by
    have : (rdE l).off = _ := v4
    rw [this, Int.toNat_natCast]
    exact spell_val _ 6 (drop_take_length l 14 6 (by omega)) (drop_take_lt h8 14 6)
  have q5 : spellN (rdE l).prod.toNat 6 = (l.drop 20).take 6 := by
    have : (rdE l).prod = _ := v5
    rw [this, Int.toNat_natCast]
    exact spell_val _ 6 (drop_take_length l 20 6 (by omega)) (drop_take_lt h8 20 6)
  have q6 : spellN (rdE l).ep.toNat 6 = (l.drop 26).take 6 := by
    have : (rdE l).ep = _ := v6
    rw [this, Int.toNat_natCast]
    exact spell_val _ 6 (drop_take_length l 26 6 (by omega)) (drop_take_lt h8 26 6)
  have q7 : spellN (rdE l).now.toNat 6 = (l.drop 32).take 6 := by
    have : (rdE l).now = _ := v7
    rw [this, Int.toNat_natCast]
    exact spell_val _ 6 (drop_take_length l 32 6 (by omega)) (drop_take_lt h8 32 6)
  have qn : nmS (rdE l).mem = bstr ((l.drop 40).take (lenAt l 38)) := by
    have : (rdE l).mem = (getTextN l (rs8 l).1).1.data.toList := rfl
    rw [this, e8']
    dsimp only
    rw [hg]
    rfl
  have q9 : sbytes (nmS (rdE l).mem) = l.drop 40 := by
    rw [qn, sbytes_bstr _ (drop_take_lt h8 40 _)]
    exact List.take_of_length_le (by rw [List.length_drop]; omega)
  have q8 : spellN (nmS (rdE l).mem).size 2 = (l.drop 38).take 2 := by
    have : (nmS (rdE l).mem).size = lenAt l 38 := by
      rw [← sbytes_length, q9, List.length_drop]; omega
    rw [this]
    exact spell_val _ 2 (drop_take_length l 38 2 (by omega)) (drop_take_lt h8 38 2)
  unfold bodyT
  rw [q0, q1, q2, q3, q4, q5, q6, q7, q8, q9]
  conv => rhs; rw [← List.drop_zero (l := l), drop_split l 0 1, drop_split l (0 + 1) 1, drop_split l (0 + 1 + 1) 6, drop_split l (0 + 1 + 1 + 6) 6, drop_split l (0 + 1 + 1 + 6 + 6) 6, drop_split l (0 + 1 + 1 + 6 + 6 + 6) 6, drop_split l (0 + 1 + 1 + 6 + 6 + 6 + 6) 6, drop_split l (0 + 1 + 1 + 6 + 6 + 6 + 6 + 6) 6, drop_split l (0 + 1 + 1 + 6 + 6 + 6 + 6 + 6 + 6) 2]
/-- What GetEvent may answer. -/
def GotT (l : List Nat) (x : Ev) (e : Int) : Prop := (e = 0 ∧ x.may ∧ l = tellE x) ∨ (e = 22 ∧ x = evZ ∧ ∀ y : Ev, y.may → l ≠ tellE y)
theorem unframe_tell {x : Ev} (h : x.may) : unframeN (tellE x) 0 = (32, bodyT x, ((tellE x).length : Int), 0) := by
  have hf := may_fit h
  have hb := bodyT_len x
  have hn := hf.name
  have h1 := frame_back [] [] (bodyT x) 32 0 rfl (by omega) (by omega)
  simp only [List.nil_append, List.append_nil] at h1
  unfold tellE
  rw [show (0 : Int) = ((0 : Nat) : Int) from rfl, h1, frameBs_length]
  congr 3
theorem tell_inj {x y : Ev} (hx : x.may) (hy : y.may) (h : tellE x = tellE y) : x = y := by
  have h1 := unframe_tell hx
  have h2 := unframe_tell hy
  rw [h, h2] at h1
  have h3 : bodyT y = bodyT x := congrArg (fun q => q.2.1) h1
  rw [← (rd_tell (may_fit hx)).2.2.2.1, ← h3, (rd_tell (may_fit hy)).2.2.2.1]
theorem GotT.uniq {l : List Nat} {x y : Ev} {e f : Int} (h : GotT l x e) (h2 : GotT l y f) : x = y ∧ e = f := by
  rcases h with ⟨rfl, h3, h4⟩ | ⟨rfl, rfl, h3⟩
  · rcases h2 with ⟨rfl, h5, h6⟩ | ⟨-, -, h5⟩
    · exact ⟨tell_inj h3 h5 (h4.symm.trans h6), rfl⟩
    · exact absurd h4 (h5 x h3)
  · rcases h2 with ⟨-, h5, h6⟩ | ⟨rfl, rfl, -⟩
    · exact absurd h6 (h3 y h5)
    · exact ⟨rfl, rfl⟩
/-- The program's answer. -/
def accP (l : List Nat) : Prop := (unframeN l 0).2.2.2 = 0 ∧ (unframeN l 0).1 = 32 ∧ (unframeN l 0).2.2.1 = l.length ∧ rs9 (unframeN l 0).2.1 = (((unframeN l 0).2.1.length : Int), false) ∧ (rdE (unframeN l 0).2.1).may
theorem gotP {l : List Nat} (h8 : ∀ x ∈ l, x < 256) (h : accP l) : GotT l (rdE (unframeN l 0).2.1) 0 := by
  obtain ⟨h1, h2, h3, h4, h5⟩ := h
  refine Or.inl ⟨rfl, h5, ?_⟩
  obtain ⟨k, hk, he, -⟩ := unframe_frame h1 h3 h8
  have hk33 : k = 32 := by rw [h2] at hk; omega
  subst hk33
  have hb : ∀ x ∈ (unframeN l 0).2.1, x < 256 := fun x hx => h8 x (by
    rw [he]
    unfold frameBs toldN
    simp [hx])
  unfold tellE
  rw [rd_ok hb h4]
  exact he
theorem gotP_no {l : List Nat} (h : ¬ accP l) : GotT l evZ 22 := by
  refine Or.inr ⟨rfl, rfl, fun y hy he => h ?_⟩
  subst he
  have h1 := unframe_tell hy
  have h2 := rd_tell (may_fit hy)
  unfold accP
  rw [h1]
  exact ⟨rfl, rfl, rfl, h2.2.2.1, by rw [h2.2.2.2.1]; exact hy⟩
/-- What the document reads. -/
def dE (b : List Nat) : Ev := ⟨(b.getD 0 0 : Nat), (getTextN b 38).1.data.toList, (getN b 2 6).1, (getN b 8 6).1, (getN b 14 6).1, (getN b 20 6).1, (getN b 26 6).1, (getN b 32 6).1, b.getD 1 0 == 1⟩
def accD (l : List Nat) : Prop := (unframeN l 0).2.2.2 = 0 ∧ (unframeN l 0).1 = 32 ∧ 40 ≤ (unframeN l 0).2.1.length ∧ (getTextN (unframeN l 0).2.1 38).2.2 = 0 ∧ (dE (unframeN l 0).2.1).may ∧ tellE (dE (unframeN l 0).2.1) = l
theorem gotD {l : List Nat} (h : accD l) : GotT l (dE (unframeN l 0).2.1) 0 := Or.inl ⟨rfl, h.2.2.2.2.1, h.2.2.2.2.2.symm⟩
theorem dE_tell {y : Ev} (h : FitE y) : dE (bodyT y) = y := by
  obtain ⟨-, h2, -, -, v0, v1, v2, v3, v4, v5, v6, v7⟩ := rd_tell h
  have hl := bodyT_len y
  have g0 : (((bodyT y).getD 0 0 : Nat) : Int) = y.kind := by
    rw [← v0]
    unfold valR
    have := getN_ok (bodyT y) 0 1 (by omega) (by omega)
    rw [show ((0 : Int), false).1 = ((0 : Nat) : Int) from rfl, show (1 : Int) = ((1 : Nat) : Int) from rfl, this]
    have := kindAt_eq (bodyT y) 0 (by omega)
    unfold kindAt at this
    rw [this]
  have g1 : (((bodyT y).getD 1 0 : Nat) : Int) = (yesN y.yes : Int) := by
    rw [← v1]
    unfold valR
    have := getN_ok (bodyT y) 1 1 (by omega) (by omega)
    rw [show ((1 : Int), false).1 = ((1 : Nat) : Int) from rfl, show (1 : Int) = ((1 : Nat) : Int) from rfl, this]
    have := kindAt_eq (bodyT y) 1 (by omega)
    unfold kindAt at this
    rw [this]
  have g1' : ((bodyT y).getD 1 0 == 1) = y.yes := by
    rw [Int.natCast_inj] at g1
    rw [g1]
    cases y.yes <;> rfl
  have gn : (getTextN (bodyT y) 38).1.data.toList = y.mem := by rw [h2]; unfold nmS; simp
  have g2 : (getN (bodyT y) 2 6).1 = y.gen := v2
  have g3 : (getN (bodyT y) 8 6).1 = y.part := v3
  have g4 : (getN (bodyT y) 14 6).1 = y.off := v4
  have g5 : (getN (bodyT y) 20 6).1 = y.prod := v5
  have g6 : (getN (bodyT y) 26 6).1 = y.ep := v6
  have g7 : (getN (bodyT y) 32 6).1 = y.now := v7
  unfold dE
  rw [g0, g1', gn, g2, g3, g4, g5, g6, g7]
theorem gotD_no {l : List Nat} (h : ¬ accD l) : GotT l evZ 22 := by
  refine Or.inr ⟨rfl, rfl, fun y hy he => h ?_⟩
  subst he
  have h1 := unframe_tell hy
  have h2 := rd_tell (may_fit hy)
  have h3 := dE_tell (may_fit hy)
  unfold accD
  rw [h1]
  dsimp only
  refine ⟨rfl, rfl, by rw [bodyT_len]; omega, by rw [h2.2.1], by rw [h3]; exact hy, by rw [h3]⟩
end Go.Proofs.YtiiepmljcjbflaaGreat
