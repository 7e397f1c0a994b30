/- The walk of the statement WireBack, all cases together. -/
import Derived.Test.YthfildanpcmfaaaBackWalk0
import Derived.Test.YthfildanpcmfaaaBackWalk1
import Derived.Test.YthfildanpcmfaaaBackWalk2
import Derived.Test.YthfildanpcmfaaaBackWalk3
import Derived.Test.YthfildanpcmfaaaBackWalk4
import Derived.Test.YthfildanpcmfaaaBackWalk5
import Derived.Test.YthfildanpcmfaaaBackWalk6
import Derived.Test.YthfildanpcmfaaaBackWalk7
namespace Go.Proofs.Ythfildanpcmfaaa
open Go.RowKit Crcm

theorem put_facts (n size : Int) (e1 : Int) (l1 : List Nat) (al : Nat) (h : putN n size = (e1, l1)) : l1.length ≤ 6 ∧
    ∀ A B : List Nat, A.length = al → e1 = 0 → ∃ sz : Nat, size = sz ∧ l1.length = sz ∧ getN (A ++ (l1 ++ B)) al sz = (n, ((al + l1.length : Nat) : Int), 0) := by
  unfold putN at h
  by_cases h1 : 1 ≤ size ∧ size ≤ 6
  · rw [if_pos h1] at h
    by_cases h2 : 0 ≤ n ∧ n < 2 ^ (8 * size.toNat)
    · rw [if_pos h2] at h
      obtain ⟨rfl, rfl⟩ := Prod.mk.injEq .. ▸ h
      obtain ⟨sz, rfl⟩ := Int.eq_ofNat_of_zero_le (show 0 ≤ size by omega)
      obtain ⟨m, rfl⟩ := Int.eq_ofNat_of_zero_le h2.1
      rw [Int.toNat_natCast, Int.toNat_natCast, spellN_length]
      refine ⟨by omega, fun A B hA _ => ⟨sz, rfl, rfl, ?_⟩⟩
      have e : ((2 ^ (8 * sz) : Nat) : Int) = (2 : Int) ^ (8 * sz) := by rw [Int.natCast_pow]; rfl
      exact get_back A B m sz al hA (by omega) (by omega) (by have := h2.2; rw [Int.toNat_natCast, ← e] at this; omega)
    · rw [if_neg h2] at h
      obtain ⟨rfl, rfl⟩ := Prod.mk.injEq .. ▸ h
      exact ⟨by simp, fun A B _ h => (by omega)⟩
  · rw [if_neg h1] at h
    obtain ⟨rfl, rfl⟩ := Prod.mk.injEq .. ▸ h
    exact ⟨by simp, fun A B _ h => (by omega)⟩
theorem text_facts (s : ByteArray) (e2 : Int) (l2 : List Nat) (h : textN s = (e2, l2)) : l2.length ≤ 65537 ∧
    ∀ (A B : List Nat) (p : Nat), A.length = p → e2 = 0 → getTextN (A ++ (l2 ++ B)) p = (s, ((p + l2.length : Nat) : Int), 0) := by
  by_cases h1 : s.size ≤ 65535
  · rw [textN_ok s h1] at h
    obtain ⟨rfl, rfl⟩ := Prod.mk.injEq .. ▸ h
    have hl : (spellN s.size 2 ++ sbytes s).length = 2 + s.size := by simp [spellN_length, sbytes_length]
    refine ⟨by omega, fun A B p hp _ => ?_⟩
    rw [text_back A B s p hp h1, hl, Nat.add_assoc]
  · rw [textN_no s h1] at h
    obtain ⟨rfl, rfl⟩ := Prod.mk.injEq .. ▸ h
    exact ⟨by simp, fun A B p _ h => (by omega)⟩
theorem frame_facts (kind : Int) (body : List Nat) (e3 : Int) (l3 : List Nat) (h : frameN kind body = (e3, l3)) : l3.length ≤ 65545 ∧
    ∀ (A B : List Nat) (p : Nat), A.length = p → e3 = 0 → unframeN (A ++ (l3 ++ B)) p = (kind, body, ((p + l3.length : Nat) : Int), 0) := by
  by_cases h1 : 0 ≤ kind ∧ kind ≤ 255
  · by_cases h2 : body.length ≤ 65536
    · obtain ⟨k, rfl⟩ := Int.eq_ofNat_of_zero_le h1.1
      rw [frameN_ok k body (by omega) h2] at h
      obtain ⟨rfl, rfl⟩ := Prod.mk.injEq .. ▸ h
      have hl := frameBs_length k body
      refine ⟨by omega, fun A B p hp _ => ?_⟩
      rw [frame_back A B body k p hp (by omega) h2, hl, Nat.add_assoc]
    · rw [frameN_size kind body h1 h2] at h
      obtain ⟨rfl, rfl⟩ := Prod.mk.injEq .. ▸ h
      exact ⟨by simp, fun A B p _ h => (by omega)⟩
  · rw [frameN_kind kind body h1] at h
    obtain ⟨rfl, rfl⟩ := Prod.mk.injEq .. ▸ h
    exact ⟨by simp, fun A B p _ h => (by omega)⟩

theorem back_walk (n size : Int) (s : ByteArray) (kind : Int) (bo : Option Addr) (bol boc : Nat) (body : List Nat) (ao : Option Addr) (al ac : Nat) (ahead : List Nat) (eo : Option Addr) (el ec : Nat) (behind : List Nat) (w : World)
    (pb : Part.ok w ⟨bo, bol, boc, body⟩) (pa : Part.ok w ⟨ao, al, ac, ahead⟩) (pe : Part.ok w ⟨eo, el, ec, behind⟩) (hs : s.size ≤ 1048576) (hb : bol ≤ 1048576) (ha : al ≤ 1048576) (he : el ≤ 1048576) :
    Calls Try.prog 6 #[.int .i64 n, .int .i64 size, .string s, .int .i64 kind, .slice bo bol boc, .slice ao al ac, .slice eo el ec] w fun e w' => e = .returned (.bool true) ∧ Below w.heap.size w w' := by
  obtain ⟨e1, l1, h1⟩ : ∃ e1 l1, putN n size = (e1, l1) := ⟨_, _, rfl⟩
  obtain ⟨e2, l2, h2⟩ : ∃ e2 l2, textN s = (e2, l2) := ⟨_, _, rfl⟩
  obtain ⟨e3, l3, h3⟩ : ∃ e3 l3, frameN kind body = (e3, l3) := ⟨_, _, rfl⟩
  obtain ⟨k1, r1⟩ := put_facts n size e1 l1 al h1
  obtain ⟨k2, r2⟩ := text_facts s e2 l2 h2
  obtain ⟨k3, r3⟩ := frame_facts kind body e3 l3 h3
  cases q1 : (e1 == 0) <;> cases q2 : (e2 == 0) <;> cases q3 : (e3 == 0)
  · exact back_0 n size s kind bo bol boc body ao al ac ahead eo el ec behind l1 l2 l3 _ _ _ e1 e2 e3 w hs h1 h2 h3 rfl rfl rfl k1 k2 k3 q1 q2 q3 r1 r2 r3 pb pa pe hb ha he
  · exact back_4 n size s kind bo bol boc body ao al ac ahead eo el ec behind l1 l2 l3 _ _ _ e1 e2 e3 w hs h1 h2 h3 rfl rfl rfl k1 k2 k3 q1 q2 q3 r1 r2 r3 pb pa pe hb ha he
  · exact back_2 n size s kind bo bol boc body ao al ac ahead eo el ec behind l1 l2 l3 _ _ _ e1 e2 e3 w hs h1 h2 h3 rfl rfl rfl k1 k2 k3 q1 q2 q3 r1 r2 r3 pb pa pe hb ha he
  · exact back_6 n size s kind bo bol boc body ao al ac ahead eo el ec behind l1 l2 l3 _ _ _ e1 e2 e3 w hs h1 h2 h3 rfl rfl rfl k1 k2 k3 q1 q2 q3 r1 r2 r3 pb pa pe hb ha he
  · exact back_1 n size s kind bo bol boc body ao al ac ahead eo el ec behind l1 l2 l3 _ _ _ e1 e2 e3 w hs h1 h2 h3 rfl rfl rfl k1 k2 k3 q1 q2 q3 r1 r2 r3 pb pa pe hb ha he
  · exact back_5 n size s kind bo bol boc body ao al ac ahead eo el ec behind l1 l2 l3 _ _ _ e1 e2 e3 w hs h1 h2 h3 rfl rfl rfl k1 k2 k3 q1 q2 q3 r1 r2 r3 pb pa pe hb ha he
  · exact back_3 n size s kind bo bol boc body ao al ac ahead eo el ec behind l1 l2 l3 _ _ _ e1 e2 e3 w hs h1 h2 h3 rfl rfl rfl k1 k2 k3 q1 q2 q3 r1 r2 r3 pb pa pe hb ha he
  · exact back_7 n size s kind bo bol boc body ao al ac ahead eo el ec behind l1 l2 l3 _ _ _ e1 e2 e3 w hs h1 h2 h3 rfl rfl rfl k1 k2 k3 q1 q2 q3 r1 r2 r3 pb pa pe hb ha he
end Go.Proofs.Ythfildanpcmfaaa
