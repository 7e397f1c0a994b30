/- tell and PutEvent of package group, write and PutEvent of the document's: the bytes of an event (P1502; by gentell15.py). -/
import Derived.Test.YtiiepmljcjbflaaGreatGByM
import Derived.Test.YtiiepmljcjbflaaGreatGIns
import Derived.Test.YtiiepmljcjbflaaGreatPGXMath
namespace Go.Proofs.YtiiepmljcjbflaaGreat
open Go.RowKit Crcm
variable {w w' : World}

/-- What stands ahead of the j-th number behind kind and yes. -/
def preT (x : Ev) (j : Nat) : List Nat := (spellN x.kind.toNat 1 ++ spellN (yesN x.yes) 1) ++ ((numL x).take j).flatMap (fun n => spellN n.toNat 6)
theorem preT_lt (x : Ev) (j : Nat) : ∀ z ∈ preT x j, z < 256 := by
  intro z hz
  unfold preT at hz
  rw [List.mem_append, List.mem_append, List.mem_flatMap] at hz
  rcases hz with (h | h) | ⟨n, -, h⟩ <;> exact spellN_lt _ _ z h
theorem preT_0 (x : Ev) : preT x 0 = spellN x.kind.toNat 1 ++ spellN (yesN x.yes) 1 := by unfold preT; simp
theorem preT_len (x : Ev) (j : Nat) (h : j ≤ 6) : (preT x j).length = 2 + 6 * j := by
  rcases (show j = 0 ∨ j = 1 ∨ j = 2 ∨ j = 3 ∨ j = 4 ∨ j = 5 ∨ j = 6 by omega) with rfl | rfl | rfl | rfl | rfl | rfl | rfl <;> simp [preT, numL, spellN_length]
theorem preT_s (x : Ev) : preT x 1 = preT x 0 ++ spellN x.gen.toNat 6 ∧ preT x 2 = preT x 1 ++ spellN x.part.toNat 6 ∧ preT x 3 = preT x 2 ++ spellN x.off.toNat 6 ∧ preT x 4 = preT x 3 ++ spellN x.prod.toNat 6 ∧ preT x 5 = preT x 4 ++ spellN x.ep.toNat 6 ∧ preT x 6 = preT x 5 ++ spellN x.now.toNat 6 := by
  refine ⟨?_, ?_, ?_, ?_, ?_, ?_⟩ <;> simp [preT, numL]
theorem bodyT_pre (x : Ev) : bodyT x = preT x 6 ++ (spellN (nmS x.mem).size 2 ++ sbytes (nmS x.mem)) := by
  unfold bodyT preT numL
  simp
theorem own_mkT {base : Nat} {v : Value} {n : Nat} {L : List Nat} (h : w.ownsRow base 5 1 v n (L.map bv)) (hn : L.length = n) (h8 : ∀ z ∈ L, z < 256) : Own w base v L := ⟨h8, by rw [hn]; exact h⟩
theorem own_fromT {base : Nat} {v : Value} {l : List Nat} (h : Own w base v l) : ∀ k, v.ownBlock = some k → base ≤ k := by
  intro k hk
  rcases h.2.2 with ⟨e, -⟩ | ⟨g, cap, cur, e, hgb, -⟩
  · rw [e] at hk; cases hk
  · rw [e] at hk; cases hk; exact hgb
theorem two_own (W : World) (a b : Nat) (ha : a < 256) (hb : b < 256) : Own (W.alloc (.cells #[.int .u8 (a : Int), .int .u8 (b : Int)] 5)) W.heap.size (.slice (some ⟨W.heap.size, 0, none⟩) 2 2) [a, b] := by
  exact ⟨fun z hz => by simp at hz; omega, by simp [bv], Or.inr ⟨W.heap.size, 2, _, rfl, Nat.le_refl _, heap_alloc_new W _, Nat.le_refl _, by unfold maxLen; omega, rfl, rfl⟩⟩
theorem spell1 (n : Nat) (h : n < 256) : spellN n 1 = [n] := by
  have h1 := valN_spellN n 1
  have h2 := spellN_length n 1
  have h3 := spellN_lt n 1
  match hl : spellN n 1, h2 with
  | [z], _ =>
    rw [hl] at h1 h3
    simp [valN] at h1
    have := h3 z (by simp)
    rw [h1]
    congr 1
    omega
theorem yes_tgl (y : Bool) : (if y = true then (1 : Int) else 0) = (yesN y : Int) := by cases y <;> rfl
end Go.Proofs.YtiiepmljcjbflaaGreat
