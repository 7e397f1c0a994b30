/- How the versions of all dirty blocks end, one after another: plain mathematics. -/
import Derived.Test.YtikomnbhmmjfnaaGreatDTake
namespace Go.Proofs.YtikomnbhmmjfnaaGreat
open Go.RowKit

/-- The first m dirty blocks have ended; f tells the number that is chosen. -/
def settleM (f : Nat → Nat → Int) : List DBlock → Nat → Nat → List DBlock
  | [], _, _ => []
  | x :: xs, k, m => if x.vs = [] then x :: settleM f xs k m else match m with
    | 0 => x :: xs
    | m + 1 => x.crash (f k x.vs.length) :: settleM f xs (k + 1) m
theorem settle_clean (f : Nat → Nat → Int) {x : DBlock} (h : x.vs = []) (xs : List DBlock) (k m : Nat) : settleM f (x :: xs) k m = x :: settleM f xs k m := by rw [settleM.eq_def]; simp only; rw [if_pos h]
theorem settle_zero (f : Nat → Nat → Int) {x : DBlock} (h : x.vs ≠ []) (xs : List DBlock) (k : Nat) : settleM f (x :: xs) k 0 = x :: xs := by rw [settleM, if_neg h]
theorem settle_succ (f : Nat → Nat → Int) {x : DBlock} (h : x.vs ≠ []) (xs : List DBlock) (k m : Nat) : settleM f (x :: xs) k (m + 1) = x.crash (f k x.vs.length) :: settleM f xs (k + 1) m := by rw [settleM, if_neg h]
theorem settle_none (f : Nat → Nat → Int) : ∀ (bs : List DBlock) (k : Nat), settleM f bs k 0 = bs
  | [], _ => rfl
  | x :: xs, k => by
    by_cases h : x.vs = []
    · rw [settle_clean f h, settle_none f xs]
    · rw [settle_zero f h]
theorem dirt_clean {x : DBlock} (h : x.vs = []) (xs : List DBlock) (k : Nat) : dirt (x :: xs) k = dirt xs (k + 1) := by rw [dirt, if_pos h]
theorem dirt_dirty {x : DBlock} (h : x.vs ≠ []) (xs : List DBlock) (k : Nat) : dirt (x :: xs) k = k :: dirt xs (k + 1) := by rw [dirt, if_neg h]
theorem settle_step (f : Nat → Nat → Int) : ∀ (bs : List DBlock) (k off m i : Nat), (dirt bs off)[m]? = some i → ∃ j, i = off + j ∧ j < bs.length ∧ (bs.getD j b0).vs ≠ [] ∧ (settleM f bs k m).getD j b0 = bs.getD j b0 ∧ settleM f bs k (m + 1) = (settleM f bs k m).set j ((bs.getD j b0).crash (f (k + m) (bs.getD j b0).vs.length))
  | [], k, off, m, i, h => by simp [dirt] at h
  | x :: xs, k, off, m, i, h => by
    by_cases h0 : x.vs = []
    · rw [dirt_clean h0] at h
      obtain ⟨j, h1, h2, h3, h4, h5⟩ := settle_step f xs k (off + 1) m i h
      refine ⟨j + 1, by omega, by simp; omega, by simpa using h3, ?_, ?_⟩
      · rw [settle_clean f h0]; simpa using h4
      · rw [settle_clean f h0, settle_clean f h0, h5]; simp
    · rw [dirt_dirty h0] at h
      cases m with
      | zero =>
        simp at h
        refine ⟨0, by omega, by simp, by simpa using h0, ?_, ?_⟩
        · rw [settle_zero f h0]
        · rw [settle_succ f h0, settle_zero f h0, settle_none]; simp
      | succ m =>
        obtain ⟨j, h1, h2, h3, h4, h5⟩ := settle_step f xs (k + 1) (off + 1) m i (by simpa using h)
        refine ⟨j + 1, by omega, by simp; omega, by simpa using h3, ?_, ?_⟩
        · rw [settle_succ f h0]; simpa using h4
        · rw [settle_succ f h0, settle_succ f h0, h5]
          have e : k + 1 + m = k + (m + 1) := by omega
          rw [e]
          simp
theorem settle_len (f : Nat → Nat → Int) : ∀ (bs : List DBlock) (k m : Nat), (settleM f bs k m).length = bs.length
  | [], _, _ => rfl
  | x :: xs, k, m => by
    by_cases h : x.vs = []
    · rw [settle_clean f h, List.length_cons, settle_len f xs, List.length_cons]
    · cases m with
      | zero => rw [settle_zero f h]
      | succ m => rw [settle_succ f h, List.length_cons, settle_len f xs, List.length_cons]
/-- P303: all of a Sync. -/
theorem settle_sync : ∀ (bs : List DBlock) (k : Nat), settleM (fun _ n => (n : Int)) bs k (dirtyBs bs) = bs.map DBlock.sync
  | [], _ => rfl
  | x :: xs, k => by
    unfold dirtyBs
    by_cases h : x.vs = []
    · rw [if_pos h, Nat.zero_add, settle_clean _ h, settle_sync xs, List.map_cons]
      congr 1
      unfold DBlock.sync
      rw [if_pos h]
    · rw [if_neg h, Nat.add_comm, settle_succ _ h, settle_sync xs, List.map_cons]
      congr 1
      have hl : 0 < x.vs.length := List.length_pos_iff.2 h
      unfold DBlock.sync DBlock.crash
      rw [if_neg h, if_neg (by omega), if_pos (by omega), List.getLast?_eq_getElem?, Int.toNat_natCast, List.getD_eq_getElem?_getD, List.getElem?_eq_getElem (by omega)]
      rfl
/-- P305: all of a Crash. -/
theorem settle_crash (f : Nat → Nat → Int) : ∀ (bs : List DBlock) (k : Nat) (cs : List Int), (∀ j n, f (k + j) n = cs.getD j 0) → settleM f bs k (dirtyBs bs) = crashBs bs cs
  | [], _, _, _ => rfl
  | x :: xs, k, cs, hf => by
    unfold dirtyBs crashBs
    by_cases h : x.vs = []
    · rw [if_pos h, if_pos h, Nat.zero_add, settle_clean _ h, settle_crash f xs k cs hf]
    · rw [if_neg h, if_neg h, Nat.add_comm, settle_succ _ h]
      have h0 := hf 0 x.vs.length
      rw [Nat.add_zero] at h0
      rw [h0, settle_crash f xs (k + 1) cs.tail (fun j n => by
        rw [show k + 1 + j = k + (j + 1) by omega, hf]
        cases cs <;> simp)]
      congr 2
      cases cs <;> rfl
end Go.Proofs.YtikomnbhmmjfnaaGreat
