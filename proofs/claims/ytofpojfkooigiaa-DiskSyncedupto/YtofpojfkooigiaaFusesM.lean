/- Behind a fuse of n just n operations are done: plain mathematics. -/
import Derived.Test.YtofpojfkooigiaaKnows3
namespace Go.Proofs.Ytofpojfkooigiaa
open Go.RowKit

/-- The disk behind i operations under a fuse of n. -/
structure Fz (s : DSt) (i n : Nat) : Prop where
  off : s.off = decide (n < i)
  fuse : s.fuse = if i ≤ n then (n : Int) - (i : Int) else -1
  len : s.bs.length = 4
  up : s.upTo (min i n)
variable {s : DSt} {i n : Nat}
theorem fz_start (n : Nat) : Fz (cutD (newD 4) n) 0 n := by
  have h : cutD (newD 4) n = ⟨(newD 4).bs, false, n⟩ := by
    unfold cutD
    rw [if_neg (by simp [newD]), if_neg (by omega)]
  rw [h]
  exact ⟨by simp, by simp, rfl, fun x hx => Nat.le_trans (newD_upTo 4 x hx) (Nat.zero_le _)⟩
theorem fz_op (h : Fz s i n) : (opD s).1 = decide (i < n) ∧ Fz (opD s).2 (i + 1) n ∧ (opD s).2.upTo (min i n) := by
  have hu : (opD s).2.upTo (min i n) := opD_upTo h.up
  have hu2 : (opD s).2.upTo (min (i + 1) n) := hu.mono (by omega)
  have hl : (opD s).2.bs.length = 4 := by rw [opD_bs]; exact h.len
  rcases Nat.lt_trichotomy i n with h1 | h1 | h1
  · have ho : s.off = false := by rw [h.off]; simp; omega
    have hf : s.fuse = (n : Int) - i := by rw [h.fuse, if_pos (by omega)]
    have e := opD_pos ho (by rw [hf]; omega)
    rw [e] at hu2 hl hu ⊢
    refine ⟨by simp [h1], ⟨by simp; omega, ?_, hl, hu2⟩, hu⟩
    show s.fuse - 1 = _
    rw [hf, if_pos (by omega)]
    omega
  · have ho : s.off = false := by rw [h.off]; simp; omega
    have hf : s.fuse = 0 := by rw [h.fuse, if_pos (by omega)]; omega
    have e := opD_zero ho hf
    rw [e] at hu2 hl hu ⊢
    exact ⟨by simp; omega, ⟨by simp; omega, by show (-1 : Int) = _; rw [if_neg (by omega)], hl, hu2⟩, hu⟩
  · have ho : s.off = true := by rw [h.off]; simp; omega
    have e := opD_on ho
    rw [e] at hu2 hl hu ⊢
    refine ⟨by simp; omega, ⟨?_, ?_, hl, hu2⟩, hu⟩
    · show s.off = _; rw [ho]; simp; omega
    · show s.fuse = _; rw [h.fuse, if_neg (by omega), if_neg (by omega)]
theorem fz_write (h : Fz s i n) (k : Nat) (hk : k < 4) (l : List Nat) (hl : l.length = 256) : (writeD s k l).1 = (if i < n then 0 else 8) ∧ Fz (writeD s k l).2 (i + 1) n := by
  obtain ⟨h1, h2, h3⟩ := fz_op h
  have hh : s.has (k : Nat) = true := by unfold DSt.has; rw [h.len]; simp; omega
  unfold writeD
  rw [hh, hl]
  simp only [Bool.true_and, BEq.rfl, if_true]
  by_cases hi : i < n
  · have e : (opD s).1 = true := by rw [h1]; simp [hi]
    rw [if_pos e, if_pos hi]
    refine ⟨rfl, ⟨h2.off, h2.fuse, by rw [setB_len]; exact h2.len, ?_⟩⟩
    intro x hx
    rcases mem_setB hx with rfl | hx
    · have := h3 _ (at_mem (s := (opD s).2) (i := k) (by rw [h2.len]; omega))
      simp [DBlock.add]
      omega
    · exact h2.up x hx
  · have e : (opD s).1 = false := by rw [h1]; simp; omega
    rw [if_neg (by rw [e]; simp), if_neg hi]
    exact ⟨rfl, h2⟩
theorem fz_sync (h : Fz s i n) : (syncD s).1 = (if i < n then 0 else 8) ∧ Fz (syncD s).2 (i + 1) n := by
  obtain ⟨h1, h2, h3⟩ := fz_op h
  unfold syncD
  by_cases hi : i < n
  · have e : (opD s).1 = true := by rw [h1]; simp [hi]
    rw [if_pos e, if_pos hi]
    refine ⟨rfl, ⟨h2.off, h2.fuse, by simp; exact h2.len, ?_⟩⟩
    intro x hx
    obtain ⟨y, hy, rfl⟩ := List.mem_map.1 hx
    rw [sync_vs]
    exact Nat.zero_le _
  · have e : (opD s).1 = false := by rw [h1]; simp; omega
    rw [if_neg (by rw [e]; simp), if_neg hi]
    exact ⟨rfl, h2⟩
theorem crash_sync (cs : List Int) : (syncD (crashD s cs)).1 = 0 := by
  rw [syncD_free ⟨rfl, rfl⟩]
end Go.Proofs.Ytofpojfkooigiaa
