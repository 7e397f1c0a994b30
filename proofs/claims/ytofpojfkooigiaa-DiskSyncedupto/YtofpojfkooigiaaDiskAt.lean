/- The calls on a disk whose blocks all lie from N on: all that lies below N stays. -/
import Derived.Test.YtofpojfkooigiaaDSync
namespace Go.Proofs.Ytofpojfkooigiaa
open Go.RowKit
variable {w w' : World} {N D : Nat} {s : DSt}

def At (N : Nat) (w : World) (D : Nat) (s : DSt) : Prop := ∃ F, Dk w F D s ∧ ∀ g ∈ F, N ≤ g
theorem At.ok (h : At N w D s) : s.ok := by
  obtain ⟨F, h, _⟩ := h
  exact h.ok
theorem At.later (h : At N w D s) (hb : Below w.heap.size w w') : At N w' D s := by
  obtain ⟨F, h, hF⟩ := h
  exact ⟨F, h.below hb, hF⟩
theorem At.down {N' : Nat} (h : At N w D s) (hN : N' ≤ N) : At N' w D s := by
  obtain ⟨F, h, hF⟩ := h
  exact ⟨F, h, fun g hg => Nat.le_trans hN (hF g hg)⟩
theorem Moved.at {F : List Nat} (h : Moved Dk F D s w w') (hF : ∀ g ∈ F, N ≤ g) (hN : N ≤ w.heap.size) : At N w' D s ∧ Below N w w' := by
  obtain ⟨F', h1, h2⟩ := h.disk
  exact ⟨⟨F', h1, fun g hg => (h2 g hg).elim (hF g) (fun h => Nat.le_trans hN h)⟩, h.chg.below hF hN⟩
theorem At.sync (h : At N w D s) (hN : N ≤ w.heap.size) :
    Calls Try.prog 18 #[.pointer (some ⟨D, 0, none⟩)] w fun x w' => x = .returned (.int .i64 (syncD s).1) ∧ At N w' D (syncD s).2 ∧ Below N w w' := by
  obtain ⟨F, ⟨B, M, Dm, V, C, h⟩, hF⟩ := h
  refine (sync_pic h).mono ?_
  rintro x w' ⟨rfl, hm⟩
  exact ⟨rfl, hm.at hF hN⟩
theorem At.cut (h : At N w D s) (hN : N ≤ w.heap.size) (n : Int) (hn : n ≤ 9223372036854775807) :
    Calls Try.prog 14 #[.pointer (some ⟨D, 0, none⟩), .int .i64 n] w fun x w' => x = .returned (.tuple #[]) ∧ At N w' D (cutD s n) ∧ Below N w w' := by
  obtain ⟨F, ⟨B, M, Dm, V, C, h⟩, hF⟩ := h
  refine (cut_pic h n hn).mono ?_
  rintro x w' ⟨rfl, hp, hc⟩
  exact ⟨rfl, (hp.moved (hc.mono (fun k hk => by simp at hk; rw [hk]; exact h.mD))).at hF hN⟩
theorem At.write (h : At N w D s) (hN : N ≤ w.heap.size) (hf : s.few) (i : Int) (ad : Option Addr) (len cap : Nat) (l : List Nat) (hp : Part.ok w ⟨ad, len, cap, l⟩) :
    Calls Try.prog 17 #[.pointer (some ⟨D, 0, none⟩), .int .i64 i, .slice ad len cap] w fun x w' => x = .returned (.int .i64 (writeD s i l).1) ∧ At N w' D (writeD s i l).2 ∧ Below N w w' := by
  obtain ⟨F, ⟨B, M, Dm, V, C, h⟩, hF⟩ := h
  refine (write_pic h hf i ad len cap l hp).mono ?_
  rintro x w' ⟨rfl, hm⟩
  exact ⟨rfl, hm.at hF hN⟩
/-- A crash whose choices lie below N, or were made behind all that the disk has. -/
theorem At.crash {w1 : World} (h : At N w D s) (hb : Below w.heap.size w w1) (hN : N ≤ w.heap.size) (ad : Option Addr) (len cap : Nat) (cs : List Int) (ha : IArg w1 cs ad len) (hn : ∀ b off, ad = some ⟨b, off, none⟩ → len ≠ 0 → b < N ∨ w.heap.size ≤ b) :
    Calls Try.prog 15 #[.pointer (some ⟨D, 0, none⟩), .slice ad len cap] w1 fun x w' => x = .returned (.tuple #[]) ∧ At N w' D (crashD s cs) ∧ Below N w1 w' := by
  obtain ⟨F, ⟨B, M, Dm, V, C, h⟩, hF⟩ := h
  refine (crash_pic (h.below hb) ad len cap cs ha (fun b off e e2 hm => ?_)).mono ?_
  · have h2 := hF b hm
    have h3 := h.lt b hm
    have h4 := hn b off e e2
    omega
  · rintro x w' ⟨rfl, hm⟩
    exact ⟨rfl, hm.at hF (Nat.le_trans hN hb.size)⟩
theorem At.read (h : At N w D s) (i : Int) :
    Calls Try.prog 16 #[.pointer (some ⟨D, 0, none⟩), .int .i64 i] w fun x w' => ∃ v, x = .returned (.tuple #[v, .int .i64 (readD s i).2]) ∧ Own w' w.heap.size v (readD s i).1 ∧ At N w' D s ∧ Below w.heap.size w w' := by
  have h0 := h
  obtain ⟨F, ⟨B, M, Dm, V, C, h⟩, hF⟩ := h
  refine (read_pic h i).mono ?_
  rintro x w' ⟨v, rfl, ho, hb⟩
  exact ⟨v, rfl, ho, h0.later hb, hb⟩
theorem At.isDown (h : At N w D s) : Calls Try.prog 19 #[.pointer (some ⟨D, 0, none⟩)] w fun x w' => x = .returned (.bool s.off) ∧ w' = w := by
  obtain ⟨F, ⟨B, M, Dm, V, C, h⟩, hF⟩ := h
  exact down_pic h
theorem At.dirty (h : At N w D s) : Calls Try.prog 20 #[.pointer (some ⟨D, 0, none⟩)] w fun x w' => x = .returned (.int .i64 (dirtyD s : Nat)) ∧ w' = w := by
  obtain ⟨F, ⟨B, M, Dm, V, C, h⟩, hF⟩ := h
  exact dirty_pic h
theorem At.blocks (h : At N w D s) : Calls Try.prog 21 #[.pointer (some ⟨D, 0, none⟩)] w fun x w' => x = .returned (.int .i64 (s.bs.length : Nat)) ∧ w' = w := by
  obtain ⟨F, ⟨B, M, Dm, V, C, h⟩, hF⟩ := h
  exact blocks_pic h
theorem At.new (n : Int) (w : World) (h1 : 1 ≤ n) (h2 : n ≤ 4096) : Calls Try.prog 9 #[.int .i64 n] w fun x w' => ∃ D, x = .returned (.tuple #[.pointer (some ⟨D, 0, none⟩), .int .i64 0]) ∧ At w.heap.size w' D (newD n.toNat) ∧ Below w.heap.size w w' := by
  refine (new_ok n w h1 h2).mono ?_
  rintro x w' ⟨F, D, rfl, h, hF, hb⟩
  exact ⟨D, rfl, ⟨F, h, hF⟩, hb⟩
theorem newD_few (n : Nat) : (newD n).few := fun x hx => by
  rw [newD, List.mem_replicate] at hx
  rw [hx.2]
  simp [b0]
end Go.Proofs.Ytofpojfkooigiaa
