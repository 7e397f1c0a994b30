/- '[]byte("x")' of one letter; nets whose blocks all lie from N on. -/
import Derived.Test.YtgbjlkaaniaaaaaDoorNSend
namespace Go.Proofs.YtgbjlkaaniaaaaaDoor
open Go.RowKit

/-- The world behind '[]byte("x")': a new byte, whose row's end is marked. -/
def litW (W : World) (v : Value) : World := (W.alloc (.cells #[v] 5)).freeze ⟨W.heap.size, 1, none⟩ 1
theorem lit_conv (W : World) (v : Value) : (convert 32 32 (.slice (some ⟨W.heap.size, 0, none⟩) 1 1)).run Tryd.prog (W.alloc (.cells #[v] 5)) = .ok (.slice (some ⟨W.heap.size, 0, none⟩) 1 1) (litW W v) := by
  have h1 : (W.alloc (.cells #[v] 5)).shape? W.heap.size = some (5, 1) := by
    unfold World.shape?
    rw [heap_alloc_last]
    rfl
  simp [convert, markStringish, run_underlying Tryd.underlying32, run_underlying Tryd.underlying5, Result.andThen, h1, litW]
theorem litW_heap (W : World) (v : Value) : (litW W v).heap.size = W.heap.size + 1 ∧ (∃ fr, (litW W v).heap[W.heap.size]? = some (.cells #[v] 5 fr)) ∧ Below W.heap.size W (litW W v) := by
  have hs : (litW W v).heap = (W.alloc (.cells #[v] 5)).heap.modify W.heap.size (fun
      | .cells c elem (lo, hi) => .cells c elem (if lo == hi then (1, 1 + 1) else (min lo 1, max hi (1 + 1)))
      | o => o) := rfl
  have h1 : (litW W v).heap.size = W.heap.size + 1 := by rw [hs, Array.size_modify]; simp
  refine ⟨h1, ⟨(1, 2), ?_⟩, rfl, rfl, rfl, by omega, fun k hk => ?_⟩
  · rw [hs, Array.getElem?_modify, if_pos rfl, heap_alloc_last]
    rfl
  · rw [hs, Array.getElem?_modify, if_neg (by omega)]
    exact Below.heap_alloc W _ k hk
theorem lit_ok (W : World) (x : Nat) (z : Int) (hz : z = x) (hx : x < 256) : Part.ok (litW W (.int .u8 z)) ⟨some ⟨W.heap.size, 0, none⟩, 1, 1, [x]⟩ := by
  subst hz
  obtain ⟨h1, ⟨fr, h2⟩, -⟩ := litW_heap W (.int .u8 (x : Int))
  refine ⟨rfl, fun e => (by cases e), fun y hy => by simp at hy; omega, Or.inr ⟨W.heap.size, 0, rfl, by omega, fun i hi => ?_⟩⟩
  have hi0 : i = 0 := by simpa using hi
  subst hi0
  exact cell_of_row _ _ _ _ _ _ h2

variable {w w1 w' : World} {N D : Nat} {s : NSt}
def NAt (N : Nat) (w : World) (D : Nat) (s : NSt) : Prop := ∃ F, Nk w F D s ∧ ∀ g ∈ F, N ≤ g
theorem NAt.ok (h : NAt N w D s) : s.ok := by
  obtain ⟨F, h, _⟩ := h
  exact h.ok
theorem NAt.later (h : NAt N w D s) (hb : Below w.heap.size w w') : NAt N w' D s := by
  obtain ⟨F, h, hF⟩ := h
  exact ⟨F, h.below hb, hF⟩
theorem NMoved.at {F : List Nat} (h : NMoved F D s w w') (hF : ∀ g ∈ F, N ≤ g) (hN : N ≤ w.heap.size) : NAt N w' D s ∧ Below N w w' := by
  obtain ⟨F', h1, h2⟩ := h.net
  exact ⟨⟨F', h1, fun g hg => (h2 g hg).elim (hF g) (fun h => Nat.le_trans hN h)⟩, h.chg.below hF hN⟩
theorem NAt.new (w : World) : Calls Tryd.prog 7 #[] w fun e w' => e = .returned (.pointer (some ⟨w.heap.size, 0, none⟩)) ∧ NAt w.heap.size w' w.heap.size new0 ∧ Below w.heap.size w w' := by
  refine (new_ok w).mono ?_
  rintro e w' ⟨rfl, h, hb⟩
  exact ⟨rfl, ⟨_, ⟨_, _, h⟩, fun g hg => by simp at hg; omega⟩, hb⟩
theorem NAt.made (h : NAt N w D s) : Calls Tryd.prog 8 #[.pointer (some ⟨D, 0, none⟩)] w fun e w' => e = .returned (.bool true) ∧ w' = w := by
  obtain ⟨F, ⟨v1, v2, h⟩, hF⟩ := h
  exact made_pic h
theorem NAt.lateC (h : NAt N w D s) : Calls Tryd.prog 16 #[.pointer (some ⟨D, 0, none⟩)] w fun e w' => e = .returned (.int .i64 (s.late.length : Nat)) ∧ w' = w := by
  obtain ⟨F, ⟨v1, v2, h⟩, hF⟩ := h
  exact late_pic h
theorem NAt.leftC (h : NAt N w D s) : Calls Tryd.prog 17 #[.pointer (some ⟨D, 0, none⟩)] w fun e w' => e = .returned (.int .i64 (s.luck.length : Nat)) ∧ w' = w := by
  obtain ⟨F, ⟨v1, v2, h⟩, hF⟩ := h
  exact left_pic h
theorem NAt.luckC (h : NAt N w D s) (hN : N ≤ w.heap.size) (ad : Option Addr) (m c : Nat) (l : List Int) (hl : l.length = m) (hf : ∀ x ∈ l, fits x) (hs : Src w ad m (l.map intV)) (hb : s.luck.length + m ≤ 17592186044416) :
    Calls Tryd.prog 11 #[.pointer (some ⟨D, 0, none⟩), .slice ad m c] w fun e w' => e = .returned (.tuple #[]) ∧ NAt N w' D (luckD s l) ∧ Below N w w' := by
  obtain ⟨F, ⟨v1, v2, h⟩, hF⟩ := h
  refine (luck_pic h ad m c l hl hf hs hb).mono ?_
  rintro e w' ⟨rfl, hm⟩
  exact ⟨rfl, hm.at hF hN⟩
/-- A message whose bytes lie below N, or were made behind all that the net has. -/
theorem NAt.sendC (h : NAt N w D s) (hb : Below w.heap.size w w1) (hN : N ≤ w.heap.size) (h1 : 1 ≤ N) (hT : Tab w1) (to : Int) (hto : fits to) (ad : Option Addr) (len cap : Nat) (l : List Nat) (hp : Part.ok w1 ⟨ad, len, cap, l⟩) (hn0 : ∀ b off, ad = some ⟨b, off, none⟩ → l ≠ [] → b < N ∨ w.heap.size ≤ b) (hl : s.late.length + 1 ≤ 4398046511104) :
    Calls Tryd.prog 12 #[.pointer (some ⟨D, 0, none⟩), .int .i64 to, .slice ad len cap] w1 fun e w' => e = .returned (.tuple #[.int .i64 (timesN (fateD s)), .bool (replyN (fateD s))]) ∧ NAt N w' D (sendD s to l) ∧ Below N w1 w' := by
  obtain ⟨F, ⟨v1, v2, h⟩, hF⟩ := h
  refine (send_pic (h.below hb) hT (fun hm => by have := hF 0 hm; omega) to hto ad len cap l hp (fun b off e e2 hm => ?_) hl).mono ?_
  · have h2 := hF b hm
    have h3 := h.lt b hm
    have h4 := hn0 b off e e2
    omega
  · rintro e w' ⟨rfl, hm⟩
    exact ⟨rfl, hm.at hF (Nat.le_trans hN hb.size)⟩
theorem NAt.messageC (h : NAt N w D s) (k : Int) : Calls Tryd.prog 13 #[.pointer (some ⟨D, 0, none⟩), .int .i64 k] w fun e w' => Tells w w' s k e ∧ Below w.heap.size w w' := by
  obtain ⟨F, ⟨v1, v2, h⟩, hF⟩ := h
  exact message_pic h k
theorem NAt.takeC (h : NAt N w D s) (hN : N ≤ w.heap.size) (k : Int) : Calls Tryd.prog 14 #[.pointer (some ⟨D, 0, none⟩), .int .i64 k] w fun e w' => Tells w w' s k e ∧ NAt N w' D (takeD s k) ∧ Below N w w' := by
  obtain ⟨F, ⟨v1, v2, h⟩, hF⟩ := h
  refine (take_pic h k).mono ?_
  rintro e w' ⟨he, hm⟩
  exact ⟨he, hm.at hF hN⟩
theorem NAt.doubleC (h : NAt N w D s) (hN : N ≤ w.heap.size) (k : Int) (hb : s.late.length + 1 ≤ 4398046511104) : Calls Tryd.prog 15 #[.pointer (some ⟨D, 0, none⟩), .int .i64 k] w fun e w' => e = .returned (.bool (hasD s k)) ∧ NAt N w' D (doubleD s k) ∧ Below N w w' := by
  obtain ⟨F, ⟨v1, v2, h⟩, hF⟩ := h
  refine (double_pic h k hb).mono ?_
  rintro e w' ⟨rfl, hm⟩
  exact ⟨rfl, hm.at hF hN⟩
theorem part_of {N : Nat} {v : Value} {l : List Nat} {len : Nat} (hl : l.length = len) (hx : ∀ x ∈ l, x < 256) (h : w.ownsRow N 5 1 v (0 + len) (([] ++ l).map bv)) : ∃ p c, v = .slice p len c ∧ Part.ok w ⟨p, len, c, l⟩ ∧ (∀ b off, p = some ⟨b, off, none⟩ → N ≤ b) := by
  rw [Nat.zero_add, List.nil_append] at h
  have ho : Own w N v l := ⟨hx, by rw [hl]; exact h⟩
  obtain ⟨ad, cap, rfl, h1, -⟩ := ho.slice len hl
  refine ⟨ad, cap, rfl, h1, fun b off e => ?_⟩
  subst e
  exact (h.lt b rfl).1
theorem Tab.low (h : Tab w) (h1 : 1 ≤ N) (hb : Below N w w') : Tab w' := ⟨Nat.lt_of_lt_of_le h.1 hb.size, fun i hi => (hb.cell (p := ⟨0, i, none⟩) (by show 0 < N; omega)).trans (h.2 i hi)⟩
end Go.Proofs.YtgbjlkaaniaaaaaDoor
