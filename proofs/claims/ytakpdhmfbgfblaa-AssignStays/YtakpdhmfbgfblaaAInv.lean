/- What the steps of the dealing want of the world: a deck, what is left over, boxes. -/
import Derived.Test.YtakpdhmfbgfblaaADeal
namespace Go.Proofs.Ytakpdhmfbgfblaa
open Go.RowKit Go.Sort
variable {w w' : World}

/-- The deck, and how many are left over. -/
abbrev Dk := List Int × Nat
/-- Where a dealing's boxes lie: the deck and its cards, the boxes of free, base and rest. -/
structure Pl where
  D : Nat
  b : Nat
  fb : Nat
  bb : Nat
  rb : Nat
structure Pl.ok (p : Pl) (N : Nat) : Prop where
  lD : p.D < N
  lb : p.b < N
  lf : p.fb < N
  lbb : p.bb < N
  lr : p.rb < N
  fD : p.fb ≠ p.D
  fbb : p.fb ≠ p.b
  bD : p.bb ≠ p.D
  bbn : p.bb ≠ p.b
  rD : p.rb ≠ p.D
  rbn : p.rb ≠ p.b
  rf : p.rb ≠ p.fb
  rbb : p.rb ≠ p.bb
def Pl.F (p : Pl) : List Nat := [p.D, p.b, p.rb]
structure RInv (p : Pl) (base : Nat) (s : Dk) (W : World) : Prop where
  free : Blk W p.fb #[.pointer (some ⟨p.D, 0, none⟩)] 43
  bas : Blk W p.bb #[.int .i64 (base : Int)] 3
  rst : Blk W p.rb #[.int .i64 (s.2 : Int)] 3
  dk : DeckP W p.D p.b s.1
  rise : s.1.Pairwise (· < ·)
  len : s.1.length ≤ 32
  small : s.2 ≤ 1048576
theorem RInv.keep {p : Pl} {base N : Nat} {s : Dk} {W W' : World} {G : List Nat} (h : RInv p base s W) (hp : p.ok N) (hc : Chg G W W') (hG : ∀ g ∈ G, N ≤ g) : RInv p base s W' :=
  ⟨h.free.chg hc (fun hm => by have := hG _ hm; have := hp.lf; omega), h.bas.chg hc (fun hm => by have := hG _ hm; have := hp.lbb; omega), h.rst.chg hc (fun hm => by have := hG _ hm; have := hp.lr; omega), h.dk.chg hc (fun hm => by have := hG _ hm; have := hp.lD; omega) (fun hm => by have := hG _ hm; have := hp.lb; omega), h.rise, h.len, h.small⟩
theorem RInv.later {p : Pl} {base : Nat} {s : Dk} {W W' : World} (h : RInv p base s W) (hb : Below W.heap.size W W') : RInv p base s W' :=
  ⟨h.free.later hb, h.bas.later hb, h.rst.later hb, h.dk.later hb, h.rise, h.len, h.small⟩
/-- .. behind a change of the deck alone. -/
theorem RInv.deck {p : Pl} {base N : Nat} {s : Dk} {xs : List Int} {W W' : World} (h : RInv p base s W) (hp : p.ok N) (hc : Chg [p.D, p.b] W W') (hd : DeckP W' p.D p.b xs) (hr : xs.Pairwise (· < ·)) (hl : xs.length ≤ 32) : RInv p base (xs, s.2) W' :=
  ⟨h.free.chg hc (by have := hp.fD; have := hp.fbb; simp; omega), h.bas.chg hc (by have := hp.bD; have := hp.bbn; simp; omega), h.rst.chg hc (by have := hp.rD; have := hp.rbn; simp; omega), hd, hr, hl, h.small⟩
/-- .. behind a store of the rest. -/
theorem RInv.rest {p : Pl} {base N : Nat} {s : Dk} {r : Nat} {W : World} (h : RInv p base s W) (hp : p.ok N) (hr : r ≤ 1048576) : RInv p base (s.1, r) (W.setCell ⟨p.rb, 0, none⟩ (.int .i64 (r : Int))) ∧ Chg p.F W (W.setCell ⟨p.rb, 0, none⟩ (.int .i64 (r : Int))) := by
  have hc : Chg [p.rb] W (W.setCell ⟨p.rb, 0, none⟩ (.int .i64 (r : Int))) := (Chg.refl _ _).set (Or.inl (by simp)) 0 _
  exact ⟨⟨h.free.chg hc (by have := hp.rf; simp; omega), h.bas.chg hc (by have := hp.rbb; simp; omega), h.rst.set 0 _, h.dk.chg hc (by have := hp.rD; simp; omega) (by have := hp.rbn; simp; omega), h.rise, h.len, hr⟩, hc.mono (by intro k hk; simp at hk; subst hk; simp [Pl.F])⟩
theorem rise_drop {xs : List Int} (h : xs.Pairwise (· < ·)) (k : Nat) : (xs.drop k).Pairwise (· < ·) := h.sublist (List.drop_sublist _ _)
/-- The draw of n cards by a step. -/
def drawN (n : Int) (s : Dk) : List Int × Dk := (s.1.take (drawK n s.1.length), (s.1.drop (drawK n s.1.length), s.2))
theorem drawN_len (n : Int) (s : Dk) : (drawN n s).1.length ≤ s.1.length := by show (List.take _ _).length ≤ _; rw [List.length_take]; omega
theorem draw_inv {p : Pl} {base N : Nat} {s : Dk} {W : World} (h : RInv p base s W) (hp : p.ok N) (n : Int) :
    Calls Try.prog 21 #[.pointer (some ⟨p.D, 0, none⟩), .int .i64 n] W fun e W' => ∃ v, e = .returned v ∧ OwnK kZ W' W.heap.size v (drawN n s).1 ∧ RInv p base (drawN n s).2 W' ∧ Chg p.F W W' := by
  refine (draw_any h.dk n (by have := h.len; omega)).mono ?_
  rintro e W' ⟨v, rfl, hO, hd, hc⟩
  exact ⟨v, rfl, hO, h.deck hp (hc.mono (by intro k hk; simp at hk; subst hk; simp)) hd (rise_drop h.rise _) (by rw [List.length_drop]; have := h.len; omega), hc.mono (by intro k hk; simp at hk; subst hk; simp [Pl.F])⟩
/-- The step of Range. -/
def fRange (base : Nat) : Stp Dk := fun s _ _ => if s.2 = 0 then drawN base s else drawN ((base : Int) + 1) (s.1, s.2 - 1)
end Go.Proofs.Ytakpdhmfbgfblaa
