/- The document's Decode in its midst: what is read, and what was missing. -/
import Derived.Test.YthadagpfmacemaaRNum
import Derived.Test.YthadagpfmacemaaCRead
import Derived.Test.YthadagpfmacemaaROwn
namespace Go.Proofs.Ythadagpfmacemaa.Rf
open Go.RowKit
variable {w w' : World} {ad : Option Addr} {len cap : Nat} {l : List Nat} {R : Nat}

/-- What number does. -/
def Step (l : List Nat) (len q : Nat) (bad : Bool) (s x q' : Nat) (bad' : Bool) : Prop := (bad = false ∧ q + s ≤ len ∧ x = nAt l q s ∧ q' = q + s ∧ bad' = false) ∨ (bad' = true ∧ x = 0 ∧ q' = q ∧ (bad = true ∨ ¬ q + s ≤ len))
theorem Step.le {q s x q' : Nat} {bad bad' : Bool} (h : Step l len q bad s x q' bad') (hq : q ≤ len) : q' ≤ len := by
  rcases h with ⟨-, h, -, rfl, -⟩ | ⟨-, -, rfl, -⟩
  · exact h
  · exact hq
theorem Step.lt {q s x q' : Nat} {bad bad' : Bool} (h : Step l len q bad s x q' bad') (hl : ∀ y ∈ l, y < 256) (h6 : s ≤ 6) : x < 281474976710656 := by
  rcases h with ⟨-, -, rfl, -, -⟩ | ⟨-, rfl, -, -⟩
  · exact nAt_lt l hl _ _ h6
  · omega
theorem Step.one {q x q' : Nat} {bad bad' : Bool} (h : Step l len q bad 1 x q' bad') (hl : ∀ y ∈ l, y < 256) : x < 256 := by
  rcases h with ⟨-, -, rfl, -, -⟩ | ⟨-, rfl, -, -⟩
  · exact nAt_one l hl _
  · omega
theorem rnum_any {q s : Nat} {bad : Bool} (hR : RdR w R q bad ad len cap) (hB : Bts w ad len cap l R) (h1 : 1 ≤ s) (h6 : s ≤ 6) (hq : q ≤ len) :
    Calls Try.prog 37 #[.pointer (some ⟨R, 0, none⟩), .int .i64 (s : Int)] w fun e w' => ∃ x q' bad', e = .returned (.int .i64 ((x : Nat) : Int)) ∧ Hid (Step l len q bad s x q' bad' ∧ RdR w' R q' bad' ad len cap ∧ Chg [R] w w') := by
  have hm := hB.max
  cases bad with
  | false =>
    by_cases h : q + s ≤ len
    · exact (rnum_ok hR hB h1 h6 h).mono (fun e w' hh => ⟨_, _, false, hh.1, hid ⟨Or.inl ⟨rfl, h, rfl, rfl, rfl⟩, hh.2.out.1, hh.2.out.2⟩⟩)
    · exact (rnum_no hR hB h1 h6 h (by omega)).mono (fun e w' hh => ⟨0, q, true, hh.1, hid ⟨Or.inr ⟨rfl, rfl, rfl, Or.inr h⟩, hh.2.out.1, hh.2.out.2⟩⟩)
  | true => exact (rnum_bad hR hB (by omega)).mono (fun e w' hh => ⟨0, q, true, hh.1, hid ⟨Or.inr ⟨rfl, rfl, rfl, Or.inl rfl⟩, hh.2.out.1, hh.2.out.2⟩⟩)
/-- A part in its midst: k nodes behind its head. -/
structure PI (w : World) (R : Nat) (ad : Option Addr) (len cap : Nat) (b : Nat) (f i : Int) (q : Nat) (bad : Bool) (k : Nat) (L : List Int) (v : Value) (W : World) : Prop where
  rd : RdR W R q bad ad len cap
  chg : Chg [R] w W
  box : Blk W b #[.int .i64 f, .int .i64 i, v] 65
  own : W.ownsRow w.heap.size 3 1 v k (intsV L)
theorem PI.num {b q q' k : Nat} {f i : Int} {bad bad' : Bool} {L : List Int} {v : Value} {W W2 : World} (h : PI w R ad len cap b f i q bad k L v W) (hne : R ≠ b) (hc : Chg [R] W W2) (hr : RdR W2 R q' bad' ad len cap) : PI w R ad len cap b f i q' bad' k L v W2 :=
  ⟨hr, h.chg.trans hc (fun k hk => Or.inl hk), h.box.chg hc (by simpa using fun e => hne e.symm), ownsR_chg h.own hc (fun g hg hm => by simp at hm; subst hm; exact typed_ne h.own h.rd (by decide) hg)⟩
theorem PI.node {b q k : Nat} {f i : Int} {bad : Bool} {L : List Int} {v v' : Value} {W w3 : World} {x : Int} (h : PI w R ad len cap b f i q bad k L v W) (hne : R ≠ b) (hb : w.heap.size ≤ b) (o : Obj)
    (r1 : w3.ownsRow w.heap.size 3 1 v' (k + 1) (intsV (L ++ [x]))) (r2 : (W.alloc o).grownBy w3 v.ownBlock) :
    w3.cell? ⟨b, 2, none⟩ = some v ∧ w3.frozen? ⟨b, 2, none⟩ = false ∧ PI w R ad len cap b f i q bad (k + 1) (L ++ [x]) v' (w3.setCell ⟨b, 2, none⟩ v') := by
  have ca : Chg [] W (W.alloc o) := Chg.of ((Below.refl _ _).alloc (Nat.le_refl _) _)
  have cg := grown_chg r2
  have n3 := typed_ne h.own h.box (by decide)
  have nr := typed_ne h.own h.rd (by decide)
  have q3 := (h.box.chg ca (by simp)).chg cg n3
  have qr : RdR w3 R q bad ad len cap := (Blk.chg (Blk.chg h.rd ca (by simp)) cg nr)
  have cs : Chg [b] w3 (w3.setCell ⟨b, 2, none⟩ v') := (Chg.refl _ _).set (Or.inl (by simp)) _ _
  refine ⟨q3.cell 2, q3.free 2, Blk.other qr hne _ _, ?_, by have := q3.set 2 v'; exact this, ownsR_chg r1 cs (fun g hg hm => by simp at hm; subst hm; exact typed_ne r1 q3 (by decide) hg)⟩
  refine ((h.chg.trans ca (fun k hk => by cases hk)).trans cg (fun k hk => ?_)).trans cs (fun k hk => by simp at hk; subst hk; exact Or.inr hb)
  exact Or.inr (owns_base h.own k (by simpa using hk))
/-- The chain in its midst. -/
structure CI (w : World) (R : Nat) (ad : Option Addr) (len cap : Nat) (b : Nat) (o t : Int) (q : Nat) (bad : Bool) (L : List Pt) (A : Nat → Sl) (v : Value) (W : World) : Prop where
  rd : RdR W R q bad ad len cap
  below : Below w.heap.size w W
  res : Blk W w.heap.size #[.int .i64 0, .int .i64 0, .slice none 0 0] 24
  box : Blk W b #[.int .i64 o, .int .i64 t, v] 24
  own : OwnP 65 W (w.heap.size + 1) v L A
  new : ∀ i, i < L.length → NewI W (w.heap.size + 1) (ptAt L i).nodes (A i)
theorem rd_ne_intR {W : World} {q : Nat} {bad : Bool} (h : RdR W R q bad ad len cap) : ∀ g ∈ [R], ∀ cur, W.heap[g]? ≠ some (.cells cur 3) := fun g hg cur e => by
  simp at hg
  subst hg
  rw [h] at e
  simp at e
theorem CI.num {b q q' : Nat} {o t : Int} {bad bad' : Bool} {L : List Pt} {A : Nat → Sl} {v : Value} {W W2 : World} (h : CI w R ad len cap b o t q bad L A v W) (hne : R ≠ b) (h0 : w.heap.size < R) (hc : Chg [R] W W2) (hr : RdR W2 R q' bad' ad len cap) : CI w R ad len cap b o t q' bad' L A v W2 :=
  ⟨hr, h.below.trans (hc.below (fun k hk => by simp at hk; omega) h.below.size), h.res.chg hc (by simp; omega), h.box.chg hc (by simpa using fun e => hne e.symm), h.own.chg hc (fun g hg hm => by simp at hm; subst hm; exact typed_ne h.own h.rd (by decide) hg), fun i hi => (h.new i hi).chg hc (rd_ne_intR h.rd)⟩
theorem CI.part {b q : Nat} {o t : Int} {bad : Bool} {L : List Pt} {A : Nat → Sl} {v v' : Value} {W w3 : World} {p : Pt} {s : Sl} (h : CI w R ad len cap b o t q bad L A v W) (hne : R ≠ b) (h4 : b ≠ w.heap.size) (hb : w.heap.size ≤ b) (hs : NewI W (w.heap.size + 1) p.nodes s) (ob : Obj)
    (r1 : OwnP 65 w3 (w.heap.size + 1) v' (L ++ [p]) (fun i => if i < L.length then A i else s)) (r2 : (W.alloc ob).grownBy w3 v.ownBlock) :
    w3.cell? ⟨b, 2, none⟩ = some v ∧ w3.frozen? ⟨b, 2, none⟩ = false ∧ CI w R ad len cap b o t q bad (L ++ [p]) (fun i => if i < L.length then A i else s) v' (w3.setCell ⟨b, 2, none⟩ v') := by
  have ca : Chg [] W (W.alloc ob) := Chg.of ((Below.refl _ _).alloc (Nat.le_refl _) _)
  have cg := grown_chg r2
  have n3 := typed_ne h.own h.box (by decide)
  have nz := typed_ne h.own h.res (by decide)
  have nr := typed_ne h.own h.rd (by decide)
  have q3 := (h.box.chg ca (by simp)).chg cg n3
  have qz := (h.res.chg ca (by simp)).chg cg nz
  have qr : RdR w3 R q bad ad len cap := (Blk.chg (Blk.chg h.rd ca (by simp)) cg nr)
  have cs : Chg [b] w3 (w3.setCell ⟨b, 2, none⟩ v') := (Chg.refl _ _).set (Or.inl (by simp)) _ _
  have t0 := owns_typed (own_kept h.own ((Below.refl _ _).alloc (Nat.le_refl _) ob))
  have keep : ∀ {lst : List Int} {sl : Sl} {b' : Nat}, NewI W b' lst sl → NewI (w3.setCell ⟨b, 2, none⟩ v') b' lst sl := fun {lst sl b'} hn => by
    have e4 := hn.chg ca (fun g hg => by cases hg)
    have e6 := e4.chg cg (fun g hg cur => by obtain ⟨c0, hc⟩ := t0 g hg; exact part_ne_int hc cur)
    refine e6.chg cs (fun g hg cur e => ?_)
    simp at hg
    subst hg
    rw [q3] at e
    simp at e
  refine ⟨q3.cell 2, q3.free 2, Blk.other qr hne _ _, ?_, qz.other (fun e => h4 e.symm) _ _, by have := q3.set 2 v'; exact this, r1.chg cs (fun g hg hm => by simp at hm; subst hm; exact typed_ne r1 q3 (by decide) hg), fun i hi => ?_⟩
  · have b3 := h.below.alloc h.below.size ob
    exact (b3.trans (grown_below r2 (fun g e => Nat.le_of_succ_le (owns_base h.own g e)) b3.size)).trans (cs.below (fun k hk => by simp at hk; omega) (Nat.le_trans b3.size r2.size))
  · by_cases e : i < L.length
    · rw [ptAt_left _ _ _ e]
      simp only [e, if_true]
      exact keep (h.new i e)
    · obtain rfl : i = L.length := by simp at hi; omega
      rw [ptAt_snoc]
      simp only [Nat.lt_irrefl, if_false]
      exact keep hs
/-- What a part's head says of its end. -/
theorem head_bad {p x1 q1 x2 q2 x3 q3 : Nat} {b1 b2 : Bool} (h1 : Step l len p false 6 x1 q1 b1) (h2 : Step l len q1 b1 6 x2 q2 b2) (h3 : Step l len q2 b2 1 x3 q3 true) : ¬ partEnd l p ≤ len ∧ x3 = 0 := by
  unfold partEnd
  rcases h3 with ⟨-, -, -, -, h⟩ | ⟨-, h0, -, h⟩
  · cases h
  refine ⟨?_, h0⟩
  rcases h2 with ⟨rfl, e2, -, rfl, rfl⟩ | ⟨rfl, -, rfl, e2⟩
  · rcases h1 with ⟨-, e1, -, rfl, -⟩ | ⟨e1, -, -, -⟩
    · rcases h with h | h
      · cases h
      · omega
    · cases e1
  · rcases h1 with ⟨-, e1, -, rfl, rfl⟩ | ⟨rfl, -, rfl, e1⟩
    · rcases e2 with e2 | e2
      · cases e2
      · omega
    · rcases e1 with e1 | e1
      · cases e1
      · omega
theorem head_good {p x1 q1 x2 q2 x3 q3 : Nat} {b1 b2 : Bool} (h1 : Step l len p false 6 x1 q1 b1) (h2 : Step l len q1 b1 6 x2 q2 b2) (h3 : Step l len q2 b2 1 x3 q3 false) : x1 = nAt l p 6 ∧ x2 = nAt l (p + 6) 6 ∧ x3 = nAt l (p + 12) 1 ∧ q3 = p + 13 ∧ p + 13 ≤ len := by
  rcases h3 with ⟨rfl, e3, rfl, rfl, -⟩ | ⟨h, -⟩
  · rcases h2 with ⟨rfl, e2, rfl, rfl, -⟩ | ⟨h, -⟩
    · rcases h1 with ⟨-, e1, rfl, rfl, -⟩ | ⟨h, -⟩
      · exact ⟨rfl, rfl, by rw [Nat.add_assoc], by omega, by omega⟩
      · cases h
    · cases h
  · cases h
end Go.Proofs.Ythadagpfmacemaa.Rf
