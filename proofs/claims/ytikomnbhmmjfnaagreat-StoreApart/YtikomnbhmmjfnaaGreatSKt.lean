/- Two stores beside each other, and boxes of the caller's own. -/
import Derived.Test.YtikomnbhmmjfnaaGreatSToldEq
import Derived.Test.YtikomnbhmmjfnaaGreatSApartM
namespace Go.Proofs.YtikomnbhmmjfnaaGreat
open Go.RowKit Go.Shelf Crcm

structure KT (w0 w : World) (S T : Nat) (s t : SSt) (X : List BxS) : Prop where
  up : ∃ F G, SU w F S s ∧ SU w G T t ∧ (∀ g ∈ F, w0.heap.size ≤ g) ∧ (∀ g ∈ G, w0.heap.size ≤ g) ∧ (∀ g ∈ F, g ∉ G) ∧ ∀ x ∈ X, x.1 ∉ F ∧ x.1 ∉ G
  box : ∀ x ∈ X, Blk w x.1 x.2.1 x.2.2
  own : ∀ x ∈ X, w0.heap.size ≤ x.1
  below : Below w0.heap.size w0 w
variable {w0 w w' : World} {S T : Nat} {s t s' : SSt} {X : List BxS}
theorem KT.saS (h : KT w0 w S T s t X) : SA 0 w S s := by
  obtain ⟨F, G, h1, -⟩ := h.up
  exact h1.sa
theorem KT.saT (h : KT w0 w S T s t X) : SA 0 w T t := by
  obtain ⟨F, G, -, h1, -⟩ := h.up
  exact h1.sa
theorem KT.later (h : KT w0 w S T s t X) (hb : Below w.heap.size w w') : KT w0 w' S T s t X := by
  obtain ⟨F, G, h1, h2, h3, h4, h5, h6⟩ := h.up
  exact ⟨⟨F, G, h1.later hb, h2.later hb, h3, h4, h5, h6⟩, fun x hx => (h.box x hx).later hb, h.own, h.below.trans (hb.mono h.below.size)⟩
theorem KT.sub {Y : List BxS} (h : KT w0 w S T s t X) (hs : ∀ y ∈ Y, y ∈ X) : KT w0 w S T s t Y := by
  obtain ⟨F, G, h1, h2, h3, h4, h5, h6⟩ := h.up
  exact ⟨⟨F, G, h1, h2, h3, h4, h5, fun x hx => h6 x (hs x hx)⟩, fun x hx => h.box x (hs x hx), fun x hx => h.own x (hs x hx), h.below⟩
theorem KT.alloc (h : KT w0 w S T s t X) (cs : Array Value) (U : TypeId) : KT w0 (w.alloc (.cells cs U)) S T s t ((w.heap.size, cs, U) :: X) := by
  have hb : Below w.heap.size w (w.alloc (.cells cs U)) := (Below.refl _ _).alloc (Nat.le_refl _) _
  have h' := h.later hb
  obtain ⟨F, G, h1, h2, h3, h4, h5, h6⟩ := h.up
  have hF := h1.lt
  have hG := h2.lt
  refine ⟨⟨F, G, h1.later hb, h2.later hb, h3, h4, h5, fun x hx => ?_⟩, fun x hx => ?_, fun x hx => ?_, h'.below⟩
  · simp only [List.mem_cons] at hx
    rcases hx with rfl | hx
    · exact ⟨fun hm => absurd (hF _ hm) (by simp), fun hm => absurd (hG _ hm) (by simp)⟩
    · exact h6 x hx
  · simp only [List.mem_cons] at hx
    rcases hx with rfl | hx
    · exact heap_alloc_last w _
    · exact h'.box x hx
  · simp only [List.mem_cons] at hx
    rcases hx with rfl | hx
    · exact h.below.size
    · exact h.own x hx
/-- A call on the first one. -/
theorem KT.movS (h : KT w0 w S T s t X) {v : Value} {x0 : Int} (hc : ∀ F, SU w F S s → Calls Tryz.prog 26 #[.pointer (some ⟨S, 0, none⟩), v] w fun x w' => x = .returned (.int .i64 x0) ∧ SMv F S s' w w') : Calls Tryz.prog 26 #[.pointer (some ⟨S, 0, none⟩), v] w fun x w' => x = .returned (.int .i64 x0) ∧ Hid (KT w0 w' S T s' t X) := by
  obtain ⟨F, G, h1, h2, h3, h4, h5, h6⟩ := h.up
  refine (hc F h1).mono ?_
  rintro x w' ⟨rfl, ⟨F', n1, hF'⟩, hch⟩
  have hG := h2.lt
  refine ⟨rfl, hide ⟨⟨F', G, n1, h2.keepF (fun g hg => hch.block g (hG g hg) (fun hm => h5 g hm hg)) hch.size, fun g hg => ?_, h4, fun g hg hm => ?_, fun x hx => ⟨fun hm => ?_, (h6 x hx).2⟩⟩, fun x hx => (h.box x hx).chg hch (h6 x hx).1, h.own, h.below.trans (hch.below h3 h.below.size)⟩⟩
  · exact (hF' g hg).elim (h3 g) (fun hh => Nat.le_trans h.below.size hh)
  · exact (hF' g hg).elim (fun hh => h5 g hh hm) (fun hh => absurd (hG g hm) (by omega))
  · exact (hF' _ hm).elim (h6 x hx).1 (fun hh => absurd (h.box x hx).lt (by omega))
theorem KT.swap (h : KT w0 w S T s t X) : KT w0 w T S t s X := by
  obtain ⟨F, G, h1, h2, h3, h4, h5, h6⟩ := h.up
  exact ⟨⟨G, F, h2, h1, h4, h3, fun g hg hm => h5 g hm hg, fun x hx => ⟨(h6 x hx).2, (h6 x hx).1⟩⟩, h.box, h.own, h.below⟩
/-- One cell of a box is stored anew. -/
theorem KT.cell {B p : Nat} {cs : Array Value} {U : TypeId} {v : Value} (h : KT w0 w S T s t [(B, cs, U)]) : KT w0 (w.setCell ⟨B, p, none⟩ v) S T s t [(B, cs.setIfInBounds p v, U)] := by
  obtain ⟨F, G, h1, h2, h3, h4, h5, h6⟩ := h.up
  have hB := h6 (B, cs, U) List.mem_cons_self
  have ho := h.own (B, cs, U) List.mem_cons_self
  refine ⟨⟨F, G, h1.keepF (fun g hg => Below.heap_setCell _ _ _ _ (fun e => by subst e; exact hB.1 hg)) (by simp [World.setCell]), h2.keepF (fun g hg => Below.heap_setCell _ _ _ _ (fun e => by subst e; exact hB.2 hg)) (by simp [World.setCell]), h3, h4, h5, fun x hx => ?_⟩, fun x hx => ?_, fun x hx => ?_, h.below.setCell (p := ⟨B, p, none⟩) ho _⟩
  · simp only [List.mem_cons, List.not_mem_nil, or_false] at hx; subst hx; exact hB
  · simp only [List.mem_cons, List.not_mem_nil, or_false] at hx; subst hx; exact (h.box (B, cs, U) List.mem_cons_self).set p v
  · simp only [List.mem_cons, List.not_mem_nil, or_false] at hx; subst hx; exact ho
/-- Two disks are made. -/
structure Two2 (w0 w : World) (C D n : Nat) : Prop where
  up : ∃ F G, Dk w F C (newD n) ∧ Dk w G D (newD n) ∧ (∀ g ∈ F, w0.heap.size ≤ g) ∧ (∀ g ∈ G, w0.heap.size ≤ g) ∧ (∀ g ∈ F, g ∉ G)
  below : Below w0.heap.size w0 w
theorem Two2.make {w1 : World} {F G : List Nat} {C D n : Nat} (h1 : Dk w F C (newD n)) (hF : ∀ g ∈ F, w0.heap.size ≤ g) (hb : Below w0.heap.size w0 w) (h2 : Dk w1 G D (newD n)) (hG : ∀ g ∈ G, w.heap.size ≤ g) (hb2 : Below w.heap.size w w1) : Two2 w0 w1 C D n :=
  ⟨⟨F, G, h1.keep (fun g hg => hb2.block g (h1.lt g hg)) hb2.size, h2, hF, fun g hg => Nat.le_trans hb.size (hG g hg), fun g hg hm => absurd (h1.lt g hg) (by have := hG g hm; omega)⟩, hb.trans (hb2.mono hb.size)⟩
/-- The first one is opened. -/
structure Half (w0 w : World) (S D n : Nat) : Prop where
  up : ∃ F G, SU w F S (sst0 (newD n)) ∧ Dk w G D (newD n) ∧ (∀ g ∈ F, w0.heap.size ≤ g) ∧ (∀ g ∈ G, w0.heap.size ≤ g) ∧ (∀ g ∈ F, g ∉ G)
  below : Below w0.heap.size w0 w
theorem Two2.open {C D n : Nat} (h : Two2 w0 w C D n) : Calls Tryz.prog 12 #[.pointer (some ⟨C, 0, none⟩)] w fun x w' => ∃ S, x = .returned (.tuple #[.pointer (some ⟨S, 0, none⟩), .int .i64 0]) ∧ Hid (Half w0 w' S D n) := by
  obtain ⟨F, G, h1, h2, h3, h4, h5⟩ := h.up
  obtain ⟨f1, f2, f3⟩ := new_free n
  refine (open_new h1 f1.on f3).mono ?_
  rintro x w' ⟨S, rfl, FD', GG, X, Y, fx, fy, A, hp, k1, k2, hc⟩
  refine ⟨S, rfl, hide ⟨⟨GG ++ FD', G, ⟨⟨FD', GG, C, X, Y, fx, fy, A, hp, rfl⟩, f1, f2⟩, h2.keep (fun g hg => hc.block g (h2.lt g hg) (fun hm => h5 g hm hg)) hc.size, fun g hg => ?_, h4, fun g hg hm => ?_⟩, h.below.trans (hc.below h3 h.below.size)⟩⟩
  · rcases List.mem_append.1 hg with hh | hh
    · exact Nat.le_trans h.below.size (k2 g hh)
    · exact (k1 g hh).elim (h3 g) (fun hh => Nat.le_trans h.below.size hh)
  · rcases List.mem_append.1 hg with hh | hh
    · exact absurd (h2.lt g hm) (by have := k2 g hh; omega)
    · exact (k1 g hh).elim (fun hh => h5 g hh hm) (fun hh => absurd (h2.lt g hm) (by omega))
theorem Half.open {D n : Nat} (h : Half w0 w S D n) : Calls Tryz.prog 12 #[.pointer (some ⟨D, 0, none⟩)] w fun x w' => ∃ T, x = .returned (.tuple #[.pointer (some ⟨T, 0, none⟩), .int .i64 0]) ∧ Hid (KT w0 w' S T (sst0 (newD n)) (sst0 (newD n)) []) := by
  obtain ⟨F, G, h1, h2, h3, h4, h5⟩ := h.up
  obtain ⟨f1, f2, f3⟩ := new_free n
  refine (open_new h2 f1.on f3).mono ?_
  rintro x w' ⟨T, rfl, FD', GG, X, Y, fx, fy, A, hp, k1, k2, hc⟩
  refine ⟨T, rfl, hide ⟨⟨F, GG ++ FD', h1.keepF (fun g hg => hc.block g (h1.lt g hg) (fun hm => h5 g hg hm)) hc.size, ⟨⟨FD', GG, D, X, Y, fx, fy, A, hp, rfl⟩, f1, f2⟩, h3, fun g hg => ?_, fun g hg hm => ?_, fun x hx => (by cases hx)⟩, fun x hx => (by cases hx), fun x hx => (by cases hx), h.below.trans (hc.below h4 h.below.size)⟩⟩
  · rcases List.mem_append.1 hg with hh | hh
    · exact Nat.le_trans h.below.size (k2 g hh)
    · exact (k1 g hh).elim (h4 g) (fun hh => Nat.le_trans h.below.size hh)
  · rcases List.mem_append.1 hm with hh | hh
    · exact absurd (h1.lt g hg) (by have := k2 g hh; omega)
    · exact (k1 g hh).elim (fun hh => h5 g hg hh) (fun hh => absurd (h1.lt g hg) (by omega))
end Go.Proofs.YtikomnbhmmjfnaaGreat
