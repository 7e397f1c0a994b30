/- The contracts of spell and join in the form in which a walk meets them. -/
import Derived.Test.YtiiepmljcjbflaaGreatSpell
import Derived.Test.YtiiepmljcjbflaaGreatJoin
namespace Go.Proofs.YtiiepmljcjbflaaGreat
open Go.RowKit

theorem spell_at {z s : Int} (n size : Nat) (w : World) (hz : z = n) (hs : s = size) (h6 : size ≤ 6) :
    Calls Tryz.prog 89 #[.int .i64 z, .int .i64 s] w fun e w' => ∃ p : Part, e = .returned (.slice p.ad p.len p.cap) ∧ Hid (p.l = spellN n size) ∧ Hid (p.ok w') ∧ Below w.heap.size w w' := by
  subst hz hs
  refine (spell_any n size w h6).mono ?_
  rintro e w' ⟨v, rfl, hown, hb⟩
  obtain ⟨p, rfl, h1, h2⟩ := Part.of_own hown
  exact ⟨p, rfl, h1, h2, hb⟩
/-- A join of parts that lie in one new block. -/
theorem join_at (ps : List Part) (w0 : World) (cs : Array Value) (hcs : cs = (ps.map fun p => Value.slice p.ad p.len p.cap).toArray) (m c : Nat) (hm : ps.length = m) (hok : ∀ p ∈ ps, p.ok w0) (htot : (allN ps m).length ≤ 1000000) (hmm : m ≤ 1000) :
    Calls Tryz.prog 88 #[.slice (some ⟨w0.heap.size, 0, none⟩) m c] (w0.alloc (.cells cs 24)) fun e w' => ∃ p : Part, e = .returned (.slice p.ad p.len p.cap) ∧ Hid (p.l = allN ps m) ∧ Hid (Own w' w0.heap.size (.slice p.ad p.len p.cap) (allN ps m)) ∧ Hid (p.ok w') ∧ Below w0.heap.size w0 w' := by
  have hb0 : Below w0.heap.size w0 (w0.alloc (.cells cs 24)) := (Below.refl _ _).alloc (Nat.le_refl _) _
  refine (join_any w0.heap.size m c ps _ hm (by simp) ?_ ?_ htot hmm).mono ?_
  · intro i p hp
    subst hcs
    have hi : i < ps.length := (List.getElem?_eq_some_iff.1 hp).1
    simp [hp]
  · intro i p hp
    exact (hok p (List.mem_of_getElem? hp)).later hb0
  · rintro e w' ⟨v, rfl, hown, hb⟩
    obtain ⟨p, rfl, h1, h2⟩ := Part.of_own hown
    exact ⟨p, rfl, h1, hown.down (by simp), h2, hb0.trans (hb.mono (by simp))⟩
end Go.Proofs.YtiiepmljcjbflaaGreat
