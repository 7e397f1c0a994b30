/- What is small in package group: made, has. -/
import Derived.Test.YtipgociofjokeaaGreatGMem
import Derived.Test.YtipgociofjokeaaGreatPGEv
import Derived.WalkLawsBesides
namespace Go.Proofs.YtipgociofjokeaaGreat
open Go.RowKit Go.Shelf
variable {w w' : World} {g M1 M2 M3 n : Nat} {A : Nm → Sl} {pv : Value} {G : Gp} {F : List Nat}

set_option maxRecDepth 100000 in
theorem made_any (h : GP w F g M1 M2 M3 n A pv G) : Calls Tryz.prog 16 #[.pointer (some ⟨g, 0, none⟩)] w fun e w' => e = .returned (.bool true) ∧ w' = w := by
  have c3 := h.box.cell 3
  simp only [List.getElem?_toArray, List.getElem?_cons_zero, List.getElem?_cons_succ] at c3
  have hq := run_neq_map_nil (P := Tryz.prog) w TMb 9 57 (some M1) Tryz.underlying37
  clear h
  go_enter Tryz.func16, Tryz.ntmps16
  go_wp2_with fail
  go_ret
  exact ⟨rfl, rfl⟩
set_option maxRecDepth 100000 in
theorem made_nil (w : World) : Calls Tryz.prog 16 #[.pointer none] w fun e w' => e = .returned (.bool false) ∧ w' = w := by
  go_enter Tryz.func16, Tryz.ntmps16
  go_wp2_with fail
  go_ret
  exact ⟨rfl, rfl⟩
set_option maxRecDepth 100000 in
theorem made_not (hc : w.cell? ⟨g, 3, none⟩ = some (.map none)) : Calls Tryz.prog 16 #[.pointer (some ⟨g, 0, none⟩)] w fun e w' => e = .returned (.bool false) ∧ w' = w := by
  have hq := run_neq_map_nil (P := Tryz.prog) w TMb 9 57 none Tryz.underlying37
  go_enter Tryz.func16, Tryz.ntmps16
  go_wp2_with fail
  go_ret
  exact ⟨rfl, rfl⟩
set_option maxRecDepth 100000 in
theorem has_any (h : GP w F g M1 M2 M3 n A pv G) (s : Nm) (hs : s.length ≤ maxLen) : Calls Tryz.prog 54 #[.pointer (some ⟨g, 0, none⟩), .string (nmS s)] w fun e w' => e = .returned (.bool (G.has s)) ∧ ∃ o, w' = w.alloc o := by
  have c3 := h.box.cell 3
  simp only [List.getElem?_toArray, List.getElem?_cons_zero, List.getElem?_cons_succ] at c3
  have hl := h.look_ok s hs
  clear h
  generalize nmS s = t at *
  generalize G.heard s = hd at *
  generalize slOf G A s = sl at *
  obtain ⟨sa, sm, sc⟩ := sl
  dsimp only at hl
  generalize G.has s = hb at *
  go_enter Tryz.func54, Tryz.ntmps54
  go_wp2_with fail
  go_ret
  exact ⟨rfl, _, rfl⟩
end Go.Proofs.YtipgociofjokeaaGreat
