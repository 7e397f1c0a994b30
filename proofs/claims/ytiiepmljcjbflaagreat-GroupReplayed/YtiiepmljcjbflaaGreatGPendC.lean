/- Pending of package group: a copy in new memory. -/
import Derived.Test.YtiiepmljcjbflaaGreatGAll
import Derived.Test.YtiiepmljcjbflaaGreatQLayPlain
namespace Go.Proofs.YtiiepmljcjbflaaGreat
open Go.RowKit Go.Shelf
variable {w w' W : World} {g n B : Nat} {G : Gp} {F : List Nat}

theorem clone_pd {base : Nat} {v : Value} {l : List (Int × Int × Int)} (h : OwnK kPd w base v l) (hl : l.length * 24 ≤ 140737488355328) : Calls Tryz.prog 46 #[v] w fun e w' => ∃ v', e = .returned v' ∧ OwnK kPd w' w.heap.size v' l ∧ Below w.heap.size w w' := by
  rcases h.2 with ⟨rfl, h0⟩ | ⟨g, cap, cur, rfl, hgb, hg, h1, h2, h3, h4⟩
  · have hk : l = [] := List.eq_nil_of_length_eq_zero h0
    subst hk
    refine (show Calls Tryz.prog 46 #[.slice none 0 0] w _ from AnyE.slices_Clone_nil Tryz.cloneP 0 0 w).mono ?_
    rintro e w' ⟨rfl, rfl⟩
    exact ⟨_, rfl, OwnK.nil _ _, Below.refl _ _⟩
  · obtain ⟨i0, hi, hz0, hz1, hz2⟩ := info_parts kPd_ok.info
    have hsz : ∀ w, (Go.sizeOf 98).run Tryz.prog w = .ok 3 w := fun w => by simp [Go.sizeOf, typeInfo, hi, hz1]
    have hl2 : (kPd.Vs l).length = l.length * 3 := by rw [kPd_ok.tofit.Vs_len]
    refine (show Calls Tryz.prog 46 #[.slice (some ⟨g, 0, none⟩) l.length cap] w _ from AnyE.slices_Clone Tryz.cloneP i0 (.agg #[.int .i64 0, .int .i64 0, .int .i64 0]) 3 24 hi hz0 hz1 hz2 rfl (by decide) hsz g 0 l.length cap (kPd.Vs l) w hl2 (by unfold maxLen; omega) (by omega) (fun j u hu => ?_) (kPd_ok.Vs_ones _)).mono ?_
    · have := World.ownsRow.cells h (g := g) rfl j u hu
      rw [addr_add] at this
      exact this
    · rintro e w' ⟨v', rfl, h5, -, hb⟩
      exact ⟨v', rfl, h5, hb⟩
set_option maxRecDepth 100000 in
theorem Pending_any (h : GAt w F g n G) (hl : G.pend.length * 24 ≤ 140737488355328) : Calls Tryz.prog 21 #[.pointer (some ⟨g, 0, none⟩)] w fun e w' => ∃ v, e = .returned v ∧ OwnK kPd w' w.heap.size v G.pend ∧ Below w.heap.size w w' := by
  obtain ⟨⟨M1, M2, M3, A, pv, h⟩, ho, -⟩ := h
  have HM := hid (made_any h)
  have c5 : w.cell? ⟨g, 5, none⟩ = some pv := h.box.cell 5
  have HC := hid (clone_pd h.pend hl)
  obtain ⟨pa, pc, hpv, -⟩ := h.pend.form kPd_ok.tofit
  subst hpv
  clear h
  go_enter Tryz.func21, Tryz.ntmps21
  go_wp2_with (first
    | (go_at_call 41; refine HM.out.mono ?_; rintro e w1 ⟨rfl, hw1⟩; obtain rfl := hw1.symm)
    | (go_at_call 46; (with_reducible_and_instances (refine HC.out.mono ?_)); rintro e w2 ⟨u, rfl, h2, h3⟩; have H2 := hid h2; have H3 := hid h3; clear h2 h3))
  go_ret
  exact ⟨_, rfl, H2.out, H3.out⟩
/-- .. of a group that a caller made: how many there are. -/
theorem GOf.pending (h : GOf B W g n G) (hn : n ≤ 598134325510144) : Calls Tryz.prog 21 #[.pointer (some ⟨g, 0, none⟩)] W fun e w' => (∃ a c, e = .returned (.slice a G.pend.length c)) ∧ Below W.heap.size W w' := by
  obtain ⟨F, h1, -⟩ := h
  have hl := h1.2.1.pend
  refine (Pending_any h1 (by omega)).mono ?_
  rintro r w' ⟨v, rfl, h2, h3⟩
  obtain ⟨a, c, rfl, -⟩ := h2.form kPd_ok.tofit
  exact ⟨⟨a, c, rfl⟩, h3⟩
end Go.Proofs.YtiiepmljcjbflaaGreat
