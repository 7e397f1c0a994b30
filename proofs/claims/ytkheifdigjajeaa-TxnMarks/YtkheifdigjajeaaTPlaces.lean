/- Places of package txn: the places of a producer, in new memory. -/
import Derived.Test.YtkheifdigjajeaaTFace
namespace Go.Proofs.Ytkheifdigjajeaa
open Go.RowKit Go.Shelf
variable {w w' : World} {F : List Nat} {g M N i : Nat} {v : Value} {Z : List (Pr × Sl)} {B : Bk}

theorem clone_own {base : Nat} {v : Value} {l : List Int} (h : OwnK kZ w base v l) (hl : l.length ≤ 1048576) : Calls Try.prog 24 #[v] w fun e w' => ∃ v', e = .returned v' ∧ OwnK kZ w' w.heap.size v' l ∧ Below w.heap.size w w' := by
  rcases h.2 with ⟨rfl, h0⟩ | ⟨g, cap, cur, rfl, hgb, hg, h1, h2, h3, h4⟩
  · have hk : l = [] := List.eq_nil_of_length_eq_zero h0
    subst hk
    refine (show Calls Try.prog 24 #[.slice none 0 0] w _ from AnyE.slices_Clone_nil Try.cloneZ 0 0 w).mono ?_
    rintro e w' ⟨rfl, rfl⟩
    exact ⟨_, rfl, OwnK.nil _ _, Below.refl _ _⟩
  · obtain ⟨i0, hi, hz0, hz1, hz2⟩ := info_parts kZ_ok.info
    have hsz : ∀ w, (Go.sizeOf 3).run Try.prog w = .ok 1 w := fun w => by simp [Go.sizeOf, typeInfo, hi, hz1]
    have hl2 : (kZ.Vs l).length = l.length * 1 := by rw [kZ_ok.tofit.Vs_len]
    refine (show Calls Try.prog 24 #[.slice (some ⟨g, 0, none⟩) l.length cap] w _ from AnyE.slices_Clone Try.cloneZ i0 (.int .i64 0) 1 8 hi hz0 hz1 hz2 rfl (by decide) hsz g 0 l.length cap (kZ.Vs l) w hl2 (by unfold maxLen; omega) (by omega) (fun j u hu => ?_) (kZ_ok.Vs_ones _)).mono ?_
    · have := World.ownsRow.cells h (g := g) rfl j u hu
      rw [addr_add] at this
      exact this
    · rintro e w' ⟨v', rfl, h5, -, hb⟩
      exact ⟨v', rfl, h5, hb⟩
set_option maxRecDepth 100000 in
theorem Places_any (h : BP w F g M v Z B) (hB : BkOk B) (hi : i < B.ps.length) : Calls Try.prog 14 #[.pointer (some ⟨g, 0, none⟩), .int .i64 (i : Int)] w fun e w' => ∃ u, e = .returned u ∧ OwnK kZ w' w.heap.size u (B.at i).pl ∧ Below w.heap.size w w' := by
  obtain ⟨pb, c, rfl, -⟩ := h.form (Nat.lt_of_le_of_lt (Nat.zero_le _) hi)
  obtain ⟨s, hs, hpl, -⟩ := h.get hi
  obtain ⟨-, -, -, -, c4, -⟩ := h.cells hi hs
  have HA := hid (at_in h hi)
  have HC := hid (clone_own hpl (Nat.le_trans (hB.at i).cnt (by omega)))
  have e1 : s.v = .slice s.ad s.m s.c := rfl
  rw [e1] at HC
  clear h hs hpl e1
  unfold Ptr at HA
  generalize i * 5 = o at *
  go_enter Try.func14, Try.ntmps14
  go_wp2_with (first
    | (go_at_call 22; refine HA.out.mono ?_; rintro e w1 ⟨rfl, hw1⟩; obtain rfl := hw1.symm)
    | (go_at_call 24; (with_reducible_and_instances (refine HC.out.mono ?_)); rintro e w2 ⟨u, rfl, h2, h3⟩; have H2 := hid h2; have H3 := hid h3; clear h2 h3))
  go_ret
  exact ⟨_, rfl, H2.out, H3.out⟩
theorem BOf.places (h : BOf N w g B) (hi : i < B.ps.length) : Calls Try.prog 14 #[.pointer (some ⟨g, 0, none⟩), .int .i64 (i : Int)] w fun e w' => ∃ u, e = .returned u ∧ OwnK kZ w' w.heap.size u (B.at i).pl ∧ Below w.heap.size w w' := by
  obtain ⟨F, ⟨⟨M, v, Z, h1⟩, hB, -⟩, -⟩ := h
  exact Places_any h1 hB hi
end Go.Proofs.Ytkheifdigjajeaa
