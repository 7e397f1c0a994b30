/- Seal of package store (written by wip/gensealp.py). -/
import Derived.Test.YtikomnbhmmjfnaaGreatSPut
import Derived.Test.YtikomnbhmmjfnaaGreatSTake2
namespace Go.Proofs.YtikomnbhmmjfnaaGreat
open Go.RowKit Go.Shelf
variable {w w' : World} {FD G : List Nat} {S D X Y : Nat} {fx fy : Lit → Option Value} {A : Nat → Nat → Value} {s : SSt}

theorem takes2 (l : Nat) (hl : l < 281474976710656) : Takes G S D X Y fx fy A s 2 ⟨2, l, 0, []⟩ none 0 0 := by
  intro W FD' d h hd hfin _ _
  refine (take2_pic h l 0 hl ?_).mono ?_
  · show s.fin + 1 ≤ d.bs.length
    rw [hd]; have e1 : (⟨2, l, 0, []⟩ : Ent).parts = 1 := by simp [Ent.parts, partsN]
    rw [e1] at hfin; exact hfin
  · rintro x w' ⟨rfl, fx', fy', A', h1, h2⟩
    exact ⟨rfl, _, fx', fy', A', h1, fun g hg => Or.inl hg, h2⟩
set_option maxRecDepth 100000 in
set_option maxHeartbeats 1000000 in
theorem seal_pic (h : SPic w FD G S D X Y fx fy A s) (l : Int) (hl1 : -9223372036854775808 ≤ l) (hl2 : l ≤ 9223372036854775807) (hfew : ∀ x ∈ s.d.bs, x.vs.length ≤ 1000000) :
    Calls Tryz.prog 16 #[.pointer (some ⟨S, 0, none⟩), .int .i64 l] w (SPost w FD G S D X Y (s.seal l)) := by
  have hm := smade_pic h
  have hpw := powerless_pic h
  have HS : Hid (∀ z : Int, s.seal l = (z, s) → SPost w FD G S D X Y (s.seal l) (.returned (.int .i64 z)) w) := fun z hz => by rw [hz]; exact SPost.same h z (Below.refl _ _)
  cases hL : isLogletN l with
  | false =>
    have HX := hide (HS.out 1 (by unfold SSt.seal; rw [hL]; rfl))
    clear h hfew HS hl1 hl2 hpw
    generalize s.seal l = R at *
    go_enter Tryz.func16, Tryz.ntmps16
    go_wp2_with (first
      | (go_at_call 47; refine hm.mono ?_; rintro e w' ⟨rfl, hw'⟩; obtain rfl := hw'.symm)
      | (go_at_call 48; refine (isLoglet_any _ _).mono ?_; rintro e w' ⟨rfl, hw'⟩; obtain rfl := hw'.symm; rw [hL]))
    all_goals go_ret
    all_goals exact HX.out
  | true =>
    obtain ⟨l, rfl⟩ : ∃ n : Nat, l = n := ⟨l.toNat, by simp [isLogletN] at hL; omega⟩
    have hl3 : l < 281474976710656 := by simp [isLogletN] at hL; omega
    cases hdn : s.down with
    | true =>
      have HX := hide (HS.out 8 (by unfold SSt.seal; rw [hL, hdn]; rfl))
      rw [hdn] at hpw
      clear h hfew HS hl1 hl2 hdn hl3
      generalize s.seal (l : Int) = R at *
      go_enter Tryz.func16, Tryz.ntmps16
      go_wp2_with (first
        | (go_at_call 47; refine hm.mono ?_; rintro e w' ⟨rfl, hw'⟩; obtain rfl := hw'.symm)
        | (go_at_call 48; refine (isLoglet_any _ _).mono ?_; rintro e w' ⟨rfl, hw'⟩; obtain rfl := hw'.symm; rw [hL])
        | (go_at_call 51; refine hpw.mono ?_; rintro e w' ⟨rfl, hw'⟩; obtain rfl := hw'.symm))
      all_goals go_ret
      all_goals exact HX.out
    | false =>
      rw [hdn] at hpw
      obtain ⟨x, hx0⟩ : ∃ x, s.log l = x := ⟨_, rfl⟩
      have hlY := h.lookY (l : Int) hl1 hl2
      rw [look_nat, hx0] at hlY
      unfold logV at hlY
      have hf2 := fun W => (fld52 (.int .i64 (x.tail : Int)) (.int .i64 (x.trim : Int)) (.bool x.sealed) W).2.2
      obtain ⟨-, -, c2, -⟩ := h.cells
      have hse : s.seal (l : Int) = if x.sealed then (0, s) else s.record ⟨2, l, 0, []⟩ := by
        unfold SSt.seal
        rw [if_pos hL, if_neg (by rw [hdn]; simp), Int.toNat_natCast, hx0]
      cases h7 : x.sealed with
      | true =>
        have HX := hide (HS.out 0 (by rw [hse, if_pos h7]))
        rw [h7] at hlY hf2
        clear h hfew HS hl1 hl2 hdn hl3 hse h7 hx0
        generalize s.seal (l : Int) = R at *
        go_enter Tryz.func16, Tryz.ntmps16
        go_wp2_with (first
          | (go_at_call 47; refine hm.mono ?_; rintro e w' ⟨rfl, hw'⟩; obtain rfl := hw'.symm)
          | (go_at_call 48; refine (isLoglet_any _ _).mono ?_; rintro e w' ⟨rfl, hw'⟩; obtain rfl := hw'.symm; rw [hL])
          | (go_at_call 51; refine hpw.mono ?_; rintro e w' ⟨rfl, hw'⟩; obtain rfl := hw'.symm))
        all_goals go_ret
        all_goals exact HX.out
      | false =>
        have hrec : s.seal (l : Int) = s.record ⟨2, l, 0, []⟩ := by rw [hse, if_neg (by rw [h7]; simp)]
        rw [hrec]
        rw [h7] at hlY hf2
        have HRc : Hid (Calls Tryz.prog 53 #[.pointer (some ⟨S, 0, none⟩), .agg #[.int .i64 2, .int .i64 (l : Int), .int .i64 0, .slice none 0 0]] w fun e w3 => ∃ z : Int, e = .returned (.int .i64 z) ∧ Hid (SPost w FD G S D X Y (s.record ⟨2, l, 0, []⟩) e w3)) := by
          refine (record_any h 2 ⟨2, l, 0, []⟩ rfl (by show 2 < 256; omega) hl3 (by show 0 < 281474976710656; omega) none 0 0 ⟨rfl, fun _ => ⟨rfl, rfl⟩, fun x hx => (by cases hx), Or.inl rfl⟩ (by omega) (fun g hg => (by cases hg)) hfew (takes2 l hl3)).mono ?_
          intro e w3 hr
          exact ⟨_, hr.1, hr.post (Below.refl _ _) (fun g hg => (by cases hg))⟩
        clear h hfew HS hl1 hl2 hdn hl3 hse h7 hx0 hrec
        generalize s.record ⟨2, l, 0, []⟩ = R at *
        go_enter Tryz.func16, Tryz.ntmps16
        go_wp2_with (first
          | (go_at_call 47; refine hm.mono ?_; rintro e w' ⟨rfl, hw'⟩; obtain rfl := hw'.symm)
          | (go_at_call 48; refine (isLoglet_any _ _).mono ?_; rintro e w' ⟨rfl, hw'⟩; obtain rfl := hw'.symm; rw [hL])
          | (go_at_call 51; refine hpw.mono ?_; rintro e w' ⟨rfl, hw'⟩; obtain rfl := hw'.symm)
          | (go_at_call 53; (with_reducible_and_instances (refine HRc.out.mono ?_)); rintro e w3 ⟨z, rfl, hX3⟩))
        all_goals go_ret
        all_goals exact hX3.out
end Go.Proofs.YtikomnbhmmjfnaaGreat
