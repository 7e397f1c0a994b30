/- Trim of package store (written by wip/gentrim.py). -/
import Derived.Test.YtikomnbhmmjfnaaGreatSSealP
import Derived.Test.YtikomnbhmmjfnaaGreatSTake3
namespace Go.Proofs.YtikomnbhmmjfnaaGreat
open Go.RowKit Go.Shelf
variable {w w' : World} {FD G : List Nat} {S D X Y : Nat} {fx fy : Lit → Option Value} {A : Nat → Nat → Value} {s : SSt}

theorem takes3 (l p : Nat) (hl : l < 281474976710656) (hp : p ≤ 4096) : Takes G S D X Y fx fy A s 3 ⟨3, l, p, []⟩ none 0 0 := by
  intro W FD' d h hd hfin _ _
  refine (take3_pic h l p hl hp ?_).mono ?_
  · show s.fin + 1 ≤ d.bs.length
    rw [hd]; have e1 : (⟨3, l, p, []⟩ : Ent).parts = 1 := by simp [Ent.parts, partsN]
    rw [e1] at hfin; exact hfin
  · rintro x w' ⟨rfl, fx', fy', A', h1, h2⟩
    exact ⟨rfl, _, fx', fy', A', h1, fun g hg => Or.inl hg, h2⟩
set_option maxRecDepth 100000 in
set_option maxHeartbeats 1000000 in
theorem trim_pic (h : SPic w FD G S D X Y fx fy A s) (l p : Int) (hl1 : -9223372036854775808 ≤ l) (hl2 : l ≤ 9223372036854775807) (hfew : ∀ x ∈ s.d.bs, x.vs.length ≤ 1000000) :
    Calls Tryz.prog 17 #[.pointer (some ⟨S, 0, none⟩), .int .i64 l, .int .i64 p] w (SPost w FD G S D X Y (s.trim l p)) := by
  have hm := smade_pic h
  have hpw := powerless_pic h
  have HS : Hid (∀ z : Int, s.trim l p = (z, s) → SPost w FD G S D X Y (s.trim l p) (.returned (.int .i64 z)) w) := fun z hz => by rw [hz]; exact SPost.same h z (Below.refl _ _)
  cases hL : isLogletN l with
  | false =>
    have HX := hide (HS.out 1 (by unfold SSt.trim; rw [hL]; rfl))
    clear h hfew HS hl1 hl2 hpw
    generalize s.trim l p = R at *
    go_enter Tryz.func17, Tryz.ntmps17
    go_wp2_with (first
      | (go_at_call 47; refine hm.mono ?_; rintro e w' ⟨rfl, hw'⟩; obtain rfl := hw'.symm)
      | (go_at_call 48; refine (isLoglet_any _ _).mono ?_; rintro e w' ⟨rfl, hw'⟩; obtain rfl := hw'.symm; rw [hL]))
    all_goals go_ret
    all_goals exact HX.out
  | true =>
    cases hT : isTrimN p with
    | false =>
      have HX := hide (HS.out 1 (by unfold SSt.trim; rw [hL, hT]; rfl))
      clear h hfew HS hl1 hl2 hpw
      generalize s.trim l p = R at *
      go_enter Tryz.func17, Tryz.ntmps17
      go_wp2_with (first
        | (go_at_call 47; refine hm.mono ?_; rintro e w' ⟨rfl, hw'⟩; obtain rfl := hw'.symm)
        | (go_at_call 48; refine (isLoglet_any _ _).mono ?_; rintro e w' ⟨rfl, hw'⟩; obtain rfl := hw'.symm; rw [hL])
        | (go_at_call 54; refine (isTrim_any _ _).mono ?_; rintro e w' ⟨rfl, hw'⟩; obtain rfl := hw'.symm; rw [hT]))
      all_goals go_ret
      all_goals exact HX.out
    | true =>
      obtain ⟨l, rfl⟩ : ∃ n : Nat, l = n := ⟨l.toNat, by simp [isLogletN] at hL; omega⟩
      obtain ⟨p, rfl⟩ : ∃ n : Nat, p = n := ⟨p.toNat, by simp [isTrimN] at hT; omega⟩
      have hl3 : l < 281474976710656 := by simp [isLogletN] at hL; omega
      have hp3 : p ≤ 4096 := by simp [isTrimN] at hT; omega
      cases hdn : s.down with
      | true =>
        have HX := hide (HS.out 8 (by unfold SSt.trim; rw [hL, hT, hdn]; rfl))
        rw [hdn] at hpw
        clear h hfew HS hl1 hl2 hdn hl3 hp3
        generalize s.trim (l : Int) (p : Int) = R at *
        go_enter Tryz.func17, Tryz.ntmps17
        go_wp2_with (first
          | (go_at_call 47; refine hm.mono ?_; rintro e w' ⟨rfl, hw'⟩; obtain rfl := hw'.symm)
          | (go_at_call 48; refine (isLoglet_any _ _).mono ?_; rintro e w' ⟨rfl, hw'⟩; obtain rfl := hw'.symm; rw [hL])
          | (go_at_call 54; refine (isTrim_any _ _).mono ?_; rintro e w' ⟨rfl, hw'⟩; obtain rfl := hw'.symm; rw [hT])
          | (go_at_call 51; refine hpw.mono ?_; rintro e w' ⟨rfl, hw'⟩; obtain rfl := hw'.symm))
        all_goals go_ret
        all_goals exact HX.out
      | false =>
        rw [hdn] at hpw
        obtain ⟨x, hx0⟩ : ∃ x, s.log l = x := ⟨_, rfl⟩
        have hlY := h.lookY (l : Int) hl1 hl2
        rw [look_nat, hx0] at hlY
        unfold logV at hlY
        have hf1 := fun W => (fld52 (.int .i64 (x.tail : Int)) (.int .i64 (x.trim : Int)) (.bool x.sealed) W).2.1
        obtain ⟨-, -, c2, -⟩ := h.cells
        have hse : s.trim (l : Int) (p : Int) = if p ≤ x.trim then (0, s) else s.record ⟨3, l, p, []⟩ := by
          unfold SSt.trim
          rw [if_pos (by rw [hL, hT]; rfl), if_neg (by rw [hdn]; simp), Int.toNat_natCast, Int.toNat_natCast, hx0]
        by_cases h7 : p ≤ x.trim
        · have HX := hide (HS.out 0 (by rw [hse, if_pos h7]))
          have h7' : decide (p ≤ x.trim) = true := by simpa using h7
          have h7i : (p : Int) ≤ (x.trim : Int) := by omega
          clear h hfew HS hl1 hl2 hdn hl3 hp3 hse hx0
          generalize s.trim (l : Int) (p : Int) = R at *
          go_enter Tryz.func17, Tryz.ntmps17
          go_wp2_with (first
            | (go_at_call 47; refine hm.mono ?_; rintro e w' ⟨rfl, hw'⟩; obtain rfl := hw'.symm)
            | (go_at_call 48; refine (isLoglet_any _ _).mono ?_; rintro e w' ⟨rfl, hw'⟩; obtain rfl := hw'.symm; rw [hL])
            | (go_at_call 54; refine (isTrim_any _ _).mono ?_; rintro e w' ⟨rfl, hw'⟩; obtain rfl := hw'.symm; rw [hT])
            | (go_at_call 51; refine hpw.mono ?_; rintro e w' ⟨rfl, hw'⟩; obtain rfl := hw'.symm))
          all_goals go_ret
          all_goals exact HX.out
        · have hrec : s.trim (l : Int) (p : Int) = s.record ⟨3, l, p, []⟩ := by rw [hse, if_neg h7]
          rw [hrec]
          have h7' : decide (p ≤ x.trim) = false := by simpa using h7
          have h7i : (x.trim : Int) < (p : Int) := by omega
          have HRc : Hid (Calls Tryz.prog 53 #[.pointer (some ⟨S, 0, none⟩), .agg #[.int .i64 3, .int .i64 (l : Int), .int .i64 (p : Int), .slice none 0 0]] w fun e w3 => ∃ z : Int, e = .returned (.int .i64 z) ∧ Hid (SPost w FD G S D X Y (s.record ⟨3, l, p, []⟩) e w3)) := by
            refine (record_any h 3 ⟨3, l, p, []⟩ rfl (by show 3 < 256; omega) hl3 (by show p < 281474976710656; omega) none 0 0 ⟨rfl, fun _ => ⟨rfl, rfl⟩, fun x hx => (by cases hx), Or.inl rfl⟩ (by omega) (fun g hg => (by cases hg)) hfew (takes3 l p hl3 hp3)).mono ?_
            intro e w3 hr
            exact ⟨_, hr.1, hr.post (Below.refl _ _) (fun g hg => (by cases hg))⟩
          clear h hfew HS hl1 hl2 hdn hl3 hp3 hse h7 hx0 hrec
          generalize s.record ⟨3, l, p, []⟩ = R at *
          go_enter Tryz.func17, Tryz.ntmps17
          go_wp2_with (first
            | (go_at_call 47; refine hm.mono ?_; rintro e w' ⟨rfl, hw'⟩; obtain rfl := hw'.symm)
            | (go_at_call 48; refine (isLoglet_any _ _).mono ?_; rintro e w' ⟨rfl, hw'⟩; obtain rfl := hw'.symm; rw [hL])
            | (go_at_call 54; refine (isTrim_any _ _).mono ?_; rintro e w' ⟨rfl, hw'⟩; obtain rfl := hw'.symm; rw [hT])
            | (go_at_call 51; refine hpw.mono ?_; rintro e w' ⟨rfl, hw'⟩; obtain rfl := hw'.symm)
            | (go_at_call 53; (with_reducible_and_instances (refine HRc.out.mono ?_)); rintro e w3 ⟨z, rfl, hX3⟩))
          all_goals go_ret
          all_goals exact hX3.out
end Go.Proofs.YtikomnbhmmjfnaaGreat
