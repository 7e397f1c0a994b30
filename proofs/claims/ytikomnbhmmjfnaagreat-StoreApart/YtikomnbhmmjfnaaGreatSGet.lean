/- Get, Sealed and Trimmed of a store (written by wip/gengetp.py). -/
import Derived.Test.YtikomnbhmmjfnaaGreatSSmall
import Derived.Test.YtikomnbhmmjfnaaGreatSGive
namespace Go.Proofs.YtikomnbhmmjfnaaGreat
open Go.RowKit
variable {w w' : World} {FD G : List Nat} {S D X Y : Nat} {fx fy : Lit → Option Value} {A : Nat → Nat → Value} {s : SSt}

/-- What Get answers. -/
def GPost (w : World) (r : List Nat × Int) (e : Ending) (w' : World) : Prop := ∃ v, e = .returned (.tuple #[v, .int .i64 r.2]) ∧ Own w' w.heap.size v r.1 ∧ Below w.heap.size w w'
theorem GPost.no (w : World) (z : Int) : GPost w ([], z) (.returned (.tuple #[.slice none 0 0, .int .i64 z])) w := ⟨_, rfl, Own.nil _ _, Below.refl _ _⟩
set_option maxRecDepth 100000 in
set_option maxHeartbeats 1000000 in
theorem get_pic (h : SPic w FD G S D X Y fx fy A s) (l p : Int) (hl1 : -9223372036854775808 ≤ l) (hl2 : l ≤ 9223372036854775807) : Calls Tryz.prog 14 #[.pointer (some ⟨S, 0, none⟩), .int .i64 l, .int .i64 p] w (GPost w (s.get l p)) := by
  have hm := smade_pic h
  have HS : Hid (∀ z : Int, s.get l p = ([], z) → GPost w (s.get l p) (.returned (.tuple #[.slice none 0 0, .int .i64 z])) w) := fun z hz => by rw [hz]; exact GPost.no w z
  by_cases hin : (isLogletN l && isPlaceN p) = true
  · have hL : isLogletN l = true := by simp only [Bool.and_eq_true] at hin; exact hin.1
    have hP : isPlaceN p = true := by simp only [Bool.and_eq_true] at hin; exact hin.2
    obtain ⟨l, rfl⟩ : ∃ n : Nat, l = n := ⟨l.toNat, by simp [isLogletN] at hL; omega⟩
    obtain ⟨p, rfl⟩ : ∃ n : Nat, p = n := ⟨p.toNat, by simp [isPlaceN] at hP; omega⟩
    have hl3 : l < 281474976710656 := by simp [isLogletN] at hL; omega
    have hp3 : p < 4096 := by simp [isPlaceN] at hP; omega
    obtain ⟨x, hx0⟩ : ∃ x, s.log l = x := ⟨_, rfl⟩
    have hlY := h.lookY (l : Int) hl1 hl2
    rw [look_nat, hx0] at hlY
    unfold logV at hlY
    have hf1 := fun W => (fld52 (.int .i64 (x.tail : Int)) (.int .i64 (x.trim : Int)) (.bool x.sealed) W).2.1
    obtain ⟨-, c1, c2, -⟩ := h.cells
    have hlX := h.lookX l p hl3 hp3
    have hget : s.get (l : Int) (p : Int) = if p < x.trim then (([], 32) : List Nat × Int) else match s.slots l p with | some d => (d, 0) | none => ([], 3) := by
      unfold SSt.get
      rw [if_pos hin, Int.toNat_natCast, Int.toNat_natCast, hx0]
      cases s.slots l p <;> rfl
    have HGe := hide hget
    clear hget hx0
    by_cases htr : p < x.trim
    · have HX := hide (HS.out 32 (by rw [HGe.out, if_pos htr]))
      have htr2 : (p : Int) < (x.trim : Int) := by omega
      clear h hin HS hl1 hl2 HGe htr hlX hl3 hp3
      generalize s.get (l : Int) (p : Int) = R at *
      go_enter Tryz.func14, Tryz.ntmps14
      go_wp2_with (first
        | (go_at_call 47; refine hm.mono ?_; rintro e w' ⟨rfl, hw'⟩; obtain rfl := hw'.symm)
        | (go_at_call 48; refine (isLoglet_any _ _).mono ?_; rintro e w' ⟨rfl, hw'⟩; obtain rfl := hw'.symm; rw [hL])
        | (go_at_call 49; refine (isPlace_any _ _).mono ?_; rintro e w' ⟨rfl, hw'⟩; obtain rfl := hw'.symm; rw [hP]))
      all_goals go_ret2
      all_goals exact HX.out
    · have htr2 : (decide (p < x.trim)) = false := decide_eq_false htr
      cases hsl : s.slots l p with
      | some d =>
        obtain ⟨a2, cp2, e2, hp2, -⟩ := h.dat l p d hsl
        rw [hsl, Option.map_some, Option.getD_some, Option.isSome_some, e2] at hlX
        have hdl := (h.ok.slots l p d hsl).2.2
        have hcl := bclone_any a2 d.length cp2 d w hp2 (by omega)
        have hge2 : s.get (l : Int) (p : Int) = (d, 0) := by rw [HGe.out, if_neg htr, hsl]
        rw [hge2]
        generalize hdn : d.length = n at *
        clear h hin HS hl1 hl2 HGe htr hl3 hp3 hp2 e2 hsl hge2 hdl hdn
        go_enter Tryz.func14, Tryz.ntmps14
        go_wp2_with (first
          | (go_at_call 47; refine hm.mono ?_; rintro e w' ⟨rfl, hw'⟩; obtain rfl := hw'.symm)
          | (go_at_call 48; refine (isLoglet_any _ _).mono ?_; rintro e w' ⟨rfl, hw'⟩; obtain rfl := hw'.symm; rw [hL])
          | (go_at_call 49; refine (isPlace_any _ _).mono ?_; rintro e w' ⟨rfl, hw'⟩; obtain rfl := hw'.symm; rw [hP])
          | (go_at_call 50; refine hcl.mono ?_; rintro e w2 ⟨q, rfl, e1, o1, k1, b1⟩))
        all_goals go_ret2
        all_goals exact ⟨_, rfl, o1.out, b1⟩
      | none =>
        rw [hsl, Option.map_none, Option.getD_none, Option.isSome_none] at hlX
        have HX := hide (HS.out 3 (by rw [HGe.out, if_neg htr, hsl]))
        clear h hin HS hl1 hl2 HGe htr hl3 hp3 hsl
        generalize s.get (l : Int) (p : Int) = R at *
        go_enter Tryz.func14, Tryz.ntmps14
        go_wp2_with (first
          | (go_at_call 47; refine hm.mono ?_; rintro e w' ⟨rfl, hw'⟩; obtain rfl := hw'.symm)
          | (go_at_call 48; refine (isLoglet_any _ _).mono ?_; rintro e w' ⟨rfl, hw'⟩; obtain rfl := hw'.symm; rw [hL])
          | (go_at_call 49; refine (isPlace_any _ _).mono ?_; rintro e w' ⟨rfl, hw'⟩; obtain rfl := hw'.symm; rw [hP]))
        all_goals go_ret2
        all_goals exact HX.out
  · have HX := hide (HS.out 1 (by unfold SSt.get; rw [if_neg hin]))
    cases hL : isLogletN l with
    | false =>
      clear h hin HS hl1 hl2
      generalize s.get l p = R at *
      go_enter Tryz.func14, Tryz.ntmps14
      go_wp2_with (first
        | (go_at_call 47; refine hm.mono ?_; rintro e w' ⟨rfl, hw'⟩; obtain rfl := hw'.symm)
        | (go_at_call 48; refine (isLoglet_any _ _).mono ?_; rintro e w' ⟨rfl, hw'⟩; obtain rfl := hw'.symm; rw [hL]))
      all_goals go_ret2
      all_goals exact HX.out
    | true =>
      have hP : isPlaceN p = false := by rw [hL] at hin; simpa using hin
      clear h hin HS hl1 hl2
      generalize s.get l p = R at *
      go_enter Tryz.func14, Tryz.ntmps14
      go_wp2_with (first
        | (go_at_call 47; refine hm.mono ?_; rintro e w' ⟨rfl, hw'⟩; obtain rfl := hw'.symm)
        | (go_at_call 48; refine (isLoglet_any _ _).mono ?_; rintro e w' ⟨rfl, hw'⟩; obtain rfl := hw'.symm; rw [hL])
        | (go_at_call 49; refine (isPlace_any _ _).mono ?_; rintro e w' ⟨rfl, hw'⟩; obtain rfl := hw'.symm; rw [hP]))
      all_goals go_ret2
      all_goals exact HX.out
set_option maxRecDepth 100000 in
set_option maxHeartbeats 1000000 in
theorem sealed_pic (h : SPic w FD G S D X Y fx fy A s) (i : Int) (h1 : -9223372036854775808 ≤ i) (h2 : i ≤ 9223372036854775807) : Calls Tryz.prog 22 #[.pointer (some ⟨S, 0, none⟩), .int .i64 i] w fun e w' => e = .returned (.bool (s.look i).sealed) ∧ Below w.heap.size w w' := by
  have hl := look_pic h i h1 h2
  unfold logV at hl
  have hf := fun W => (fld52 (.int .i64 ((s.look i).tail : Int)) (.int .i64 ((s.look i).trim : Int)) (.bool (s.look i).sealed) W).2.2
  clear h
  go_enter Tryz.func22, Tryz.ntmps22
  go_wp2_with (go_at_call 55; refine hl.mono ?_; rintro e w' ⟨rfl, hb⟩)
  go_ret
  exact ⟨rfl, hb⟩
end Go.Proofs.YtikomnbhmmjfnaaGreat
