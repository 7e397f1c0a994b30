/- operation of package disk: an operation is done, or not. -/
import Derived.Test.YtofpojfkooigiaaDRead2
namespace Go.Proofs.Ytofpojfkooigiaa
open Go.RowKit
variable {w : World} {F : List Nat} {D B M : Nat} {Dm : DataW Value} {V C : Nat → Nat} {s : DSt}

theorem opD_on {s : DSt} (h : s.off = true) : opD s = (false, s) := by unfold opD; rw [if_pos h]
theorem opD_zero {s : DSt} (h : s.off = false) (h0 : s.fuse = 0) : opD s = (false, ⟨s.bs, true, -1⟩) := by unfold opD; rw [h, if_neg (by simp), if_pos h0]
theorem opD_pos {s : DSt} (h : s.off = false) (h0 : 0 < s.fuse) : opD s = (true, ⟨s.bs, false, s.fuse - 1⟩) := by unfold opD; rw [h, if_neg (by simp), if_neg (by omega), if_pos h0]
theorem opD_neg {s : DSt} (h : s.off = false) (h0 : s.fuse < 0) : opD s = (true, s) := by unfold opD; rw [h, if_neg (by simp), if_neg (by omega), if_neg (by omega)]
/-- What an operation answers, and how it leaves the world. -/
def OpPost (b : Bool) (R R' : World → Prop) (e : Ending) (w' : World) : Prop := (b = true ∧ e = .returned (.int .i64 0) ∧ R w') ∨ (b = false ∧ e = .returned (.int .i64 8) ∧ R' w')
set_option maxRecDepth 100000 in
set_option maxHeartbeats 2000000 in
theorem op_write (h : Pic w F D B M Dm V C s) (p1 p2 p3 : Value) (R : World → Prop)
    (hdo : ∀ w1, (opD s).1 = true → Pic w1 F D B M Dm V C (opD s).2 → Chg [D] w w1 → Calls Try.prog 39 #[p1, p2, p3] w1 fun e w' => e = .returned (.tuple #[]) ∧ R w') :
    Calls Try.prog 38 #[.pointer (some ⟨D, 0, none⟩), .func (.func 39) #[] #[p1, p2, p3]] w (OpPost (opD s).1 R (fun w' => Pic w' F D B M Dm V C (opD s).2 ∧ Chg [D] w w')) := by
  obtain ⟨-, -, c2, c3⟩ := h.cells
  have f2 := h.free 2
  have f3 := h.free 3
  have hf := h.ok.fuse
  have ht := h.top
  have HP : Hid (Pic w F D B M Dm V C s) := h
  have HD : Hid (∀ w1, (opD s).1 = true → Pic w1 F D B M Dm V C (opD s).2 → Chg [D] w w1 → Calls Try.prog 39 #[p1, p2, p3] w1 fun e w' => e = .returned (.tuple #[]) ∧ R w') := hdo
  clear h hdo
  cases hoff : s.off with
  | true =>
    rw [hoff] at c2
    rw [opD_on hoff]
    go_enter Try.func38, Try.ntmps38
    go_wp2
    go_ret
    exact Or.inr ⟨rfl, rfl, HP.out, Chg.refl _ _⟩
  | false =>
    rw [hoff] at c2
    rcases Int.lt_trichotomy s.fuse 0 with h0 | h0 | h0
    · have ho := opD_neg hoff h0
      have HX := HD.out w (by rw [ho]) (by rw [ho]; exact HP.out) (Chg.refl _ _)
      rw [ho]
      clear HD
      have hne : (s.fuse == 0) = false := by simp; omega
      go_enter Try.func38, Try.ntmps38
      go_wp2_with (go_at_call 39; refine HX.mono ?_; rintro e w2 ⟨rfl, hR⟩)
      go_ret
      exact Or.inl ⟨rfl, rfl, hR⟩
    · have ho := opD_zero hoff h0
      rw [h0] at c3
      rw [ho]
      clear HD
      go_enter Try.func38, Try.ntmps38
      go_wp2
      go_ret
      refine Or.inr ⟨rfl, rfl, ?_, ((Chg.refl [D] w).set (Or.inl (by simp)) _ _).set (Or.inl (by simp)) _ _⟩
      exact HP.out.set true (-1) (((Chg.refl [D] w).set (Or.inl (by simp)) _ _).set (Or.inl (by simp)) _ _) (HP.out.set23 true (-1)) (by omega) (by omega)
    · have ho := opD_pos hoff h0
      have hc : Chg [D] w (w.setCell ⟨D, 3, none⟩ (.int .i64 (s.fuse - 1))) := (Chg.refl [D] w).set (Or.inl (by simp)) _ _
      have HX := HD.out _ (by rw [ho]) (by rw [ho]; exact HP.out.set false (s.fuse - 1) hc (by rw [← hoff]; exact HP.out.set3 _) (by omega) (by omega)) hc
      rw [ho]
      clear HD
      have hne : (s.fuse == 0) = false := by simp; omega
      go_enter Try.func38, Try.ntmps38
      go_wp2_with (go_at_call 39; refine HX.mono ?_; rintro e w2 ⟨rfl, hR⟩)
      go_ret
      exact Or.inl ⟨rfl, rfl, hR⟩
set_option maxRecDepth 100000 in
set_option maxHeartbeats 2000000 in
theorem op_sync (h : Pic w F D B M Dm V C s) (p1 : Value) (R : World → Prop)
    (hdo : ∀ w1, (opD s).1 = true → Pic w1 F D B M Dm V C (opD s).2 → Chg [D] w w1 → Calls Try.prog 40 #[p1] w1 fun e w' => e = .returned (.tuple #[]) ∧ R w') :
    Calls Try.prog 38 #[.pointer (some ⟨D, 0, none⟩), .func (.func 40) #[] #[p1]] w (OpPost (opD s).1 R (fun w' => Pic w' F D B M Dm V C (opD s).2 ∧ Chg [D] w w')) := by
  obtain ⟨-, -, c2, c3⟩ := h.cells
  have f2 := h.free 2
  have f3 := h.free 3
  have hf := h.ok.fuse
  have ht := h.top
  have HP : Hid (Pic w F D B M Dm V C s) := h
  have HD : Hid (∀ w1, (opD s).1 = true → Pic w1 F D B M Dm V C (opD s).2 → Chg [D] w w1 → Calls Try.prog 40 #[p1] w1 fun e w' => e = .returned (.tuple #[]) ∧ R w') := hdo
  clear h hdo
  cases hoff : s.off with
  | true =>
    rw [hoff] at c2
    rw [opD_on hoff]
    go_enter Try.func38, Try.ntmps38
    go_wp2
    go_ret
    exact Or.inr ⟨rfl, rfl, HP.out, Chg.refl _ _⟩
  | false =>
    rw [hoff] at c2
    rcases Int.lt_trichotomy s.fuse 0 with h0 | h0 | h0
    · have ho := opD_neg hoff h0
      have HX := HD.out w (by rw [ho]) (by rw [ho]; exact HP.out) (Chg.refl _ _)
      rw [ho]
      clear HD
      have hne : (s.fuse == 0) = false := by simp; omega
      go_enter Try.func38, Try.ntmps38
      go_wp2_with (go_at_call 40; refine HX.mono ?_; rintro e w2 ⟨rfl, hR⟩)
      go_ret
      exact Or.inl ⟨rfl, rfl, hR⟩
    · have ho := opD_zero hoff h0
      rw [h0] at c3
      rw [ho]
      clear HD
      go_enter Try.func38, Try.ntmps38
      go_wp2
      go_ret
      refine Or.inr ⟨rfl, rfl, ?_, ((Chg.refl [D] w).set (Or.inl (by simp)) _ _).set (Or.inl (by simp)) _ _⟩
      exact HP.out.set true (-1) (((Chg.refl [D] w).set (Or.inl (by simp)) _ _).set (Or.inl (by simp)) _ _) (HP.out.set23 true (-1)) (by omega) (by omega)
    · have ho := opD_pos hoff h0
      have hc : Chg [D] w (w.setCell ⟨D, 3, none⟩ (.int .i64 (s.fuse - 1))) := (Chg.refl [D] w).set (Or.inl (by simp)) _ _
      have HX := HD.out _ (by rw [ho]) (by rw [ho]; exact HP.out.set false (s.fuse - 1) hc (by rw [← hoff]; exact HP.out.set3 _) (by omega) (by omega)) hc
      rw [ho]
      clear HD
      have hne : (s.fuse == 0) = false := by simp; omega
      go_enter Try.func38, Try.ntmps38
      go_wp2_with (go_at_call 40; refine HX.mono ?_; rintro e w2 ⟨rfl, hR⟩)
      go_ret
      exact Or.inl ⟨rfl, rfl, hR⟩
end Go.Proofs.Ytofpojfkooigiaa
