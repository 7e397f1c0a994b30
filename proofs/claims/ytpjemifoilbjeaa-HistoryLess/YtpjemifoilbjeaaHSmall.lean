/- What a call may be, and what it shows; which appends there are; whether the history may be (mayBe_any by genhmay.py). -/
import Derived.Test.YtpjemifoilbjeaaHMem
namespace Go.Proofs.Ytpjemifoilbjeaa
open Go.RowKit Hy
variable {w w' : World}

theorem nm_nil : (nmS []).toList = [] := by rw [ByteArray.toList_eq]; rfl
theorem nm_ne {s : Nm} (h : ¬ s = []) : ¬ (nmS s).toList = [] := fun e => by
  rw [ByteArray.toList_eq] at e
  exact h e
set_option maxRecDepth 20000 in
set_option maxHeartbeats 4000000 in
theorem mayBe_any (x : Hc) (ad : Option Addr) (m c : Nat) (hlv : x.vals.length = m) (w : World) : Calls Try.prog 19 #[.agg #[.bool x.rd, .bool x.dn, .int .i64 x.bg, .int .i64 x.en, .int .i64 x.off, .string (nmS x.val), .slice ad m c]] w fun e w' => e = .returned (.bool x.may) ∧ Below w.heap.size w w' := by
  obtain ⟨rd, dn, bg, en, off, val, vals⟩ := x
  have HB : Hid (∀ v, Below w.heap.size w (w.alloc v)) := fun v => (Below.refl _ w).alloc (Nat.le_refl _) v
  dsimp only at hlv ⊢
  obtain ⟨r, hM⟩ : ∃ r, Hc.may ⟨rd, dn, bg, en, off, val, vals⟩ = r := ⟨_, rfl⟩
  rw [hM]
  by_cases hb : bg < 0
  · have ddb : decide (bg < 0) = true := decide_eq_true hb
    obtain rfl : r = false := by rw [← hM]; simp only [Hc.may, hlv]; clear hlv; simp_all; try omega
    clear hM
    generalize nmS val = vt at *
    go_enter Try.func19, Try.ntmps19
    go_wp2_with fail
    go_ret
    exact ⟨rfl, HB.out _⟩
  · have ddb : decide (bg < 0) = false := decide_eq_false hb
    by_cases hc : 1000000000 < bg
    · have ddc : decide (1000000000 < bg) = true := decide_eq_true hc
      obtain rfl : r = false := by rw [← hM]; simp only [Hc.may, hlv]; clear hlv; simp_all; try omega
      clear hM
      generalize nmS val = vt at *
      go_enter Try.func19, Try.ntmps19
      go_wp2_with fail
      go_ret
      exact ⟨rfl, HB.out _⟩
    · have ddc : decide (1000000000 < bg) = false := decide_eq_false hc
      cases dn with
      | true =>
        by_cases he : en ≤ bg
        · have dde : decide (en ≤ bg) = true := decide_eq_true he
          obtain rfl : r = false := by rw [← hM]; simp only [Hc.may, hlv]; clear hlv; simp_all; try omega
          clear hM
          generalize nmS val = vt at *
          go_enter Try.func19, Try.ntmps19
          go_wp2_with fail
          go_ret
          exact ⟨rfl, HB.out _⟩
        · have dde : decide (en ≤ bg) = false := decide_eq_false he
          by_cases hf : 1000000000 < en
          · have ddf : decide (1000000000 < en) = true := decide_eq_true hf
            obtain rfl : r = false := by rw [← hM]; simp only [Hc.may, hlv]; clear hlv; simp_all; try omega
            clear hM
            generalize nmS val = vt at *
            go_enter Try.func19, Try.ntmps19
            go_wp2_with fail
            go_ret
            exact ⟨rfl, HB.out _⟩
          · have ddf : decide (1000000000 < en) = false := decide_eq_false hf
            cases rd with
            | true =>
              by_cases hv : val = []
              · have dv : (nmS val).toList = [] := by rw [hv]; exact nm_nil
                by_cases ho : off = 0
                · have ddo : (off == 0) = true := by simp [ho]
                  by_cases hm : (m : Int) ≤ 1000
                  · have ddm : decide ((m : Int) ≤ 1000) = true := decide_eq_true hm
                    obtain rfl : r = true := by rw [← hM]; simp only [Hc.may, hlv]; clear hlv; simp_all; try omega
                    clear hM
                    generalize nmS val = vt at *
                    go_enter Try.func19, Try.ntmps19
                    go_wp2_with fail
                    go_ret
                    exact ⟨rfl, HB.out _⟩
                  · have ddm : decide ((m : Int) ≤ 1000) = false := decide_eq_false hm
                    obtain rfl : r = false := by rw [← hM]; simp only [Hc.may, hlv]; clear hlv; simp_all; try omega
                    clear hM
                    generalize nmS val = vt at *
                    go_enter Try.func19, Try.ntmps19
                    go_wp2_with fail
                    go_ret
                    exact ⟨rfl, HB.out _⟩
                · have ddo : (off == 0) = false := by simp [ho]
                  obtain rfl : r = false := by rw [← hM]; simp only [Hc.may, hlv]; clear hlv; simp_all; try omega
                  clear hM
                  generalize nmS val = vt at *
                  go_enter Try.func19, Try.ntmps19
                  go_wp2_with fail
                  go_ret
                  exact ⟨rfl, HB.out _⟩
              · have dv : ¬ (nmS val).toList = [] := nm_ne hv
                obtain rfl : r = false := by rw [← hM]; simp only [Hc.may, hlv]; clear hlv; simp_all; try omega
                clear hM
                generalize nmS val = vt at *
                go_enter Try.func19, Try.ntmps19
                go_wp2_with fail
                go_ret
                exact ⟨rfl, HB.out _⟩
            | false =>
              by_cases hz : m = 0
              · subst hz
                by_cases hp : 0 ≤ off
                · have ddp : decide (0 ≤ off) = true := decide_eq_true hp
                  by_cases hq : off < 1000
                  · have ddq : decide (off < 1000) = true := decide_eq_true hq
                    obtain rfl : r = true := by rw [← hM]; simp only [Hc.may, hlv]; clear hlv; simp_all; try omega
                    clear hM
                    generalize nmS val = vt at *
                    go_enter Try.func19, Try.ntmps19
                    go_wp2_with fail
                    go_ret
                    exact ⟨rfl, HB.out _⟩
                  · have ddq : decide (off < 1000) = false := decide_eq_false hq
                    obtain rfl : r = false := by rw [← hM]; simp only [Hc.may, hlv]; clear hlv; simp_all; try omega
                    clear hM
                    generalize nmS val = vt at *
                    go_enter Try.func19, Try.ntmps19
                    go_wp2_with fail
                    go_ret
                    exact ⟨rfl, HB.out _⟩
                · have ddp : decide (0 ≤ off) = false := decide_eq_false hp
                  obtain rfl : r = false := by rw [← hM]; simp only [Hc.may, hlv]; clear hlv; simp_all; try omega
                  clear hM
                  generalize nmS val = vt at *
                  go_enter Try.func19, Try.ntmps19
                  go_wp2_with fail
                  go_ret
                  exact ⟨rfl, HB.out _⟩
              · have ddz : ((m : Int) == 0) = false := by simp [hz]
                obtain rfl : r = false := by rw [← hM]; simp only [Hc.may, hlv]; clear hlv; simp_all; try omega
                clear hM
                generalize nmS val = vt at *
                go_enter Try.func19, Try.ntmps19
                go_wp2_with fail
                go_ret
                exact ⟨rfl, HB.out _⟩
      | false =>
        by_cases he : en = 0
        · subst he
          by_cases ho : off = 0
          · subst ho
            by_cases hm : 0 < (m : Int)
            · have ddm : decide (0 < (m : Int)) = true := decide_eq_true hm
              obtain rfl : r = false := by rw [← hM]; simp only [Hc.may, hlv]; clear hlv; simp_all; try omega
              clear hM
              generalize nmS val = vt at *
              go_enter Try.func19, Try.ntmps19
              go_wp2_with fail
              go_ret
              exact ⟨rfl, HB.out _⟩
            · have ddm : decide (0 < (m : Int)) = false := decide_eq_false hm
              obtain rfl : m = 0 := by omega
              cases rd with
              | true =>
                by_cases hv : val = []
                · have dv : (nmS val).toList = [] := by rw [hv]; exact nm_nil
                  obtain rfl : r = true := by rw [← hM]; simp only [Hc.may, hlv]; clear hlv; simp_all; try omega
                  clear hM
                  generalize nmS val = vt at *
                  go_enter Try.func19, Try.ntmps19
                  go_wp2_with fail
                  go_ret
                  exact ⟨rfl, HB.out _⟩
                · have dv : ¬ (nmS val).toList = [] := nm_ne hv
                  obtain rfl : r = false := by rw [← hM]; simp only [Hc.may, hlv]; clear hlv; simp_all; try omega
                  clear hM
                  generalize nmS val = vt at *
                  go_enter Try.func19, Try.ntmps19
                  go_wp2_with fail
                  go_ret
                  exact ⟨rfl, HB.out _⟩
              | false =>
                obtain rfl : r = true := by rw [← hM]; simp only [Hc.may, hlv]; clear hlv; simp_all; try omega
                clear hM
                generalize nmS val = vt at *
                go_enter Try.func19, Try.ntmps19
                go_wp2_with fail
                go_ret
                exact ⟨rfl, HB.out _⟩
          · have ddo : (off == 0) = false := by simp [ho]
            obtain rfl : r = false := by rw [← hM]; simp only [Hc.may, hlv]; clear hlv; simp_all; try omega
            clear hM
            generalize nmS val = vt at *
            go_enter Try.func19, Try.ntmps19
            go_wp2_with fail
            go_ret
            exact ⟨rfl, HB.out _⟩
        · have dde : (en == 0) = false := by simp [he]
          obtain rfl : r = false := by rw [← hM]; simp only [Hc.may, hlv]; clear hlv; simp_all; try omega
          clear hM
          generalize nmS val = vt at *
          go_enter Try.func19, Try.ntmps19
          go_wp2_with fail
          go_ret
          exact ⟨rfl, HB.out _⟩
end Go.Proofs.Ytpjemifoilbjeaa
