/- shows; Shown: how many values there must have been. -/
import Derived.Test.YtpjemifoilbjeaaHSmall
namespace Go.Proofs.Ytpjemifoilbjeaa
open Go.RowKit Hy
variable {w w' : World} {A : List HcA} {ad : Option Addr} {m c : Nat}

theorem shows_any (x : Hc) (ad : Option Addr) (m c : Nat) (hlv : x.vals.length = m) (ho : x.off < 9223372036854775807 ∧ -9223372036854775808 ≤ x.off) (w : World) : Calls Try.prog 30 #[.agg #[.bool x.rd, .bool x.dn, .int .i64 x.bg, .int .i64 x.en, .int .i64 x.off, .string (nmS x.val), .slice ad m c]] w fun e w' => e = .returned (.int .i64 x.shows) ∧ Below w.heap.size w w' := by
  obtain ⟨rd, dn, bg, en, off, val, vals⟩ := x
  have HB : Hid (∀ v, Below w.heap.size w (w.alloc v)) := fun v => (Below.refl _ w).alloc (Nat.le_refl _) v
  dsimp only at hlv ho ⊢
  obtain ⟨r, hM⟩ : ∃ r, Hc.shows ⟨rd, dn, bg, en, off, val, vals⟩ = r := ⟨_, rfl⟩
  rw [hM]
  cases rd with
  | true =>
    obtain rfl : r = (m : Int) := by rw [← hM]; subst hlv; rfl
    clear hM
    go_enter Try.func30, Try.ntmps30
    go_wp2_with fail
    go_ret
    exact ⟨rfl, HB.out _⟩
  | false =>
    obtain rfl : r = off + 1 := by rw [← hM]; rfl
    clear hM
    go_enter Try.func30, Try.ntmps30
    go_wp2_with fail
    go_ret
    exact ⟨rfl, HB.out _⟩
theorem max_if (z y : Int) : max z y = if z < y then y else z := by rw [Int.max_def]; split <;> split <;> omega
/-- What the first i calls show. -/
theorem shown_snoc : ∀ (l : List Hc) (x : Hc), shownN (l ++ [x]) = if x.dn then max (shownN l) x.shows else shownN l
  | [], x => by
    show (if x.dn then max x.shows 0 else 0) = if x.dn then max 0 x.shows else 0
    rw [Int.max_comm]
  | y :: l, x => by
    show (if y.dn then max y.shows (shownN (l ++ [x])) else shownN (l ++ [x])) = if x.dn then max (if y.dn then max y.shows (shownN l) else shownN l) x.shows else (if y.dn then max y.shows (shownN l) else shownN l)
    rw [shown_snoc l x]
    cases y.dn <;> cases x.dn <;> simp [Int.max_assoc]
theorem cls_take {i : Nat} (hi : i < A.length) : (cls A).take (i + 1) = (cls A).take i ++ [(A.getD i hz0).1] := by
  rw [take_snoc_any (cls A) hc0 i (by rw [cls_len]; exact hi)]
  congr 2
  exact ca_cls A i
theorem right_at (hR : Right (cls A)) {i : Nat} (hi : i < A.length) : (A.getD i hz0).1.may = true := by
  rw [← ca_cls]
  exact hR.2.1 _ (ca_mem (by rw [cls_len]; exact hi))
theorem may_off {x : Hc} (h : x.may = true) : -1000000 < x.off ∧ x.off < 1000000 := by
  have h2 := (may_vals h).2.2.2.2.2.1
  unfold Hc.may at h
  cases hr : x.rd with
  | false => have := h2 hr; omega
  | true =>
    rw [hr] at h
    split at h
    · cases h
    · split at h
      · cases h
      · split at h
        · cases h
        · simp only [if_true, Bool.and_eq_true, decide_eq_true_eq] at h
          omega
set_option maxRecDepth 20000 in
set_option maxHeartbeats 4000000 in
theorem Shown_right (h : HV kC w A ad m c) (hR : Right (cls A)) (hr : Calls Try.prog 9 #[.slice ad m c] w fun e w' => e = .returned (.bool true) ∧ Below w.heap.size w w') : Calls Try.prog 14 #[.slice ad m c] w fun e w' => e = .returned (.int .i64 (shownN (cls A))) ∧ Below w.heap.size w w' := by
  have hl := h.row.len
  have hm1 : m ≤ 1000 := by rw [← hl, ← cls_len]; exact hR.1
  have HA := hid h
  have HRc := hid hr
  have HR := hid hR
  have HL := hid hl
  clear h hr hl
  go_enter Try.func14, Try.ntmps14
  go_wp2_with (go_at_call 9; (with_reducible_and_instances (refine HRc.out.mono ?_)); rintro e w1 ⟨rfl, hb1⟩; have HB1 := hid hb1; clear hb1)
  go_loopw [11, 3] (fun iv nv wr => ∃ (i : Nat), i ≤ m ∧ iv = .int .i64 (i : Int) ∧ nv = .int .i64 (shownN ((cls A).take i)) ∧ Hid (Below w.heap.size w wr)) (fun iv _ _ => m - (intOf iv).toNat)
  case atStart => exact ⟨0, by omega, rfl, rfl, HB1⟩
  case round =>
    obtain ⟨i, hi, rfl, rfl, HB⟩ := hrel
    by_cases hlt : i < m
    · obtain ⟨b, off, rfl, hb, c0, c1, c2, c3, c4, c5, c6⟩ := (HA.out.later HB.out).at hlt
      have hcap := HA.out.row.cap
      have hpl := (HA.out.part i hlt).len
      have hmay := right_at HR.out (i := i) (by rw [HL.out]; exact hlt)
      have HT := hid (cls_take (A := A) (i := i) (by rw [HL.out]; exact hlt))
      obtain ⟨x, hx⟩ : ∃ x, (A.getD i hz0) = x := ⟨_, rfl⟩
      rw [hx] at c0 c1 c2 c3 c4 c5 c6 hmay HT hpl
      obtain ⟨⟨rd, dn, bg, en, o, val, vals⟩, sa, sm, sc⟩ := x
      dsimp only at c0 c1 c2 c3 c4 c5 c6 hpl
      have HSh : Hid (∀ W, Calls Try.prog 30 #[.agg #[.bool rd, .bool dn, .int .i64 bg, .int .i64 en, .int .i64 o, .string (nmS val), .slice sa sm sc]] W fun e w' => e = .returned (.int .i64 (Hc.shows ⟨rd, dn, bg, en, o, val, vals⟩)) ∧ Below W.heap.size W w') := fun W => shows_any ⟨rd, dn, bg, en, o, val, vals⟩ sa sm sc hpl (by have h := may_off hmay; exact ⟨by dsimp only at h ⊢; omega, by dsimp only at h ⊢; omega⟩) W
      clear hmay hx
      generalize nmS val = vt at *
      cases dn with
      | false =>
        have HS : Hid (shownN ((cls A).take (i + 1)) = shownN ((cls A).take i)) := by rw [HT.out, shown_snoc]; rfl
        go_wp2_with fail
        exact ⟨⟨i + 1, by omega, by go_num, by rw [HS.out], HB.out.alloc HB.out.size _⟩, by simp [intOf]; omega⟩
      | true =>
        have HS : Hid (shownN ((cls A).take (i + 1)) = max (shownN ((cls A).take i)) (Hc.shows ⟨rd, true, bg, en, o, val, vals⟩)) := by rw [HT.out, shown_snoc]; rfl
        generalize Hc.shows ⟨rd, true, bg, en, o, val, vals⟩ = y at *
        generalize shownN ((cls A).take i) = z at *
        have HBa := hid (HB.out.alloc HB.out.size (.cells #[.bool rd, .bool true, .int .i64 bg, .int .i64 en, .int .i64 o, .string vt, .slice sa sm sc] 34))
        go_wp2_with (go_at_call 30; (with_reducible_and_instances (refine (HSh.out _).mono ?_)); rintro e w2 ⟨rfl, hb2⟩; have HB2 := hid (HBa.out.trans (hb2.mono HBa.out.size)); clear hb2)
        exact ⟨⟨i + 1, by omega, by go_num, by rw [HS.out, max_if], HB2⟩, by simp [intOf]; omega⟩
    · obtain rfl : m = i := by omega
      have HS : Hid ((cls A).take m = cls A) := List.take_of_length_le (by rw [cls_len, HL.out]; exact Nat.le_refl _)
      rw [HS.out]
      go_wp2_with fail
      go_ret
      exact ⟨rfl, HB.out⟩
end Go.Proofs.Ytpjemifoilbjeaa
