/- The small looks of package ledger: made, Start, End, Stable, isMarker; New. -/
import Derived.Test.YtdifchlbnilenaaGreatLDel
import Derived.Test.YtdifchlbnilenaaGreatPNew
import Derived.WalkLawsBesides
import Derived.Test.YtdifchlbnilenaaGreatCheck
namespace Go.Proofs.YtdifchlbnilenaaGreat
open Go.RowKit Go.Shelf
variable {w w' : World} {L t M n N : Nat} {vr vo va : Value} {g : Lg}

theorem madeL_any {t : Nat} (h : w.cell? ⟨L, 0, none⟩ = some (.pointer (some ⟨t, 0, none⟩))) : Calls Tryz.prog 53 #[.pointer (some ⟨L, 0, none⟩)] w fun r w' => r = .returned (.bool true) ∧ w' = w := by
  go_enter Tryz.func53, Tryz.ntmps53
  go_wp2
  go_ret
  exact ⟨rfl, rfl⟩
/-- No ledger, or one that nobody made. -/
def NoL (w : World) (v : Value) : Prop := v = .pointer none ∨ ∃ L, v = .pointer (some ⟨L, 0, none⟩) ∧ w.cell? ⟨L, 0, none⟩ = some (.pointer none) ∧ L < w.heap.size
theorem NoL.later {v : Value} (h : NoL w v) (hb : Below w.heap.size w w') : NoL w' v := by
  rcases h with h | ⟨L, h1, h2, h3⟩
  · exact Or.inl h
  · exact Or.inr ⟨L, h1, (hb.cell (p := ⟨L, 0, none⟩) h3).trans h2, Nat.lt_of_lt_of_le h3 hb.size⟩
theorem madeL_not {v : Value} (h : NoL w v) : Calls Tryz.prog 53 #[v] w fun r w' => r = .returned (.bool false) ∧ w' = w := by
  rcases h with rfl | ⟨L, rfl, hc, -⟩
  · go_enter Tryz.func53, Tryz.ntmps53
    go_wp2
    go_ret
    exact ⟨rfl, rfl⟩
  · go_enter Tryz.func53, Tryz.ntmps53
    go_wp2
    go_ret
    exact ⟨rfl, rfl⟩
theorem stable_any (h : LPic0 w L t M n N vr vo va g) : Calls Tryz.prog 31 #[.pointer (some ⟨L, 0, none⟩)] w fun r w' => r = .returned (.int .i64 g.stable) ∧ w' = w := by
  have HM := madeL_any h.c0
  obtain ⟨ao, co, hv, hA⟩ := h.opn.form kTx_ok.tofit
  have c2 := h.c2
  have c4 := h.c4
  rw [hv] at c4
  have HA := hid hA
  clear h hA hv
  cases ho : g.opn with
  | nil =>
    have HS : Hid (g.stable = g.fin) := by unfold Lg.stable; rw [ho]; exact rfl
    rw [ho] at c4
    clear ho HA
    go_enter Tryz.func31, Tryz.ntmps31
    go_wp2_with (go_at_call 53; refine HM.mono ?_; rintro e w1 ⟨rfl, hw1⟩; obtain rfl := hw1.symm)
    go_ret
    exact ⟨by rw [HS.out]; rfl, rfl⟩
  | cons x l =>
    have HS : Hid (g.stable = x.first) := by unfold Lg.stable; rw [ho]; exact rfl
    have hA2 := HA.out
    rw [ho] at hA2 c4
    obtain ⟨b, off, rfl, hb, hc⟩ := hA2.cells (by simp)
    have r1 : w.cell? ⟨b, off + 1, none⟩ = some (.int .i64 x.first) := by have := hc 0 (by simp) 1 (by decide); simpa [txV] using this
    rw [List.length_cons] at c4
    generalize l.length = k at *
    clear ho HA hA2 hc
    go_enter Tryz.func31, Tryz.ntmps31
    go_wp2_with (go_at_call 53; refine HM.mono ?_; rintro e w1 ⟨rfl, hw1⟩; obtain rfl := hw1.symm)
    go_ret
    exact ⟨by rw [HS.out]; rfl, rfl⟩
theorem mark13_any (k p e s : Int) (t : Bool) (a : Option Addr) (m c : Nat) (w : World) :
    Calls Tryz.prog 103 #[.agg #[.int .i64 k, .int .i64 p, .int .i64 e, .int .i64 s, .bool t, .slice a m c]] w fun r w' => r = .returned (.bool (!(k == 1))) ∧ w' = w.alloc (.cells #[.int .i64 k, .int .i64 p, .int .i64 e, .int .i64 s, .bool t, .slice a m c] 24) := by
  go_enter Tryz.func103, Tryz.ntmps103
  go_wp2
  go_ret
  exact ⟨rfl, rfl⟩
theorem lg0_ok : LgOk lg0 := ⟨⟨by decide, by decide⟩, by decide, List.Pairwise.nil, fun r hr => (by cases hr), fun r hr => (by cases hr), List.Pairwise.nil, fun r hr => (by cases hr)⟩
theorem newL_any (w : World) : Calls Tryz.prog 19 #[] w fun e w' => ∃ L t M, e = .returned (.pointer (some ⟨L, 0, none⟩)) ∧ LPic w' L t M 0 w.heap.size (.slice none 0 0) (.slice none 0 0) (.slice none 0 0) lg0 ∧ Below w.heap.size w w' ∧ w.heap.size ≤ L ∧ w.heap.size ≤ t ∧ w.heap.size ≤ M := by
  go_enter Tryz.func19, Tryz.ntmps19
  go_wp2_with (go_at_call 49; refine (New_any _).mono ?_; rintro e w1 ⟨rfl, hp1, hb1⟩; have HP1 := hid hp1; have HB1 := hid hb1; clear hp1 hb1)
  go_ret
  have b2 : Below w1.heap.size w1 (w1.alloc (.cells #[.pointer (some ⟨w.heap.size + 1, 0, none⟩), .int .i64 0, .int .i64 0, .slice none 0 0, .slice none 0 0, .slice none 0 0] TLg)) := (Below.refl _ _).alloc (Nat.le_refl _) _
  refine ⟨_, _, _, rfl, ⟨⟨heap_alloc_new w1 _, HP1.out.later b2, OwnK.nil _ _, OwnK.nil _ _, OwnK.nil _ _⟩, lg0_ok⟩, HB1.out.trans (b2.mono HB1.out.size), HB1.out.size, by omega, Nat.le_refl _⟩
end Go.Proofs.YtdifchlbnilenaaGreat

/- mayBe of package ledger: an entry that may be (by the script that wrote it: nested cases on the conditions). -/
namespace Go.Proofs.YtdifchlbnilenaaGreat
open Go.RowKit Go.Shelf
variable {w w' : World}

set_option maxHeartbeats 1000000 in
theorem isZero_any (k p e q : Int) (tx : Bool) (rs : List Rec) (ad : Option Addr) (len cap : Nat) (w : World) (hl : rs.length = len) : Calls Tryz.prog 70 #[.agg #[.int .i64 k, .int .i64 p, .int .i64 e, .int .i64 q, .bool tx, .slice ad len cap]] w fun r w' => r = .returned (.bool (bareB ⟨k, p, e, q, tx, rs⟩)) ∧ Below w.heap.size w w' := by
  have HB := hid ((Below.refl _ w).alloc (Nat.le_refl _) (.cells #[.int .i64 k, .int .i64 p, .int .i64 e, .int .i64 q, .bool tx, .slice ad len cap] 24))
  cases h0 : (k == 0) with
  | false =>
    have HR := hid (show bareB ⟨k, p, e, q, tx, rs⟩ = false from by show ((k == 0) && (p == 0) && (e == 0) && (q == 0) && !tx && rs.length == 0) = false; rw [h0]; rfl)
    go_enter Tryz.func70, Tryz.ntmps70
    go_wp2_with fail
    go_ret
    exact ⟨by rw [HR.out]; rfl, HB.out⟩
  | true =>
  cases h1 : (p == 0) with
  | false =>
    have HR := hid (show bareB ⟨k, p, e, q, tx, rs⟩ = false from by show ((k == 0) && (p == 0) && (e == 0) && (q == 0) && !tx && rs.length == 0) = false; rw [h0, h1]; rfl)
    go_enter Tryz.func70, Tryz.ntmps70
    go_wp2_with fail
    go_ret
    exact ⟨by rw [HR.out]; rfl, HB.out⟩
  | true =>
  cases h2 : (e == 0) with
  | false =>
    have HR := hid (show bareB ⟨k, p, e, q, tx, rs⟩ = false from by show ((k == 0) && (p == 0) && (e == 0) && (q == 0) && !tx && rs.length == 0) = false; rw [h0, h1, h2]; rfl)
    go_enter Tryz.func70, Tryz.ntmps70
    go_wp2_with fail
    go_ret
    exact ⟨by rw [HR.out]; rfl, HB.out⟩
  | true =>
  cases h3 : (q == 0) with
  | false =>
    have HR := hid (show bareB ⟨k, p, e, q, tx, rs⟩ = false from by show ((k == 0) && (p == 0) && (e == 0) && (q == 0) && !tx && rs.length == 0) = false; rw [h0, h1, h2, h3]; rfl)
    go_enter Tryz.func70, Tryz.ntmps70
    go_wp2_with fail
    go_ret
    exact ⟨by rw [HR.out]; rfl, HB.out⟩
  | true =>
  cases tx with
  | true =>
    have HR := hid (show bareB ⟨k, p, e, q, true, rs⟩ = false from by show ((k == 0) && (p == 0) && (e == 0) && (q == 0) && !true && rs.length == 0) = false; rw [h0, h1, h2, h3]; rfl)
    go_enter Tryz.func70, Tryz.ntmps70
    go_wp2_with fail
    go_ret
    exact ⟨by rw [HR.out]; rfl, HB.out⟩
  | false =>
    have HR := hid (show bareB ⟨k, p, e, q, false, rs⟩ = decide (len = 0) from by show ((k == 0) && (p == 0) && (e == 0) && (q == 0) && !false && rs.length == 0) = decide (len = 0); rw [h0, h1, h2, h3, hl]; rfl)
    cases hz : decide (len = 0) with
    | true =>
      rw [hz] at HR
      obtain rfl : len = 0 := by simpa using hz
      clear hz hl
      go_enter Tryz.func70, Tryz.ntmps70
      go_wp2_with fail
      go_ret
      exact ⟨by rw [HR.out]; rfl, HB.out⟩
    | false =>
      rw [hz] at HR
      have hz2 : (((len : Int)) == 0) = false := by simp at hz ⊢; omega
      clear hz hl
      go_enter Tryz.func70, Tryz.ntmps70
      go_wp2_with fail
      go_ret
      exact ⟨by rw [HR.out]; rfl, HB.out⟩
set_option maxHeartbeats 1000000 in
theorem mayBe13_any (kd n k p e q : Int) (tx : Bool) (rs : List Rec) (ad : Option Addr) (len cap : Nat) (w : World) (h : BArg w ⟨k, p, e, q, tx, rs⟩ ad len cap) : Calls Tryz.prog 32 #[.agg #[.int .i64 kd, .int .i64 n, .int .i64 k, .int .i64 p, .int .i64 e, .int .i64 q, .bool tx, .slice ad len cap]] w fun r w' => r = .returned (.bool (mayE ⟨kd, n, ⟨k, p, e, q, tx, rs⟩⟩)) ∧ Below w.heap.size w w' := by
  have b0 : Below w.heap.size w (w.alloc (.cells #[.int .i64 kd, .int .i64 n, .int .i64 k, .int .i64 p, .int .i64 e, .int .i64 q, .bool tx, .slice ad len cap] 32)) := (Below.refl _ w).alloc (Nat.le_refl _) _
  have HC := hid (check_any k p e q tx rs ad len cap _ (h.later b0))
  have HZ := hid (isZero_any k p e q tx rs ad len cap (w.alloc (.cells #[.int .i64 kd, .int .i64 n, .int .i64 k, .int .i64 p, .int .i64 e, .int .i64 q, .bool tx, .slice ad len cap] 32)) h.len_eq)
  have HB := hid b0
  clear h b0
  by_cases k1 : kd = 1
  · subst k1
    have HM : Hid (mayE ⟨1, n, ⟨k, p, e, q, tx, rs⟩⟩ = ((n == 0) && (checkN ⟨k, p, e, q, tx, rs⟩ == 0))) := by unfold mayE; rw [if_pos rfl]; exact rfl
    rw [HM.out]
    cases hn : (n == 0) with
    | false =>
      rw [Bool.false_and]
      go_enter Tryz.func32, Tryz.ntmps32
      go_wp2_with fail
      go_ret
      exact ⟨rfl, HB.out⟩
    | true =>
      rw [Bool.true_and]
      have hc := HC.out
      generalize checkN ⟨k, p, e, q, tx, rs⟩ = z at *
      clear HC HZ HM
      go_enter Tryz.func32, Tryz.ntmps32
      go_wp2_with (go_at_call 69; refine hc.mono ?_; rintro x w1 ⟨rfl, hb1⟩; have HB1 := hid (HB.out.trans (hb1.mono HB.out.size)); clear hb1)
      go_ret
      exact ⟨rfl, HB1.out⟩
  · have k1' : (kd == 1) = false := by simpa using k1
    by_cases k2 : kd = 2 ∨ kd = 3
    · have HM : Hid (mayE ⟨kd, n, ⟨k, p, e, q, tx, rs⟩⟩ = (decide (0 ≤ n) && decide (n ≤ 281474976710656) && bareB ⟨k, p, e, q, tx, rs⟩)) := by unfold mayE; rw [if_neg k1, if_pos k2]; exact rfl
      rw [HM.out]
      have hz := HZ.out
      generalize bareB ⟨k, p, e, q, tx, rs⟩ = z at *
      clear HC HZ HM
      rcases k2 with rfl | rfl
      · clear k1 k1'
        cases h0 : decide (0 ≤ n) with
        | false =>
          rw [Bool.false_and, Bool.false_and]
          go_enter Tryz.func32, Tryz.ntmps32
          go_wp2_with fail
          go_ret
          exact ⟨rfl, HB.out⟩
        | true =>
          cases h1 : decide (n ≤ 281474976710656) with
          | false =>
            rw [Bool.true_and, Bool.false_and]
            go_enter Tryz.func32, Tryz.ntmps32
            go_wp2_with fail
            go_ret
            exact ⟨rfl, HB.out⟩
          | true =>
            rw [Bool.true_and, Bool.true_and]
            go_enter Tryz.func32, Tryz.ntmps32
            go_wp2_with (go_at_call 70; refine hz.mono ?_; rintro x w1 ⟨rfl, hb1⟩; have HB1 := hid (HB.out.trans (hb1.mono HB.out.size)); clear hb1)
            go_ret
            exact ⟨rfl, HB1.out⟩
      · clear k1 k1'
        cases h0 : decide (0 ≤ n) with
        | false =>
          rw [Bool.false_and, Bool.false_and]
          go_enter Tryz.func32, Tryz.ntmps32
          go_wp2_with fail
          go_ret
          exact ⟨rfl, HB.out⟩
        | true =>
          cases h1 : decide (n ≤ 281474976710656) with
          | false =>
            rw [Bool.true_and, Bool.false_and]
            go_enter Tryz.func32, Tryz.ntmps32
            go_wp2_with fail
            go_ret
            exact ⟨rfl, HB.out⟩
          | true =>
            rw [Bool.true_and, Bool.true_and]
            go_enter Tryz.func32, Tryz.ntmps32
            go_wp2_with (go_at_call 70; refine hz.mono ?_; rintro x w1 ⟨rfl, hb1⟩; have HB1 := hid (HB.out.trans (hb1.mono HB.out.size)); clear hb1)
            go_ret
            exact ⟨rfl, HB1.out⟩
    · have k2' : (kd == 2) = false := by simp; omega
      have k3' : (kd == 3) = false := by simp; omega
      have HM : Hid (mayE ⟨kd, n, ⟨k, p, e, q, tx, rs⟩⟩ = false) := by unfold mayE; rw [if_neg k1, if_neg k2]; exact rfl
      rw [HM.out]
      clear HC HZ HM k1 k2
      go_enter Tryz.func32, Tryz.ntmps32
      go_wp2_with fail
      go_ret
      exact ⟨rfl, HB.out⟩
end Go.Proofs.YtdifchlbnilenaaGreat
