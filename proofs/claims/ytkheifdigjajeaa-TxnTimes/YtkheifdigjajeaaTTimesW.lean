/- TxnTimes: a transaction is given up just when its time is over (P1604; by gentimes16.py). -/
import Derived.Test.YtkheifdigjajeaaTSame
namespace Go.Proofs.Ytkheifdigjajeaa
open Go.RowKit
variable {w w' W : World} {g : Nat} {B : Bk}

noncomputable def tN : Nm → Option Nat := setN (fun _ => none) [116] (some 0)
def tx1 (T b : Int) : Ev := ⟨1, [116], 0, 0, 0, T, b, false⟩
def tx2 (p b : Int) : Ev := ⟨2, [], 0, 0, p, 0, b, false⟩
def tx5 (n : Int) : Ev := ⟨5, [], 0, 0, 0, 0, n, false⟩
noncomputable def tB1 (T : Int) : Bk := ⟨[⟨T, 0, 0, 0, []⟩], tN⟩
noncomputable def tB2 (T b p : Int) : Bk := ⟨[⟨T, 0, 1, b, [p]⟩], tN⟩
noncomputable def tB3 (T b p : Int) : Bk := ⟨[⟨T, 1, 3, b, [p]⟩], tN⟩
theorem inN0 : inN 0 := by unfold inN; omega
theorem tm1 {T b : Int} (hT : 1 ≤ T ∧ T ≤ 3600) (hb : inN b) : bk0.dec (tx1 T b) = (false, 0) ∧ bk0.app (tx1 T b) = tB1 T := by
  refine app_eq ⟨(show (1 : Int) ≤ 1 ∧ (1 : Int) ≤ 5 by decide), rfl, fun _ => ⟨rfl, ?_⟩, ⟨inN0, inN0, inN0, ?_, hb⟩, (show (0 : Int) ≤ 2147483647 by decide)⟩ rfl rfl
  · show tmoOk T = true
    unfold tmoOk
    simp
    omega
  · show inN T
    unfold inN; omega
theorem tm2 {T b p : Int} (hb : inN b) (hp : inN p) : (tB1 T).dec (tx2 p b) = (false, 0) ∧ (tB1 T).app (tx2 p b) = tB2 T b p :=
  app_eq ⟨(show (1 : Int) ≤ 2 ∧ (2 : Int) ≤ 5 by decide), rfl, fun h => absurd h (show ¬ (2 : Int) = 1 by decide), ⟨inN0, inN0, hp, inN0, hb⟩, (show (0 : Int) ≤ 2147483647 by decide)⟩ rfl rfl
theorem tx5_may {n : Int} (hn : inN n) : (tx5 n).may := ⟨(show (1 : Int) ≤ 5 ∧ (5 : Int) ≤ 5 by decide), rfl, fun h => absurd h (show ¬ (5 : Int) = 1 by decide), ⟨inN0, inN0, inN0, inN0, hn⟩, (show (0 : Int) ≤ 2147483647 by decide)⟩
theorem tm_over {T b p n : Int} : cntO (tB2 T b p) n (tB2 T b p).ps.length = if b + T ≤ n then 1 else 0 := by
  show ([(⟨T, 0, 1, b, [p]⟩ : Pr)].countP (·.over n)) = _
  by_cases h : b + T ≤ n
  · rw [if_pos h, List.countP_cons_of_pos (by show ((1 : Int) == 1 && decide (b + T ≤ n)) = true; rw [decide_eq_true h]; rfl)]; rfl
  · rw [if_neg h, List.countP_cons_of_neg (by show ¬ ((1 : Int) == 1 && decide (b + T ≤ n)) = true; rw [decide_eq_false h]; decide)]; rfl
theorem tm5_no {T b p n : Int} (hn : inN n) (h : ¬ b + T ≤ n) : (tB2 T b p).dec (tx5 n) = (true, 0) ∧ (tB2 T b p).app (tx5 n) = tB2 T b p := by
  have e : (tB2 T b p).dec (tx5 n) = (true, 0) := by
    unfold Bk.dec
    rw [if_pos (tx5_may hn)]
    show (decide (cntO (tB2 T b p) n (tB2 T b p).ps.length = 0), (0 : Int)) = _
    rw [tm_over, if_neg h]
    rfl
  exact ⟨e, app_no (by rw [e]; decide)⟩
theorem tm5_yes {T b p n : Int} (hn : inN n) (h : b + T ≤ n) : (tB2 T b p).dec (tx5 n) = (false, 0) ∧ (tB2 T b p).app (tx5 n) = tB3 T b p := by
  refine app_eq (tx5_may hn) ?_ ?_
  · show (decide (cntO (tB2 T b p) n (tB2 T b p).ps.length = 0), (0 : Int)) = _
    rw [tm_over, if_pos h]
    rfl
  · show (tB2 T b p).expire n = _
    unfold Bk.expire
    show (⟨[if (⟨T, 0, 1, b, [p]⟩ : Pr).over n = true then _ else _], tN⟩ : Bk) = _
    rw [if_pos (by show ((1 : Int) == 1 && decide (b + T ≤ n)) = true; rw [decide_eq_true h]; rfl)]
    rfl
theorem tm_todo {T b p : Int} : (tB2 T b p).todo = [] ∧ (tB3 T b p).todo = [⟨0, 1, p, false⟩] := ⟨rfl, rfl⟩
theorem tm_st {T b p : Int} : ((tB2 T b p).stA 0 = 1 ∧ (tB2 T b p).epA 0 = 0 ∧ (tB2 T b p).isA 0 = true) ∧ (tB3 T b p).stA 0 = 3 ∧ (tB3 T b p).epA 0 = 1 ∧ (tB3 T b p).isA 0 = true := ⟨⟨rfl, rfl, rfl⟩, rfl, rfl, rfl⟩
theorem tmodN (x : Int) {n : Int} (hn : 0 < n) : -n < x.tmod n ∧ x.tmod n < n := by
  constructor
  · have := Int.lt_tmod_of_pos x hn; omega
  · exact Int.tmod_lt_of_pos x hn
theorem tmodP (x : Int) {n : Int} (hn : 0 < n) : 0 ≤ (x.tmod n + n).tmod n ∧ (x.tmod n + n).tmod n < n := by
  have h := tmodN x hn
  rw [Int.tmod_eq_emod_of_nonneg (by omega)]
  exact ⟨Int.emod_nonneg _ (by omega), Int.emod_lt_of_pos _ hn⟩
set_option maxRecDepth 100000 in
set_option maxHeartbeats 8000000 in
theorem times_walk (x0 x1 x2 x3 : Int) (w : World) : Calls Try.prog 7 #[.int .i64 x0, .int .i64 x1, .int .i64 x2, .int .i64 x3] w fun r w' => r = .returned (.bool true) ∧ Below w.heap.size w w' := by
  obtain ⟨r0, hr0⟩ : ∃ r, x0.tmod 3600 = r := ⟨_, rfl⟩
  obtain ⟨q0, hq0⟩ : ∃ q, (r0 + 3600).tmod 3600 = q := ⟨_, rfl⟩
  have hb0 := tmodN x0 (n := 3600) (by omega)
  have hc0 := tmodP x0 (n := 3600) (by omega)
  rw [hr0] at hb0 hc0
  rw [hq0] at hc0
  obtain ⟨r1, hr1⟩ : ∃ r, x1.tmod 100000 = r := ⟨_, rfl⟩
  obtain ⟨q1, hq1⟩ : ∃ q, (r1 + 100000).tmod 100000 = q := ⟨_, rfl⟩
  have hb1 := tmodN x1 (n := 100000) (by omega)
  have hc1 := tmodP x1 (n := 100000) (by omega)
  rw [hr1] at hb1 hc1
  rw [hq1] at hc1
  obtain ⟨r2, hr2⟩ : ∃ r, x2.tmod 8000 = r := ⟨_, rfl⟩
  obtain ⟨q2, hq2⟩ : ∃ q, (r2 + 8000).tmod 8000 = q := ⟨_, rfl⟩
  have hb2 := tmodN x2 (n := 8000) (by omega)
  have hc2 := tmodP x2 (n := 8000) (by omega)
  rw [hr2] at hb2 hc2
  rw [hq2] at hc2
  obtain ⟨r3, hr3⟩ : ∃ r, x3.tmod 1000 = r := ⟨_, rfl⟩
  obtain ⟨q3, hq3⟩ : ∃ q, (r3 + 1000).tmod 1000 = q := ⟨_, rfl⟩
  have hb3 := tmodN x3 (n := 1000) (by omega)
  have hc3 := tmodP x3 (n := 1000) (by omega)
  rw [hr3] at hb3 hc3
  rw [hq3] at hc3
  have i1 : inN q1 := by unfold inN; omega
  have i3 : inN q3 := by unfold inN; omega
  have i5 : inN (q1 + q2) := by unfold inN; omega
  have iT : 1 ≤ 1 + q0 ∧ 1 + q0 ≤ 3600 := by omega
  have HN := hid (New_any w)
  have HA1 : Hid (∀ W g, BOx w.heap.size [] W g (bk0) → w.heap.size ≤ W.heap.size → Calls Try.prog 13 #[.pointer (some ⟨g, 0, none⟩), .agg #[.int .i64 1, .string ⟨#[116]⟩, .int .i64 0, .int .i64 0, .int .i64 0, .int .i64 (1 + q0), .int .i64 q1, .bool false]] W fun e w' => e = .returned (.int .i64 0) ∧ BOx w.heap.size [] w' g (tB1 (1 + q0)) ∧ Below w.heap.size W w' ∧ ∀ b ∈ ([] : List Nat), w'.heap[b]? = W.heap[b]?) := fun W g h hN => h.applyK hN (tx1 (1 + q0) q1) false 0 (tm1 iT i1).1 (tm1 iT i1).2
  have HA2 : Hid (∀ W g, BOx w.heap.size [] W g (tB1 (1 + q0)) → w.heap.size ≤ W.heap.size → Calls Try.prog 13 #[.pointer (some ⟨g, 0, none⟩), .agg #[.int .i64 2, .string ⟨#[]⟩, .int .i64 0, .int .i64 0, .int .i64 q3, .int .i64 0, .int .i64 q1, .bool false]] W fun e w' => e = .returned (.int .i64 0) ∧ BOx w.heap.size [] w' g (tB2 (1 + q0) q1 q3) ∧ Below w.heap.size W w' ∧ ∀ b ∈ ([] : List Nat), w'.heap[b]? = W.heap[b]?) := fun W g h hN => h.applyK hN (tx2 q3 q1) false 0 (tm2 i1 i3).1 (tm2 i1 i3).2
  by_cases hov : q1 + (1 + q0) ≤ q1 + q2
  · have HA5 : Hid (∀ W g, BOx w.heap.size [] W g (tB2 (1 + q0) q1 q3) → w.heap.size ≤ W.heap.size → Calls Try.prog 13 #[.pointer (some ⟨g, 0, none⟩), .agg #[.int .i64 5, .string ⟨#[]⟩, .int .i64 0, .int .i64 0, .int .i64 0, .int .i64 0, .int .i64 (q1 + q2), .bool false]] W fun e w' => e = .returned (.int .i64 0) ∧ BOx w.heap.size [] w' g (tB3 (1 + q0) q1 q3) ∧ Below w.heap.size W w' ∧ ∀ b ∈ ([] : List Nat), w'.heap[b]? = W.heap[b]?) := fun W g h hN => h.applyK hN (tx5 (q1 + q2)) false 0 (tm5_yes (T := 1 + q0) (b := q1) (p := q3) i5 hov).1 (tm5_yes (T := 1 + q0) (b := q1) (p := q3) i5 hov).2
    have HD5 : Hid (∀ W g, BOx w.heap.size [] W g (tB2 (1 + q0) q1 q3) → Calls Try.prog 8 #[.pointer (some ⟨g, 0, none⟩), .agg #[.int .i64 5, .string ⟨#[]⟩, .int .i64 0, .int .i64 0, .int .i64 0, .int .i64 0, .int .i64 (q1 + q2), .bool false]] W fun e w' => e = .returned (.tuple #[.bool false, .int .i64 0]) ∧ Below W.heap.size W w') := fun W g h => by
      have h1 := h.of.decide (tx5 (q1 + q2))
      rw [(tm5_yes (T := 1 + q0) (b := q1) (p := q3) i5 hov).1] at h1
      exact h1
    have HS5 : Hid (∀ W g, BOx w.heap.size [] W g (tB3 (1 + q0) q1 q3) → Calls Try.prog 11 #[.pointer (some ⟨g, 0, none⟩), .int .i64 0] W fun e w' => e = .returned (.tuple #[.int .i64 3, .int .i64 1, .bool true]) ∧ Below W.heap.size W w') := fun W g h => by
      have h1 := h.of.status 0
      rw [tm_st.2.1, tm_st.2.2.1, tm_st.2.2.2] at h1
      exact h1
    have HT5 : Hid (∀ W g, BOx w.heap.size [] W g (tB3 (1 + q0) q1 q3) → Calls Try.prog 15 #[.pointer (some ⟨g, 0, none⟩)] W fun e w' => ∃ b c, e = .returned (.slice (some ⟨b, 0, none⟩) 1 c) ∧ Below W.heap.size W w' ∧ w'.cell? ⟨b, 0, none⟩ = some (.int .i64 0) ∧ w'.cell? ⟨b, 1, none⟩ = some (.int .i64 1) ∧ w'.cell? ⟨b, 2, none⟩ = some (.int .i64 q3) ∧ w'.cell? ⟨b, 3, none⟩ = some (.bool false)) := fun W g h => by
      have h1 := h.of.todo
      rw [tm_todo.2] at h1
      refine h1.mono ?_
      rintro e w2 ⟨u, rfl, h2, h3⟩
      obtain ⟨b, c, rfl, -, h4⟩ := td_one h2
      exact ⟨b, c, rfl, h3, h4 w2 rfl⟩
    have dlt : decide (q2 < 1 + q0) = false := by simp; omega
    clear hov
    go_enter Try.func7, Try.ntmps7
    go_wp2_with (first
      | (go_at_call 17; (with_reducible_and_instances (refine HN.out.mono ?_)); rintro r w1 ⟨g, rfl, h1, hb1⟩; have HB1 := hid hb1; have HX1 := hid h1.beside; clear h1 hb1)
      | (go_at_call 16; (with_reducible_and_instances (refine (knows16 _).mono ?_)); rintro r w2 ⟨rfl, hb2⟩; have HX2 := hid (HX1.out.later hb2); have HB2 := hid (HB1.out.trans (hb2.mono HB1.out.size)); have HC2 := hid (HA1.out _ _ HX2.out HB2.out.size); clear hb2)
      | (go_at_call 13; (with_reducible_and_instances (refine HC2.out.mono ?_)); rintro r w3 ⟨rfl, h, hb, -⟩; have HB3 := hid (HB2.out.trans hb); have HC3 := hid (HA2.out _ _ h HB3.out.size); clear h hb)
      | (go_at_call 13; (with_reducible_and_instances (refine HC3.out.mono ?_)); rintro r w4 ⟨rfl, h, hb, -⟩; have HB4 := hid (HB3.out.trans hb); have HX4 := hid h; have HC4 := hid (HD5.out _ _ h); clear h hb)
      | (go_at_call 8; (with_reducible_and_instances (refine HC4.out.mono ?_)); rintro r w5 ⟨rfl, hb⟩; have HB5 := hid (HB4.out.trans (hb.mono HB4.out.size)); have HC5 := hid (HA5.out _ _ (HX4.out.later hb) HB5.out.size); clear hb)
      | (go_at_call 13; (with_reducible_and_instances (refine HC5.out.mono ?_)); rintro r w6 ⟨rfl, h, hb, -⟩; have HB6 := hid (HB5.out.trans hb); have HX6 := hid h; have HC6 := hid (HS5.out _ _ h); clear h hb)
      | (go_at_call 11; (with_reducible_and_instances (refine HC6.out.mono ?_)); rintro r w9 ⟨rfl, hb⟩; have HB9 := hid (HB6.out.trans (hb.mono HB6.out.size)); have HT9 := hid (HT5.out _ _ (HX6.out.later hb)); clear hb)
      | (go_at_call 12; (with_reducible_and_instances (refine (num16_any _ _).mono ?_)); rintro r w99 ⟨rfl, hw99⟩; obtain rfl := hw99.symm)
      | (go_at_call 15; (with_reducible_and_instances (refine HT9.out.mono ?_)); rintro r w10 ⟨b, c, rfl, hb, z0, z1, z2, z3⟩; have HB10 := hid (HB9.out.trans (hb.mono HB9.out.size)); clear hb))
    go_ret
    exact ⟨rfl, HB10.out⟩
  · have HA5 : Hid (∀ W g, BOx w.heap.size [] W g (tB2 (1 + q0) q1 q3) → w.heap.size ≤ W.heap.size → Calls Try.prog 13 #[.pointer (some ⟨g, 0, none⟩), .agg #[.int .i64 5, .string ⟨#[]⟩, .int .i64 0, .int .i64 0, .int .i64 0, .int .i64 0, .int .i64 (q1 + q2), .bool false]] W fun e w' => e = .returned (.int .i64 0) ∧ BOx w.heap.size [] w' g (tB2 (1 + q0) q1 q3) ∧ Below w.heap.size W w' ∧ ∀ b ∈ ([] : List Nat), w'.heap[b]? = W.heap[b]?) := fun W g h hN => h.applyK hN (tx5 (q1 + q2)) true 0 (tm5_no (T := 1 + q0) (b := q1) (p := q3) i5 hov).1 (tm5_no (T := 1 + q0) (b := q1) (p := q3) i5 hov).2
    have HD5 : Hid (∀ W g, BOx w.heap.size [] W g (tB2 (1 + q0) q1 q3) → Calls Try.prog 8 #[.pointer (some ⟨g, 0, none⟩), .agg #[.int .i64 5, .string ⟨#[]⟩, .int .i64 0, .int .i64 0, .int .i64 0, .int .i64 0, .int .i64 (q1 + q2), .bool false]] W fun e w' => e = .returned (.tuple #[.bool true, .int .i64 0]) ∧ Below W.heap.size W w') := fun W g h => by
      have h1 := h.of.decide (tx5 (q1 + q2))
      rw [(tm5_no (T := 1 + q0) (b := q1) (p := q3) i5 hov).1] at h1
      exact h1
    have HS5 : Hid (∀ W g, BOx w.heap.size [] W g (tB2 (1 + q0) q1 q3) → Calls Try.prog 11 #[.pointer (some ⟨g, 0, none⟩), .int .i64 0] W fun e w' => e = .returned (.tuple #[.int .i64 1, .int .i64 0, .bool true]) ∧ Below W.heap.size W w') := fun W g h => by
      have h1 := h.of.status 0
      rw [tm_st.1.1, tm_st.1.2.1, tm_st.1.2.2] at h1
      exact h1
    have HT5 : Hid (∀ W g, BOx w.heap.size [] W g (tB2 (1 + q0) q1 q3) → Calls Try.prog 15 #[.pointer (some ⟨g, 0, none⟩)] W fun e w' => (∃ ad c, e = .returned (.slice ad 0 c)) ∧ Below W.heap.size W w') := fun W g h => by
      have h1 := h.of.todo
      rw [tm_todo.1] at h1
      refine h1.mono ?_
      rintro e w2 ⟨u, rfl, h2, h3⟩
      obtain ⟨ad, c, rfl, -⟩ := h2.form kTd_ok.tofit
      exact ⟨⟨ad, c, rfl⟩, h3⟩
    have dlt : decide (q2 < 1 + q0) = true := by simp; omega
    clear hov
    go_enter Try.func7, Try.ntmps7
    go_wp2_with (first
      | (go_at_call 17; (with_reducible_and_instances (refine HN.out.mono ?_)); rintro r w1 ⟨g, rfl, h1, hb1⟩; have HB1 := hid hb1; have HX1 := hid h1.beside; clear h1 hb1)
      | (go_at_call 16; (with_reducible_and_instances (refine (knows16 _).mono ?_)); rintro r w2 ⟨rfl, hb2⟩; have HX2 := hid (HX1.out.later hb2); have HB2 := hid (HB1.out.trans (hb2.mono HB1.out.size)); have HC2 := hid (HA1.out _ _ HX2.out HB2.out.size); clear hb2)
      | (go_at_call 13; (with_reducible_and_instances (refine HC2.out.mono ?_)); rintro r w3 ⟨rfl, h, hb, -⟩; have HB3 := hid (HB2.out.trans hb); have HC3 := hid (HA2.out _ _ h HB3.out.size); clear h hb)
      | (go_at_call 13; (with_reducible_and_instances (refine HC3.out.mono ?_)); rintro r w4 ⟨rfl, h, hb, -⟩; have HB4 := hid (HB3.out.trans hb); have HX4 := hid h; have HC4 := hid (HD5.out _ _ h); clear h hb)
      | (go_at_call 8; (with_reducible_and_instances (refine HC4.out.mono ?_)); rintro r w5 ⟨rfl, hb⟩; have HB5 := hid (HB4.out.trans (hb.mono HB4.out.size)); have HC5 := hid (HA5.out _ _ (HX4.out.later hb) HB5.out.size); clear hb)
      | (go_at_call 13; (with_reducible_and_instances (refine HC5.out.mono ?_)); rintro r w6 ⟨rfl, h, hb, -⟩; have HB6 := hid (HB5.out.trans hb); have HX6 := hid h; have HC6 := hid (HS5.out _ _ h); clear h hb)
      | (go_at_call 11; (with_reducible_and_instances (refine HC6.out.mono ?_)); rintro r w9 ⟨rfl, hb⟩; have HB9 := hid (HB6.out.trans (hb.mono HB6.out.size)); have HT9 := hid (HT5.out _ _ (HX6.out.later hb)); clear hb)
      | (go_at_call 12; (with_reducible_and_instances (refine (num16_any _ _).mono ?_)); rintro r w99 ⟨rfl, hw99⟩; obtain rfl := hw99.symm)
      | (go_at_call 15; (with_reducible_and_instances (refine HT9.out.mono ?_)); rintro r w10 ⟨⟨ad, c, rfl⟩, hb⟩; have HB10 := hid (HB9.out.trans (hb.mono HB9.out.size)); clear hb))
    go_ret
    exact ⟨rfl, HB10.out⟩
end Go.Proofs.Ytkheifdigjajeaa
