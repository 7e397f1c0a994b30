/- What the document's own Check (package ref) answers: checkN. -/
import Derived.Test.YtmkdkclakndkpaaRefCheck3
namespace Go.Proofs.Ytmkdkclakndkpaa
open Go.RowKit

set_option maxRecDepth 100000 in
set_option maxHeartbeats 4000000 in
theorem refCheck_marker (k p e : Int) (ad : Option Addr) (cap : Nat) (w : World) (hA : BArg w ⟨k, p, e, 0, false, []⟩ ad 0 cap) (hk : k = 2 ∨ k = 3) (a1 : 0 ≤ p) (a2 : p < 281474976710656) (a3 : 0 ≤ e) (a4 : e < 2147483648) :
    Calls Try.prog 12 #[.agg #[.int .i64 k, .int .i64 p, .int .i64 e, .int .i64 0, .bool false, .slice ad 0 cap]] w fun r w' => r = .returned (.int .i64 0) ∧ Below w.heap.size w w' := by
  have b0 : Below w.heap.size w (w.alloc (.cells #[.int .i64 k, .int .i64 p, .int .i64 e, .int .i64 0, .bool false, .slice ad 0 cap] 24)) := (Below.refl _ _).alloc (Nat.le_refl _) _
  have x0 : Hid (BBox (w.alloc (.cells #[.int .i64 k, .int .i64 p, .int .i64 e, .int .i64 0, .bool false, .slice ad 0 cap] 24)) w.heap.size k p e 0 false (.slice ad 0 cap)) := BBox.new w _ _ _ _ _ _
  have HA : Hid (BArg w ⟨k, p, e, 0, false, []⟩ ad 0 cap) := hA
  clear hA
  have hp : (p == -1) = false := by simp; omega
  have f2 : decide (p < 0) = false := by simp; omega
  have f3 : decide (281474976710656 ≤ p) = false := by simp; omega
  have f4 : decide (e < 0) = false := by simp; omega
  have f5 : decide (2147483648 ≤ e) = false := by simp; omega
  rcases hk with rfl | rfl
  · go_enter Try.func12, Try.ntmps12
    go_wp2
    refine wp_loop_rounds 1 ?_
    rw [rounds_succ]
    have c0 := x0.out.c0
    have c1 := x0.out.c1
    have c2 := x0.out.c2
    have c3 := x0.out.c3
    have c4 := x0.out.c4
    have c5 := x0.out.c5
    have BD : Hid (Below w.heap.size w (w.alloc (.cells #[.int .i64 _, .int .i64 p, .int .i64 e, .int .i64 0, .bool false, .slice ad 0 cap] 24)).drew) := b0.drew
    have Y0 : Hid (BBox (w.alloc (.cells #[.int .i64 _, .int .i64 p, .int .i64 e, .int .i64 0, .bool false, .slice ad 0 cap] 24)).drew w.heap.size _ p e 0 false (.slice ad 0 cap)) := x0.out
    go_wp2_with fail
    go_region_held3 (fun w' => w'.cell? ⟨w.heap.size, 0, none⟩ = some (.int .i64 2) ∧ w'.cell? ⟨w.heap.size, 1, none⟩ = some (.int .i64 p) ∧ w'.cell? ⟨w.heap.size, 2, none⟩ = some (.int .i64 e) ∧ w'.cell? ⟨w.heap.size, 3, none⟩ = some (.int .i64 0) ∧ w'.cell? ⟨w.heap.size, 4, none⟩ = some (.bool false) ∧ w'.cell? ⟨w.heap.size, 5, none⟩ = some (.slice ad 0 cap)) (first | exact ⟨c0, c1, c2, c3, c4, c5⟩ | exact hS)
      (first | (go_at_call 14; refine (refLen_any _ p e 0 false ad 0 cap _).mono ?_; rintro r w1 ⟨rfl, b1⟩; have z := Y0.out.later b1; have hS := And.intro z.c0 (And.intro z.c1 (And.intro z.c2 (And.intro z.c3 (And.intro z.c4 z.c5)))); clear z))
    have b01 : Below w.heap.size w w1 := BD.out.trans (b1.mono BD.out.size)
    obtain ⟨d0, d1, d2, d3, d4, d5⟩ := hS
    have HSz := refSize_any _ p e 0 false [] ad 0 cap w1 (HA.out.later b01) (by omega) (fun r hr => (by cases hr))
    rw [show 18 + recsSize [] = 18 from rfl] at HSz
    go_wp2_with (go_at_call 24; refine HSz.mono ?_; rintro r w2 ⟨rfl, b2⟩)
    go_ret
    exact ⟨rfl, b01.trans (b2.mono b01.size)⟩
  · go_enter Try.func12, Try.ntmps12
    go_wp2
    refine wp_loop_rounds 1 ?_
    rw [rounds_succ]
    have c0 := x0.out.c0
    have c1 := x0.out.c1
    have c2 := x0.out.c2
    have c3 := x0.out.c3
    have c4 := x0.out.c4
    have c5 := x0.out.c5
    have BD : Hid (Below w.heap.size w (w.alloc (.cells #[.int .i64 _, .int .i64 p, .int .i64 e, .int .i64 0, .bool false, .slice ad 0 cap] 24)).drew) := b0.drew
    have Y0 : Hid (BBox (w.alloc (.cells #[.int .i64 _, .int .i64 p, .int .i64 e, .int .i64 0, .bool false, .slice ad 0 cap] 24)).drew w.heap.size _ p e 0 false (.slice ad 0 cap)) := x0.out
    go_wp2_with fail
    go_region_held3 (fun w' => w'.cell? ⟨w.heap.size, 0, none⟩ = some (.int .i64 3) ∧ w'.cell? ⟨w.heap.size, 1, none⟩ = some (.int .i64 p) ∧ w'.cell? ⟨w.heap.size, 2, none⟩ = some (.int .i64 e) ∧ w'.cell? ⟨w.heap.size, 3, none⟩ = some (.int .i64 0) ∧ w'.cell? ⟨w.heap.size, 4, none⟩ = some (.bool false) ∧ w'.cell? ⟨w.heap.size, 5, none⟩ = some (.slice ad 0 cap)) (first | exact ⟨c0, c1, c2, c3, c4, c5⟩ | exact hS)
      (first | (go_at_call 14; refine (refLen_any _ p e 0 false ad 0 cap _).mono ?_; rintro r w1 ⟨rfl, b1⟩; have z := Y0.out.later b1; have hS := And.intro z.c0 (And.intro z.c1 (And.intro z.c2 (And.intro z.c3 (And.intro z.c4 z.c5)))); clear z))
    have b01 : Below w.heap.size w w1 := BD.out.trans (b1.mono BD.out.size)
    obtain ⟨d0, d1, d2, d3, d4, d5⟩ := hS
    have HSz := refSize_any _ p e 0 false [] ad 0 cap w1 (HA.out.later b01) (by omega) (fun r hr => (by cases hr))
    rw [show 18 + recsSize [] = 18 from rfl] at HSz
    go_wp2_with (go_at_call 24; refine HSz.mono ?_; rintro r w2 ⟨rfl, b2⟩)
    go_ret
    exact ⟨rfl, b01.trans (b2.mono b01.size)⟩
theorem refCheck_any (k p e s : Int) (t : Bool) (rs : List Rec) (ad : Option Addr) (len cap : Nat) (w : World) (h : BArg w ⟨k, p, e, s, t, rs⟩ ad len cap) :
    Calls Try.prog 12 #[.agg #[.int .i64 k, .int .i64 p, .int .i64 e, .int .i64 s, .bool t, .slice ad len cap]] w fun r w' => r = .returned (.int .i64 (checkN ⟨k, p, e, s, t, rs⟩)) ∧ Below w.heap.size w w' := by
  have hl : rs.length = len := h.len_eq
  cases ha : argOk ⟨k, p, e, s, t, rs⟩ with
  | false =>
    rw [checkN_arg _ ha]
    exact refCheck_arg k p e s t rs ad len cap w ha
  | true =>
    cases hm : manyOk ⟨k, p, e, s, t, rs⟩ with
    | false =>
      rw [checkN_many _ ha hm]
      exact refCheck_many k p e s t rs ad len cap w hl ha hm
    | true =>
      have hm2 := hm
      simp only [manyOk, Bat.marker, hl] at hm2
      rcases argOk_yes k p e s t rs ha with ⟨rfl, -⟩ | ⟨rfl, -⟩ | ⟨hk, a1, a2, a3, a4, rfl, rfl⟩
      · exact refCheck_plain p e s t rs ad len cap w h ha (by simp at hm2; omega) (by simp at hm2; omega)
      · exact refCheck_plain p e s t rs ad len cap w h ha (by simp at hm2; omega) (by simp at hm2; omega)
      · have h0 : len = 0 := by rcases hk with rfl | rfl <;> (simp at hm2; exact hm2)
        subst h0
        obtain rfl : rs = [] := List.eq_nil_of_length_eq_zero hl
        have hmk : (Bat.marker ⟨k, p, e, 0, false, []⟩) = true := by rcases hk with rfl | rfl <;> rfl
        rw [checkN_size ha hm rfl (by simp only [seqOk, lenN, hmk]; rfl), if_pos (by show (18 + 0 : Nat) ≤ 65536; omega)]
        exact refCheck_marker k p e ad cap w h hk a1 a2 a3 a4
end Go.Proofs.Ytmkdkclakndkpaa
