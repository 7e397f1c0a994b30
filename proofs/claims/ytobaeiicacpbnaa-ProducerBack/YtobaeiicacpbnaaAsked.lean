/- What the questions of package batch answer, each a closure over a batch in its box and two truths in theirs. -/
import Derived.Test.YtobaeiicacpbnaaLen
import Derived.Test.YtobaeiicacpbnaaSized
import Derived.Test.YtobaeiicacpbnaaLong
namespace Go.Proofs.Ytobaeiicacpbnaa
open Go.RowKit

/-- In w the block B is a truth in its box. -/
def TBox (w : World) (B : Nat) (q : Bool) : Prop := B < w.heap.size ∧ w.cell? ⟨B, 0, none⟩ = some (.bool q)
theorem TBox.c0 {w : World} {B : Nat} {q : Bool} (h : TBox w B q) : w.cell? ⟨B, 0, none⟩ = some (.bool q) := h.2
theorem TBox.later {w w' : World} {B : Nat} {q : Bool} (h : TBox w B q) (hb : Below w.heap.size w w') : TBox w' B q :=
  ⟨Nat.lt_of_lt_of_le h.1 hb.size, (hb.cell (p := ⟨B, 0, none⟩) h.1).trans h.2⟩
variable {k p e s : Int} {t : Bool} {v : Value} {mk nb : Bool} {w : World} {B M N : Nat}

theorem ask1 (hb : BBox w B k p e s t v) (hm : TBox w M mk) :
    Calls Try.prog 54 #[.pointer (some ⟨B, 0, none⟩), .pointer (some ⟨M, 0, none⟩)] w fun r w' => r = .returned (.bool (k != 1 && !mk)) ∧ Below w.heap.size w w' := by
  have c0 := hb.c0
  have d0 := hm.c0
  clear hb hm
  cases hk : k != 1
  all_goals
    go_enter Try.func54, Try.ntmps54
    go_wp2
    all_goals go_ret
    all_goals exact ⟨rfl, Below.refl _ _⟩
theorem ask2 (hb : BBox w B k p e s t v) (hm : TBox w M mk) (hn : TBox w N nb) :
    Calls Try.prog 55 #[.pointer (some ⟨N, 0, none⟩), .pointer (some ⟨M, 0, none⟩), .pointer (some ⟨B, 0, none⟩)] w fun r w' => r = .returned (.bool (if nb then mk else decide (p < 0) || decide (281474976710656 ≤ p))) ∧ Below w.heap.size w w' := by
  have c1 := hb.c1
  have d0 := hm.c0
  have e0 := hn.c0
  clear hb hm hn
  cases nb
  all_goals
    go_enter Try.func55, Try.ntmps55
    go_wp2
    all_goals go_ret
    all_goals exact ⟨rfl, Below.refl _ _⟩
theorem ask3 (hb : BBox w B k p e s t v) (hn : TBox w N nb) :
    Calls Try.prog 56 #[.pointer (some ⟨N, 0, none⟩), .pointer (some ⟨B, 0, none⟩)] w fun r w' => r = .returned (.bool (if nb then e != 0 else decide (e < 0) || decide (2147483647 < e))) ∧ Below w.heap.size w w' := by
  have c2 := hb.c2
  have e0 := hn.c0
  clear hb hn
  cases nb
  all_goals
    go_enter Try.func56, Try.ntmps56
    go_wp2
    all_goals go_ret
    all_goals exact ⟨rfl, Below.refl _ _⟩
theorem ask4 (hb : BBox w B k p e s t v) (hm : TBox w M mk) (hn : TBox w N nb) :
    Calls Try.prog 57 #[.pointer (some ⟨B, 0, none⟩), .pointer (some ⟨M, 0, none⟩), .pointer (some ⟨N, 0, none⟩)] w fun r w' => r = .returned (.bool (t && (mk || nb))) ∧ Below w.heap.size w w' := by
  have c4 := hb.c4
  have d0 := hm.c0
  have e0 := hn.c0
  clear hb hm hn
  cases t <;> cases mk
  all_goals
    go_enter Try.func57, Try.ntmps57
    go_wp2
    all_goals go_ret
    all_goals exact ⟨rfl, Below.refl _ _⟩
theorem ask5 (hb : BBox w B k p e s t v) (hm : TBox w M mk) (hn : TBox w N nb) :
    Calls Try.prog 58 #[.pointer (some ⟨B, 0, none⟩), .pointer (some ⟨M, 0, none⟩), .pointer (some ⟨N, 0, none⟩)] w fun r w' => r = .returned (.bool (s != 0 && (mk || nb))) ∧ Below w.heap.size w w' := by
  have c3 := hb.c3
  have d0 := hm.c0
  have e0 := hn.c0
  clear hb hm hn
  cases hs : s != 0 <;> cases mk
  all_goals
    go_enter Try.func58, Try.ntmps58
    go_wp2
    all_goals go_ret
    all_goals exact ⟨rfl, Below.refl _ _⟩
variable {ad : Option Addr} {len cap : Nat}
theorem ask6 (hb : BBox w B k p e s t (.slice ad len cap)) (hm : TBox w M mk) :
    Calls Try.prog 59 #[.pointer (some ⟨M, 0, none⟩), .pointer (some ⟨B, 0, none⟩)] w fun r w' => r = .returned (.bool (if mk then decide ((0 : Int) < len) else decide ((len : Int) < 1) || decide ((64 : Int) < len))) ∧ Below w.heap.size w w' := by
  have c5 := hb.c5
  have d0 := hm.c0
  clear hb hm
  cases mk
  all_goals
    go_enter Try.func59, Try.ntmps59
    go_wp2
    all_goals go_ret
    all_goals exact ⟨rfl, Below.refl _ _⟩
theorem ask7 {rs : List Rec} (hb : BBox w B k p e s t (.slice ad len cap)) (ha : BArg w ⟨k, p, e, s, t, rs⟩ ad len cap) :
    Calls Try.prog 60 #[.pointer (some ⟨B, 0, none⟩)] w fun r w' => r = .returned (.bool (!rs.all recOk)) ∧ Below w.heap.size w w' := by
  have c5 := hb.c5
  have HC := containsLong_any _ ad len cap w ha
  clear hb ha
  go_enter Try.func60, Try.ntmps60
  go_wp2_with (go_at_call 61; refine HC.mono ?_; rintro e w1 ⟨rfl, b1⟩)
  go_ret
  exact ⟨rfl, b1⟩
theorem ask8 (hb : BBox w B k p e s t (.slice ad len cap)) (hl : len ≤ 64) :
    Calls Try.prog 63 #[.pointer (some ⟨B, 0, none⟩)] w fun r w' => r = .returned (.bool (decide (s < 0) || decide (2147483648 - (if k == 2 || k == 3 then (1 : Int) else len) < s))) ∧ Below w.heap.size w w' := by
  have c0 := hb.c0
  have c1 := hb.c1
  have c2 := hb.c2
  have c3 := hb.c3
  have c4 := hb.c4
  have c5 := hb.c5
  have Y0 : Hid (BBox w.drew B k p e s t (.slice ad len cap)) := hb
  clear hb
  cases hs : decide (s < 0) with
  | true =>
    rw [Bool.true_or]
    have hs' : s < 0 := of_decide_eq_true hs
    clear Y0
    go_enter Try.func63, Try.ntmps63
    go_wp2_with fail
    go_quiet (fail)
    go_wp2
    go_ret
    exact ⟨rfl, below_drewN' (Below.refl _ _) _⟩
  | false =>
    rw [Bool.false_or]
    have hs' : ¬ s < 0 := of_decide_eq_false hs
    have iw : IntKind.i64.wrap (2147483648 - (len : Int)) = 2147483648 - (len : Int) := by
      simp [IntKind.wrap, IntKind.bits, IntKind.signed]; omega
    cases hk : (k == 2 || k == 3)
    all_goals
      go_enter Try.func63, Try.ntmps63
      go_wp2_with fail
      go_region_held3 (fun w' => w'.cell? ⟨B, 0, none⟩ = some (.int .i64 k) ∧ w'.cell? ⟨B, 1, none⟩ = some (.int .i64 p) ∧ w'.cell? ⟨B, 2, none⟩ = some (.int .i64 e) ∧ w'.cell? ⟨B, 3, none⟩ = some (.int .i64 s) ∧ w'.cell? ⟨B, 4, none⟩ = some (.bool t) ∧ w'.cell? ⟨B, 5, none⟩ = some (.slice ad len cap)) (first | exact ⟨c0, c1, c2, c3, c4, c5⟩ | exact hS)
        (first | (go_at_call 32; refine (len_any k p e s t ad len cap _).mono ?_; rintro r w1 ⟨rfl, b1⟩; rw [hk]; have z := Y0.out.later b1; have hS := And.intro z.c0 (And.intro z.c1 (And.intro z.c2 (And.intro z.c3 (And.intro z.c4 z.c5)))); clear z))
      go_wp2
      go_ret
      exact ⟨rfl, (below_drewN' (Below.refl w.heap.size w) 1).trans (b1.mono (Nat.le_refl _))⟩
theorem ask9 {rs : List Rec} (hb : BBox w B k p e s t (.slice ad len cap)) (ha : BArg w ⟨k, p, e, s, t, rs⟩ ad len cap) (hm : len ≤ 64) (hr : ∀ r ∈ rs, recOk r = true) :
    Calls Try.prog 64 #[.pointer (some ⟨B, 0, none⟩)] w fun r w' => r = .returned (.bool (decide ((65536 : Int) < ((18 + recsSize rs : Nat) : Int)))) ∧ Below w.heap.size w w' := by
  have c0 := hb.c0
  have c1 := hb.c1
  have c2 := hb.c2
  have c3 := hb.c3
  have c4 := hb.c4
  have c5 := hb.c5
  have HC := size_any k p e s t rs ad len cap w ha hm hr
  clear hb ha hr
  generalize 18 + recsSize rs = n at *
  go_enter Try.func64, Try.ntmps64
  go_wp2_with (go_at_call 65; refine HC.mono ?_; rintro e w1 ⟨rfl, b1⟩)
  go_ret
  exact ⟨rfl, b1⟩
end Go.Proofs.Ytobaeiicacpbnaa
