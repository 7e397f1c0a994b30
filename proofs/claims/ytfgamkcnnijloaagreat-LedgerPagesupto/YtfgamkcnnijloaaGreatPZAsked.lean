/- What the Go functions batch.isMarker, batch.Len and batch.size answer. What the Go function batch.size answers of a batch with few Records, each within its limits. What batch.isLong and slices.ContainsFunc of it answer: whether a Record is beyond its limits. What the questions of package batch answer, each a closure over a batch in its box and two truths in theirs. What the Go function batch.questions answers: nine closures over three boxes. -/
import Derived.Test.YtfgamkcnnijloaaGreatPZRec
namespace Go.Proofs.YtfgamkcnnijloaaGreat
open Go.RowKit

theorem isMarker_any (k p e s : Int) (t : Bool) (v : Value) (w : World) :
    Calls Tryz.prog 78 #[.agg #[.int .i64 k, .int .i64 p, .int .i64 e, .int .i64 s, .bool t, v]] w fun r w' => r = .returned (.bool (k == 2 || k == 3)) ∧ Below w.heap.size w w' := by
  have b0 : Below w.heap.size w (w.alloc (.cells #[.int .i64 k, .int .i64 p, .int .i64 e, .int .i64 s, .bool t, v] 30)) := (Below.refl _ _).alloc (Nat.le_refl _) _
  rcases (show k = 2 ∨ k = 3 ∨ (k ≠ 2 ∧ k ≠ 3) by omega) with rfl | rfl | ⟨h2, h3⟩
  · go_enter Tryz.func78, Tryz.ntmps78
    go_wp2
    go_ret
    exact ⟨rfl, b0⟩
  · go_enter Tryz.func78, Tryz.ntmps78
    go_wp2
    go_ret
    exact ⟨rfl, b0⟩
  · have hm : (k == 2 || k == 3) = false := by simp [h2, h3]
    rw [hm]
    go_enter Tryz.func78, Tryz.ntmps78
    go_wp2
    go_ret
    exact ⟨rfl, b0⟩
theorem len_any (k p e s : Int) (t : Bool) (ad : Option Addr) (len cap : Nat) (w : World) :
    Calls Tryz.prog 49 #[.agg #[.int .i64 k, .int .i64 p, .int .i64 e, .int .i64 s, .bool t, .slice ad len cap]] w fun r w' => r = .returned (.int .i64 (if k == 2 || k == 3 then 1 else len)) ∧ Below w.heap.size w w' := by
  have b0 : Below w.heap.size w (w.alloc (.cells #[.int .i64 k, .int .i64 p, .int .i64 e, .int .i64 s, .bool t, .slice ad len cap] 30)) := (Below.refl _ _).alloc (Nat.le_refl _) _
  have X0 : Hid (BBox (w.alloc (.cells #[.int .i64 k, .int .i64 p, .int .i64 e, .int .i64 s, .bool t, .slice ad len cap] 30)) w.heap.size k p e s t (.slice ad len cap)) := BBox.new w k p e s t _
  cases hm : (k == 2 || k == 3) with
  | true =>
    go_enter Tryz.func49, Tryz.ntmps49
    go_wp2_with (go_at_call 78; refine (isMarker_any _ _ _ _ _ _ _).mono ?_; rintro e w1 ⟨rfl, b1⟩; rw [hm])
    go_ret
    exact ⟨rfl, b0.trans (b1.mono b0.size)⟩
  | false =>
    go_enter Tryz.func49, Tryz.ntmps49
    go_wp2_with (go_at_call 78; refine (isMarker_any _ _ _ _ _ _ _).mono ?_; rintro e w1 ⟨rfl, b1⟩; rw [hm]; have c5 := (X0.out.later b1).c5)
    go_ret
    exact ⟨rfl, b0.trans (b1.mono b0.size)⟩
end Go.Proofs.YtfgamkcnnijloaaGreat
namespace Go.Proofs.YtfgamkcnnijloaaGreat
open Go.RowKit

set_option maxHeartbeats 1000000 in
theorem size_any (k p e s : Int) (t : Bool) (rs : List Rec) (ad : Option Addr) (len cap : Nat) (w : World) (h : BArg w ⟨k, p, e, s, t, rs⟩ ad len cap) (hm : len ≤ 64) (hr : ∀ r ∈ rs, recOk r = true) :
    Calls Tryz.prog 59 #[.agg #[.int .i64 k, .int .i64 p, .int .i64 e, .int .i64 s, .bool t, .slice ad len cap]] w fun r w' => r = .returned (.int .i64 ((18 + recsSize rs : Nat) : Int)) ∧ Below w.heap.size w w' := by
  have b0 : Below w.heap.size w (w.alloc (.cells #[.int .i64 k, .int .i64 p, .int .i64 e, .int .i64 s, .bool t, .slice ad len cap] 30)) := (Below.refl _ _).alloc (Nat.le_refl _) _
  have x0 : Hid (BBox (w.alloc (.cells #[.int .i64 k, .int .i64 p, .int .i64 e, .int .i64 s, .bool t, .slice ad len cap] 30)) w.heap.size k p e s t (.slice ad len cap)) := BBox.new w k p e s t _
  have HA : Hid (BArg w ⟨k, p, e, s, t, rs⟩ ad len cap) := h
  have HL : Hid (rs.length = len) := h.len_eq
  have HR : Hid (∀ r ∈ rs, recOk r = true) := hr
  clear h hr
  go_enter Tryz.func59, Tryz.ntmps59
  go_wp2
  go_loopw [3, 9] (fun n i wr => ∃ j : Nat, j ≤ len ∧ i = .int .i64 j ∧ n = .int .i64 ((18 + recsSize (rs.take j) : Nat) : Int) ∧ Below w.heap.size w wr) (fun _ i _ => len - (intOf i).toNat)
  case atStart => exact ⟨0, Nat.zero_le _, rfl, rfl, b0⟩
  case round =>
    clear b0 x0
    obtain ⟨j, hj, rfl, rfl, hb⟩ := hrel
    have hz := recsSize_take_le rs HR.out j
    rw [HL.out] at hz
    by_cases hlt : j < len
    · obtain ⟨g, off, rfl, hg, hc⟩ := HA.out.cells (by omega)
      obtain ⟨q0, q1, q2⟩ := hc j hlt
      have r0 : wr.cell? ⟨g, off + j * 3, none⟩ = _ := (hb.cell (p := ⟨g, off + j * 3, none⟩) hg).trans q0
      have r1 : wr.cell? ⟨g, off + j * 3 + 1, none⟩ = _ := (hb.cell (p := ⟨g, off + j * 3 + 1, none⟩) hg).trans q1
      have r2 : wr.cell? ⟨g, off + j * 3 + 2, none⟩ = _ := (hb.cell (p := ⟨g, off + j * 3 + 2, none⟩) hg).trans q2
      have HS : Hid _ := recsSize_snoc rs j (by rw [HL.out]; exact hlt)
      have ho := recOk_parts (HR.out _ (getD_mem rs j (by rw [HL.out]; exact hlt)))
      clear hc q0 q1 q2
      simp only at r0 r1 r2
      generalize rs.getD j rec0 = r at *
      obtain ⟨o1, o2⟩ := ho
      go_wp2
      go_roundw
      case rel => exact ⟨j + 1, by omega, by go_num, val_int (by rw [HS.out]; omega), hb.alloc hb.size _⟩
      case measure => simp [intOf]; omega
    · obtain rfl : j = len := by omega
      have HV : Hid (rs.take j = rs) := List.take_of_length_le (by rw [HL.out]; omega)
      go_wp2
      go_ret
      exact ⟨by rw [show recsSize rs = recsSize (rs.take j) by rw [HV.out]]; rfl, hb⟩
end Go.Proofs.YtfgamkcnnijloaaGreat
namespace Go.Proofs.YtfgamkcnnijloaaGreat
open Go.RowKit

theorem isLong_any (r : Rec) (w : World) (h1 : r.key.size ≤ maxLen) (h2 : r.val.size ≤ maxLen) :
    Calls Tryz.prog 107 #[.agg #[.string r.key, .string r.val, .bool r.dead]] w fun e w' => e = .returned (.bool (!recOk r)) ∧ Below w.heap.size w w' := by
  have b0 : Below w.heap.size w (w.alloc (.cells #[.string r.key, .string r.val, .bool r.dead] 43)) := (Below.refl _ _).alloc (Nat.le_refl _) _
  obtain ⟨rk, rv, rd⟩ := r
  unfold recOk
  replace h1 : rk.size ≤ 9223372036854775807 := h1
  replace h2 : rv.size ≤ 9223372036854775807 := h2
  simp only at *
  by_cases h3 : rk.size ≤ 1000
  · have h7 : decide ((1000 : Int) < rk.size) = false := by simp; omega
    by_cases h4 : rv.size ≤ 4000
    · have h8 : decide ((4000 : Int) < rv.size) = false := by simp; omega
      cases rd with
      | true =>
        by_cases h5 : rv.size = 0
        · rw [show (!(decide (rk.size ≤ 1000) && decide (rv.size ≤ 4000) && !(true && rv.size != 0))) = false by simp [h3, h5]]
          go_enter Tryz.func107, Tryz.ntmps107
          go_wp2
          go_ret
          exact ⟨rfl, b0⟩
        · rw [show (!(decide (rk.size ≤ 1000) && decide (rv.size ≤ 4000) && !(true && rv.size != 0))) = true by simp [h3, h4, h5]]
          have h6 : 0 < rv.size := by omega
          go_enter Tryz.func107, Tryz.ntmps107
          go_wp2
          go_ret
          exact ⟨rfl, b0⟩
      | false =>
        rw [show (!(decide (rk.size ≤ 1000) && decide (rv.size ≤ 4000) && !(false && rv.size != 0))) = false by simp [h3, h4]]
        go_enter Tryz.func107, Tryz.ntmps107
        go_wp2
        go_ret
        exact ⟨rfl, b0⟩
    · rw [show (!(decide (rk.size ≤ 1000) && decide (rv.size ≤ 4000) && !(rd && rv.size != 0))) = true by simp [h3, h4]]
      have h6 : 4000 < rv.size := by omega
      go_enter Tryz.func107, Tryz.ntmps107
      go_wp2
      go_ret
      exact ⟨rfl, b0⟩
  · rw [show (!(decide (rk.size ≤ 1000) && decide (rv.size ≤ 4000) && !(rd && rv.size != 0))) = true by simp [h3]]
    have h6 : 1000 < rk.size := by omega
    go_enter Tryz.func107, Tryz.ntmps107
    go_wp2
    go_ret
    exact ⟨rfl, b0⟩
theorem all_snoc (rs : List Rec) (j : Nat) (h : j < rs.length) : (rs.take (j + 1)).all recOk = ((rs.take j).all recOk && recOk (rs.getD j rec0)) := by
  rw [take_snocR rs j h]; simp
theorem all_not (rs : List Rec) (j : Nat) (h : j < rs.length) (hr : recOk (rs.getD j rec0) = false) : rs.all recOk = false := by
  rw [Bool.eq_false_iff]
  intro e
  have := List.all_eq_true.1 e _ (getD_mem rs j h)
  rw [hr] at this; cases this
/-- The place of the first Record beyond its limits, or -1. -/
def longAt (q : Int) (rs : List Rec) : Prop := (q < 0 ∧ rs.all recOk = true) ∨ (0 ≤ q ∧ rs.all recOk = false)
set_option maxHeartbeats 1000000 in
theorem indexLong_any (b : Bat) (ad : Option Addr) (len cap : Nat) (w : World) (h : BArg w b ad len cap) :
    Calls Tryz.prog 122 #[.slice ad len cap, .func (.func 107) #[] #[]] w fun e w' => ∃ q, e = .returned (.int .i64 q) ∧ longAt q b.recs ∧ Below w.heap.size w w' := by
  obtain ⟨k, p, e, s, t, rs⟩ := b
  have HA : Hid (BArg w ⟨k, p, e, s, t, rs⟩ ad len cap) := h
  have HL : Hid (rs.length = len) := h.len_eq
  have hroom := h.le
  have hroom2 : cap ≤ 9223372036854775807 := h.room
  clear h
  go_enter Tryz.func122, Tryz.ntmps122
  go_wp2
  go_loopw [8] (fun i wr => ∃ j : Nat, j ≤ len ∧ i = .int .i64 j ∧ Hid ((rs.take j).all recOk = true) ∧ Below w.heap.size w wr) (fun i _ => len - (intOf i).toNat)
  case atStart => exact ⟨0, Nat.zero_le _, rfl, (show Hid _ from rfl), Below.refl _ _⟩
  case round =>
    obtain ⟨j, hj, rfl, HT, hb⟩ := hrel
    by_cases hlt : j < len
    · obtain ⟨g, off, rfl, hg, hc⟩ := HA.out.cells (by omega)
      obtain ⟨q0, q1, q2⟩ := hc j hlt
      have r0 : wr.cell? ⟨g, off + j * 3, none⟩ = _ := (hb.cell (p := ⟨g, off + j * 3, none⟩) hg).trans q0
      have r1 : wr.cell? ⟨g, off + j * 3 + 1, none⟩ = _ := (hb.cell (p := ⟨g, off + j * 3 + 1, none⟩) hg).trans q1
      have r2 : wr.cell? ⟨g, off + j * 3 + 2, none⟩ = _ := (hb.cell (p := ⟨g, off + j * 3 + 2, none⟩) hg).trans q2
      clear hc q0 q1 q2
      simp only at r0 r1 r2
      have HS : Hid ((rs.take (j + 1)).all recOk = ((rs.take j).all recOk && recOk (rs.getD j rec0))) := all_snoc rs j (by rw [HL.out]; exact hlt)
      have HN : Hid (recOk (rs.getD j rec0) = false → rs.all recOk = false) := all_not rs j (by rw [HL.out]; exact hlt)
      have HZ : Hid ((rs.getD j rec0).key.size ≤ maxLen ∧ (rs.getD j rec0).val.size ≤ maxLen) := HA.out.size _ (getD_mem rs j (by rw [HL.out]; exact hlt))
      generalize rs.getD j rec0 = r at *
      have HC := isLong_any r wr HZ.out.1 HZ.out.2
      cases hq : recOk r with
      | true =>
        rw [hq] at HC
        go_wp2_with (go_at_call 107; refine HC.mono ?_; rintro e w1 ⟨rfl, b1⟩)
        go_roundw
        case rel => exact ⟨j + 1, by omega, by go_num, (show Hid _ by rw [HS.out, HT.out, hq]; rfl), hb.trans (b1.mono hb.size)⟩
        case measure => simp [intOf]; omega
      | false =>
        rw [hq] at HC
        go_wp2_with (go_at_call 107; refine HC.mono ?_; rintro e w1 ⟨rfl, b1⟩)
        go_ret
        exact ⟨_, rfl, Or.inr ⟨by omega, HN.out hq⟩, hb.trans (b1.mono hb.size)⟩
    · obtain rfl : j = len := by omega
      go_wp2
      go_ret
      refine ⟨_, rfl, Or.inl ⟨by omega, ?_⟩, hb⟩
      have h := HT.out
      rw [List.take_of_length_le (by rw [HL.out]; exact Nat.le_refl _)] at h
      exact h
theorem containsLong_any (b : Bat) (ad : Option Addr) (len cap : Nat) (w : World) (h : BArg w b ad len cap) :
    Calls Tryz.prog 106 #[.slice ad len cap, .func (.func 107) #[] #[]] w fun e w' => e = .returned (.bool (!b.recs.all recOk)) ∧ Below w.heap.size w w' := by
  have HC := indexLong_any b ad len cap w h
  clear h
  go_enter Tryz.func106, Tryz.ntmps106
  go_wp2_with (go_at_call 122; refine HC.mono ?_; rintro e w1 ⟨q, rfl, hq, b1⟩)
  go_ret
  refine ⟨?_, b1⟩
  rcases hq with ⟨h1, h2⟩ | ⟨h1, h2⟩
  · rw [h2]; simp; omega
  · rw [h2]; simp; omega
end Go.Proofs.YtfgamkcnnijloaaGreat
namespace Go.Proofs.YtfgamkcnnijloaaGreat
open Go.RowKit

/-- In w the block B is a truth in its box. -/
def TBox (w : World) (B : Nat) (q : Bool) : Prop := B < w.heap.size ∧ w.cell? ⟨B, 0, none⟩ = some (.bool q)
theorem TBox.c0 {w : World} {B : Nat} {q : Bool} (h : TBox w B q) : w.cell? ⟨B, 0, none⟩ = some (.bool q) := h.2
theorem TBox.later {w w' : World} {B : Nat} {q : Bool} (h : TBox w B q) (hb : Below w.heap.size w w') : TBox w' B q :=
  ⟨Nat.lt_of_lt_of_le h.1 hb.size, (hb.cell (p := ⟨B, 0, none⟩) h.1).trans h.2⟩
variable {k p e s : Int} {t : Bool} {v : Value} {mk nb : Bool} {w : World} {B M N : Nat}

theorem ask1 (hb : BBox w B k p e s t v) (hm : TBox w M mk) :
    Calls Tryz.prog 99 #[.pointer (some ⟨B, 0, none⟩), .pointer (some ⟨M, 0, none⟩)] w fun r w' => r = .returned (.bool (k != 1 && !mk)) ∧ Below w.heap.size w w' := by
  have c0 := hb.c0
  have d0 := hm.c0
  clear hb hm
  cases hk : k != 1
  all_goals
    go_enter Tryz.func99, Tryz.ntmps99
    go_wp2
    all_goals go_ret
    all_goals exact ⟨rfl, Below.refl _ _⟩
theorem ask2 (hb : BBox w B k p e s t v) (hm : TBox w M mk) (hn : TBox w N nb) :
    Calls Tryz.prog 100 #[.pointer (some ⟨N, 0, none⟩), .pointer (some ⟨M, 0, none⟩), .pointer (some ⟨B, 0, none⟩)] w fun r w' => r = .returned (.bool (if nb then mk else decide (p < 0) || decide (281474976710656 ≤ p))) ∧ Below w.heap.size w w' := by
  have c1 := hb.c1
  have d0 := hm.c0
  have e0 := hn.c0
  clear hb hm hn
  cases nb
  all_goals
    go_enter Tryz.func100, Tryz.ntmps100
    go_wp2
    all_goals go_ret
    all_goals exact ⟨rfl, Below.refl _ _⟩
theorem ask3 (hb : BBox w B k p e s t v) (hn : TBox w N nb) :
    Calls Tryz.prog 101 #[.pointer (some ⟨N, 0, none⟩), .pointer (some ⟨B, 0, none⟩)] w fun r w' => r = .returned (.bool (if nb then e != 0 else decide (e < 0) || decide (2147483647 < e))) ∧ Below w.heap.size w w' := by
  have c2 := hb.c2
  have e0 := hn.c0
  clear hb hn
  cases nb
  all_goals
    go_enter Tryz.func101, Tryz.ntmps101
    go_wp2
    all_goals go_ret
    all_goals exact ⟨rfl, Below.refl _ _⟩
theorem ask4 (hb : BBox w B k p e s t v) (hm : TBox w M mk) (hn : TBox w N nb) :
    Calls Tryz.prog 102 #[.pointer (some ⟨B, 0, none⟩), .pointer (some ⟨M, 0, none⟩), .pointer (some ⟨N, 0, none⟩)] w fun r w' => r = .returned (.bool (t && (mk || nb))) ∧ Below w.heap.size w w' := by
  have c4 := hb.c4
  have d0 := hm.c0
  have e0 := hn.c0
  clear hb hm hn
  cases t <;> cases mk
  all_goals
    go_enter Tryz.func102, Tryz.ntmps102
    go_wp2
    all_goals go_ret
    all_goals exact ⟨rfl, Below.refl _ _⟩
theorem ask5 (hb : BBox w B k p e s t v) (hm : TBox w M mk) (hn : TBox w N nb) :
    Calls Tryz.prog 103 #[.pointer (some ⟨B, 0, none⟩), .pointer (some ⟨M, 0, none⟩), .pointer (some ⟨N, 0, none⟩)] w fun r w' => r = .returned (.bool (s != 0 && (mk || nb))) ∧ Below w.heap.size w w' := by
  have c3 := hb.c3
  have d0 := hm.c0
  have e0 := hn.c0
  clear hb hm hn
  cases hs : s != 0 <;> cases mk
  all_goals
    go_enter Tryz.func103, Tryz.ntmps103
    go_wp2
    all_goals go_ret
    all_goals exact ⟨rfl, Below.refl _ _⟩
variable {ad : Option Addr} {len cap : Nat}
theorem ask6 (hb : BBox w B k p e s t (.slice ad len cap)) (hm : TBox w M mk) :
    Calls Tryz.prog 104 #[.pointer (some ⟨M, 0, none⟩), .pointer (some ⟨B, 0, none⟩)] w fun r w' => r = .returned (.bool (if mk then decide ((0 : Int) < len) else decide ((len : Int) < 1) || decide ((64 : Int) < len))) ∧ Below w.heap.size w w' := by
  have c5 := hb.c5
  have d0 := hm.c0
  clear hb hm
  cases mk
  all_goals
    go_enter Tryz.func104, Tryz.ntmps104
    go_wp2
    all_goals go_ret
    all_goals exact ⟨rfl, Below.refl _ _⟩
theorem ask7 {rs : List Rec} (hb : BBox w B k p e s t (.slice ad len cap)) (ha : BArg w ⟨k, p, e, s, t, rs⟩ ad len cap) :
    Calls Tryz.prog 105 #[.pointer (some ⟨B, 0, none⟩)] w fun r w' => r = .returned (.bool (!rs.all recOk)) ∧ Below w.heap.size w w' := by
  have c5 := hb.c5
  have HC := containsLong_any _ ad len cap w ha
  clear hb ha
  go_enter Tryz.func105, Tryz.ntmps105
  go_wp2_with (go_at_call 106; refine HC.mono ?_; rintro e w1 ⟨rfl, b1⟩)
  go_ret
  exact ⟨rfl, b1⟩
theorem ask8 (hb : BBox w B k p e s t (.slice ad len cap)) (hl : len ≤ 64) :
    Calls Tryz.prog 108 #[.pointer (some ⟨B, 0, none⟩)] w fun r w' => r = .returned (.bool (decide (s < 0) || decide (2147483648 - (if k == 2 || k == 3 then (1 : Int) else len) < s))) ∧ Below w.heap.size w w' := by
  have c0 := hb.c0
  have c1 := hb.c1
  have c2 := hb.c2
  have c3 := hb.c3
  have c4 := hb.c4
  have c5 := hb.c5
  have Y0 : Hid (BBox w.drew B k p e s t (.slice ad len cap)) := hb
  clear hb
  cases hs : decide (s < 0) with
  | true =>
    rw [Bool.true_or]
    have hs' : s < 0 := of_decide_eq_true hs
    clear Y0
    go_enter Tryz.func108, Tryz.ntmps108
    go_wp2_with fail
    go_quiet (fail)
    go_wp2
    go_ret
    exact ⟨rfl, below_drewN' (Below.refl _ _) _⟩
  | false =>
    rw [Bool.false_or]
    have hs' : ¬ s < 0 := of_decide_eq_false hs
    have iw : IntKind.i64.wrap (2147483648 - (len : Int)) = 2147483648 - (len : Int) := by
      simp [IntKind.wrap, IntKind.bits, IntKind.signed]; omega
    cases hk : (k == 2 || k == 3)
    all_goals
      go_enter Tryz.func108, Tryz.ntmps108
      go_wp2_with fail
      go_region_held3 (fun w' => w'.cell? ⟨B, 0, none⟩ = some (.int .i64 k) ∧ w'.cell? ⟨B, 1, none⟩ = some (.int .i64 p) ∧ w'.cell? ⟨B, 2, none⟩ = some (.int .i64 e) ∧ w'.cell? ⟨B, 3, none⟩ = some (.int .i64 s) ∧ w'.cell? ⟨B, 4, none⟩ = some (.bool t) ∧ w'.cell? ⟨B, 5, none⟩ = some (.slice ad len cap)) (first | exact ⟨c0, c1, c2, c3, c4, c5⟩ | exact hS)
        (first | (go_at_call 49; refine (len_any k p e s t ad len cap _).mono ?_; rintro r w1 ⟨rfl, b1⟩; rw [hk]; have z := Y0.out.later b1; have hS := And.intro z.c0 (And.intro z.c1 (And.intro z.c2 (And.intro z.c3 (And.intro z.c4 z.c5)))); clear z))
      go_wp2
      go_ret
      exact ⟨rfl, (below_drewN' (Below.refl w.heap.size w) 1).trans (b1.mono (Nat.le_refl _))⟩
theorem ask9 {rs : List Rec} (hb : BBox w B k p e s t (.slice ad len cap)) (ha : BArg w ⟨k, p, e, s, t, rs⟩ ad len cap) (hm : len ≤ 64) (hr : ∀ r ∈ rs, recOk r = true) :
    Calls Tryz.prog 109 #[.pointer (some ⟨B, 0, none⟩)] w fun r w' => r = .returned (.bool (decide ((65536 : Int) < ((18 + recsSize rs : Nat) : Int)))) ∧ Below w.heap.size w w' := by
  have c0 := hb.c0
  have c1 := hb.c1
  have c2 := hb.c2
  have c3 := hb.c3
  have c4 := hb.c4
  have c5 := hb.c5
  have HC := size_any k p e s t rs ad len cap w ha hm hr
  clear hb ha hr
  generalize 18 + recsSize rs = n at *
  go_enter Tryz.func109, Tryz.ntmps109
  go_wp2_with (go_at_call 59; refine HC.mono ?_; rintro e w1 ⟨rfl, b1⟩)
  go_ret
  exact ⟨rfl, b1⟩
end Go.Proofs.YtfgamkcnnijloaaGreat
namespace Go.Proofs.YtfgamkcnnijloaaGreat
open Go.RowKit

/-- The questions, as an array of errors and closures over the boxes B, M, N. -/
def asks (B M N : Nat) : Array Value := #[.int .i64 1, .func (.func 99) #[] #[.pointer (some ⟨B, 0, none⟩), .pointer (some ⟨M, 0, none⟩)],
  .int .i64 1, .func (.func 100) #[] #[.pointer (some ⟨N, 0, none⟩), .pointer (some ⟨M, 0, none⟩), .pointer (some ⟨B, 0, none⟩)],
  .int .i64 1, .func (.func 101) #[] #[.pointer (some ⟨N, 0, none⟩), .pointer (some ⟨B, 0, none⟩)],
  .int .i64 1, .func (.func 102) #[] #[.pointer (some ⟨B, 0, none⟩), .pointer (some ⟨M, 0, none⟩), .pointer (some ⟨N, 0, none⟩)],
  .int .i64 1, .func (.func 103) #[] #[.pointer (some ⟨B, 0, none⟩), .pointer (some ⟨M, 0, none⟩), .pointer (some ⟨N, 0, none⟩)],
  .int .i64 6, .func (.func 104) #[] #[.pointer (some ⟨M, 0, none⟩), .pointer (some ⟨B, 0, none⟩)],
  .int .i64 6, .func (.func 105) #[] #[.pointer (some ⟨B, 0, none⟩)],
  .int .i64 53, .func (.func 108) #[] #[.pointer (some ⟨B, 0, none⟩)],
  .int .i64 6, .func (.func 109) #[] #[.pointer (some ⟨B, 0, none⟩)]]
theorem BBox.alloc {w : World} {B : Nat} {k p e s : Int} {t : Bool} {v : Value} (h : BBox w B k p e s t v) (o : Obj) : BBox (w.alloc o) B k p e s t v := h.later ((Below.refl _ _).alloc (Nat.le_refl _) _)
theorem BBox.cells {w : World} {B : Nat} {k p e s : Int} {t : Bool} {v : Value} (h : BBox w B k p e s t v) :
    w.cell? ⟨B, 0, none⟩ = some (.int .i64 k) ∧ w.cell? ⟨B, 1, none⟩ = some (.int .i64 p) ∧ w.cell? ⟨B, 2, none⟩ = some (.int .i64 e) ∧ w.cell? ⟨B, 3, none⟩ = some (.int .i64 s) ∧ w.cell? ⟨B, 4, none⟩ = some (.bool t) ∧ w.cell? ⟨B, 5, none⟩ = some v := ⟨h.c0, h.c1, h.c2, h.c3, h.c4, h.c5⟩
/-- The array of questions as it is made, of nothing. -/
def asks0 : Array Value := #[.int .i64 0, .nilFunc, .int .i64 0, .nilFunc, .int .i64 0, .nilFunc, .int .i64 0, .nilFunc, .int .i64 0, .nilFunc, .int .i64 0, .nilFunc, .int .i64 0, .nilFunc, .int .i64 0, .nilFunc, .int .i64 0, .nilFunc]
theorem asks_one (B M N : Nat) : (asks B M N).all (·.oneCell') = true := by
  unfold asks; simp [Value.oneCell']
/-- What the boxes are behind the first line of questions. -/
structure QW (w : World) (k p e s : Int) (t : Bool) (v : Value) (W : World) (M N : Nat) : Prop where
  box : BBox W w.heap.size k p e s t v
  arr : W.heap[w.heap.size + 1]? = some (.cells asks0 127 (0, 0))
  mark : TBox W M (k == 2 || k == 3)
  nb : TBox W N (p == -1)
  below : Below w.heap.size w W
  far : w.heap.size + 1 < M ∧ w.heap.size + 1 < N
theorem cell_row_other (w : World) (g : Nat) (cs : Array Value) (p : Addr) (h : p.block ≠ g) : (w.setRow g cs).cell? p = w.cell? p := by
  simp [World.cell?, setRow_other w g p.block cs h]
theorem QW.row {w : World} {k p e s : Int} {t : Bool} {v : Value} {W : World} {M N : Nat} (h : QW w k p e s t v W M N) (cs : Array Value) :
    BBox (W.setRow (w.heap.size + 1) cs) w.heap.size k p e s t v ∧ TBox (W.setRow (w.heap.size + 1) cs) M (k == 2 || k == 3) ∧ TBox (W.setRow (w.heap.size + 1) cs) N (p == -1) ∧ Below w.heap.size w (W.setRow (w.heap.size + 1) cs) := by
  have hsz : (W.setRow (w.heap.size + 1) cs).heap.size = W.heap.size := by simp [World.setRow]
  refine ⟨?_, ⟨by rw [hsz]; exact h.mark.1, ?_⟩, ⟨by rw [hsz]; exact h.nb.1, ?_⟩, ?_⟩
  · unfold BBox; rw [setRow_other _ _ _ _ (by omega)]; exact h.box
  · rw [cell_row_other _ _ _ _ (by show M ≠ _; have := h.far; omega)]; exact h.mark.2
  · rw [cell_row_other _ _ _ _ (by show N ≠ _; have := h.far; omega)]; exact h.nb.2
  · exact h.below.trans ⟨rfl, rfl, rfl, by rw [hsz]; exact Nat.le_refl _, fun i hi => setRow_other _ _ _ _ (by omega)⟩
theorem TBox.new {W : World} {g : Nat} (q : Bool) (h : g = W.heap.size) : TBox (W.alloc (.cells #[.bool q] 4)) g q := by
  subst h
  exact ⟨by simp, by rw [cell_of_row _ _ 0 _ _ _ (heap_alloc_new W _)]; rfl⟩
theorem TBox.alloc {W : World} {g : Nat} {q : Bool} (h : TBox W g q) (o : Obj) : TBox (W.alloc o) g q := h.later ((Below.refl _ _).alloc (Nat.le_refl _) _)
theorem TBox.drew {W : World} {g : Nat} {q : Bool} (h : TBox W g q) : TBox W.drew g q := h
theorem TBox.set {W : World} {g : Nat} {q0 : Bool} (h : TBox W g q0) (q : Bool) : TBox (W.setCell ⟨g, 0, none⟩ (.bool q)) g q :=
  ⟨by simpa [World.setCell] using h.1, by rw [World.cell?_setCell_same _ _ _ h.2]⟩
theorem TBox.other {W : World} {g C : Nat} {q : Bool} (h : TBox W g q) (hne : g ≠ C) (u : Value) : TBox (W.setCell ⟨C, 0, none⟩ u) g q :=
  ⟨by simpa [World.setCell] using h.1, by rw [World.cell?_of_block (w := W) (Below.heap_setCell _ _ _ _ hne)]; exact h.2⟩
/-- The boxes of the batch and of the array. -/
structure PW (w : World) (k p e s : Int) (t : Bool) (v : Value) (W : World) : Prop where
  box : BBox W w.heap.size k p e s t v
  arr : W.heap[w.heap.size + 1]? = some (.cells asks0 127 (0, 0))
  below : Below w.heap.size w W
variable {w W : World} {k p e s : Int} {t : Bool} {v : Value}
theorem PW.lt (h : PW w k p e s t v W) : w.heap.size + 1 < W.heap.size := by
  rcases Nat.lt_or_ge (w.heap.size + 1) W.heap.size with hlt | hge
  · exact hlt
  · have := h.arr; rw [Array.getElem?_eq_none hge] at this; cases this
theorem PW.later {W' : World} (h : PW w k p e s t v W) (hb : Below W.heap.size W W') : PW w k p e s t v W' :=
  ⟨h.box.later hb, (hb.block _ h.lt).trans h.arr, h.below.trans (hb.mono h.below.size)⟩
theorem PW.alloc (h : PW w k p e s t v W) (o : Obj) : PW w k p e s t v (W.alloc o) := h.later ((Below.refl _ _).alloc (Nat.le_refl _) _)
theorem PW.drew (h : PW w k p e s t v W) : PW w k p e s t v W.drew := ⟨h.box, h.arr, h.below.drew⟩
theorem PW.set (h : PW w k p e s t v W) {g : Nat} (hg : w.heap.size + 1 < g) (u : Value) : PW w k p e s t v (W.setCell ⟨g, 0, none⟩ u) :=
  ⟨h.box.setOther (by omega) _ _, (Below.heap_setCell _ _ _ _ (by show w.heap.size + 1 ≠ g; omega)).trans h.arr, h.below.setCell (by show w.heap.size ≤ g; omega) _⟩
theorem PW.qw (h : PW w k p e s t v W) {M N : Nat} (hm : TBox W M (k == 2 || k == 3)) (hn : TBox W N (p == -1)) (hf : w.heap.size + 1 < M ∧ w.heap.size + 1 < N) : QW w k p e s t v W M N := ⟨h.box, h.arr, hm, hn, h.below, hf⟩
theorem PW.new (w : World) (k p e s : Int) (t : Bool) (v : Value) : PW w k p e s t v ((w.alloc (.cells #[.int .i64 k, .int .i64 p, .int .i64 e, .int .i64 s, .bool t, v] 30)).alloc (.cells asks0 127)) :=
  ⟨(BBox.new w k p e s t v).alloc _, heap_alloc2_new _ _ _, ((Below.refl _ _).alloc (Nat.le_refl _) _).alloc (by simp) _⟩
set_option maxHeartbeats 2000000 in
theorem questions_any (k p e s : Int) (t : Bool) (v : Value) (w : World) :
    Calls Tryz.prog 69 #[.agg #[.int .i64 k, .int .i64 p, .int .i64 e, .int .i64 s, .bool t, v]] w fun r w' => ∃ B M N, r = .returned (.agg (asks B M N)) ∧ BBox w' B k p e s t v ∧ TBox w' M (k == 2 || k == 3) ∧ TBox w' N (p == -1) ∧ Below w.heap.size w w' := by
  have hP0 : Hid (PW w k p e s t v ((w.alloc (.cells #[.int .i64 k, .int .i64 p, .int .i64 e, .int .i64 s, .bool t, v] 30)).alloc (.cells asks0 127))) := PW.new w k p e s t v
  have hmf : ∀ (fn : Fn) (first cap : Array Value) (w : World), (Instr.makeFunc fn first cap).run Tryz.prog w = .ok (.func fn first cap) w := fun _ _ _ _ => rfl
  unfold asks0 at hP0
  go_enter Tryz.func69, Tryz.ntmps69
  go_wp2_with fail
  go_region_held3 (fun w' => w'.cell? ⟨w.heap.size, 0, none⟩ = some (.int .i64 k) ∧ w'.cell? ⟨w.heap.size, 1, none⟩ = some (.int .i64 p) ∧ w'.cell? ⟨w.heap.size, 2, none⟩ = some (.int .i64 e) ∧ w'.cell? ⟨w.heap.size, 3, none⟩ = some (.int .i64 s) ∧ w'.cell? ⟨w.heap.size, 4, none⟩ = some (.bool t) ∧ w'.cell? ⟨w.heap.size, 5, none⟩ = some v)
        ((refine BBox.cells (PW.box ?_); repeat (first | exact hP1.out | exact hP0.out | refine PW.set ?_ (by omega) _ | refine PW.drew ?_ | refine PW.alloc ?_ _)))
        (first | (go_at_call 78; refine (isMarker_any k p e s t v _).mono ?_; rintro r w1 ⟨rfl, b1⟩; have hP1 : Hid (PW w k p e s t v w1) := PW.later (by repeat (first | exact hP0.out | refine PW.drew ?_ | refine PW.alloc ?_ _)) b1; have hT2 : Hid (TBox _ (w.heap.size + 1 + 1) false → TBox w1 (w.heap.size + 1 + 1) false) := fun h => h.later b1; have hT3 : Hid (TBox _ (w.heap.size + 1 + 1 + 1) false → TBox w1 (w.heap.size + 1 + 1 + 1) false) := fun h => h.later b1; have z0 := b1.cell (p := ⟨w.heap.size, 0, none⟩) (by simp; omega); have z1 := b1.cell (p := ⟨w.heap.size, 1, none⟩) (by simp; omega); have z2 := b1.cell (p := ⟨w.heap.size, 2, none⟩) (by simp; omega); have z3 := b1.cell (p := ⟨w.heap.size, 3, none⟩) (by simp; omega); have z4 := b1.cell (p := ⟨w.heap.size, 4, none⟩) (by simp; omega); have z5 := b1.cell (p := ⟨w.heap.size, 5, none⟩) (by simp; omega); have l0 : w.heap.size < w1.heap.size := Nat.lt_of_lt_of_le (by simp; omega) b1.size; have l1 : w.heap.size + 1 < w1.heap.size := Nat.lt_of_lt_of_le (by simp; try omega) b1.size; have l2 := fun (h : w.heap.size + 1 + 1 < _) => Nat.lt_of_lt_of_le h b1.size; try simp at l2; have l3 := fun (h : w.heap.size + 1 + 1 + 1 < _) => Nat.lt_of_lt_of_le h b1.size; try simp at l3; have z6 := fun h => b1.cell (p := ⟨w.heap.size + 1 + 1, 0, none⟩) h; try simp [World.cell?_alloc_at, World.cell?_alloc_past] at z6; have z7 := fun h => b1.cell (p := ⟨w.heap.size + 1 + 1 + 1, 0, none⟩) h; try simp [World.cell?_alloc_at] at z7; have z8 := fun h => b1.frozen (p := ⟨w.heap.size + 1 + 1, 0, none⟩) h; try simp [World.frozen?_alloc_at, World.frozen?_alloc_past] at z8; have z9 := fun h => b1.frozen (p := ⟨w.heap.size + 1 + 1 + 1, 0, none⟩) h; try simp [World.frozen?_alloc_at] at z9))
  all_goals clear hP0
  all_goals
    refine (show ∀ W2 M N, Hid (QW w k p e s t v W2 M N) → Exit.then _ _ Exit.normal ⟨#[_, _, _, .pointer (some ⟨M, 0, none⟩), .pointer (some ⟨N, 0, none⟩), _, _, _, _, _, _, _, _, _, _, _, _, _, _, _, _, _, _, _, _, _, _, _, _], []⟩ W2 from ?_) _ _ _ ?_
    · intro W2 M N F
      go_wp2_with (refine wpList_store_row rfl 127 (.tmp 2) (.tmp 28) rfl (w.heap.size + 1) (asks w.heap.size M N) rfl rfl 127 asks0 F.out.arr (by kernel_rfl) rfl (asks_one _ _ _) ?_)
      exact bodyPost_ret (results_cell_row Tryz.results69 _ _ (w.heap.size + 1) 127 (asks w.heap.size M N) (0, 0) _ rfl (setRow_heap _ _ _ _ _ _ F.out.arr) Tryz.underlying127 rfl (by kernel_rfl)) rfl ⟨w.heap.size, M, N, rfl, F.out.row _⟩
    · refine (show QW w k p e s t v _ _ _ from PW.qw ?_ ?_ ?_ ?_)
      · repeat (first | exact hP1.out | refine PW.set ?_ (by omega) _ | refine PW.alloc ?_ _)
      · repeat (first | (refine TBox.new _ ?_; simp; done) | refine TBox.set (q0 := false) ?_ _ | refine TBox.other ?_ (by omega) _ | refine TBox.alloc ?_ _ | refine hT2.out ?_ | refine hT3.out ?_ | refine TBox.drew ?_)
      · repeat (first | (refine TBox.new _ ?_; simp; done) | refine TBox.set (q0 := false) ?_ _ | refine TBox.other ?_ (by omega) _ | refine TBox.alloc ?_ _ | refine hT2.out ?_ | refine hT3.out ?_ | refine TBox.drew ?_)
      · omega
end Go.Proofs.YtfgamkcnnijloaaGreat
