/- What batch.isLong and slices.ContainsFunc of it answer: whether a Record is beyond its limits. -/
import Derived.Test.YtdifchlbnilenaaGreatLen
namespace Go.Proofs.YtdifchlbnilenaaGreat
open Go.RowKit

theorem isLong_any (r : Rec) (w : World) (h1 : r.key.size ≤ maxLen) (h2 : r.val.size ≤ maxLen) :
    Calls Tryz.prog 153 #[.agg #[.string r.key, .string r.val, .bool r.dead]] w fun e w' => e = .returned (.bool (!recOk r)) ∧ Below w.heap.size w w' := by
  have b0 : Below w.heap.size w (w.alloc (.cells #[.string r.key, .string r.val, .bool r.dead] 84)) := (Below.refl _ _).alloc (Nat.le_refl _) _
  obtain ⟨rk, rv, rd⟩ := r
  unfold recOk
  replace h1 : rk.size ≤ 9223372036854775807 := h1
  replace h2 : rv.size ≤ 9223372036854775807 := h2
  simp only at *
  by_cases h3 : rk.size ≤ 1000
  · have h7 : decide ((1000 : Int) < rk.size) = false := by simp; omega
    by_cases h4 : rv.size ≤ 4000
    · have h8 : decide ((4000 : Int) < rv.size) = false := by simp; omega
      cases rd with
      | true =>
        by_cases h5 : rv.size = 0
        · rw [show (!(decide (rk.size ≤ 1000) && decide (rv.size ≤ 4000) && !(true && rv.size != 0))) = false by simp [h3, h5]]
          go_enter Tryz.func153, Tryz.ntmps153
          go_wp2
          go_ret
          exact ⟨rfl, b0⟩
        · rw [show (!(decide (rk.size ≤ 1000) && decide (rv.size ≤ 4000) && !(true && rv.size != 0))) = true by simp [h3, h4, h5]]
          have h6 : 0 < rv.size := by omega
          go_enter Tryz.func153, Tryz.ntmps153
          go_wp2
          go_ret
          exact ⟨rfl, b0⟩
      | false =>
        rw [show (!(decide (rk.size ≤ 1000) && decide (rv.size ≤ 4000) && !(false && rv.size != 0))) = false by simp [h3, h4]]
        go_enter Tryz.func153, Tryz.ntmps153
        go_wp2
        go_ret
        exact ⟨rfl, b0⟩
    · rw [show (!(decide (rk.size ≤ 1000) && decide (rv.size ≤ 4000) && !(rd && rv.size != 0))) = true by simp [h3, h4]]
      have h6 : 4000 < rv.size := by omega
      go_enter Tryz.func153, Tryz.ntmps153
      go_wp2
      go_ret
      exact ⟨rfl, b0⟩
  · rw [show (!(decide (rk.size ≤ 1000) && decide (rv.size ≤ 4000) && !(rd && rv.size != 0))) = true by simp [h3]]
    have h6 : 1000 < rk.size := by omega
    go_enter Tryz.func153, Tryz.ntmps153
    go_wp2
    go_ret
    exact ⟨rfl, b0⟩
theorem all_snoc (rs : List Rec) (j : Nat) (h : j < rs.length) : (rs.take (j + 1)).all recOk = ((rs.take j).all recOk && recOk (rs.getD j rec0)) := by
  rw [take_snocR rs j h]; simp
theorem all_not (rs : List Rec) (j : Nat) (h : j < rs.length) (hr : recOk (rs.getD j rec0) = false) : rs.all recOk = false := by
  rw [Bool.eq_false_iff]
  intro e
  have := List.all_eq_true.1 e _ (getD_mem rs j h)
  rw [hr] at this; cases this
/-- The place of the first Record beyond its limits, or -1. -/
def longAt (q : Int) (rs : List Rec) : Prop := (q < 0 ∧ rs.all recOk = true) ∨ (0 ≤ q ∧ rs.all recOk = false)
set_option maxHeartbeats 1000000 in
theorem indexLong_any (b : Bat) (ad : Option Addr) (len cap : Nat) (w : World) (h : BArg w b ad len cap) :
    Calls Tryz.prog 169 #[.slice ad len cap, .func (.func 153) #[] #[]] w fun e w' => ∃ q, e = .returned (.int .i64 q) ∧ longAt q b.recs ∧ Below w.heap.size w w' := by
  obtain ⟨k, p, e, s, t, rs⟩ := b
  have HA : Hid (BArg w ⟨k, p, e, s, t, rs⟩ ad len cap) := h
  have HL : Hid (rs.length = len) := h.len_eq
  have hroom := h.le
  have hroom2 : cap ≤ 9223372036854775807 := h.room
  clear h
  go_enter Tryz.func169, Tryz.ntmps169
  go_wp2
  go_loopw [8] (fun i wr => ∃ j : Nat, j ≤ len ∧ i = .int .i64 j ∧ Hid ((rs.take j).all recOk = true) ∧ Below w.heap.size w wr) (fun i _ => len - (intOf i).toNat)
  case atStart => exact ⟨0, Nat.zero_le _, rfl, (show Hid _ from rfl), Below.refl _ _⟩
  case round =>
    obtain ⟨j, hj, rfl, HT, hb⟩ := hrel
    by_cases hlt : j < len
    · obtain ⟨g, off, rfl, hg, hc⟩ := HA.out.cells (by omega)
      obtain ⟨q0, q1, q2⟩ := hc j hlt
      have r0 : wr.cell? ⟨g, off + j * 3, none⟩ = _ := (hb.cell (p := ⟨g, off + j * 3, none⟩) hg).trans q0
      have r1 : wr.cell? ⟨g, off + j * 3 + 1, none⟩ = _ := (hb.cell (p := ⟨g, off + j * 3 + 1, none⟩) hg).trans q1
      have r2 : wr.cell? ⟨g, off + j * 3 + 2, none⟩ = _ := (hb.cell (p := ⟨g, off + j * 3 + 2, none⟩) hg).trans q2
      clear hc q0 q1 q2
      simp only at r0 r1 r2
      have HS : Hid ((rs.take (j + 1)).all recOk = ((rs.take j).all recOk && recOk (rs.getD j rec0))) := all_snoc rs j (by rw [HL.out]; exact hlt)
      have HN : Hid (recOk (rs.getD j rec0) = false → rs.all recOk = false) := all_not rs j (by rw [HL.out]; exact hlt)
      have HZ : Hid ((rs.getD j rec0).key.size ≤ maxLen ∧ (rs.getD j rec0).val.size ≤ maxLen) := HA.out.size _ (getD_mem rs j (by rw [HL.out]; exact hlt))
      generalize rs.getD j rec0 = r at *
      have HC := isLong_any r wr HZ.out.1 HZ.out.2
      cases hq : recOk r with
      | true =>
        rw [hq] at HC
        go_wp2_with (go_at_call 153; refine HC.mono ?_; rintro e w1 ⟨rfl, b1⟩)
        go_roundw
        case rel => exact ⟨j + 1, by omega, by go_num, (show Hid _ by rw [HS.out, HT.out, hq]; rfl), hb.trans (b1.mono hb.size)⟩
        case measure => simp [intOf]; omega
      | false =>
        rw [hq] at HC
        go_wp2_with (go_at_call 153; refine HC.mono ?_; rintro e w1 ⟨rfl, b1⟩)
        go_ret
        exact ⟨_, rfl, Or.inr ⟨by omega, HN.out hq⟩, hb.trans (b1.mono hb.size)⟩
    · obtain rfl : j = len := by omega
      go_wp2
      go_ret
      refine ⟨_, rfl, Or.inl ⟨by omega, ?_⟩, hb⟩
      have h := HT.out
      rw [List.take_of_length_le (by rw [HL.out]; exact Nat.le_refl _)] at h
      exact h
theorem containsLong_any (b : Bat) (ad : Option Addr) (len cap : Nat) (w : World) (h : BArg w b ad len cap) :
    Calls Tryz.prog 152 #[.slice ad len cap, .func (.func 153) #[] #[]] w fun e w' => e = .returned (.bool (!b.recs.all recOk)) ∧ Below w.heap.size w w' := by
  have HC := indexLong_any b ad len cap w h
  clear h
  go_enter Tryz.func152, Tryz.ntmps152
  go_wp2_with (go_at_call 169; refine HC.mono ?_; rintro e w1 ⟨q, rfl, hq, b1⟩)
  go_ret
  refine ⟨?_, b1⟩
  rcases hq with ⟨h1, h2⟩ | ⟨h1, h2⟩
  · rw [h2]; simp; omega
  · rw [h2]; simp; omega
end Go.Proofs.YtdifchlbnilenaaGreat
