/- What the Go function batch.size answers of a batch with few Records, each within its limits. -/
import Derived.Test.YtdifchlbnilenaaGreatLen
namespace Go.Proofs.YtdifchlbnilenaaGreat
open Go.RowKit

set_option maxHeartbeats 1000000 in
theorem size_any (k p e s : Int) (t : Bool) (rs : List Rec) (ad : Option Addr) (len cap : Nat) (w : World) (h : BArg w ⟨k, p, e, s, t, rs⟩ ad len cap) (hm : len ≤ 64) (hr : ∀ r ∈ rs, recOk r = true) :
    Calls Tryz.prog 72 #[.agg #[.int .i64 k, .int .i64 p, .int .i64 e, .int .i64 s, .bool t, .slice ad len cap]] w fun r w' => r = .returned (.int .i64 ((18 + recsSize rs : Nat) : Int)) ∧ Below w.heap.size w w' := by
  have b0 : Below w.heap.size w (w.alloc (.cells #[.int .i64 k, .int .i64 p, .int .i64 e, .int .i64 s, .bool t, .slice ad len cap] 24)) := (Below.refl _ _).alloc (Nat.le_refl _) _
  have x0 : Hid (BBox (w.alloc (.cells #[.int .i64 k, .int .i64 p, .int .i64 e, .int .i64 s, .bool t, .slice ad len cap] 24)) w.heap.size k p e s t (.slice ad len cap)) := BBox.new w k p e s t _
  have HA : Hid (BArg w ⟨k, p, e, s, t, rs⟩ ad len cap) := h
  have HL : Hid (rs.length = len) := h.len_eq
  have HR : Hid (∀ r ∈ rs, recOk r = true) := hr
  clear h hr
  go_enter Tryz.func72, Tryz.ntmps72
  go_wp2
  go_loopw [3, 9] (fun n i wr => ∃ j : Nat, j ≤ len ∧ i = .int .i64 j ∧ n = .int .i64 ((18 + recsSize (rs.take j) : Nat) : Int) ∧ Below w.heap.size w wr) (fun _ i _ => len - (intOf i).toNat)
  case atStart => exact ⟨0, Nat.zero_le _, rfl, rfl, b0⟩
  case round =>
    clear b0 x0
    obtain ⟨j, hj, rfl, rfl, hb⟩ := hrel
    have hz := recsSize_take_le rs HR.out j
    rw [HL.out] at hz
    by_cases hlt : j < len
    · obtain ⟨g, off, rfl, hg, hc⟩ := HA.out.cells (by omega)
      obtain ⟨q0, q1, q2⟩ := hc j hlt
      have r0 : wr.cell? ⟨g, off + j * 3, none⟩ = _ := (hb.cell (p := ⟨g, off + j * 3, none⟩) hg).trans q0
      have r1 : wr.cell? ⟨g, off + j * 3 + 1, none⟩ = _ := (hb.cell (p := ⟨g, off + j * 3 + 1, none⟩) hg).trans q1
      have r2 : wr.cell? ⟨g, off + j * 3 + 2, none⟩ = _ := (hb.cell (p := ⟨g, off + j * 3 + 2, none⟩) hg).trans q2
      have HS : Hid _ := recsSize_snoc rs j (by rw [HL.out]; exact hlt)
      have ho := recOk_parts (HR.out _ (getD_mem rs j (by rw [HL.out]; exact hlt)))
      clear hc q0 q1 q2
      simp only at r0 r1 r2
      generalize rs.getD j rec0 = r at *
      obtain ⟨o1, o2⟩ := ho
      go_wp2
      go_roundw
      case rel => exact ⟨j + 1, by omega, by go_num, val_int (by rw [HS.out]; omega), hb.alloc hb.size _⟩
      case measure => simp [intOf]; omega
    · obtain rfl : j = len := by omega
      have HV : Hid (rs.take j = rs) := List.take_of_length_le (by rw [HL.out]; omega)
      go_wp2
      go_ret
      exact ⟨by rw [show recsSize rs = recsSize (rs.take j) by rw [HV.out]]; rfl, hb⟩
end Go.Proofs.YtdifchlbnilenaaGreat
