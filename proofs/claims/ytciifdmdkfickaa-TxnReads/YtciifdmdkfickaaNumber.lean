/- What the reader's method number answers, and wire.Get. -/
import Derived.Test.YtciifdmdkfickaaReader
namespace Go.Proofs.Ytciifdmdkfickaa
open Go.RowKit

set_option maxHeartbeats 1000000 in
theorem number_yes (w0 : World) (B p s : Nat) (P : Part) (w : World) (ok : P.ok w0) (bel : Below w0.heap.size w0 w) (hB : w0.heap.size ≤ B) (hr : Rd w B p P) (h1 : 1 ≤ s) (h6 : s ≤ 6) (h : p + s ≤ P.len) (hc : P.len ≤ P.cap) (hm : P.len ≤ 1000000000000000) :
    Calls Try.prog 54 #[.pointer (some ⟨B, 0, none⟩), .int .i64 s] w fun e w' => e = .returned (.tuple #[.int .i64 (valN ((P.l.drop p).take s) : Nat), .int .i64 0]) ∧ Rd w' B ((p + s : Nat) : Int) P ∧ Below w0.heap.size w0 w' := by
  have HO : Hid (P.ok w0) := ok
  have HR : Hid (Rd w B p P) := hr
  clear ok hr
  go_enter Try.func54, Try.ntmps54
  go_wp2_with fail
  refine (take_yes w0 B p s P _ HO.out bel hB HR.out h hc hm).mono ?_
  rintro e w1 ⟨Q, rfl, HQ, hr1, b1⟩
  have HR1 : Hid (Rd w1 B ((p + s : Nat) : Int) P) := hr1
  clear hr1 HR bel
  obtain ⟨ad, len, cap, l⟩ := Q
  obtain ⟨q1, q2, q3, q4⟩ := HQ.out
  simp only at q1 q2 q3 q4
  subst q1
  obtain ⟨b, off, rfl, hb, hcell⟩ := q3.cells (by omega)
  have HC : Hid (∀ i, i < len → w1.cell? ⟨b, off + i, none⟩ = some (.int .u8 (l.getD i 0 : Nat))) := fun i hi => by
    rw [b1.cell (p := ⟨b, off + i, none⟩) hb]; exact hcell i hi
  have HB : Hid (∀ x ∈ l, x < 256) := q3.2.2.1
  have HL : Hid (l.length = len) := q3.1
  have H2 : Hid (l = (P.l.drop p).take len) := q2
  clear q2 q3 hcell HQ
  simp only
  go_wp2
  go_loop [8, 22] (fun n i => ∃ k : Nat, k ≤ len ∧ i = .int .i64 k ∧ n = .int .i64 (valN (l.take k) : Nat)) (fun _ i => len - (intOf i).toNat)
  case atStart => exact ⟨0, Nat.zero_le _, rfl, rfl⟩
  case round =>
    obtain ⟨k, hk, rfl, rfl⟩ := hrel
    by_cases hlt : k < len
    · have hck := HC.out k hlt
      have hx := getD_lt HB.out k
      have HS : Hid (bits .or .i64 ((valN (l.take k) : Nat) : Int) (wrap64 ((l.getD k 0 : Int) * 2 ^ (8 * k))) = ((valN (l.take (k + 1)) : Nat) : Int)) := by
        show _ = _
        rw [take_snoc l k (by rw [HL.out]; exact hlt)]
        exact orw_step _ _ k (take_mem HB.out k) hx (by rw [List.length_take, HL.out]; omega) (by omega)
      generalize l.getD k 0 = x at *
      go_wp2
      go_round
      case rel => exact ⟨k + 1, by omega, by go_num, val_int (HS.out)⟩
      case measure => simp [intOf]; omega
    · have HV : Hid (valN (l.take k) = valN ((P.l.drop p).take len)) := by
        show _ = _
        rw [List.take_of_length_le (by rw [HL.out]; omega), H2.out]
      go_wp2
      go_ret2
      exact ⟨by rw [← HV.out]; rfl, HR1, b1⟩

set_option maxHeartbeats 1000000 in
theorem number_no (w0 : World) (B p s : Nat) (P : Part) (w : World) (bel : Below w0.heap.size w0 w) (hr : Rd w B p P) (h : ¬ p + s ≤ P.len) (hp : p ≤ 9223372036854775807) (hm : P.len ≤ 1000000000000000) :
    Calls Try.prog 54 #[.pointer (some ⟨B, 0, none⟩), .int .i64 s] w fun e w' => e = .returned (.tuple #[.int .i64 0, .int .i64 20]) ∧ Rd w' B p P ∧ Below w0.heap.size w0 w' := by
  have HR : Hid (Rd w B p P) := hr
  clear hr
  go_enter Try.func54, Try.ntmps54
  go_wp2_with fail
  refine (take_no w0 B p s P _ bel HR.out h hp hm).mono ?_
  rintro e w1 ⟨rfl, hr1, b1⟩
  have HR1 : Hid (Rd w1 B p P) := hr1
  clear hr1 HR bel
  go_wp2
  go_ret2
  exact ⟨rfl, HR1, b1⟩

theorem number_at {z : Int} (w0 : World) (B p s : Nat) (P : Part) (w : World) (hz : z = s) (ok : P.ok w0) (bel : Below w0.heap.size w0 w) (hB : w0.heap.size ≤ B) (hr : Rd w B p P) (h1 : 1 ≤ s) (h6 : s ≤ 6) (h : p + s ≤ P.len) (hc : P.len ≤ P.cap) (hm : P.len ≤ 1000000000000000) :
    Calls Try.prog 54 #[.pointer (some ⟨B, 0, none⟩), .int .i64 z] w fun e w' => e = .returned (.tuple #[.int .i64 (valN ((P.l.drop p).take s) : Nat), .int .i64 0]) ∧ Rd w' B ((p + s : Nat) : Int) P ∧ Below w0.heap.size w0 w' := by
  subst hz; exact number_yes w0 B p s P w ok bel hB hr h1 h6 h hc hm
theorem number_not {z : Int} (w0 : World) (B p s : Nat) (P : Part) (w : World) (hz : z = s) (bel : Below w0.heap.size w0 w) (hr : Rd w B p P) (h : ¬ p + s ≤ P.len) (hp : p ≤ 9223372036854775807) (hm : P.len ≤ 1000000000000000) :
    Calls Try.prog 54 #[.pointer (some ⟨B, 0, none⟩), .int .i64 z] w fun e w' => e = .returned (.tuple #[.int .i64 0, .int .i64 20]) ∧ Rd w' B p P ∧ Below w0.heap.size w0 w' := by
  subst hz; exact number_no w0 B p s P w bel hr h hp hm

theorem Rd.new (w : World) (p : Int) (P : Part) : Rd (w.alloc (.cells #[.int .i64 p, .slice P.ad P.len P.cap] 80)) w.heap.size p P := heap_alloc_new w _
end Go.Proofs.Ytciifdmdkfickaa
