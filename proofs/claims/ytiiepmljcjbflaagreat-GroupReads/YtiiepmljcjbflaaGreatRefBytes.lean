/- What the document's own Bytes (package ref) answers: a number's bytes, the lowest first, in new memory. -/
import Derived.Test.YtiiepmljcjbflaaGreatGetTextN
namespace Go.Proofs.YtiiepmljcjbflaaGreat
open Go.RowKit

set_option maxHeartbeats 400000 in
theorem bytes_any (n size : Nat) (w : World) (h6 : size ≤ 6) :
    Calls Tryz.prog 59 #[.int .i64 n, .int .i64 size] w fun e w' => ∃ v, e = .returned v ∧ Own w' w.heap.size v (spellN n size) ∧ Below w.heap.size w w' := by
  obtain ⟨i0, hi, hz0, hz1, hz2⟩ := info_parts Tryz.info5
  go_enter Tryz.func59, Tryz.ntmps59
  go_wp2
  go_loopw [5, 6] (fun v i wr => ∃ k : Nat, k ≤ size ∧ i = .int .i64 k ∧ wr.ownsRow w.heap.size 5 1 v k ((spellN n k).map bv) ∧ Below w.heap.size w wr) (fun _ i _ => size - (intOf i).toNat)
  case atStart => exact ⟨0, Nat.zero_le _, rfl, World.ownsRow_nil _ _ _ _, Below.refl _ _⟩
  case round =>
    obtain ⟨k, hk, rfl, hownk, hbk⟩ := hrel
    by_cases hlt : k < size
    · have hsz := hbk.size
      go_wp2_with (at_builtin; refine wpList_append_own _ rfl _ _ 24 rfl w.heap.size 5 i0 (.int .u8 0) 1 1 Tryz.underlying24 hi hz0 hz1 hz2 rfl (by decide) _ _ _ rfl (hownk.alloc _) ⟨wr.heap.size, 0, none⟩ 1 1 [bv (n / 2 ^ (8 * k) % 256)] rfl rfl ?c1 ?c2 ?c3 ?c4 ?c5 ?_)
      case c1 => exact cell_one_new _ _ _
      case c2 => intro u hu; simp at hu; subst hu; rfl
      case c3 => unfold maxLen; omega
      case c4 => omega
      case c5 => simp; omega
      intro v' w1 hown' hgrow _
      have hb1 := (hbk.alloc hsz (.cells #[Value.int IntKind.u8 ((n : Int) / 2 ^ (8 * k) % 256)] 5)).grown hgrow (by simp; omega) (fun j hj => (hownk.lt j hj).1)
      clear hgrow hownk
      go_wp2
      go_roundw
      case rel => exact ⟨k + 1, by omega, by go_num, by simpa [spellN] using hown', hb1⟩
      case measure => simp [intOf]; omega
    · obtain rfl : k = size := by omega
      go_wp2
      go_ret
      exact ⟨_, rfl, ⟨spellN_lt n k, by rw [spellN_length]; exact hownk⟩, hbk⟩
end Go.Proofs.YtiiepmljcjbflaaGreat
