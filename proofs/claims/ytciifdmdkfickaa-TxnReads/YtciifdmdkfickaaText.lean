/- What the Go function wire.Text answers. -/
import Derived.Test.YtciifdmdkfickaaTextN
import Derived.Test.YtciifdmdkfickaaSpell
import Derived.Test.YtciifdmdkfickaaJoin
import Derived.Test.YtciifdmdkfickaaJoinAt
namespace Go.Proofs.Ytciifdmdkfickaa
open Go.RowKit

set_option maxHeartbeats 1000000 in
theorem text_any (s : ByteArray) (w : World) (hs : s.size ≤ maxLen) :
    Calls Try.prog 32 #[.string s] w fun e w' => ∃ v, e = .returned (.tuple #[v, .int .i64 (textN s).1]) ∧ Own w' w.heap.size v (textN s).2 ∧ Below w.heap.size w w' := by
  unfold maxLen at hs
  by_cases h : s.size ≤ 65535
  · rw [textN_ok s h]
    go_enter Try.func32, Try.ntmps32
    go_wp2_with fail
    refine (spell_at s.size 2 _ rfl rfl (by omega)).mono ?_
    rintro e w1 ⟨p1, rfl, e1, ok1, b1⟩
    obtain ⟨Q, w2, hrun, HQ, b2⟩ := conv_string s w1
    go_wp2_with fail
    have E : Hid (allN [p1, Q] 2 = spellN s.size 2 ++ sbytes s) := by
      show _ = _
      simp [allN, e1.out, HQ.out.1]
    refine (join_at [p1, Q] w2 _ rfl 2 2 rfl (by
      intro p hp
      simp at hp
      rcases hp with rfl | rfl
      · exact ok1.out.later b2
      · exact HQ.out.2) (by rw [E.out, List.length_append, spellN_length, sbytes_length]; omega) (by omega)).mono ?_
    rintro e w3 ⟨p3, rfl, -, own3, -, b3⟩
    have b12 : Below w.heap.size w w2 := b1.trans (b2.mono b1.size)
    have own4 : Hid (Own w3 w.heap.size (.slice p3.ad p3.len p3.cap) (spellN s.size 2 ++ sbytes s)) := by
      have h := own3.out
      rw [E.out] at h
      exact h.down b12.size
    have b13 : Below w.heap.size w w3 := b12.trans (b3.mono b12.size)
    clear own3 E e1 ok1 HQ b1 b2 b3 b12 hrun
    go_wp2
    go_ret2
    exact ⟨_, rfl, own4, b13⟩
  · rw [textN_no s h]
    go_enter Try.func32, Try.ntmps32
    go_wp2
    go_ret2
    exact ⟨_, rfl, Own.nil _ _, Below.refl _ _⟩
end Go.Proofs.Ytciifdmdkfickaa
