/- What the document's own Text (package ref) answers: the same as wire.Text. -/
import Derived.Test.YtiiepmljcjbflaaGreatBackText
import Derived.Test.YtiiepmljcjbflaaGreatRefBytes
namespace Go.Proofs.YtiiepmljcjbflaaGreat
open Go.RowKit

set_option maxHeartbeats 1000000 in
theorem refText_any (s : ByteArray) (w : World) (hs : s.size ≤ maxLen) :
    Calls Tryz.prog 60 #[.string s] w fun e w' => ∃ v, e = .returned (.tuple #[v, .int .i64 (textN s).1]) ∧ Own w' w.heap.size v (textN s).2 ∧ Below w.heap.size w w' := by
  unfold maxLen at hs
  by_cases h : s.size ≤ 65535
  · rw [textN_ok s h]
    go_enter Tryz.func60, Tryz.ntmps60
    go_wp2_with fail
    refine (bytes_any s.size 2 _ (by omega)).mono ?_
    rintro e w1 ⟨v1, rfl, own1, b1⟩
    have O1 : Hid (Own w1 w.heap.size v1 (spellN s.size 2)) := own1
    clear own1
    have h2 : w1.ownsRow w.heap.size 5 1 v1 2 ((spellN s.size 2).map bv) := by
      have h := O1.out.2; rw [spellN_length] at h; exact h
    have hsz := b1.size
    go_wp2_with (at_builtin; refine app_str rfl _ _ rfl w.heap.size v1 2 (spellN s.size 2) rfl h2 (by omega) s rfl (by omega) hsz ?_; intro v2 w2 hown2 hg2; have b2 := b1.grown hg2 hsz (fun k hk => (h2.lt k hk).1); clear hg2 h2)
    go_ret2
    exact ⟨_, rfl, ⟨by
      intro x hx
      rcases List.mem_append.1 hx with h | h
      · exact spellN_lt _ _ x h
      · exact sbytes_lt s x h, by rw [List.length_append, spellN_length, sbytes_length]; exact hown2⟩, b2⟩
  · rw [textN_no s h]
    go_enter Tryz.func60, Tryz.ntmps60
    go_wp2
    go_ret2
    exact ⟨_, rfl, Own.nil _ _, Below.refl _ _⟩
end Go.Proofs.YtiiepmljcjbflaaGreat
