/- What the document's own Encode (package ref) answers: P203. -/
import Derived.Test.YtmkdkclakndkpaaRefWrite
namespace Go.Proofs.Ytmkdkclakndkpaa
open Go.RowKit

set_option maxHeartbeats 1000000 in
theorem refEncode_any (k p e s : Int) (t : Bool) (rs : List Rec) (ad : Option Addr) (len cap : Nat) (w : World) (h : BArg w ⟨k, p, e, s, t, rs⟩ ad len cap) :
    Calls Try.prog 18 #[.agg #[.int .i64 k, .int .i64 p, .int .i64 e, .int .i64 s, .bool t, .slice ad len cap]] w fun r w' => ∃ v, r = .returned (.tuple #[v, .int .i64 (encodeN ⟨k, p, e, s, t, rs⟩).1]) ∧ Own w' w.heap.size v (encodeN ⟨k, p, e, s, t, rs⟩).2 ∧ Below w.heap.size w w' := by
  have b0 : Below w.heap.size w (w.alloc (.cells #[.int .i64 k, .int .i64 p, .int .i64 e, .int .i64 s, .bool t, .slice ad len cap] 24)) := (Below.refl _ _).alloc (Nat.le_refl _) _
  have HA : Hid (BArg (w.alloc (.cells #[.int .i64 k, .int .i64 p, .int .i64 e, .int .i64 s, .bool t, .slice ad len cap] 24)) ⟨k, p, e, s, t, rs⟩ ad len cap) := h.later b0
  have X0 : Hid (BBox (w.alloc (.cells #[.int .i64 k, .int .i64 p, .int .i64 e, .int .i64 s, .bool t, .slice ad len cap] 24)) w.heap.size k p e s t (.slice ad len cap)) := BBox.new w k p e s t _
  clear h
  by_cases hc : checkN ⟨k, p, e, s, t, rs⟩ = 0
  · have hE : encodeN ⟨k, p, e, s, t, rs⟩ = (0, writeN ⟨k, p, e, s, t, rs⟩) := by unfold encodeN; rw [if_pos hc]
    rw [hE]
    clear hE
    obtain ⟨hk, -, -, he, -, hs, -, -, -, -⟩ := checkN_nums hc
    simp only at hk he hs
    obtain ⟨kn, rfl⟩ := Int.eq_ofNat_of_zero_le (show 0 ≤ k by omega)
    obtain ⟨en, rfl⟩ := Int.eq_ofNat_of_zero_le he
    obtain ⟨sn, rfl⟩ := Int.eq_ofNat_of_zero_le hs
    clear hk he hs
    have HC : Hid (checkN ⟨kn, p, en, sn, t, rs⟩ = 0) := hc
    clear hc
    go_enter Try.func18, Try.ntmps18
    go_wp2_with (first | (go_at_call 12; refine (refCheck_any kn p en sn t rs ad len cap _ HA.out).mono ?_; rintro r w1 ⟨rfl, b1⟩; rw [HC.out]; have A1 : Hid (BArg w1 ⟨kn, p, en, sn, t, rs⟩ ad len cap) := HA.out.later b1; have X1 : Hid (BBox w1 w.heap.size kn p en sn t (.slice ad len cap)) := X0.out.later b1; have b01 : Below w.heap.size w w1 := b0.trans (b1.mono b0.size); have Y1 := X1.out; have c0 := Y1.c0; have c1 := Y1.c1; have c2 := Y1.c2; have c3 := Y1.c3; have c4 := Y1.c4; have c5 := Y1.c5; clear Y1 b0 b1) | (go_at_call 29; refine (refWrite_any kn en sn p t rs ad len cap _ A1.out HC.out).mono ?_; rintro r w2 ⟨v2, rfl, own2, b2⟩; have O2 : Hid (Own w2 w.heap.size v2 (writeN ⟨kn, p, en, sn, t, rs⟩)) := own2.down b01.size; have b02 : Below w.heap.size w w2 := b01.trans (b2.mono b01.size); clear own2 b2))
    go_ret2
    exact ⟨_, rfl, O2.out, b02⟩
  · have hE : encodeN ⟨k, p, e, s, t, rs⟩ = (checkN ⟨k, p, e, s, t, rs⟩, []) := by unfold encodeN; rw [if_neg hc]
    rw [hE]
    clear hE
    generalize hcc : checkN ⟨k, p, e, s, t, rs⟩ = c at hc ⊢
    have hc2 : (c != 0) = true := by simpa using hc
    go_enter Try.func18, Try.ntmps18
    go_wp2_with (go_at_call 12; refine (refCheck_any k p e s t rs ad len cap _ HA.out).mono ?_; rintro r w1 ⟨rfl, b1⟩; rw [hcc]; clear hcc)
    go_ret2
    exact ⟨_, rfl, Own.nil _ _, b0.trans (b1.mono b0.size)⟩
end Go.Proofs.Ytmkdkclakndkpaa
