/- The walk of the statement BatchEncodes: it returns true at every input, and writes nothing that was there. -/
import Derived.Test.YtmkdkclakndkpaaKnows2
import Derived.Test.YtmkdkclakndkpaaRefEncode
namespace Go.Proofs.Ytmkdkclakndkpaa
open Go.RowKit

set_option maxRecDepth 100000 in
set_option maxHeartbeats 4000000 in
theorem encodes_walk (k p e s : Int) (t : Bool) (rs : List Rec) (ad : Option Addr) (len cap : Nat) (w : World) (h : BArg w ⟨k, p, e, s, t, rs⟩ ad len cap) (hm : len * 40 ≤ 140737488351232) :
    Calls Try.prog 4 #[.agg #[.int .i64 k, .int .i64 p, .int .i64 e, .int .i64 s, .bool t, .slice ad len cap]] w fun r w' => r = .returned (.bool true) ∧ Below w.heap.size w w' := by
  have b0 : Below w.heap.size w (w.alloc (.cells #[.int .i64 k, .int .i64 p, .int .i64 e, .int .i64 s, .bool t, .slice ad len cap] 24)) := (Below.refl _ _).alloc (Nat.le_refl _) _
  have X0 : Hid (BBox (w.alloc (.cells #[.int .i64 k, .int .i64 p, .int .i64 e, .int .i64 s, .bool t, .slice ad len cap] 24)) w.heap.size k p e s t (.slice ad len cap)) := BBox.new w k p e s t _
  have A0 : Hid (BArg w ⟨k, p, e, s, t, rs⟩ ad len cap) := h
  clear h
  go_enter Try.func4, Try.ntmps4
  go_wp2_with fail
  refine (copied_any k p e s t rs ad len cap _ (A0.out.later b0) hm).mono ?_
  rintro r w1 ⟨a1, c1, rfl, A1, b1⟩
  have b01 : Below w.heap.size w w1 := b0.trans (b1.mono b0.size)
  have X1 : Hid (BBox w1 w.heap.size k p e s t (.slice ad len cap)) := X0.out.later b1
  have A1' : Hid (BArg w1 ⟨k, p, e, s, t, rs⟩ a1 len c1) := A1
  clear b0 b1 X0 A1
  go_wp2_with fail
  refine (encode_any k p e s t rs a1 len c1 _ A1'.out).mono ?_
  rintro r w2 ⟨v2, rfl, own2, b2⟩
  have b02 : Below w.heap.size w w2 := b01.trans (b2.mono b01.size)
  have X2 : Hid (BBox w2 w.heap.size k p e s t (.slice ad len cap)) := X1.out.later b2
  obtain ⟨n2, hn2⟩ : ∃ n, (encodeN ⟨k, p, e, s, t, rs⟩).2.length = n := ⟨_, rfl⟩
  obtain ⟨a2, c2, rfl, ok2, -⟩ := own2.slice n2 hn2
  have O2 : Hid (Part.ok w2 ⟨a2, n2, c2, (encodeN ⟨k, p, e, s, t, rs⟩).2⟩) := ok2
  have HN : Hid ((encodeN ⟨k, p, e, s, t, rs⟩).2.length = n2) := hn2
  have z0 := X2.out.c0
  have z1 := X2.out.c1
  have z2 := X2.out.c2
  have z3 := X2.out.c3
  have z4 := X2.out.c4
  have z5 := X2.out.c5
  clear b01 b2 X1 A1' own2 ok2 hn2
  go_wp2_with fail
  refine (refEncode_any k p e s t rs ad len cap _ (A0.out.later b02)).mono ?_
  rintro r w3 ⟨v3, rfl, own3, b3⟩
  have b03 : Below w.heap.size w w3 := b02.trans (b3.mono b02.size)
  obtain ⟨a3, c3, rfl, ok3, -⟩ := own3.slice n2 HN.out
  have k2 := conv_any (O2.out.later b3).2.2 n2 c2 (O2.out.later b3).1
  have k3 := conv_any ok3.2.2 n2 c3 ok3.1
  clear O2 own3 ok3 b02 b3 X2 z0 z1 z2 z3 z4 z5 HN
  simp only at k2 k3
  generalize encodeN ⟨k, p, e, s, t, rs⟩ = en at *
  obtain ⟨en1, en2⟩ := en
  simp only at k2 k3
  generalize bstr en2 = tx at *
  go_wp2_with (first | (go_at_call 10; refine (num2_any _ _).mono ?_; rintro e w' ⟨rfl, hw'⟩; obtain rfl := hw'.symm) | (go_at_call 16; refine (knows2_any _).mono ?_; rintro r w5 ⟨rfl, b5⟩))
  go_ret
  exact ⟨rfl, b03.trans (b5.mono b03.size)⟩
end Go.Proofs.Ytmkdkclakndkpaa
