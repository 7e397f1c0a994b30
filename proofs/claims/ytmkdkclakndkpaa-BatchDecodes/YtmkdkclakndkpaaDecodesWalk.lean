/- The walk of the statement BatchDecodes: it returns true at every input, and writes nothing that was there. -/
import Derived.Test.YtmkdkclakndkpaaRefDecodeAny
import Derived.Test.YtmkdkclakndkpaaKnows2
import Derived.Test.YtmkdkclakndkpaaCopied
import Derived.Test.YtmkdkclakndkpaaLent
import Derived.Test.YtmkdkclakndkpaaStays
namespace Go.Proofs.Ytmkdkclakndkpaa
open Go.RowKit

set_option maxRecDepth 100000 in
set_option maxHeartbeats 4000000 in
theorem decodes_walk (ad : Option Addr) (len cap : Nat) (l : List Nat) (w : World) (hp : Part.ok w ⟨ad, len, cap, l⟩) (hlc : len ≤ cap) (hr : cap ≤ 140737488351232) :
    Calls Try.prog 5 #[.slice ad len cap] w fun e w' => e = .returned (.bool true) ∧ Below w.heap.size w w' := by
  have HP : Hid (Part.ok w ⟨ad, len, cap, l⟩) := hp
  have HL : Hid (l.length = len) := hp.1
  clear hp
  go_enter Try.func5, Try.ntmps5
  go_wp2_with fail
  refine (lent_any ad len cap l _ HP.out (by omega)).mono ?_
  rintro e w1 ⟨g, c, rfl, hc1, hc2, own1, b1⟩
  have O1 : Hid (Own w1 w.heap.size (.slice (some ⟨g, 0, none⟩) (len + 2) c) (l ++ [201, 202])) := own1
  clear own1
  go_wp2_with fail
  refine (decode_any _ len c l _ (O1.out.cut HL.out (by simp [HL.out])) (by omega) (by omega)).mono ?_
  rintro e w2 ⟨k2, p2, e2, s2, t2, rs2, a2, n2, c2, rfl, E2, A2, b2⟩
  have ba2 : Below w2.heap.size w2 (w2.alloc (.cells #[.int .i64 k2, .int .i64 p2, .int .i64 e2, .int .i64 s2, .bool t2, .slice a2 n2 c2] 24)) := (Below.refl _ _).alloc (Nat.le_refl _) _
  have HA2 : Hid (BArg (w2.alloc (.cells #[.int .i64 k2, .int .i64 p2, .int .i64 e2, .int .i64 s2, .bool t2, .slice a2 n2 c2] 24)) ⟨k2, p2, e2, s2, t2, rs2⟩ a2 n2 c2) := A2.later ba2
  have X2 : Hid (BBox (w2.alloc (.cells #[.int .i64 k2, .int .i64 p2, .int .i64 e2, .int .i64 s2, .bool t2, .slice a2 n2 c2] 24)) w2.heap.size k2 p2 e2 s2 t2 (.slice a2 n2 c2)) := BBox.new w2 _ _ _ _ _ _
  have b02 : Below w.heap.size w w2 := b1.trans (b2.mono b1.size)
  have b02a : Below w.heap.size w (w2.alloc (.cells #[.int .i64 k2, .int .i64 p2, .int .i64 e2, .int .i64 s2, .bool t2, .slice a2 n2 c2] 24)) := b02.trans (ba2.mono b02.size)
  have O2 : Hid (Own (w2.alloc (.cells #[.int .i64 k2, .int .i64 p2, .int .i64 e2, .int .i64 s2, .bool t2, .slice a2 n2 c2] 24)) w.heap.size (.slice (some ⟨g, 0, none⟩) (len + 2) c) (l ++ [201, 202])) := (O1.out.later b2).later ba2
  clear A2 O1 b1 b2 ba2 b02
  go_wp2_with fail
  refine (refDecode_any ad len cap l _ (HP.out.later b02a) hlc (by omega)).mono ?_
  rintro e w3 ⟨k3, p3, e3, s3, t3, rs3, a3, n3, c3, rfl, E3, A3, b3⟩
  have ba3 : Below w3.heap.size w3 (w3.alloc (.cells #[.int .i64 k3, .int .i64 p3, .int .i64 e3, .int .i64 s3, .bool t3, .slice a3 n3 c3] 24)) := (Below.refl _ _).alloc (Nat.le_refl _) _
  have HA3 : Hid (BArg (w3.alloc (.cells #[.int .i64 k3, .int .i64 p3, .int .i64 e3, .int .i64 s3, .bool t3, .slice a3 n3 c3] 24)) ⟨k3, p3, e3, s3, t3, rs3⟩ a3 n3 c3) := A3.later ba3
  have HA2b : Hid (BArg (w3.alloc (.cells #[.int .i64 k3, .int .i64 p3, .int .i64 e3, .int .i64 s3, .bool t3, .slice a3 n3 c3] 24)) ⟨k2, p2, e2, s2, t2, rs2⟩ a2 n2 c2) := (HA2.out.later b3).later ba3
  have X3 : Hid (BBox (w3.alloc (.cells #[.int .i64 k3, .int .i64 p3, .int .i64 e3, .int .i64 s3, .bool t3, .slice a3 n3 c3] 24)) w2.heap.size k2 p2 e2 s2 t2 (.slice a2 n2 c2)) := (X2.out.later b3).later ba3
  have Y3 : Hid (BBox (w3.alloc (.cells #[.int .i64 k3, .int .i64 p3, .int .i64 e3, .int .i64 s3, .bool t3, .slice a3 n3 c3] 24)) w3.heap.size k3 p3 e3 s3 t3 (.slice a3 n3 c3)) := BBox.new w3 _ _ _ _ _ _
  have b03' : Below w.heap.size w w3 := b02a.trans (b3.mono b02a.size)
  have b03 : Below w.heap.size w (w3.alloc (.cells #[.int .i64 k3, .int .i64 p3, .int .i64 e3, .int .i64 s3, .bool t3, .slice a3 n3 c3] 24)) := b03'.trans (ba3.mono b03'.size)
  have O3 : Hid (Own (w3.alloc (.cells #[.int .i64 k3, .int .i64 p3, .int .i64 e3, .int .i64 s3, .bool t3, .slice a3 n3 c3] 24)) w.heap.size (.slice (some ⟨g, 0, none⟩) (len + 2) c) (l ++ [201, 202])) := (O2.out.later b3).later ba3
  have HE : Hid ((⟨k2, p2, e2, s2, t2, rs2⟩ : Bat) = ⟨k3, p3, e3, s3, t3, rs3⟩) := E2.trans E3.symm
  have x0 := X3.out.c0
  have x1 := X3.out.c1
  have x2 := X3.out.c2
  have x3 := X3.out.c3
  have x4 := X3.out.c4
  have x5 := X3.out.c5
  have y0 := Y3.out.c0
  have y1 := Y3.out.c1
  have y2 := Y3.out.c2
  have y3 := Y3.out.c3
  have y4 := Y3.out.c4
  have y5 := Y3.out.c5
  clear A3 O2 b3 b02a HA2 E2 E3 X2 ba3 b03'
  generalize (decodeN l).2 = de at *
  go_wp2_with (first
    | (go_at_call 15; refine (same_any k2 p2 e2 s2 k3 p3 e3 s3 t2 t3 rs2 rs3 a2 a3 n2 c2 n3 c3 _ HA2b.out HA3.out).mono ?_; rintro r w4 ⟨q4, rfl, hq4, b4⟩; obtain rfl : q4 = true := hq4.2 HE.out; have B4 : Hid (Below w.heap.size w w4) := b03.trans (b4.mono b03.size); have O4 : Hid (Own w4 w.heap.size (.slice (some ⟨g, 0, none⟩) (len + 2) c) (l ++ [201, 202])) := O3.out.later b4; clear b4 hq4)
    | (go_at_call 10; refine (num2_any _ _).mono ?_; rintro e w' ⟨rfl, hw'⟩; obtain rfl := hw'.symm)
    | (go_at_call 22; refine (stays_any g c ad len cap w.heap.size l _ hc1 (by omega) O4.out (HP.out.later B4.out)).mono ?_; rintro e w5 ⟨rfl, b5⟩; have B5 : Hid (Below w.heap.size w w5) := B4.out.trans (b5.mono B4.out.size); clear b5)
    | (go_at_call 16; refine (knows2_any _).mono ?_; rintro e w6 ⟨rfl, b6⟩))
  go_ret
  exact ⟨rfl, B5.out.trans (b6.mono B5.out.size)⟩
end Go.Proofs.Ytmkdkclakndkpaa
