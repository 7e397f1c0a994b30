/- The walk of the statement WireNumbers: it returns true at every input, and writes nothing that was there. -/
import Derived.Test.YthfildanpcmfaaaStays
import Derived.Test.YthfildanpcmfaaaGet
import Derived.Test.YthfildanpcmfaaaRefGet
import Derived.Test.YthfildanpcmfaaaRefPut
import Derived.Test.YthfildanpcmfaaaRefSum
namespace Go.Proofs.Ythfildanpcmfaaa
open Go.RowKit Crcm

set_option maxHeartbeats 2000000 in
theorem numbers_walk (n size : Int) (ad : Option Addr) (len cap : Nat) (l : List Nat) (p : Int) (w : World) (hp : Part.ok w ⟨ad, len, cap, l⟩) (hlc : len ≤ cap) (hr : cap ≤ 140737488351232) (hp2 : p ≤ 9223372036854775807) :
    Calls Try.prog 3 #[.int .i64 n, .int .i64 size, .slice ad len cap, .int .i64 p] w fun e w' => e = .returned (.bool true) ∧ Below w.heap.size w w' := by
  have HP : Hid (Part.ok w ⟨ad, len, cap, l⟩) := hp
  have HL : Hid (l.length = len) := hp.1
  clear hp
  go_enter Try.func3, Try.ntmps3
  go_wp2_with fail
  refine (lent_any ad len cap l _ HP.out (by omega)).mono ?_
  rintro e w1 ⟨g, c, rfl, hc1, hc2, own1, b1⟩
  have O1 : Hid (Own w1 w.heap.size (.slice (some ⟨g, 0, none⟩) (len + 2) c) (l ++ [201, 202])) := own1
  clear own1
  go_wp2_with fail
  refine (put_any n size _).mono ?_
  rintro e w2 ⟨v2, rfl, own2, b2⟩
  obtain ⟨a2, c2, rfl, ok2, -⟩ := own2.slice _ rfl
  have O2 : Hid (Part.ok w2 ⟨a2, (putN n size).2.length, c2, (putN n size).2⟩) := ok2
  clear own2 ok2
  go_wp2_with fail
  refine (refPut_any n size _).mono ?_
  rintro e w3 ⟨v3, rfl, own3, b3⟩
  obtain ⟨a3, c3, rfl, ok3, -⟩ := own3.slice _ rfl
  have O3 : Hid (Part.ok w3 ⟨a3, (putN n size).2.length, c3, (putN n size).2⟩) := ok3
  clear own3 ok3
  have b13 : Below w1.heap.size w1 w3 := b2.trans (b3.mono b2.size)
  have O1' : Hid (Own w3 w.heap.size (.slice (some ⟨g, 0, none⟩) (len + 2) c) (l ++ [201, 202])) := O1.out.later b13
  have b03 : Below w.heap.size w w3 := b1.trans (b13.mono b1.size)
  go_wp2_with fail
  refine (get_any _ len c l p size _ (O1'.out.cut HL.out (by simp [HL.out])) (by omega) (by omega) hp2).mono ?_
  rintro e w4 ⟨rfl, b4⟩
  have b04 : Below w.heap.size w w4 := b03.trans (b4.mono b03.size)
  go_wp2_with fail
  refine (refGet_any ad len cap l p size _ (HP.out.later b04) (by omega) hp2).mono ?_
  rintro e w5 ⟨rfl, hw5⟩
  obtain rfl := hw5.symm
  have O1'' : Hid (Own w4 w.heap.size (.slice (some ⟨g, 0, none⟩) (len + 2) c) (l ++ [201, 202])) := O1'.out.later b4
  have k2 := conv_any (O2.out.later (b3.trans (b4.mono b3.size))).2.2 (putN n size).2.length c2 rfl
  have k3 := conv_any (O3.out.later b4).2.2 (putN n size).2.length c3 rfl
  clear O1 O1' O2 O3 b1 b2 b3 b13 b03 b4
  generalize putN n size = pn at *
  generalize getN l p size = gn at *
  obtain ⟨gn1, gn2, gn3⟩ := gn
  obtain ⟨pn1, pn2⟩ := pn
  simp only at k2 k3 ⊢
  go_wp2_with (go_at_call 14; refine (num_any _ _).mono ?_; rintro e w' ⟨rfl, hw'⟩; obtain rfl := hw'.symm)
  clear k2 k3
  refine (crc_any _ len c l _ HL.out (by unfold maxLen; omega) (O1''.out.cut HL.out (by simp [HL.out])).2.2).mono ?_
  rintro e w6 ⟨rfl, b6⟩
  have b06 : Below w.heap.size w w6 := b04.trans (b6.mono b04.size)
  have O6 : Hid (Own w6 w.heap.size (.slice (some ⟨g, 0, none⟩) (len + 2) c) (l ++ [201, 202])) := O1''.out.later b6
  clear O1'' b04 b6
  go_wp2_with fail
  refine (refCrc_any ad len cap l _ HL.out (by unfold maxLen; omega) (HP.out.later b06).2.2).mono ?_
  rintro e w7 ⟨rfl, hw7⟩
  obtain rfl := hw7.symm
  go_wp2_with fail
  refine (stays_any g c ad len cap w.heap.size l _ hc1 (by omega) O6.out (HP.out.later b06)).mono ?_
  rintro e w8 ⟨rfl, b8⟩
  have b08 : Below w.heap.size w w8 := b06.trans (b8.mono b06.size)
  clear O6 b06 b8
  go_wp2_with fail
  refine (knows_any _).mono ?_
  rintro e w9 ⟨rfl, b9⟩
  go_wp2
  go_ret
  exact ⟨rfl, b08.trans (b9.mono b08.size)⟩
end Go.Proofs.Ythfildanpcmfaaa
