/- The walk of the statement WireFrames: it returns true at every input, and writes nothing that was there. -/
import Derived.Test.YthfildanpcmfaaaStays
import Derived.Test.YthfildanpcmfaaaRefFrame
import Derived.Test.YthfildanpcmfaaaRefUnframe
namespace Go.Proofs.Ythfildanpcmfaaa
open Go.RowKit Crcm

set_option maxHeartbeats 4000000 in
theorem frames_walk (kind : Int) (ad : Option Addr) (len cap : Nat) (l : List Nat) (bd : Option Addr) (blen bcap : Nat) (m : List Nat) (p : Int) (w : World)
    (hp : Part.ok w ⟨ad, len, cap, l⟩) (hlc : len ≤ cap) (hr : cap ≤ 140737488351232) (hq : Part.ok w ⟨bd, blen, bcap, m⟩) (hblc : blen ≤ bcap) (hbr : bcap ≤ 140737488351232) (hp2 : p ≤ 9223372036854775807) :
    Calls Try.prog 5 #[.int .i64 kind, .slice ad len cap, .slice bd blen bcap, .int .i64 p] w fun e w' => e = .returned (.bool true) ∧ Below w.heap.size w w' := by
  have HP : Hid (Part.ok w ⟨ad, len, cap, l⟩) := hp
  have HL : Hid (l.length = len) := hp.1
  have HQ : Hid (Part.ok w ⟨bd, blen, bcap, m⟩) := hq
  have HM : Hid (m.length = blen) := hq.1
  clear hp hq
  go_enter Try.func5, Try.ntmps5
  go_wp2_with fail
  refine (lent_any ad len cap l _ HP.out (by omega)).mono ?_
  rintro e w1 ⟨g, c, rfl, hc1, hc2, own1, b1⟩
  have O1 : Hid (Own w1 w.heap.size (.slice (some ⟨g, 0, none⟩) (len + 2) c) (l ++ [201, 202])) := own1
  clear own1
  go_wp2_with fail
  refine (lent_any bd blen bcap m _ (HQ.out.later b1) (by omega)).mono ?_
  rintro e w2 ⟨g2, d, rfl, hd1, hd2, own2, b2⟩
  have O2 : Hid (Own w2 w1.heap.size (.slice (some ⟨g2, 0, none⟩) (blen + 2) d) (m ++ [201, 202])) := own2
  have O1b : Hid (Own w2 w.heap.size (.slice (some ⟨g, 0, none⟩) (len + 2) c) (l ++ [201, 202])) := O1.out.later b2
  have b02 : Below w.heap.size w w2 := b1.trans (b2.mono b1.size)
  clear own2 O1 b1 b2
  go_wp2_with fail
  refine (frame_any kind _ len c l _ (O1b.out.cut HL.out (by simp [HL.out])) (by unfold maxLen; omega)).mono ?_
  rintro e w3 ⟨v3, rfl, own3, b3⟩
  obtain ⟨a3, c3, rfl, ok3, -⟩ := own3.slice _ rfl
  have O3 : Hid (Part.ok w3 ⟨a3, (frameN kind l).2.length, c3, (frameN kind l).2⟩) := ok3
  have b03 : Below w.heap.size w w3 := b02.trans (b3.mono b02.size)
  clear own3 ok3
  go_wp2_with fail
  refine (refFrame_any kind ad len cap l _ (HP.out.later b03) (by unfold maxLen; omega)).mono ?_
  rintro e w4 ⟨v4, rfl, own4, b4⟩
  obtain ⟨a4, c4, rfl, ok4, -⟩ := own4.slice _ rfl
  have O4 : Hid (Part.ok w4 ⟨a4, (frameN kind l).2.length, c4, (frameN kind l).2⟩) := ok4
  have b24 : Below w2.heap.size w2 w4 := b3.trans (b4.mono b3.size)
  have O2d : Hid (Own w4 w1.heap.size (.slice (some ⟨g2, 0, none⟩) (blen + 2) d) (m ++ [201, 202])) := O2.out.later b24
  clear own4 ok4
  go_wp2_with fail
  refine (unframe_any _ blen d m p _ (O2d.out.cut HM.out (by simp [HM.out])) (by omega) (by omega) hp2).mono ?_
  rintro e w5 ⟨v5, rfl, own5, b5⟩
  obtain ⟨a5, c5, rfl, ok5, -⟩ := own5.slice _ rfl
  have O5 : Hid (Part.ok w5 ⟨a5, (unframeN m p).2.1.length, c5, (unframeN m p).2.1⟩) := ok5
  have b25 : Below w2.heap.size w2 w5 := b24.trans (b5.mono b24.size)
  have b05 : Below w.heap.size w w5 := b02.trans (b25.mono b02.size)
  clear own5 ok5
  go_wp2_with fail
  refine (refUnframe_any bd blen bcap m p _ (HQ.out.later b05) hblc (by omega) hp2).mono ?_
  rintro e w6 ⟨v6, rfl, own6, b6⟩
  obtain ⟨a6, c6, rfl, ok6, -⟩ := own6.slice _ rfl
  have b06 : Below w.heap.size w w6 := b05.trans (b6.mono b05.size)
  have b26 : Below w2.heap.size w2 w6 := b25.trans (b6.mono b25.size)
  have b46 : Below w4.heap.size w4 w6 := b5.trans (b6.mono b5.size)
  have b36 : Below w3.heap.size w3 w6 := b4.trans (b46.mono b4.size)
  have k3 := conv_any (O3.out.later b36).2.2 (frameN kind l).2.length c3 rfl
  have k4 := conv_any (O4.out.later b46).2.2 (frameN kind l).2.length c4 rfl
  have k5 := conv_any (O5.out.later b6).2.2 (unframeN m p).2.1.length c5 rfl
  have k6 := conv_any ok6.2.2 (unframeN m p).2.1.length c6 rfl
  have O1g : Hid (Own w6 w.heap.size (.slice (some ⟨g, 0, none⟩) (len + 2) c) (l ++ [201, 202])) := O1b.out.later b26
  have O2g : Hid (Own w6 w1.heap.size (.slice (some ⟨g2, 0, none⟩) (blen + 2) d) (m ++ [201, 202])) := O2d.out.later b46
  clear own6 ok6 O3 O4 O5 O1b O2 O2d b02 b03 b3 b4 b5 b6 b05 b24 b25 b26 b36 b46
  generalize frameN kind l = fn at *
  generalize unframeN m p = un at *
  obtain ⟨fn1, fn2⟩ := fn
  obtain ⟨un1, un2, un3, un4⟩ := un
  simp only at k3 k4 k5 k6 ⊢
  go_wp2_with (go_at_call 14; refine (num_any _ _).mono ?_; rintro e w' ⟨rfl, hw'⟩; obtain rfl := hw'.symm)
  clear k3 k4 k5 k6
  refine (stays_any g c ad len cap w.heap.size l _ hc1 (by omega) O1g.out (HP.out.later b06)).mono ?_
  rintro e w7 ⟨rfl, b7⟩
  have b07 : Below w.heap.size w w7 := b06.trans (b7.mono b06.size)
  have O2h : Hid (Own w7 w1.heap.size (.slice (some ⟨g2, 0, none⟩) (blen + 2) d) (m ++ [201, 202])) := O2g.out.later b7
  clear O1g O2g b06 b7
  go_wp2_with fail
  refine (stays_any g2 d bd blen bcap w1.heap.size m _ hd1 (by omega) O2h.out (HQ.out.later b07)).mono ?_
  rintro e w8 ⟨rfl, b8⟩
  have b08 : Below w.heap.size w w8 := b07.trans (b8.mono b07.size)
  clear O2h b07 b8
  go_wp2_with fail
  refine (knows_any _).mono ?_
  rintro e w9 ⟨rfl, b9⟩
  go_wp2
  go_ret
  exact ⟨rfl, b08.trans (b9.mono b08.size)⟩
end Go.Proofs.Ythfildanpcmfaaa
