/- The walk of the statement WireReads: it returns true at every input, and writes nothing that was there. -/
import Derived.Test.YthfildanpcmfaabKnows
import Derived.Test.YthfildanpcmfaabGet
import Derived.Test.YthfildanpcmfaabRefGetText
namespace Go.Proofs.Ythfildanpcmfaab
open Go.RowKit Crcm

set_option maxHeartbeats 2000000 in
theorem reads_walk (ad : Option Addr) (len cap : Nat) (l : List Nat) (p s : Int) (w : World) (hp : Part.ok w ⟨ad, len, cap, l⟩) (hlc : len ≤ cap) (hr : cap ≤ 140737488351232) (hp2 : p ≤ 9223372036854775807) :
    Calls Try.prog 3 #[.slice ad len cap, .int .i64 p, .int .i64 s] w fun e w' => e = .returned (.bool true) ∧ Below w.heap.size w w' := by
  have HP : Hid (Part.ok w ⟨ad, len, cap, l⟩) := hp
  clear hp
  go_enter Try.func3, Try.ntmps3
  go_wp2_with fail
  refine (getText_any ad len cap l p _ HP.out hlc (by omega) hp2).mono ?_
  rintro e w1 ⟨rfl, b1⟩
  go_wp2_with fail
  refine (refGetText_any ad len cap l p _ (HP.out.later b1) hlc (by omega) hp2).mono ?_
  rintro e w2 ⟨rfl, hw2⟩
  obtain rfl := hw2.symm
  go_wp2_with fail
  refine (get_any ad len cap l p s _ (HP.out.later b1) hlc (by omega) hp2).mono ?_
  rintro e w3 ⟨rfl, b3⟩
  have b03 : Below w.heap.size w w3 := b1.trans (b3.mono b1.size)
  clear b1 b3
  go_wp2_with fail
  refine (refGet_any ad len cap l p s _ (HP.out.later b03) (by omega) hp2).mono ?_
  rintro e w4 ⟨rfl, hw4⟩
  obtain rfl := hw4.symm
  generalize getTextN l p = tn at *
  generalize getN l p s = gn at *
  obtain ⟨gn1, gn2, gn3⟩ := gn
  obtain ⟨tn1, tn2, tn3⟩ := tn
  simp only
  go_wp2_with (go_at_call 9; refine (num_any _ _).mono ?_; rintro e w' ⟨rfl, hw'⟩; obtain rfl := hw'.symm)
  refine (knows_any _).mono ?_
  rintro e w9 ⟨rfl, b9⟩
  go_wp2
  go_ret
  exact ⟨rfl, b03.trans (b9.mono b03.size)⟩
end Go.Proofs.Ythfildanpcmfaab
