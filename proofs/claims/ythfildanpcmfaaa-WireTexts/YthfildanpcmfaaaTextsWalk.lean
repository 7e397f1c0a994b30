/- The walk of the statement WireTexts: it returns true at every input, and writes nothing that was there. -/
import Derived.Test.YthfildanpcmfaaaOpen
import Derived.Test.YthfildanpcmfaaaRefText
import Derived.Test.YthfildanpcmfaaaRefGetText
namespace Go.Proofs.Ythfildanpcmfaaa
open Go.RowKit Crcm

set_option maxHeartbeats 2000000 in
theorem texts_walk (s : ByteArray) (ad : Option Addr) (len cap : Nat) (l : List Nat) (p : Int) (w : World) (hs : s.size ≤ maxLen) (hp : Part.ok w ⟨ad, len, cap, l⟩) (hlc : len ≤ cap) (hr : cap ≤ 140737488351232) (hp2 : p ≤ 9223372036854775807) :
    Calls Try.prog 4 #[.string s, .slice ad len cap, .int .i64 p] w fun e w' => e = .returned (.bool true) ∧ Below w.heap.size w w' := by
  have HP : Hid (Part.ok w ⟨ad, len, cap, l⟩) := hp
  have HL : Hid (l.length = len) := hp.1
  clear hp
  go_enter Try.func4, Try.ntmps4
  go_wp2_with fail
  refine (text_any s _ hs).mono ?_
  rintro e w1 ⟨v1, rfl, own1, b1⟩
  obtain ⟨a1, c1, rfl, ok1, -⟩ := own1.slice _ rfl
  have O1 : Hid (Part.ok w1 ⟨a1, (textN s).2.length, c1, (textN s).2⟩) := ok1
  clear own1 ok1
  go_wp2_with fail
  refine (refText_any s _ hs).mono ?_
  rintro e w2 ⟨v2, rfl, own2, b2⟩
  obtain ⟨a2, c2, rfl, ok2, -⟩ := own2.slice _ rfl
  have O2 : Hid (Part.ok w2 ⟨a2, (textN s).2.length, c2, (textN s).2⟩) := ok2
  clear own2 ok2
  have b02 : Below w.heap.size w w2 := b1.trans (b2.mono b1.size)
  have b3 : Below w2.heap.size w2 (w2.alloc (.cells #[] 5)) := (Below.refl _ _).alloc (Nat.le_refl _) _
  have HP2 : Hid (Part.ok (w2.alloc (.cells #[] 5)) ⟨ad, len, cap, l⟩) := (HP.out.later b02).later b3
  go_wp2_with (at_builtin; refine app_any rfl _ _ rfl w2.heap.size (.slice (some ⟨w2.heap.size, 0, none⟩) 0 0) 0 [] rfl (empty_own w2 w2.heap.size (Nat.le_refl _)) ad len cap l rfl HL.out HP2.out.2.1 HP2.out.2.2 (by omega) (by simp) ?_; intro v3 w3 hown3 hg3; have b4 := b3.grown hg3 (by simp) (by intro k hk; simp [Value.ownBlock] at hk; omega); simp only [Nat.zero_add, List.nil_append] at hown3; clear hg3; obtain ⟨a3, c3, rfl, ok3, hlc3, -⟩ := Own.slice ⟨HP.out.2.2.1, (by rw [HL.out]; exact hown3)⟩ len HL.out)
  have O3 : Hid (Part.ok w3 ⟨a3, len, c3, l⟩) := ok3
  clear hown3 ok3
  refine (getText_any a3 len c3 l p _ O3.out hlc3 (by omega) hp2).mono ?_
  rintro e w4 ⟨rfl, b5⟩
  have b24 : Below w2.heap.size w2 w4 := b4.trans (b5.mono b4.size)
  have b04 : Below w.heap.size w w4 := b02.trans (b24.mono b02.size)
  go_wp2_with fail
  refine (refGetText_any ad len cap l p _ (HP.out.later b04) hlc (by omega) hp2).mono ?_
  rintro e w5 ⟨rfl, hw5⟩
  obtain rfl := hw5.symm
  have k1 := conv_any (O1.out.later (b2.trans (b24.mono b2.size))).2.2 (textN s).2.length c1 rfl
  have k2 := conv_any (O2.out.later b24).2.2 (textN s).2.length c2 rfl
  clear O1 O2 O3 HP2 b1 b2 b02 b3 b4 b5 b24
  generalize textN s = tn at *
  generalize getTextN l p = gn at *
  obtain ⟨gn1, gn2, gn3⟩ := gn
  obtain ⟨tn1, tn2⟩ := tn
  simp only at k1 k2 ⊢
  go_wp2_with (go_at_call 14; refine (num_any _ _).mono ?_; rintro e w' ⟨rfl, hw'⟩; obtain rfl := hw'.symm)
  refine (knows_any _).mono ?_
  rintro e w9 ⟨rfl, b9⟩
  go_wp2
  go_ret
  exact ⟨rfl, b04.trans (b9.mono b04.size)⟩
end Go.Proofs.Ythfildanpcmfaaa
