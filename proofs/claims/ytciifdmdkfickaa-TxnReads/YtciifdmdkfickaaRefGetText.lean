/- What the document's own GetText (package ref) answers: the same as wire.GetText. -/
import Derived.Test.YtciifdmdkfickaaGetTextN
import Derived.Test.YtciifdmdkfickaaRefGet
namespace Go.Proofs.Ytciifdmdkfickaa
open Go.RowKit

set_option maxRecDepth 100000 in
set_option maxHeartbeats 1000000 in
theorem refGetText_any (ad : Option Addr) (len cap : Nat) (l : List Nat) (p : Int) (w : World) (hp : Part.ok w ⟨ad, len, cap, l⟩) (hlc : len ≤ cap) (hm : len ≤ 1000000000000000) (hp2 : p ≤ 9223372036854775807) :
    Calls Try.prog 22 #[.slice ad len cap, .int .i64 p] w fun e w' => e = .returned (.tuple #[.string (getTextN l p).1, .int .i64 (getTextN l p).2.1, .int .i64 (getTextN l p).2.2]) ∧ w' = w := by
  have HL : Hid (l.length = len) := hp.1
  have HP : Hid (Part.ok w ⟨ad, len, cap, l⟩) := hp
  have hl := lenAt_lt l p.toNat hp.2.2.1
  clear hp
  by_cases h0 : 0 ≤ p
  · obtain ⟨p, rfl⟩ := Int.eq_ofNat_of_zero_le h0
    rw [Int.toNat_natCast] at hl
    by_cases h1 : p + 2 ≤ len
    · have e1 : getN l (p : Int) 2 = (((lenAt l p : Nat) : Int), ((p + 2 : Nat) : Int), 0) := getN_ok l p 2 (by omega) (by rw [HL.out]; exact h1)
      by_cases h2 : p + 2 + lenAt l p ≤ len
      · rw [getTextN_ok l p (by rw [HL.out]; exact h2)]
        have kq := conv_any (cutP_ok HP.out (p + 2) (lenAt l p) h2 hlc).2.2 (lenAt l p) (cutP ⟨ad, len, cap, l⟩ (p + 2) (lenAt l p)).cap (by rw [cutP_l]; exact drop_take_length l (p + 2) (lenAt l p) (by rw [HL.out]; exact h2))
        rw [cutP_l] at kq
        simp only at kq
        generalize lenAt l p = n at *
        generalize bstr ((l.drop (p + 2)).take n) = t at *
        generalize p + 2 = q at *
        by_cases hcap : cap = q
        · unfold cutP at kq
          rw [if_pos hcap] at kq
          simp only at kq
          subst hcap
          go_enter Try.func22, Try.ntmps22
          go_wp2_with fail
          refine (refGet_any ad len _ l p 2 _ HP.out hm hp2).mono ?_
          rintro e w1 ⟨rfl, hw⟩
          obtain rfl := hw.symm
          rw [e1]
          clear e1
          go_wp2
          go_ret3
          exact ⟨rfl, rfl⟩
        · unfold cutP at kq
          rw [if_neg hcap] at kq
          simp only at kq
          go_enter Try.func22, Try.ntmps22
          go_wp2_with fail
          refine (refGet_any ad len cap l p 2 _ HP.out hm hp2).mono ?_
          rintro e w1 ⟨rfl, hw⟩
          obtain rfl := hw.symm
          rw [e1]
          clear e1
          go_wp2
          go_ret3
          exact ⟨rfl, rfl⟩
      · rw [getTextN_end l p (by rw [HL.out]; exact h2)]
        generalize lenAt l p = n at *
        go_enter Try.func22, Try.ntmps22
        go_wp2_with fail
        refine (refGet_any ad len cap l p 2 _ HP.out hm hp2).mono ?_
        rintro e w1 ⟨rfl, hw⟩
        obtain rfl := hw.symm
        rw [e1]
        clear e1
        go_wp2
        go_ret3
        exact ⟨rfl, rfl⟩
    · rw [getTextN_end l p (by rw [HL.out]; omega)]
      have e1 : getN l (p : Int) 2 = (0, 0, 20) := getN_end l p 2 (by omega) (by rw [HL.out]; omega)
      go_enter Try.func22, Try.ntmps22
      go_wp2_with fail
      refine (refGet_any ad len cap l p 2 _ HP.out hm hp2).mono ?_
      rintro e w1 ⟨rfl, hw⟩
      obtain rfl := hw.symm
      rw [e1]
      clear e1
      go_wp2
      go_ret3
      exact ⟨rfl, rfl⟩
  · rw [getTextN_arg l p h0]
    have e1 : getN l p 2 = (0, 0, 1) := getN_arg l p 2 (by omega)
    go_enter Try.func22, Try.ntmps22
    go_wp2_with fail
    refine (refGet_any ad len cap l p 2 _ HP.out hm hp2).mono ?_
    rintro e w1 ⟨rfl, hw⟩
    obtain rfl := hw.symm
    rw [e1]
    clear e1
    go_wp2
    go_ret3
    exact ⟨rfl, rfl⟩
end Go.Proofs.Ytciifdmdkfickaa
