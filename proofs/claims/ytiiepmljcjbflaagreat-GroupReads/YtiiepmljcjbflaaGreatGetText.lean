/- What the reader's method text and wire.GetText answer. -/
import Derived.Test.YtiiepmljcjbflaaGreatGetTextN
import Derived.Test.YtiiepmljcjbflaaGreatNumber
namespace Go.Proofs.YtiiepmljcjbflaaGreat
open Go.RowKit

set_option maxHeartbeats 1000000 in
theorem rtext_yes (w0 : World) (B p : Nat) (P : Part) (w : World) (ok : P.ok w0) (bel : Below w0.heap.size w0 w) (hB : w0.heap.size ≤ B) (hr : Rd w B p P) (h : p + 2 + lenAt P.l p ≤ P.len) (hc : P.len ≤ P.cap) (hm : P.len ≤ 1000000000000000) :
    Calls Tryz.prog 109 #[.pointer (some ⟨B, 0, none⟩)] w fun e w' => e = .returned (.tuple #[.string (bstr ((P.l.drop (p + 2)).take (lenAt P.l p))), .int .i64 0]) ∧ Rd w' B ((p + 2 + lenAt P.l p : Nat) : Int) P ∧ Below w0.heap.size w0 w' := by
  have HO : Hid (P.ok w0) := ok
  have HR : Hid (Rd w B p P) := hr
  clear ok hr
  go_enter Tryz.func109, Tryz.ntmps109
  go_wp2_with fail
  refine (number_at w0 B p 2 P _ rfl HO.out bel hB HR.out (by omega) (by omega) (by omega) hc hm).mono ?_
  rintro e w1 ⟨rfl, hr1, b1⟩
  have HR1 : Hid (Rd w1 B ((p + 2 : Nat) : Int) P) := hr1
  clear hr1 HR bel
  go_wp2_with fail
  refine (take_yes w0 B (p + 2) (lenAt P.l p) P _ HO.out b1 hB HR1.out h hc hm).mono ?_
  rintro e w2 ⟨Q, rfl, HQ, hr2, b2⟩
  have HR2 : Hid (Rd w2 B ((p + 2 + lenAt P.l p : Nat) : Int) P) := hr2
  have k := conv_any (HQ.out.2.2.1.later b2).2.2 (lenAt P.l p) Q.cap (by rw [HQ.out.2.2.1.1, HQ.out.1])
  rw [HQ.out.2.1] at k
  clear hr2 HR1 b1
  go_wp2
  go_ret2
  exact ⟨rfl, HR2, b2⟩
set_option maxHeartbeats 1000000 in
theorem rtext_no (w0 : World) (B p : Nat) (P : Part) (w : World) (ok : P.ok w0) (bel : Below w0.heap.size w0 w) (hB : w0.heap.size ≤ B) (hr : Rd w B p P) (h : ¬ p + 2 + lenAt P.l p ≤ P.len) (hp : p ≤ 9223372036854775807) (hc : P.len ≤ P.cap) (hm : P.len ≤ 1000000000000000) :
    Calls Tryz.prog 109 #[.pointer (some ⟨B, 0, none⟩)] w fun e w' => e = .returned (.tuple #[.string (bstr []), .int .i64 20]) ∧ Below w0.heap.size w0 w' := by
  have HO : Hid (P.ok w0) := ok
  have HR : Hid (Rd w B p P) := hr
  clear ok hr
  by_cases h2 : p + 2 ≤ P.len
  · have k0 : ∀ w, (convert 24 9 (.slice none 0 0)).run Tryz.prog w = .ok (.string (bstr [])) w := fun w => conv_any (w := w) ⟨fun _ h => (by cases h), Or.inl rfl⟩ 0 0 rfl
    go_enter Tryz.func109, Tryz.ntmps109
    go_wp2_with fail
    refine (number_at w0 B p 2 P _ rfl HO.out bel hB HR.out (by omega) (by omega) (by omega) hc hm).mono ?_
    rintro e w1 ⟨rfl, hr1, b1⟩
    have HR1 : Hid (Rd w1 B ((p + 2 : Nat) : Int) P) := hr1
    clear hr1 HR bel
    go_wp2_with fail
    refine (take_no w0 B (p + 2) (lenAt P.l p) P _ b1 HR1.out h (by omega) hm).mono ?_
    rintro e w2 ⟨rfl, hr2, b2⟩
    clear hr2 HR1 b1
    go_wp2
    go_ret2
    exact ⟨rfl, b2⟩
  · go_enter Tryz.func109, Tryz.ntmps109
    go_wp2_with fail
    refine (number_not w0 B p 2 P _ rfl bel HR.out h2 hp hm).mono ?_
    rintro e w1 ⟨rfl, hr1, b1⟩
    clear hr1 HR bel
    go_wp2
    go_ret2
    exact ⟨rfl, b1⟩
set_option maxHeartbeats 1000000 in
theorem getText_in (ad : Option Addr) (len cap : Nat) (l : List Nat) (p : Nat) (w : World) (hp : Part.ok w ⟨ad, len, cap, l⟩) (hlc : len ≤ cap) (hm : len ≤ 1000000000000000) (hp2 : p ≤ 9223372036854775807) :
    Calls Tryz.prog 95 #[.slice ad len cap, .int .i64 p] w fun e w' => e = .returned (.tuple #[.string (getTextN l p).1, .int .i64 (getTextN l p).2.1, .int .i64 (getTextN l p).2.2]) ∧ Below w.heap.size w w' := by
  have HL : Hid (l.length = len) := hp.1
  have HP : Hid (Part.ok w ⟨ad, len, cap, l⟩) := hp
  clear hp
  have b0 : Below w.heap.size w (w.alloc (.cells #[.int .i64 (p : Int), .slice ad len cap] 116)) := (Below.refl _ _).alloc (Nat.le_refl _) _
  have r0 : Hid (Rd (w.alloc (.cells #[.int .i64 (p : Int), .slice ad len cap] 116)) w.heap.size p ⟨ad, len, cap, l⟩) := Rd.new w p ⟨ad, len, cap, l⟩
  by_cases h2 : p + 2 + lenAt l p ≤ len
  · rw [getTextN_ok l p (by rw [HL.out]; exact h2)]
    generalize hn : lenAt l p = n at *
    have HN : Hid (lenAt l p = n) := hn
    clear hn
    go_enter Tryz.func95, Tryz.ntmps95
    go_wp2_with fail
    refine (rtext_yes w w.heap.size p ⟨ad, len, cap, l⟩ _ HP.out b0 (Nat.le_refl _) r0.out (by rw [HN.out]; exact h2) hlc hm).mono ?_
    rintro e w1 ⟨rfl, hr1, b1⟩
    have c1 := hr1.c0
    simp only [HN.out] at c1 ⊢
    clear hr1
    go_wp2_with fail
    go_quiet (fail)
    go_wp2
    go_ret3
    exact ⟨rfl, below_drewN' b1 _⟩
  · rw [getTextN_end l p (by rw [HL.out]; exact h2)]
    go_enter Tryz.func95, Tryz.ntmps95
    go_wp2_with fail
    refine (rtext_no w w.heap.size p ⟨ad, len, cap, l⟩ _ HP.out b0 (Nat.le_refl _) r0.out h2 hp2 hlc hm).mono ?_
    rintro e w1 ⟨rfl, b1⟩
    go_wp2
    go_ret3
    exact ⟨rfl, b1⟩
theorem getText_any (ad : Option Addr) (len cap : Nat) (l : List Nat) (p : Int) (w : World) (hp : Part.ok w ⟨ad, len, cap, l⟩) (hlc : len ≤ cap) (hm : len ≤ 1000000000000000) (hp2 : p ≤ 9223372036854775807) :
    Calls Tryz.prog 95 #[.slice ad len cap, .int .i64 p] w fun e w' => e = .returned (.tuple #[.string (getTextN l p).1, .int .i64 (getTextN l p).2.1, .int .i64 (getTextN l p).2.2]) ∧ Below w.heap.size w w' := by
  by_cases h0 : 0 ≤ p
  · obtain ⟨q, rfl⟩ := Int.eq_ofNat_of_zero_le h0
    exact getText_in ad len cap l q w hp hlc hm (by omega)
  · rw [getTextN_arg l p h0]
    clear hp
    have h1 : p < 0 := by omega
    go_enter Tryz.func95, Tryz.ntmps95
    go_wp2
    go_ret3
    exact ⟨rfl, Below.refl _ _⟩
end Go.Proofs.YtiiepmljcjbflaaGreat
