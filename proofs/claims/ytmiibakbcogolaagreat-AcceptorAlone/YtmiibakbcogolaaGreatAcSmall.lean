/- spell, numberAt, unpack of package acceptor. -/
import Derived.Test.YtmiibakbcogolaaGreatPStr
import Derived.Test.YtmiibakbcogolaaGreatPWire
import Derived.Test.YtmiibakbcogolaaGreatPMath
namespace Go.Proofs.YtmiibakbcogolaaGreat.Ac
open Go.RowKit Crcm

set_option maxRecDepth 100000 in
theorem spell_at {z s : Int} (n size : Nat) (w : World) (hz : z = n) (hs : s = size) (h1 : 1 ≤ size) (h6 : size ≤ 6) (hn : n < 2 ^ (8 * size)) :
    Calls Tryz.prog 37 #[.int .i64 z, .int .i64 s] w fun e w' => ∃ p : Part, e = .returned (.slice p.ad p.len p.cap) ∧ Hid (p.l = spellN n size) ∧ Hid (p.ok w') ∧ Below w.heap.size w w' := by
  subst hz hs
  have q := put_any (n : Int) (size : Int) w
  rw [putN_ok n size h1 h6 hn] at q
  go_enter Tryz.func37, Tryz.ntmps37
  go_wp2_with (go_at_call 72; refine q.mono ?_; rintro e w' ⟨v, rfl, hown, hb⟩)
  go_ret
  obtain ⟨p, rfl, h1, h2⟩ := Part.of_own hown
  exact ⟨p, rfl, h1, h2, hb⟩
set_option maxRecDepth 100000 in
theorem numberAt_any {z s : Int} (ad : Option Addr) (len cap : Nat) (l : List Nat) (p n : Nat) (w : World) (hz : z = p) (hs : s = n) (hp : Part.ok w ⟨ad, len, cap, l⟩) (hlc : len ≤ cap) (hm : len ≤ 1000000000000000) (h1 : 1 ≤ n) (h6 : n ≤ 6) (h : p + n ≤ len) :
    Calls Tryz.prog 46 #[.slice ad len cap, .int .i64 z, .int .i64 s] w fun e w' => e = .returned (.int .i64 ((valN ((l.drop p).take n) : Nat) : Int)) ∧ Below w.heap.size w w' := by
  subst hz hs
  have q := get_any ad len cap l (p : Int) (n : Int) w hp hlc hm (by omega)
  rw [getN_ok l p n ⟨h1, h6⟩ (by rw [show l.length = len from hp.1]; exact h)] at q
  clear hp
  go_enter Tryz.func46, Tryz.ntmps46
  go_wp2_with (go_at_call 77; refine q.mono ?_; rintro e w' ⟨rfl, hb⟩)
  go_ret
  exact ⟨rfl, hb⟩
/-- The body of the frame that the whole of l is, if it is of that kind and long enough. -/
def unpackN (l : List Nat) (kind least : Nat) : Bool := decide (unframeE l 0 = 0 ∧ kindAt l 0 = kind ∧ 9 + sizeAt l 0 = l.length ∧ least ≤ sizeAt l 0)
set_option maxRecDepth 100000 in
theorem isNumber_any (n : Int) (w : World) : Calls Tryz.prog 66 #[.int .i64 n] w fun e w' => e = .returned (.bool (isLogletN n)) ∧ w' = w := by
  unfold isLogletN
  by_cases h : 0 ≤ n
  · go_enter Tryz.func66, Tryz.ntmps66
    go_wp2
    go_ret
    exact ⟨by simp [h], rfl⟩
  · go_enter Tryz.func66, Tryz.ntmps66
    go_wp2
    go_ret
    exact ⟨by simp; omega, rfl⟩
end Go.Proofs.YtmiibakbcogolaaGreat.Ac
