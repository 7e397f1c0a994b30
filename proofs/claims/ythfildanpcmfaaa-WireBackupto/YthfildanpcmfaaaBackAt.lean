/- The contracts of Get, GetText and Unframe in the form in which a walk meets them: the place as whatever number it is spelt. -/
import Derived.Test.YthfildanpcmfaaaGet
import Derived.Test.YthfildanpcmfaaaBackText
import Derived.Test.YthfildanpcmfaaaBackAt2
namespace Go.Proofs.Ythfildanpcmfaaa
open Go.RowKit Crcm

theorem get_at {z y : Int} (ad : Option Addr) (len cap : Nat) (l : List Nat) (q s : Nat) (r : Int × Int × Int) (w : World) (hz : z = q) (hy : y = s) (hg : getN l q s = r) (hp : Part.ok w ⟨ad, len, cap, l⟩) (hlc : len ≤ cap) (hm : len ≤ 1000000000000000) (hq : q ≤ 1000000000000000) :
    Calls Try.prog 12 #[.slice ad len cap, .int .i64 z, .int .i64 y] w fun e w' => e = .returned (.tuple #[.int .i64 r.1, .int .i64 r.2.1, .int .i64 r.2.2]) ∧ Below w.heap.size w w' := by
  subst hz hy hg
  exact get_any ad len cap l q s w hp hlc hm (by omega)
theorem getText_at {z : Int} (ad : Option Addr) (len cap : Nat) (l : List Nat) (q : Nat) (r : ByteArray × Int × Int) (w : World) (hz : z = q) (hg : getTextN l q = r) (hp : Part.ok w ⟨ad, len, cap, l⟩) (hlc : len ≤ cap) (hm : len ≤ 1000000000000000) (hq : q ≤ 1000000000000000) :
    Calls Try.prog 21 #[.slice ad len cap, .int .i64 z] w fun e w' => e = .returned (.tuple #[.string r.1, .int .i64 r.2.1, .int .i64 r.2.2]) ∧ Below w.heap.size w w' := by
  subst hz hg
  exact getText_any ad len cap l q w hp hlc hm (by omega)
end Go.Proofs.Ythfildanpcmfaaa
