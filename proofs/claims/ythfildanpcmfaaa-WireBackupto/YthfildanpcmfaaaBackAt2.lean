/- The contract of Unframe in the form in which a walk meets it. -/
import Derived.Test.YthfildanpcmfaaaUnframe
namespace Go.Proofs.Ythfildanpcmfaaa
open Go.RowKit Crcm

theorem unframe_at {z : Int} (ad : Option Addr) (len cap : Nat) (l : List Nat) (q : Nat) (r : Int × List Nat × Int × Int) (w : World) (hz : z = q) (hg : unframeN l q = r) (hp : Part.ok w ⟨ad, len, cap, l⟩) (hlc : len ≤ cap) (hm : len ≤ 1000000000000000) (hq : q ≤ 1000000000000000) :
    Calls Try.prog 25 #[.slice ad len cap, .int .i64 z] w fun e w' => ∃ a c, e = .returned (.tuple #[.int .i64 r.1, .slice a r.2.1.length c, .int .i64 r.2.2.1, .int .i64 r.2.2.2]) ∧ Part.ok w' ⟨a, r.2.1.length, c, r.2.1⟩ ∧ Below w.heap.size w w' := by
  subst hz hg
  refine (unframe_any ad len cap l q w hp hlc hm (by omega)).mono ?_
  rintro e w' ⟨v, rfl, own, b⟩
  obtain ⟨a, c, rfl, ok, -⟩ := own.slice _ rfl
  exact ⟨a, c, rfl, ok, b⟩
end Go.Proofs.Ythfildanpcmfaaa
