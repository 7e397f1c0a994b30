/- Bytes as a text, in a world behind some draws. -/
import Derived.Test.YthfildanpcmfaaaReader
namespace Go.Proofs.Ythfildanpcmfaaa
open Go.RowKit Crcm

theorem conv_drewN {w : World} {ad : Option Addr} {l : List Nat} (hrow : Row w ad l) (len cap : Nat) (hlen : l.length = len) :
    ∀ nq, (convert 22 9 (.slice ad len cap)).run Try.prog (w.drewN nq) = .ok (.string (bstr l)) (w.drewN nq) := fun nq => conv_any (hrow.later (below_drewN' (Below.refl _ _) nq)) len cap hlen
end Go.Proofs.Ythfildanpcmfaaa
