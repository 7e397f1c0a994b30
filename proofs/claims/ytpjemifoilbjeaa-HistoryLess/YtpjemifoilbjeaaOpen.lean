/- The bounds of a number that came in. -/
import Derived.Test.YtpjemifoilbjeaaBase
import Derived.ProofKit
import Derived.SizedLaws
namespace Go.Proofs.Ytpjemifoilbjeaa
open Go.RowKit

theorem i64_wf {n : Int} (h : (Lit.int .i64 n).wf = true) : -9223372036854775808 ≤ n ∧ n ≤ 9223372036854775807 := by
  simp [Lit.wf, IntKind.min, IntKind.max, IntKind.signed, IntKind.bits] at h
  omega
end Go.Proofs.Ytpjemifoilbjeaa
