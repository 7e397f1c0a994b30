/- P104, Text, as a function. -/
import Derived.Test.YtciifdmdkfickaaStr
import Derived.Test.YtciifdmdkfickaaValue
namespace Go.Proofs.Ytciifdmdkfickaa
open Go.RowKit

/-- P104, Text: the error's number and the bytes. -/
def textN (s : ByteArray) : Int × List Nat := if s.size ≤ 65535 then (0, spellN s.size 2 ++ sbytes s) else (6, [])
theorem textN_ok (s : ByteArray) (h : s.size ≤ 65535) : textN s = (0, spellN s.size 2 ++ sbytes s) := by unfold textN; rw [if_pos h]
theorem textN_no (s : ByteArray) (h : ¬ s.size ≤ 65535) : textN s = (6, []) := by unfold textN; rw [if_neg h]
end Go.Proofs.Ytciifdmdkfickaa
