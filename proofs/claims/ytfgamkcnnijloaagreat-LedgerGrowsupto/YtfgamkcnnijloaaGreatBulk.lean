/- What the bound of an '..UptoSaid' gives: a slice of bytes is no longer than its datum is bulky; a text neither. -/
import Derived.Test.YtfgamkcnnijloaaGreatRows
import Derived.Test.YtfgamkcnnijloaaGreatPZOpen
namespace Go.Proofs.YtfgamkcnnijloaaGreat
open Go.RowKit
open Go.ChangeShapes Go.WideShapes Go.ChangeAt

theorem bulk_of {H : Type} {ds : List (DataW H)} (h : Rows.uptoSmall H ds = true) : Rows.uptoBulkAll ds ≤ 1048576 := of_decide_eq_true h
end Go.Proofs.YtfgamkcnnijloaaGreat
