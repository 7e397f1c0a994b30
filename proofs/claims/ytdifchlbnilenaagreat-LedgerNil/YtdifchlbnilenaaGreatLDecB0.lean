/- decideBatch of a ledger: what it takes for granted (by genldec.py). -/
import Derived.Test.YtdifchlbnilenaaGreatLFind
import Derived.Test.YtdifchlbnilenaaGreatLMay
import Derived.Test.YtdifchlbnilenaaGreatPNew
import Derived.Test.YtdifchlbnilenaaGreatBatchMath
import Derived.Test.YtdifchlbnilenaaGreatPDecide
import Derived.Test.YtdifchlbnilenaaGreatLen
import Derived.Deep.RegionHeld3
import Derived.OrdersHeld
namespace Go.Proofs.YtdifchlbnilenaaGreat
open Go.RowKit Go.Shelf
variable {w w' : World} {L t M n N : Nat} {vr vo va : Value} {g : Lg}

theorem TPic.drew {T : Tb} (h : TPic w t M n T) : TPic w.drew t M n T := h.later (Below.refl _ _).drew
theorem BArg.drew {b : Bat} {ad : Option Addr} {len cap : Nat} (h : BArg w b ad len cap) : BArg w.drew b ad len cap := h.later (Below.refl _ _).drew
theorem lenN_small {b : Bat} (h : checkN b = 0) : 0 ≤ lenN b ∧ lenN b ≤ 64 := by
  have := checkN_nums h
  unfold lenN
  split
  · omega
  · omega
end Go.Proofs.YtdifchlbnilenaaGreat
