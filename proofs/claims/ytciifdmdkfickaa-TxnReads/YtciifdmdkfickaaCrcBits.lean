/- The sum of bytes, its last step in the machine's own words. -/
import Derived.Test.YtciifdmdkfickaaBase
import Derived.Test.YtciifdmdkfickaaCrc
namespace Go.Proofs.Ytciifdmdkfickaa
open Go.RowKit Crcm

theorem not_nat (r : Nat) (h : r < 4294967296) : 4294967295 ^^^ r = 4294967295 - r := by
  have e : (~~~ (BitVec.ofNat 32 r)).toNat = (BitVec.allOnes 32 ^^^ BitVec.ofNat 32 r).toNat := by rw [BitVec.not_def]
  rw [BitVec.toNat_not, BitVec.toNat_xor, BitVec.toNat_allOnes, BitVec.toNat_ofNat, Nat.mod_eq_of_lt (by omega)] at e
  exact e.symm
theorem not_eq (r : Nat) (h : r < 4294967296) : bits .xor .u32 IntKind.u32.max (r : Int) = ((4294967295 - r : Nat) : Int) := by
  rw [← not_nat r h]
  exact u32_xor_nat 4294967295 r (by omega) h
end Go.Proofs.Ytciifdmdkfickaa
