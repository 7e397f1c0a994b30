/- The library's contracts that this program's package calls, laid at it: which number has which function and type here. -/
import Derived.Shelf.SlicesE.Clone
import Derived.Ground.SlgnProg
import Derived.Test.YtiiepmljcjbflaaGreatBase
namespace Go.Proofs.YtiiepmljcjbflaaGreat
open Go.Shelf
def Tryz.cloneP_ren : Go.Shelf.Ren := ⟨fun | 41 => 46 | n => n, fun | 22 => 52 | 23 => 98 | 4 => 4 | n => n, fun | n => n⟩
theorem Tryz.cloneP : Go.Proofs.SlLaysE0.n41 Tryz.prog Tryz.cloneP_ren := {
  mixed := by kernel_rfl
  f41 := ⟨Tryz.f46.name, by decide, Tryz.func46.trans (congrArg some (by kernel_rfl))⟩
  t4 := Tryz.underlying4
  a4 := Tryz.isAgg4
  z4 := Tryz.sizeOf4
  v4 := Tryz.zeroValue4
  t22 := Tryz.underlying52
  a22 := Tryz.isAgg52
  z22 := Tryz.sizeOf52
  v22 := Tryz.zeroValue52 }
end Go.Proofs.YtiiepmljcjbflaaGreat
