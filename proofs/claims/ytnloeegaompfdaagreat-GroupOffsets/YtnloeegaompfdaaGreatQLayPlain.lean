/- The library's contracts that this program's package calls, laid at it: which number has which function and type here. -/
import Derived.Shelf.SlicesE.Clone
import Derived.Ground.SlgnProg
import Derived.Test.YtnloeegaompfdaaGreatBase
namespace Go.Proofs.YtnloeegaompfdaaGreat
open Go.Shelf
def Tryz.cloneP_ren : Go.Shelf.Ren := ⟨fun | 41 => 22 | n => n, fun | 22 => 40 | 23 => 64 | 4 => 4 | n => n, fun | n => n⟩
theorem Tryz.cloneP : Go.Proofs.SlLaysE0.n41 Tryz.prog Tryz.cloneP_ren := {
  mixed := by kernel_rfl
  f41 := ⟨Tryz.f22.name, by decide, Tryz.func22.trans (congrArg some (by kernel_rfl))⟩
  t4 := Tryz.underlying4
  a4 := Tryz.isAgg4
  z4 := Tryz.sizeOf4
  v4 := Tryz.zeroValue4
  t22 := Tryz.underlying40
  a22 := Tryz.isAgg40
  z22 := Tryz.sizeOf40
  v22 := Tryz.zeroValue40 }
end Go.Proofs.YtnloeegaompfdaaGreat
