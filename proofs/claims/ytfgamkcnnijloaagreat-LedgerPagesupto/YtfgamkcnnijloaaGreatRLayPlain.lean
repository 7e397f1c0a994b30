/- The library's contracts that this program's package calls, laid at it: which number has which function and type here. -/
import Derived.Shelf.SlicesE.Clone
import Derived.Ground.SlgnProg
import Derived.Test.YtfgamkcnnijloaaGreatBase
namespace Go.Proofs.YtfgamkcnnijloaaGreat
open Go.Shelf
def Tryz.cloneR_ren : Go.Shelf.Ren := ⟨fun | 41 => 41 | n => n, fun | 22 => 46 | 23 => 51 | 4 => 4 | n => n, fun | n => n⟩
theorem Tryz.cloneR : Go.Proofs.SlLaysE0.n41 Tryz.prog Tryz.cloneR_ren := {
  mixed := by kernel_rfl
  f41 := ⟨Tryz.f41.name, by decide, Tryz.func41.trans (congrArg some (by kernel_rfl))⟩
  t4 := Tryz.underlying4
  a4 := Tryz.isAgg4
  z4 := Tryz.sizeOf4
  v4 := Tryz.zeroValue4
  t22 := Tryz.underlying46
  a22 := Tryz.isAgg46
  z22 := Tryz.sizeOf46
  v22 := Tryz.zeroValue46 }
end Go.Proofs.YtfgamkcnnijloaaGreat
