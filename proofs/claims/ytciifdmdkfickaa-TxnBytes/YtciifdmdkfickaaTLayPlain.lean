/- The library's contracts that this program's package calls, laid at it: which number has which function and type here. -/
import Derived.Shelf.SlicesE.Delete
import Derived.Shelf.SlicesG.SearchI
import Derived.Shelf.Spec.SlicesInsert
import Derived.Shelf.Spec.SlicesInsertGrow
import Derived.Ground.SlgnProg
import Derived.Ground.Names2Prog
import Derived.Test.YtciifdmdkfickaaBase
namespace Go.Proofs.Ytciifdmdkfickaa
open Go.Shelf
def Try.deleteZ_ren : Go.Shelf.Ren := ⟨fun | 45 => 86 | n => n, fun | 22 => 74 | 23 => 3 | 3 => 3 | 4 => 4 | 0 => 0 | n => n, fun | n => n⟩
theorem Try.deleteZ : Go.Proofs.SlLaysE.n45 Try.prog Try.deleteZ_ren := {
  mixed := by kernel_rfl
  f45 := ⟨Try.f86.name, by decide, Try.func86.trans (congrArg some (by kernel_rfl))⟩
  t0 := Try.underlying0
  a0 := Try.isAgg0
  z0 := Try.sizeOf0
  v0 := Try.zeroValue0
  t3 := Try.underlying3
  a3 := Try.isAgg3
  z3 := Try.sizeOf3
  v3 := Try.zeroValue3
  t4 := Try.underlying4
  a4 := Try.isAgg4
  z4 := Try.sizeOf4
  v4 := Try.zeroValue4
  t22 := Try.underlying74
  a22 := Try.isAgg74
  z22 := Try.sizeOf74
  v22 := Try.zeroValue74
  a23 := Try.isAgg3
  z23 := Try.sizeOf3 }
def Try.searchZ_ren : Go.Shelf.Ren := ⟨fun | 49 => 84 | 59 => 89 | 60 => 90 | 68 => 93 | n => n, fun | 22 => 74 | 23 => 3 | 3 => 3 | 4 => 4 | 51 => 88 | 0 => 0 | n => n, fun | n => n⟩
theorem Try.searchZ : Go.Proofs.SlLaysN.n49 Try.prog Try.searchZ_ren := {
  mixed := by kernel_rfl
  f49 := ⟨Try.f84.name, by decide, Try.func84.trans (congrArg some (by kernel_rfl))⟩
  f59 := ⟨Try.f89.name, by decide, Try.func89.trans (congrArg some (by kernel_rfl))⟩
  f60 := ⟨Try.f90.name, by decide, Try.func90.trans (congrArg some (by kernel_rfl))⟩
  f68 := ⟨Try.f93.name, by decide, Try.func93.trans (congrArg some (by kernel_rfl))⟩
  t0 := Try.underlying0
  a0 := Try.isAgg0
  z0 := Try.sizeOf0
  v0 := Try.zeroValue0
  t3 := Try.underlying3
  a3 := Try.isAgg3
  z3 := Try.sizeOf3
  v3 := Try.zeroValue3
  t4 := Try.underlying4
  a4 := Try.isAgg4
  z4 := Try.sizeOf4
  v4 := Try.zeroValue4
  t22 := Try.underlying74
  a22 := Try.isAgg74
  z22 := Try.sizeOf74
  v22 := Try.zeroValue74
  t23 := Try.underlying3
  a23 := Try.isAgg3
  z23 := Try.sizeOf3
  v23 := Try.zeroValue3
  t51 := Try.underlying88
  a51 := Try.isAgg88
  z51 := Try.sizeOf88
  v51 := Try.zeroValue88 }
def Try.insertZ_ren : Go.Shelf.Ren := ⟨fun | 21 => 85 | 27 => 91 | 28 => 92 | 35 => 94 | 39 => 95 | n => n, fun | 22 => 74 | 3 => 3 | 4 => 4 | 0 => 0 | n => n, fun | n => n⟩
theorem Try.insertZ : Go.Proofs.Lays2.n21 Try.prog Try.insertZ_ren := {
  mixed := by kernel_rfl
  f21 := Try.func85.trans (congrArg some (by kernel_rfl))
  f27 := Try.func91.trans (congrArg some (by kernel_rfl))
  f28 := Try.func92.trans (congrArg some (by kernel_rfl))
  f35 := Try.func94.trans (congrArg some (by kernel_rfl))
  f39 := Try.func95.trans (congrArg some (by kernel_rfl))
  t0 := Try.underlying0
  a0 := Try.isAgg0
  z0 := Try.sizeOf0
  v0 := Try.zeroValue0
  t3 := Try.underlying3
  a3 := Try.isAgg3
  z3 := Try.sizeOf3
  v3 := Try.zeroValue3
  t4 := Try.underlying4
  a4 := Try.isAgg4
  z4 := Try.sizeOf4
  v4 := Try.zeroValue4
  t22 := Try.underlying74
  a22 := Try.isAgg74
  z22 := Try.sizeOf74
  v22 := Try.zeroValue74
  i3 := by kernel_rfl }
end Go.Proofs.Ytciifdmdkfickaa
