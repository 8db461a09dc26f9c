/- slices.Delete, slices.Clone and bits.TrailingZeros64 as the seat's program has them: the tables of numbers, and that each body is the library's. -/
import Derived.Shelf.SlGeneric
import Derived.Shelf.SlicesE.Delete
import Derived.Shelf.SlicesE.Clone
import Derived.Shelf.Spec.TrailingZeros
import Derived.Test.YtjnjpjpgokdciaaDoorRows
namespace Go.Proofs
open Go.Shelf
def Tryd.laysDel_ren : Go.Shelf.Ren := ⟨fun | 45 => 49 | n => n, fun | 22 => 52 | 23 => 97 | 3 => 3 | 4 => 4 | 0 => 0 | n => n, fun | n => n⟩
theorem Tryd.laysDel : Go.Proofs.SlLaysE.n45 Tryd.prog Tryd.laysDel_ren := {
  mixed := by kernel_rfl
  f45 := ⟨Tryd.f49.name, by decide, Tryd.func49.trans (congrArg some (by kernel_rfl))⟩
  t0 := Tryd.underlying0
  a0 := Tryd.isAgg0
  z0 := Tryd.sizeOf0
  v0 := Tryd.zeroValue0
  t3 := Tryd.underlying3
  a3 := Tryd.isAgg3
  z3 := Tryd.sizeOf3
  v3 := Tryd.zeroValue3
  t4 := Tryd.underlying4
  a4 := Tryd.isAgg4
  z4 := Tryd.sizeOf4
  v4 := Tryd.zeroValue4
  t22 := Tryd.underlying52
  a22 := Tryd.isAgg52
  z22 := Tryd.sizeOf52
  v22 := Tryd.zeroValue52
  a23 := Tryd.isAgg97
  z23 := Tryd.sizeOf97 }
def Tryd.laysClP_ren : Go.Shelf.Ren := ⟨fun | 41 => 38 | n => n, fun | 22 => 52 | 23 => 97 | 4 => 4 | n => n, fun | n => n⟩
theorem Tryd.laysClP : Go.Proofs.SlLaysE0.n41 Tryd.prog Tryd.laysClP_ren := {
  mixed := by kernel_rfl
  f41 := ⟨Tryd.f38.name, by decide, Tryd.func38.trans (congrArg some (by kernel_rfl))⟩
  t4 := Tryd.underlying4
  a4 := Tryd.isAgg4
  z4 := Tryd.sizeOf4
  v4 := Tryd.zeroValue4
  t22 := Tryd.underlying52
  a22 := Tryd.isAgg52
  z22 := Tryd.sizeOf52
  v22 := Tryd.zeroValue52 }
def Tryd.laysClW_ren : Go.Shelf.Ren := ⟨fun | 41 => 51 | n => n, fun | 22 => 88 | 23 => 116 | 4 => 4 | n => n, fun | n => n⟩
theorem Tryd.laysClW : Go.Proofs.SlLaysE0.n41 Tryd.prog Tryd.laysClW_ren := {
  mixed := by kernel_rfl
  f41 := ⟨Tryd.f51.name, by decide, Tryd.func51.trans (congrArg some (by kernel_rfl))⟩
  t4 := Tryd.underlying4
  a4 := Tryd.isAgg4
  z4 := Tryd.sizeOf4
  v4 := Tryd.zeroValue4
  t22 := Tryd.underlying88
  a22 := Tryd.isAgg88
  z22 := Tryd.sizeOf88
  v22 := Tryd.zeroValue88 }
def Tryd.laysTz_ren : Go.Shelf.Ren := ⟨fun | 29 => 74 | n => n, fun | 22 => 116 | 3 => 3 | 4 => 4 | 25 => 129 | 54 => 131 | 0 => 0 | 5 => 5 | n => n, fun | 1 => 0 | n => n⟩
theorem Tryd.laysTz : Go.Proofs.Lays7.n29 Tryd.prog Tryd.laysTz_ren := {
  mixed := by kernel_rfl
  f29 := Tryd.func74.trans (congrArg some (by kernel_rfl))
  t0 := Tryd.underlying0
  a0 := Tryd.isAgg0
  z0 := Tryd.sizeOf0
  v0 := Tryd.zeroValue0
  i0 := by kernel_rfl
  t3 := Tryd.underlying3
  a3 := Tryd.isAgg3
  z3 := Tryd.sizeOf3
  v3 := Tryd.zeroValue3
  i3 := by kernel_rfl
  t4 := Tryd.underlying4
  a4 := Tryd.isAgg4
  z4 := Tryd.sizeOf4
  v4 := Tryd.zeroValue4
  i4 := by kernel_rfl
  t5 := Tryd.underlying5
  a5 := Tryd.isAgg5
  z5 := Tryd.sizeOf5
  v5 := Tryd.zeroValue5
  i5 := by kernel_rfl
  t22 := Tryd.underlying116
  a22 := Tryd.isAgg116
  z22 := Tryd.sizeOf116
  v22 := Tryd.zeroValue116
  i22 := by kernel_rfl
  t25 := Tryd.underlying129
  a25 := Tryd.isAgg129
  z25 := Tryd.sizeOf129
  v25 := Tryd.zeroValue129
  i25 := by kernel_rfl
  t54 := Tryd.underlying131
  a54 := Tryd.isAgg131
  z54 := Tryd.sizeOf131
  g1 := by kernel_rfl }
end Go.Proofs
