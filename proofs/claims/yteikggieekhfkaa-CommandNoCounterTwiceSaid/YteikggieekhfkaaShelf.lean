/- what the library's functions are at this program: plain words for the shelf's contracts. -/
import Derived.Test.YteikggieekhfkaaWords
import Derived.Shelf.Slices.SearchI
import Derived.Shelf.Spec.SlicesInsertGrow
namespace Go.Proofs.Yteikggieekhfkaa
open Go.Shelf

def Try.lays21_ren : Go.Shelf.Ren := ⟨fun | 21 => 99 | 27 => 108 | 28 => 109 | 35 => 111 | 39 => 112 | n => n, fun | 22 => 56 | 3 => 3 | 4 => 4 | 0 => 0 | n => n, fun | n => n⟩
theorem Try.lays21 : Go.Proofs.Lays2.n21 Try.prog Try.lays21_ren := {
  mixed := by kernel_rfl
  f21 := Try.func99.trans (congrArg some (by kernel_rfl))
  f27 := Try.func108.trans (congrArg some (by kernel_rfl))
  f28 := Try.func109.trans (congrArg some (by kernel_rfl))
  f35 := Try.func111.trans (congrArg some (by kernel_rfl))
  f39 := Try.func112.trans (congrArg some (by kernel_rfl))
  t0 := Try.underlying0
  a0 := Try.isAgg0
  z0 := Try.sizeOf0
  v0 := Try.zeroValue0
  t3 := Try.underlying3
  a3 := Try.isAgg3
  z3 := Try.sizeOf3
  v3 := Try.zeroValue3
  t4 := Try.underlying4
  a4 := Try.isAgg4
  z4 := Try.sizeOf4
  v4 := Try.zeroValue4
  t22 := Try.underlying56
  a22 := Try.isAgg56
  z22 := Try.sizeOf56
  v22 := Try.zeroValue56
  i3 := by kernel_rfl }
def Try.lays25_ren : Go.Shelf.Ren := ⟨fun | 25 => 98 | 31 => 106 | 32 => 107 | 37 => 110 | n => n, fun | 22 => 56 | 3 => 3 | 4 => 4 | 40 => 124 | 0 => 0 | n => n, fun | n => n⟩
theorem Try.lays25 : Go.Proofs.Lays2.n25 Try.prog Try.lays25_ren := {
  mixed := by kernel_rfl
  f25 := Try.func98.trans (congrArg some (by kernel_rfl))
  f31 := Try.func106.trans (congrArg some (by kernel_rfl))
  f32 := Try.func107.trans (congrArg some (by kernel_rfl))
  f37 := Try.func110.trans (congrArg some (by kernel_rfl))
  t0 := Try.underlying0
  a0 := Try.isAgg0
  z0 := Try.sizeOf0
  v0 := Try.zeroValue0
  t3 := Try.underlying3
  a3 := Try.isAgg3
  z3 := Try.sizeOf3
  v3 := Try.zeroValue3
  t4 := Try.underlying4
  a4 := Try.isAgg4
  z4 := Try.sizeOf4
  v4 := Try.zeroValue4
  t22 := Try.underlying56
  a22 := Try.isAgg56
  z22 := Try.sizeOf56
  v22 := Try.zeroValue56
  t40 := Try.underlying124
  a40 := Try.isAgg124
  z40 := Try.sizeOf124
  v40 := Try.zeroValue124 }
end Go.Proofs.Yteikggieekhfkaa
