/- the library's slices.Insert and slices.BinarySearch at []int, by their contracts -/
import Derived.Test.YtochgmbeomfkpaaProg
import Derived.WalkKit
import Derived.Shelf.Spec.SlicesInsertGrow
import Derived.Shelf.Slices.SearchI
namespace Go.Proofs.Ytochgmbeomfkpaa
open Go.RowKit Go.Shelf

/-- The numbers that the contracts' names have here. -/
def renT : Ren := ⟨fun | 21 => 86 | 27 => 99 | 28 => 100 | 35 => 108 | 39 => 110 | 25 => 85 | 31 => 97 | 32 => 98 | 37 => 107 | _ => 0,
  fun | 0 => 0 | 3 => 3 | 4 => 4 | 22 => 26 | 40 => 129 | _ => 0, fun x => x⟩
set_option maxRecDepth 100000 in
theorem laysInsert : Lays2.n21 Try.prog renT where
  mixed := by kernel_rfl
  f21 := Try.func86.trans (congrArg some (by kernel_rfl))
  f27 := Try.func99.trans (congrArg some (by kernel_rfl))
  f28 := Try.func100.trans (congrArg some (by kernel_rfl))
  f35 := Try.func108.trans (congrArg some (by kernel_rfl))
  f39 := Try.func110.trans (congrArg some (by kernel_rfl))
  t0 := Try.underlying0
  a0 := Try.isAgg0
  z0 := Try.sizeOf0
  v0 := Try.zeroValue0
  t3 := Try.underlying3
  a3 := Try.isAgg3
  z3 := Try.sizeOf3
  v3 := Try.zeroValue3
  t4 := Try.underlying4
  a4 := Try.isAgg4
  z4 := Try.sizeOf4
  v4 := Try.zeroValue4
  t22 := Try.underlying26
  a22 := Try.isAgg26
  z22 := Try.sizeOf26
  v22 := Try.zeroValue26
  i3 := by kernel_rfl
set_option maxRecDepth 100000 in
theorem laysSearch : Lays2.n25 Try.prog renT where
  mixed := by kernel_rfl
  f25 := Try.func85.trans (congrArg some (by kernel_rfl))
  f31 := Try.func97.trans (congrArg some (by kernel_rfl))
  f32 := Try.func98.trans (congrArg some (by kernel_rfl))
  f37 := Try.func107.trans (congrArg some (by kernel_rfl))
  t0 := Try.underlying0
  a0 := Try.isAgg0
  z0 := Try.sizeOf0
  v0 := Try.zeroValue0
  t3 := Try.underlying3
  a3 := Try.isAgg3
  z3 := Try.sizeOf3
  v3 := Try.zeroValue3
  t4 := Try.underlying4
  a4 := Try.isAgg4
  z4 := Try.sizeOf4
  v4 := Try.zeroValue4
  t22 := Try.underlying26
  a22 := Try.isAgg26
  z22 := Try.sizeOf26
  v22 := Try.zeroValue26
  t40 := Try.underlying129
  a40 := Try.isAgg129
  z40 := Try.sizeOf129
  v40 := Try.zeroValue129

end Go.Proofs.Ytochgmbeomfkpaa
