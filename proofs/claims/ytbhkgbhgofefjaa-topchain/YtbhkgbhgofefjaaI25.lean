/- slices.Delete of one from a line. -/
import Derived.Shelf.SlicesE.Delete
import Derived.Test.YtbhkgbhgofefjaaI24
namespace Go.Proofs.Ytbhkgbhgofefjaa
open Go.RowKit Go.Lib Go.Shelf
set_option linter.unusedVariables false
def renD : Ren := ⟨fun x => if x = 45 then 51 else x, fun x => if x = 0 then 0 else if x = 3 then 3 else if x = 4 then 4 else if x = 22 then 31 else if x = 23 then 3 else x, fun x => x⟩
theorem laysD : SlLaysE.n45 Try.prog renD where
  mixed := by kernel_rfl
  f45 := ⟨"slices.Delete[[]int,int]", by decide, by kernel_rfl⟩
  t0 := Try.underlying0
  a0 := Try.isAgg0
  z0 := Try.sizeOf0
  v0 := Try.zeroValue0
  t3 := Try.underlying3
  a3 := Try.isAgg3
  z3 := Try.sizeOf3
  v3 := Try.zeroValue3
  t4 := Try.underlying4
  a4 := Try.isAgg4
  z4 := Try.sizeOf4
  v4 := Try.zeroValue4
  t22 := Try.underlying31
  a22 := Try.isAgg31
  z22 := Try.sizeOf31
  v22 := Try.zeroValue31
  a23 := Try.isAgg3
  z23 := Try.sizeOf3
end Go.Proofs.Ytbhkgbhgofefjaa
