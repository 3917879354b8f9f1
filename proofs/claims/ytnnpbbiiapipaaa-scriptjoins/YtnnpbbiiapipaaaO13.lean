/-
  prog: ProgFirst walked, for a long program and for a short one.
-/
import Derived.Test.YtnnpbbiiapipaaaO12
namespace Go.Proofs.Ytnnpbbiiapipaaa
open Go.RowKit Go.Lib

theorem info_instr : (Try.prog.info? 64).map (fun i => (i.zero, i.size, i.bytes)) = some (some (.agg #[.int .i64 0, .int .i64 0]), 2, 16) := by kernel_rfl
end Go.Proofs.Ytnnpbbiiapipaaa
