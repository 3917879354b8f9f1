/-
  prog: ProgFirst walked, for a short program.
-/
import Derived.Test.YtnnpbbiiapipaaaO13
namespace Go.Proofs.Ytnnpbbiiapipaaa
open Go.RowKit Go.Lib

end Go.Proofs.Ytnnpbbiiapipaaa
