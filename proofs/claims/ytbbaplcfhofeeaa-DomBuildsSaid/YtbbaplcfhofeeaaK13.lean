/-
  Package mmu: where an entry is not changed; a row of changes.
-/
import Derived.Test.YtbbaplcfhofeeaaK12
set_option linter.unusedSimpArgs false
set_option linter.unusedVariables false
namespace Go.Proofs.Ytbbaplcfhofeeaa
open Go.RowKit
set_option maxHeartbeats 2000000

end Go.Proofs.Ytbbaplcfhofeeaa
