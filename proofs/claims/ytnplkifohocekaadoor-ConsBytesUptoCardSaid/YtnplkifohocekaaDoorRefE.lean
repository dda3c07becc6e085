/-
  Contracts of package tenementref01: Put.
-/
import Derived.Test.YtnplkifohocekaaDoorRefD
set_option linter.unusedSimpArgs false
set_option linter.unusedVariables false
namespace Go.Proofs.YtnplkifohocekaaDoor
open Go.RowKit
set_option maxHeartbeats 400000

end Go.Proofs.YtnplkifohocekaaDoor
