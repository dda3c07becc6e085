/-
  Contracts of the functions of package phys on one frame.
-/
import Derived.Test.YtnplkifohocekaaDoorPhysA
set_option linter.unusedSimpArgs false
set_option linter.unusedVariables false
namespace Go.Proofs.YtnplkifohocekaaDoor
open Go.RowKit
set_option maxHeartbeats 400000

end Go.Proofs.YtnplkifohocekaaDoor
