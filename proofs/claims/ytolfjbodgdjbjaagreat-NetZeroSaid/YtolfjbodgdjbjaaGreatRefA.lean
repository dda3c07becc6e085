/-
  Contracts of package tenementref01: Is, Domain, still, In.
-/
import Derived.Test.YtolfjbodgdjbjaaGreatRefM
set_option linter.unusedSimpArgs false
set_option linter.unusedVariables false
namespace Go.Proofs.YtolfjbodgdjbjaaGreat
open Go.RowKit
set_option maxHeartbeats 400000

end Go.Proofs.YtolfjbodgdjbjaaGreat
