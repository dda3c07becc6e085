/-
  Package bridge: maps.DeleteFunc of Down, learn, direct, Send.
-/
import Derived.Test.YtolfjbodgdjbjaaGreatBrE
import Derived.Maps.Ext
import Derived.Laws.IdiomRangeMap
import Derived.Deep.LoopGhost
set_option linter.unusedSimpArgs false
set_option linter.unusedVariables false
namespace Go.Proofs.YtolfjbodgdjbjaaGreat.Br
open Go.RowKit Gen Bk Go.Maps
set_option maxHeartbeats 4000000

section
variable {C : Nat → Prop} {lab lab' : Nat → Nat} {w w' : World} {b g m : Nat} {lq : Nat → Lq} {S : Sw} {k : Nat} {s : Sd} {T : Nat}
end
end Go.Proofs.YtolfjbodgdjbjaaGreat.Br
