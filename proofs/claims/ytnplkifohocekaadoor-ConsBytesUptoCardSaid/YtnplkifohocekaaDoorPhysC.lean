/-
  Contracts of package phys: Get, Put, Give, over a whole machine.
-/
import Derived.Test.YtnplkifohocekaaDoorPhysB
import Derived.Test.YtnplkifohocekaaDoorSpec
set_option linter.unusedSimpArgs false
set_option linter.unusedVariables false
namespace Go.Proofs.YtnplkifohocekaaDoor
open Go.RowKit
set_option maxHeartbeats 400000

theorem grownBy_drewN (w : World) (n : Nat) (row : Option Nat) : w.grownBy (w.drewN n) row := ⟨rfl, rfl, rfl, Nat.le_refl _, fun _ _ _ => rfl⟩
theorem PM.drewN {w : World} {b : Nat} {M : Mach} (h : PM w b M) (n : Nat) : PM (w.drewN n) b M := h.grown (grownBy_drewN w n none) (by simp)

/-- what a call on the machine leaves -/
def Left (b : Nat) (w : World) (r : Int) (M' : Mach) (e : Ending) (w' : World) : Prop := e = .returned (.int .i64 r) ∧ PM w' b M' ∧ w.grownBy w' (some b)

end Go.Proofs.YtnplkifohocekaaDoor
