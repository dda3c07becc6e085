/-
  Package blk: two requests compared.
-/
import Derived.Test.YtoeohbiofmcdeaaBkR
import Derived.Test.YtoeohbiofmcdeaaBkD
import Derived.Test.YtoeohbiofmcdeaaBkI
set_option linter.unusedSimpArgs false
set_option linter.unusedVariables false
namespace Go.Proofs.Ytoeohbiofmcdeaa.Bk
open Go.RowKit Gen
set_option maxHeartbeats 4000000

set_option maxRecDepth 100000 in
theorem lReqs (a b c : Int) (s : List Seg) (p q : Option Addr) (cp cq : Nat) (w : World) (hl : s.length ≤ 16777216) (hp : SA w p s) (hq : SA w q s) :
    Calls Try.prog 12 #[.agg #[.int .i64 a, .int .i64 b, .int .i64 c, .slice p s.length cp], .agg #[.int .i64 a, .int .i64 b, .int .i64 c, .slice q s.length cq]] w fun e w' => e = .returned (.bool true) ∧ w.grownBy w' none := by
  obtain ⟨W, hW⟩ : ∃ W, w.alloc (.cells #[.int .i64 a, .int .i64 b, .int .i64 c, .slice p s.length cp] 24) = W := ⟨_, rfl⟩
  have g1 : w.grownBy W none := hW ▸ World.grownBy_alloc _ _ _
  obtain ⟨W2, hW2⟩ : ∃ W2, W.alloc (.cells #[.int .i64 a, .int .i64 b, .int .i64 c, .slice q s.length cq] 24) = W2 := ⟨_, rfl⟩
  have g2 : W.grownBy W2 none := hW2 ▸ World.grownBy_alloc _ _ _
  have r1 := (rowQ hW).grown g2 (by simp)
  have r2 := rowQ hW2
  have c0 := r1.cell (k := 0) (by omega); have c1 := r1.cell (k := 1) (by omega); have c2 := r1.cell (k := 2) (by omega); have c3 := r1.cell (k := 3) (by omega)
  have d0 := r2.cell (k := 0) (by omega); have d1 := r2.cell (k := 1) (by omega); have d2 := r2.cell (k := 2) (by omega); have d3 := r2.cell (k := 3) (by omega)
  simp only [rqV] at c0 c1 c2 c3 d0 d1 d2 d3
  have HS := hid (lSegs_eq s p q cp cq W2 (hp.grown (g1.trans g2)) (hq.grown (g1.trans g2)) hl)
  have HG := hid (g1.trans g2)
  clear r1 r2 hp hq hl g1 g2
  go_enter Try.func12, Try.ntmps12
  go_wp2_with (go_at_call 34; refine HS.out.mono ?_; rintro e w' ⟨rfl, n, rfl⟩)
  go_ret
  exact ⟨rfl, HG.out.trans (grownBy_drewN _ _ none)⟩
end Go.Proofs.Ytoeohbiofmcdeaa.Bk
