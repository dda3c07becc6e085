/-
  What a law's lift wants: the library's own variable holds a number.
-/
import Derived.Test.YtmnolfaejneomaaDoorPaC
import Derived.Test.YtmnolfaejneomaaDoorOpen
import Derived.Test.YtmnolfaejneomaaDoorChecked
import Derived.Shelf.Vars
set_option linter.unusedSimpArgs false
set_option linter.unusedVariables false
namespace Go.Proofs.YtmnolfaejneomaaDoor
open Go.RowKit
theorem ml_of {w : World} (h : w.ShapedOpen Tryd.prog) : Ml w := by
  obtain ⟨m, hm⟩ := cell_of_shapedOpen_int (g := 0) (t := 3) (zero := #[.int .i64 0]) (k := .i64) h (by decide +kernel) (by kernel_rfl) rfl (by kernel_rfl) (by kernel_rfl) Tryd.underlying3
  exact ⟨World.block_lt_of_cell? w _ hm, m, hm⟩
end Go.Proofs.YtmnolfaejneomaaDoor
