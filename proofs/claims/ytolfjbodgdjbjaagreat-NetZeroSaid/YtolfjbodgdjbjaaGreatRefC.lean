/-
  Contracts of package tenementref01: Alloc, Get, Put.
-/
import Derived.Test.YtolfjbodgdjbjaaGreatRefB
set_option linter.unusedSimpArgs false
set_option linter.unusedVariables false
namespace Go.Proofs.YtolfjbodgdjbjaaGreat
open Go.RowKit
set_option maxHeartbeats 400000

theorem row_cellN {base : Nat} {W : World} {e : TypeId} {v : Value} {l : List Nat} (h : W.ownsRow base e 1 v l.length (icells l)) {j : Nat} (hl : j < l.length) :
    ∃ g c, v = .slice (some ⟨g, 0, none⟩) l.length c ∧ W.cell? ⟨g, j, none⟩ = some (.int .i64 (l[j] : Nat)) := by
  obtain ⟨n, hn⟩ : ∃ m, l.length = m + 1 := ⟨l.length - 1, by omega⟩
  rw [hn] at h
  obtain ⟨g, cap, rfl⟩ := ownsRow_succ h
  refine ⟨g, cap, by rw [hn], ?_⟩
  rw [h.cellAt j (by omega)]
  simp [icells, hl]

end Go.Proofs.YtolfjbodgdjbjaaGreat
