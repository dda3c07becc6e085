/-
  Contracts of package tenementref01: Owned, Left, Alloc, Free, Give.
-/
import Derived.Test.YtolfjbodgdjbjaaGreatRefA
import Derived.Deep.RegionLaw
import Derived.Deep.RegionWith
set_option linter.unusedSimpArgs false
set_option linter.unusedVariables false
namespace Go.Proofs.YtolfjbodgdjbjaaGreat
open Go.RowKit
set_option maxHeartbeats 400000

def partL (M : Mach) (o : Int) (k : Nat) : List Nat := (List.range k).filter fun j => (M.fr j).owner == o
theorem partL_all {M : Mach} {L : Lay} (h : M.n = L.n) (o : Int) : M.ownedL o = partL M o L.n := by
  unfold Mach.ownedL partL
  rw [h]; rfl
theorem partL_le (M : Mach) (o : Int) (k : Nat) : (partL M o k).length ≤ k := by
  have := List.length_filter_le (fun j => (M.fr j).owner == o) (List.range k)
  simpa [partL] using this
theorem partL_in {M : Mach} {o : Int} {k : Nat} (h : ((M.fr k).owner == o) = true) : partL M o (k + 1) = partL M o k ++ [k] := by
  simp [partL, List.range_succ, h]
theorem partL_out {M : Mach} {o : Int} {k : Nat} (h : ((M.fr k).owner == o) = false) : partL M o (k + 1) = partL M o k := by
  simp [partL, List.range_succ, h]

theorem newInts_slice {w w' : World} {l : List Nat} {v : Value} (h : NewInts w l v w') : ∃ p c, v = .slice p l.length c := ownsRow_slice h.1
theorem chgF (b : Nat) (L : Lay) (w : World) (k : Nat) (v : Value) : Chg (L.foot b) w (w.setCell ⟨L.fF, k, none⟩ v) := Chg.of (grownBy_setCell w L.fF k none v) fun j e => .inl (.inr (.inl (Option.some.inj e).symm))

end Go.Proofs.YtolfjbodgdjbjaaGreat
