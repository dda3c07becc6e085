/-
  Contracts of package phys: the iterator owned.
-/
import Derived.Test.YtolfjbodgdjbjaaGreatPhysF
import Derived.RangeFuncNested
import Derived.RangeFuncBound
import Derived.RangeFuncCalls
import Derived.RangeFuncLeaves
import Derived.Shelf.Abstract
import Derived.Shelf.RegionOpen
import Derived.OwnWalkIn
import Derived.TacticsInMore
import Derived.LoopNIn
import Derived.LoopIn
set_option linter.unusedSimpArgs false
set_option linter.unusedVariables false
namespace Go.Proofs.YtolfjbodgdjbjaaGreat
open Go.RowKit Go.Shelf
attribute [local go_sem] Oper.semAt_some
set_option maxHeartbeats 1000000

/-- the blocks that the iterator reads lie as they lay -/
def Kp3 (b B1 B2 : Nat) (W W' : World) : Prop := W'.heap[b]? = W.heap[b]? ∧ W'.heap[B1]? = W.heap[B1]? ∧ W'.heap[B2]? = W.heap[B2]?
theorem Kp3.trans {b B1 B2 : Nat} {A B C : World} (h : Kp3 b B1 B2 A B) (k : Kp3 b B1 B2 B C) : Kp3 b B1 B2 A C := ⟨k.1.trans h.1, k.2.1.trans h.2.1, k.2.2.trans h.2.2⟩
theorem Kp3.refl (b B1 B2 : Nat) (W : World) : Kp3 b B1 B2 W W := ⟨rfl, rfl, rfl⟩
theorem Kp3.grown {b B1 B2 : Nat} {W W' : World} {row : Option Nat} (hg : W.grownBy W' row) (h0 : b < W.heap.size) (h1 : B1 < W.heap.size) (h2 : B2 < W.heap.size) (r0 : some b ≠ row) (r1 : some B1 ≠ row) (r2 : some B2 ≠ row) : Kp3 b B1 B2 W W' :=
  ⟨hg.block b h0 r0, hg.block B1 h1 r1, hg.block B2 h2 r2⟩

/-- the frames that are the owner's, below k -/
def ownTo (M : Mach) (o : Int) (k : Nat) : List Nat := (List.range k).filter fun j => (M.fr j).owner == o
theorem ownTo_yes {M : Mach} {o : Int} {k : Nat} (h : (M.fr k).owner = o) : ownTo M o (k + 1) = ownTo M o k ++ [k] := by
  simp [ownTo, List.range_succ, List.filter_append, h]
theorem ownTo_no {M : Mach} {o : Int} {k : Nat} (h : (M.fr k).owner ≠ o) : ownTo M o (k + 1) = ownTo M o k := by
  simp [ownTo, List.range_succ, List.filter_append, h]
theorem ownTo_all (M : Mach) (o : Int) : ownTo M o M.n.toNat = M.ownedL o := rfl
theorem ownTo_prefix (M : Mach) (o : Int) {k n : Nat} (h : k ≤ n) : ownTo M o k <+: ownTo M o n := by
  obtain ⟨d, rfl⟩ := Nat.exists_eq_add_of_le h
  unfold ownTo
  rw [List.range_add, List.filter_append]
  exact List.prefix_append _ _
/-- a frame of the owner's -/
abbrev OwnFr (M : Mach) (o : Int) := { k : Nat // (k : Int) < M.n ∧ (M.fr k).owner = o }
def ownVals {M : Mach} {o : Int} (l : List (OwnFr M o)) : List Nat := l.map (·.1)

end Go.Proofs.YtolfjbodgdjbjaaGreat
