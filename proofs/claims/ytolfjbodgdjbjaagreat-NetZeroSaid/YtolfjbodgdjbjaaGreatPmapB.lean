/-
  Package p2m: contracts of New, Set, Clear, Hole.
-/
import Derived.Test.YtolfjbodgdjbjaaGreatPmapA
set_option linter.unusedSimpArgs false
set_option linter.unusedVariables false
namespace Go.Proofs.YtolfjbodgdjbjaaGreat
open Go.RowKit Gen
set_option maxHeartbeats 400000

/-- a map that a call made -/
def NewP (w : World) (M : Mp) (T : Nat) (v : Value) (w' : World) : Prop := ∃ b f p, v = .pointer (some ⟨b, 0, none⟩) ∧ PMap w' b f p M T ∧ w.grownBy w' none ∧ ∀ k, pfoot b f p k → w.heap.size ≤ k
/-- what a call leaves of the map -/
structure PLeft (b f p : Nat) (w : World) (M : Mp) (T : Nat) (w' : World) : Prop where
  map : PMap w' b f p M T
  chg : Chg (pfoot b f p) w w'

/-- Set -/
def Mp.setE (M : Mp) (g m : Int) : Mp × Int :=
  if (inPl M.n g && inFr m) = true then (if (M.fr g).isSome = true then (M, 30) else if (M.pl m).isSome = true then (M, 8) else (M.set g m, 0)) else (M, 1)
theorem Mp.setE_ok {M : Mp} (h : M.ok) (g m : Int) : (M.setE g m).1.ok := by
  unfold Mp.setE
  split
  · rename_i h1
    simp only [Bool.and_eq_true, inPl_yes, inFr_yes] at h1
    split
    · exact h
    · rename_i h2
      split
      · exact h
      · rename_i h3
        exact Mp.set_ok h h1.1.1 h1.1.2 h1.2.1 h1.2.2 (by simpa using h2) (by simpa using h3)
  · exact h
/-- Clear -/
def Mp.clearE (M : Mp) (g : Int) : Mp × Int × Int := match M.getE g with | (m, 0) => (M.clr g m, m, 0) | (_, e) => (M, 0, e)
theorem Mp.getE_cases (M : Mp) (g : Int) : (∃ m, inPl M.n g = true ∧ M.fr g = some m ∧ M.getE g = (m, 0) ∧ M.clearE g = (M.clr g m, m, 0)) ∨ (inPl M.n g = true ∧ M.fr g = none ∧ M.getE g = (0, 6) ∧ M.clearE g = (M, 0, 6)) ∨ (inPl M.n g = false ∧ M.getE g = (0, 1) ∧ M.clearE g = (M, 0, 1)) := by
  unfold Mp.clearE Mp.getE
  cases h : inPl M.n g with
  | true =>
    cases hf : M.fr g with
    | some m => exact .inl ⟨m, rfl, rfl, rfl, rfl⟩
    | none => exact .inr (.inl ⟨rfl, rfl, rfl, rfl⟩)
  | false => exact .inr (.inr ⟨rfl, rfl, rfl⟩)
theorem Mp.clearE_ok {M : Mp} (h : M.ok) (g : Int) : (M.clearE g).1.ok := by
  rcases M.getE_cases g with ⟨m, _, hf, _, e⟩ | ⟨_, _, _, e⟩ | ⟨_, _, e⟩
  · rw [e]; exact Mp.clr_ok h hf
  · rw [e]; exact h
  · rw [e]; exact h
/-- Hole -/
def Mp.holeE (M : Mp) : Int × Int := match (List.range M.n).find? (fun k : Nat => (M.fr (k : Int)).isNone) with | some k => ((k : Int), 0) | none => (0, 6)
theorem Mp.holeE_at {M : Mp} {k : Nat} (hk : k < M.n) (hb : ∀ j : Nat, j < k → (M.fr j).isSome = true) (hn : (M.fr k).isSome = false) : M.holeE = ((k : Int), 0) := by
  unfold Mp.holeE
  have : (List.range M.n).find? (fun k : Nat => (M.fr (k : Int)).isNone) = some k := by
    rw [List.find?_range_eq_some]
    refine ⟨by cases h : M.fr k <;> simp_all, by simpa using hk, fun j hj => ?_⟩
    have := hb j hj
    cases h : M.fr j <;> simp_all
  rw [this]
theorem Mp.holeE_none {M : Mp} (hb : ∀ j : Nat, j < M.n → (M.fr j).isSome = true) : M.holeE = (0, 6) := by
  unfold Mp.holeE
  have : (List.range M.n).find? (fun k : Nat => (M.fr (k : Int)).isNone) = none := by
    rw [List.find?_range_eq_none]
    intro j hj
    have := hb j hj
    cases h : M.fr j <;> simp_all
  rw [this]
end Go.Proofs.YtolfjbodgdjbjaaGreat
