/-
  A guest's rewrites as plain functions on the machine. No walk here.
-/
import Derived.Test.YtnplkifohocekaaDoorRefJ
set_option linter.unusedSimpArgs false
set_option linter.unusedVariables false
namespace Go.Proofs.YtnplkifohocekaaDoor
open Go.RowKit

/-- a rewrite: ahead of which read, where, what -/
structure PokeV where
  t : Int
  i : Int
  off : Int
  l : List UInt8
/-- may a guest write the frame? -/
def Fr.may (f : Fr) : Bool := decide (0 ≤ f.owner) && (f.ty != 2) && (f.ty != 3)
def Mach.may (M : Mach) (i : Int) : Bool := M.is i && (M.fr i.toNat).may
def Mach.rew (M : Mach) (p : PokeV) : Mach := if M.may p.i = true then (M.write p.i p.off p.l).2 else M
def Mach.rews (M : Mach) (ps : List PokeV) : Mach := ps.foldl Mach.rew M
def due (l : List PokeV) (t : Int) : List PokeV := l.filter fun p => p.t == t
theorem Mach.rew_ok {M : Mach} {T : Int} (h : M.ok T) (p : PokeV) : (M.rew p).ok T := by
  unfold Mach.rew; split
  · exact Mach.write_ok h _ _ _
  · exact h
theorem Mach.vwrite_n (M : Mach) (i o : Int) (l : List UInt8) : (M.write i o l).2.n = M.n := by unfold Mach.write; (repeat' split) <;> rfl
theorem Mach.rew_n (M : Mach) (p : PokeV) : (M.rew p).n = M.n := by
  unfold Mach.rew; split
  · exact Mach.vwrite_n _ _ _ _
  · rfl
theorem Mach.rews_ok {T : Int} : ∀ (ps : List PokeV) {M : Mach}, M.ok T → (M.rews ps).ok T
  | [], _, h => h
  | p :: ps, _, h => Mach.rews_ok ps (Mach.rew_ok h p)
theorem Mach.rews_n : ∀ (ps : List PokeV) (M : Mach), (M.rews ps).n = M.n
  | [], _ => rfl
  | p :: ps, M => (Mach.rews_n ps (M.rew p)).trans (M.rew_n p)
theorem Mach.rews_snoc (M : Mach) (ps : List PokeV) (p : PokeV) : M.rews (ps ++ [p]) = (M.rews ps).rew p := by simp [Mach.rews, List.foldl_append]
theorem due_snoc_yes {l : List PokeV} {p : PokeV} {t : Int} (h : p.t = t) : due (l ++ [p]) t = due l t ++ [p] := by simp [due, h]
theorem due_snoc_no {l : List PokeV} {p : PokeV} {t : Int} (h : p.t ≠ t) : due (l ++ [p]) t = due l t := by simp [due, h]
theorem due_app (l l' : List PokeV) (t : Int) : due (l ++ l') t = due l t ++ due l' t := by simp [due]
/-- what a rewrite leaves of a frame -/
theorem Mach.rew_fr (M : Mach) (p : PokeV) (j : Nat) : ((M.rew p).fr j).owner = (M.fr j).owner ∧ ((M.rew p).fr j).ty = (M.fr j).ty ∧ ((M.fr j).may = false → (M.rew p).fr j = M.fr j) := by
  unfold Mach.rew
  split
  · rename_i hm
    unfold Mach.write
    split
    · exact ⟨rfl, rfl, fun _ => rfl⟩
    split
    · exact ⟨rfl, rfl, fun _ => rfl⟩
    split
    · exact ⟨rfl, rfl, fun _ => rfl⟩
    by_cases e : j = p.i.toNat
    · subst e
      simp only [Mach.upd_same]
      refine ⟨rfl, rfl, fun h => ?_⟩
      simp only [Mach.may, Bool.and_eq_true] at hm
      rw [hm.2] at h; cases h
    · simp only [Mach.upd_other _ _ _ _ e]
      exact ⟨trivial, trivial, fun _ => trivial⟩
  · exact ⟨rfl, rfl, fun _ => rfl⟩
theorem Mach.rews_fr : ∀ (ps : List PokeV) (M : Mach) (j : Nat), ((M.rews ps).fr j).owner = (M.fr j).owner ∧ ((M.rews ps).fr j).ty = (M.fr j).ty ∧ ((M.fr j).may = false → (M.rews ps).fr j = M.fr j)
  | [], _, _ => ⟨rfl, rfl, fun _ => rfl⟩
  | p :: ps, M, j => by
    obtain ⟨h1, h2, h3⟩ := M.rew_fr p j
    obtain ⟨g1, g2, g3⟩ := Mach.rews_fr ps (M.rew p) j
    refine ⟨g1.trans h1, g2.trans h2, fun h => (g3 ?_).trans (h3 h)⟩
    unfold Fr.may at h ⊢
    rw [h1, h2]; exact h
end Go.Proofs.YtnplkifohocekaaDoor
