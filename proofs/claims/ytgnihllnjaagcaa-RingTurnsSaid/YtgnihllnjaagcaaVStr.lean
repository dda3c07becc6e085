/-
  Bytes as strings; a machine behind reads. No walk here.
-/
import Derived.Test.YtgnihllnjaagcaaVOpen
import Derived.Test.YtgnihllnjaagcaaViewE
import Derived.Test.YtgnihllnjaagcaaStr
import Derived.Laws.IdiomStrings
set_option linter.unusedSimpArgs false
set_option linter.unusedVariables false
namespace Go.Proofs.Ytgnihllnjaagcaa
open Go.RowKit
set_option maxHeartbeats 1000000

theorem kept_string {w : World} {S : Nat → Prop} {l : List UInt8} {p : Option Addr} (h : KeptBytes w S p l) (c : Nat) (W : World) (hg : w.grownBy W none) : (convert 31 9 (.slice p l.length c)).run Try.prog W = .ok (.string ⟨l.toArray⟩) W := by
  rcases h with rfl | ⟨g, rfl, _, hc⟩
  · exact vconv_empty W _ _
  · exact vconv_row W g 0 _ _ _ rfl fun k hk => by rw [Nat.zero_add]; exact hg.cell (hc k hk) (by simp)

/-- the machine behind k reads -/
def Mach.after (M : Mach) (l : List PokeV) : Nat → Mach
  | 0 => M
  | k + 1 => (M.after l k).rews (due l k)
theorem Mach.after_ok {M : Mach} {T : Int} (h : M.ok T) (l : List PokeV) (k : Nat) : (M.after l k).ok T := by
  induction k with
  | zero => exact h
  | succ k ih => exact Mach.rews_ok _ ih
theorem Mach.after_n (M : Mach) (l : List PokeV) (k : Nat) : (M.after l k).n = M.n := by
  induction k with
  | zero => rfl
  | succ k ih => exact (Mach.rews_n _ _).trans ih
theorem Mach.after_fr (M : Mach) (l : List PokeV) (k j : Nat) : ((M.after l k).fr j).owner = (M.fr j).owner ∧ ((M.after l k).fr j).ty = (M.fr j).ty ∧ ((M.fr j).may = false → (M.after l k).fr j = M.fr j) := by
  induction k with
  | zero => exact ⟨rfl, rfl, fun _ => rfl⟩
  | succ k ih =>
    obtain ⟨h1, h2, h3⟩ := ih
    obtain ⟨g1, g2, g3⟩ := Mach.rews_fr (due l k) (M.after l k) j
    refine ⟨g1.trans h1, g2.trans h2, fun h => (g3 ?_).trans (h3 h)⟩
    unfold Fr.may at h ⊢
    rw [h1, h2]; exact h
theorem read_page (M : Mach) (j : Nat) (hj : (j : Int) < M.n) : M.read j 0 256 = ((M.fr j).part 0 256, 0) := by
  unfold Mach.read
  rw [if_neg (by rw [Mach.is_yes (by omega) hj]; simp), if_neg (by rw [inP_yes (by omega) (by omega) (by omega)]; simp)]
  simp
end Go.Proofs.Ytgnihllnjaagcaa
