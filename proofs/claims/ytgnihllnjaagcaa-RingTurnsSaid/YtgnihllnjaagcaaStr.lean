/-
  Bytes as strings. No walk here.
-/
import Derived.Test.YtgnihllnjaagcaaPhysK
import Derived.ProofKit
import Derived.Laws.IdiomStrings
set_option linter.unusedSimpArgs false
set_option linter.unusedVariables false
namespace Go.Proofs.Ytgnihllnjaagcaa
open Go.RowKit
set_option maxHeartbeats 1000000

theorem vconv_empty (w : World) (pa : Option Addr) (cap : Nat) : (convert 31 9 (.slice pa 0 cap)).run Try.prog w = .ok (.string ⟨#[]⟩) w := by
  cases pa with
  | none => rw [run_convert_bytes_string w 31 9 5 none 0 cap Try.underlying31 Try.underlying5 Try.underlying9]; simp [Conv.bytesToString]; rfl
  | some a => exact run_convert_bytes_back w 31 9 5 a cap [] Try.underlying31 Try.underlying5 Try.underlying9 (fun j hj => by simp at hj)
theorem vconv_row (w : World) (g o n cap : Nat) (l : List UInt8) (hl : l.length = n) (hc : ∀ k, k < n → w.cell? ⟨g, o + k, none⟩ = some (.int .u8 (l.getD k 0).toNat)) :
    (convert 31 9 (.slice (some ⟨g, o, none⟩) n cap)).run Try.prog w = .ok (.string ⟨l.toArray⟩) w := by
  subst hl
  refine run_convert_bytes_back w 31 9 5 ⟨g, o, none⟩ cap l Try.underlying31 Try.underlying5 Try.underlying9 (fun j hj => ?_)
  have e : (⟨g, o, none⟩ : Addr).add j = ⟨g, o + j, none⟩ := by unfold Addr.add; split <;> simp_all
  rw [e, hc j hj]
  simp [List.getD, List.getElem?_eq_getElem hj]
theorem in_string {w : World} {l : List UInt8} {p : Option Addr} (h : InBytes w p l) (c : Nat) (W : World) (hg : w.grownBy W none) : (convert 31 9 (.slice p l.length c)).run Try.prog W = .ok (.string ⟨l.toArray⟩) W := by
  rcases h with rfl | ⟨b, o, rfl, _, hc⟩
  · exact vconv_empty W _ _
  · exact vconv_row W b o _ _ _ rfl fun k hk => hg.cell (hc k hk) (by simp)
end Go.Proofs.Ytgnihllnjaagcaa
