/-
  Contracts of package tenementref01: Write.
-/
import Derived.Test.YtolfjbodgdjbjaaGreatRefG
set_option linter.unusedSimpArgs false
set_option linter.unusedVariables false
namespace Go.Proofs.YtolfjbodgdjbjaaGreat
open Go.RowKit
set_option maxHeartbeats 400000

theorem laid_at (f : Fr) (off : Nat) (l : List UInt8) (k : Nat) (hk : k < l.length) : (f.laid off (l.take (k + 1))).bs (off + k) = l.getD k 0 := by
  have h1 : (l.take (k + 1)).length = k + 1 := by simp; omega
  unfold Fr.laid
  simp only [h1]
  rw [if_pos (by omega), show off + k - off = k by omega]
  simp [List.getD, List.getElem?_take]
theorem laid_else (f : Fr) (off : Nat) (l : List UInt8) (k q : Nat) (hk : k < l.length) (hq : q ≠ off + k) : (f.laid off (l.take (k + 1))).bs q = (f.laid off (l.take k)).bs q := by
  have h1 : (l.take (k + 1)).length = k + 1 := by simp; omega
  have h2 : (l.take k).length = k := by simp; omega
  unfold Fr.laid
  simp only [h1, h2]
  by_cases h : off ≤ q ∧ q < off + k
  · rw [if_pos (by omega), if_pos h]
    have e1 : q - off < k + 1 := by omega
    have e2 : q - off < k := by omega
    simp [List.getD, List.getElem?_take, e1, e2]
  · rw [if_neg (by omega), if_neg h]
theorem laid_hd (f : Fr) (off : Nat) (l : List UInt8) (q : Nat) (hq : q < 4) : (f.laid off l).cell q = f.cell q := by
  match q, hq with
  | 0, _ => rfl
  | 1, _ => rfl
  | 2, _ => rfl
  | 3, _ => rfl
/-- bytes that lie apart from the ref machine -/
def Apart (w : World) (L : Lay) (b : Nat) (pa : Option Addr) (l : List UInt8) : Prop :=
  ∀ k, k < l.length → ∃ sb so, pa = some ⟨sb, so, none⟩ ∧ ¬ L.foot b sb ∧ w.cell? ⟨sb, so + k, none⟩ = some (.int .u8 (l.getD k 0).toNat)
theorem chgG {L : Lay} {b j : Nat} (hj : j < L.n) (w : World) (k : Nat) (v : Value) : Chg (L.foot b) w (w.setCell ⟨L.g j, k, none⟩ v) := Chg.of (grownBy_setCell w (L.g j) k none v) fun i e => .inl (.inr (.inr (.inr ⟨j, hj, (Option.some.inj e).symm⟩)))

end Go.Proofs.YtolfjbodgdjbjaaGreat
