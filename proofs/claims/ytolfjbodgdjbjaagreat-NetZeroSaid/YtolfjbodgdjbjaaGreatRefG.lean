/-
  Contracts of package tenementref01: Read, Write.
-/
import Derived.Test.YtolfjbodgdjbjaaGreatRefF
set_option linter.unusedSimpArgs false
set_option linter.unusedVariables false
namespace Go.Proofs.YtolfjbodgdjbjaaGreat
open Go.RowKit
set_option maxHeartbeats 400000

/-- bytes in memory of their own -/
def OutBytes (w : World) (l : List UInt8) (v : Value) (w' : World) : Prop := ∃ p c, v = .slice p l.length c ∧ InBytes w' p l ∧ w.grownBy w' none
theorem info_u8 : (Tryz.prog.info? 5).map (fun i => (i.zero, i.size, i.bytes)) = some (some (.int .u8 0), 1, 1) := by kernel_rfl

theorem outBytes_of {w w' : World} {base n : Nat} {v : Value} {l : List UInt8} (h : w'.ownsRow base 5 1 v n (bcells l)) (hn : l.length = n) (hg : w.grownBy w' none) : OutBytes w l v w' := by
  subst hn
  obtain ⟨p, c, rfl⟩ := ownsRow_slice h
  refine ⟨p, c, rfl, ?_, hg⟩
  by_cases hl : l = []
  · exact .inl hl
  · obtain ⟨m, hm⟩ : ∃ m, l.length = m + 1 := ⟨l.length - 1, by have := List.length_pos_iff.2 hl; omega⟩
    have h' := h
    rw [hm] at h'
    obtain ⟨g, cap, e⟩ := ownsRow_succ h'
    cases e
    have hb := (h.lt g rfl).2
    refine .inr ⟨g, 0, rfl, hb, fun k hk => ?_⟩
    rw [Nat.zero_add, h'.cellAt k (by omega), bcells_get, List.getElem?_eq_getElem hk]
    simp [List.getD, List.getElem?_eq_getElem hk]
end Go.Proofs.YtolfjbodgdjbjaaGreat
