/-
  Contracts of package tenementref01: Free.
-/
import Derived.Test.YtnplkifohocekaaDoorRefE
set_option linter.unusedSimpArgs false
set_option linter.unusedVariables false
namespace Go.Proofs.YtnplkifohocekaaDoor
open Go.RowKit
set_option maxHeartbeats 400000

/-- a new page -/
def zeros : Array Value := madeCells #[.int .u8 0] 256
theorem zeros_size : zeros.size = 256 := size_madeCells _ _
theorem zeros_at (k : Nat) (h : k < 256) : zeros[k]? = some (.int .u8 0) := by
  unfold zeros
  simp [madeCells, h, Nat.mod_one]
attribute [irreducible] zeros
theorem make_zeros (W : World) : (Instr.makeSlice 22 (.int .i64 256) (.int .i64 256)).run Tryd.prog W = .ok (.slice (some ⟨W.heap.size, 0, none⟩) 256 256) (W.alloc (.cells zeros 5)) := by
  have := u8_make W 256 (by omega)
  unfold zeros
  exact this
theorem zeros_row (W : World) : Row (W.alloc (.cells zeros 5)) W.heap.size 5 256 (byt blankFr) :=
  ⟨zeros, heap_alloc_new W _, by rw [zeros_size]; omega, fun k hk => by rw [zeros_at k hk]; rfl⟩

theorem free_left {w W : World} {b : Nat} {M : Mach} {L : Lay} {j : Nat} (h : RM W b (M.upd j { M.fr j with owner := -1 }) L) (hc : Chg (L.foot b) w W) (hj : j < L.n) (h1 : (M.fr j).ty = 0) (h2 : (M.fr j).cnt = 0) (h3 : (M.fr j).tot = 0) :
    ∃ L', RM ((W.alloc (.cells zeros 5)).setCell ⟨L.fB, j, none⟩ (.slice (some ⟨W.heap.size, 0, none⟩) 256 256)).drew b (M.upd j blankFr) L' ∧ L'.n = L.n ∧
      Chg (L.foot b) w ((W.alloc (.cells zeros 5)).setCell ⟨L.fB, j, none⟩ (.slice (some ⟨W.heap.size, 0, none⟩) 256 256)).drew ∧ ∀ k, L'.foot b k → L.foot b k ∨ w.heap.size ≤ k := by
  have h' := (h.grown (World.grownBy_alloc W (.cells zeros 5) none)).setRow hj (f := blankFr) (G := W.heap.size) (c := 256) (by omega) (zeros_row W) (fun i hi e => by
    have := (h.row i hi).lt
    omega) (fun q hq => by
    rw [Mach.upd_same]
    match q, hq with
    | 0, _ => rfl
    | 1, _ => simp [Fr.cell, blankFr, h1]
    | 2, _ => simp [Fr.cell, blankFr, h2]
    | 3, _ => simp [Fr.cell, blankFr, h3])
  rw [Mach.upd_upd] at h'
  have st : ∀ k, L.foot b k → L.foot b k ∨ w.heap.size ≤ k := fun _ h => .inl h
  refine ⟨_, h'.grown (grownBy_drew _ none), rfl, ((hc.trans (Chg.of0 (S := L.foot b) (World.grownBy_alloc W (.cells zeros 5) none)) st).trans (Chg.of (S := L.foot b) (grownBy_setCell _ L.fB j none _) fun k e => .inl (.inr (.inr (.inl (Option.some.inj e).symm)))) st).trans (Chg.of0 (S := L.foot b) (grownBy_drew _ none)) st, fun k hk => ?_⟩
  rcases hk with rfl | rfl | rfl | ⟨i, hi, rfl⟩
  · exact .inl (.inl rfl)
  · exact .inl (.inr (.inl rfl))
  · exact .inl (.inr (.inr (.inl rfl)))
  · simp only
    split
    · exact .inr hc.size
    · exact .inl (.inr (.inr (.inr ⟨i, hi, rfl⟩)))

end Go.Proofs.YtnplkifohocekaaDoor
