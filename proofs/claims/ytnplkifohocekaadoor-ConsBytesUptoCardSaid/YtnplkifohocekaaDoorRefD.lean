/-
  Contracts of package tenementref01: Get, Put.
-/
import Derived.Test.YtnplkifohocekaaDoorRefC
set_option linter.unusedSimpArgs false
set_option linter.unusedVariables false
namespace Go.Proofs.YtnplkifohocekaaDoor
open Go.RowKit
set_option maxHeartbeats 400000

theorem box4 (w : World) (a b c d : Value) : ∃ W, w.alloc (.cells #[a, b, c, d] 112) = W ∧ W.heap.size = w.heap.size + 1 ∧ W.cell? ⟨w.heap.size, 0, none⟩ = some a ∧ W.cell? ⟨w.heap.size, 1, none⟩ = some b ∧ W.cell? ⟨w.heap.size, 2, none⟩ = some c ∧ W.cell? ⟨w.heap.size, 3, none⟩ = some d := by
  have h := heap_alloc_new w (.cells #[a, b, c, d] 112)
  exact ⟨_, rfl, by simp, cell_of_row _ _ 0 _ _ _ h, cell_of_row _ _ 1 _ _ _ h, cell_of_row _ _ 2 _ _ _ h, cell_of_row _ _ 3 _ _ _ h⟩
theorem RM.nine {w : World} {b : Nat} {M : Mach} {L : Lay} (h : RM w b M L) {j : Nat} (hj : j < L.n) : w.cell? ⟨b, 0, none⟩ = some (.slice (some ⟨L.fF, 0, none⟩) L.n L.cF) ∧
    w.cell? ⟨L.fF, j * 4, none⟩ = some (.int .i64 (M.fr j).owner) ∧ w.cell? ⟨L.fF, j * 4 + 1, none⟩ = some (.int .i64 (M.fr j).ty) ∧ w.cell? ⟨L.fF, j * 4 + 2, none⟩ = some (.int .i64 (M.fr j).cnt) ∧ w.cell? ⟨L.fF, j * 4 + 3, none⟩ = some (.int .i64 (M.fr j).tot) ∧
    w.frozen? ⟨L.fF, j * 4, none⟩ = false ∧ w.frozen? ⟨L.fF, j * 4 + 1, none⟩ = false ∧ w.frozen? ⟨L.fF, j * 4 + 2, none⟩ = false ∧ w.frozen? ⟨L.fF, j * 4 + 3, none⟩ = false :=
  ⟨h.slF, h.owner hj, h.ty hj, h.cnt hj, h.tot hj, h.fr.frozen _, h.fr.frozen _, h.fr.frozen _, h.fr.frozen _⟩

theorem RM.setTy {w : World} {b : Nat} {M : Mach} {L : Lay} (h : RM w b M L) {i : Nat} (hi : i < L.n) (x : Int) : RM (w.setCell ⟨L.fF, i * 4 + 1, none⟩ (.int .i64 x)) b (M.upd i { M.fr i with ty := x }) L :=
  h.setHd (r := 1) hi (by omega) rfl (fun q _ hq => by match q, hq with | 0, _ => rfl | 1, h => exact absurd rfl h | 2, _ => rfl | 3, _ => rfl | k + 4, _ => rfl) rfl
theorem RM.setCnt {w : World} {b : Nat} {M : Mach} {L : Lay} (h : RM w b M L) {i : Nat} (hi : i < L.n) (x : Int) : RM (w.setCell ⟨L.fF, i * 4 + 2, none⟩ (.int .i64 x)) b (M.upd i { M.fr i with cnt := x }) L :=
  h.setHd (r := 2) hi (by omega) rfl (fun q _ hq => by match q, hq with | 0, _ => rfl | 1, _ => rfl | 2, h => exact absurd rfl h | 3, _ => rfl | k + 4, _ => rfl) rfl
theorem RM.setTot {w : World} {b : Nat} {M : Mach} {L : Lay} (h : RM w b M L) {i : Nat} (hi : i < L.n) (x : Int) : RM (w.setCell ⟨L.fF, i * 4 + 3, none⟩ (.int .i64 x)) b (M.upd i { M.fr i with tot := x }) L :=
  h.setHd (r := 3) hi (by omega) rfl (fun q _ hq => by match q, hq with | 0, _ => rfl | 1, _ => rfl | 2, _ => rfl | 3, h => exact absurd rfl h | k + 4, _ => rfl) rfl
/-- a frame's four numbers are laid -/
theorem RM.setAll {w W : World} {b : Nat} {M : Mach} {L : Lay} (h : RM W b M L) (hg : w.grownBy W none) {j : Nat} (hj : j < L.n) (f : Fr) (hf : f.bs = (M.fr j).bs) :
    ∃ L', RM ((((W.setCell ⟨L.fF, j * 4, none⟩ (.int .i64 f.owner)).setCell ⟨L.fF, j * 4 + 1, none⟩ (.int .i64 f.ty)).setCell ⟨L.fF, j * 4 + 2, none⟩ (.int .i64 f.cnt)).setCell ⟨L.fF, j * 4 + 3, none⟩ (.int .i64 f.tot)).drew b (M.upd j f) L' ∧ L'.n = L.n ∧
      Chg (L.foot b) w ((((W.setCell ⟨L.fF, j * 4, none⟩ (.int .i64 f.owner)).setCell ⟨L.fF, j * 4 + 1, none⟩ (.int .i64 f.ty)).setCell ⟨L.fF, j * 4 + 2, none⟩ (.int .i64 f.cnt)).setCell ⟨L.fF, j * 4 + 3, none⟩ (.int .i64 f.tot)).drew ∧ ∀ k, L'.foot b k → L.foot b k ∨ w.heap.size ≤ k := by
  have h1 := h.setOwner hj f.owner
  have h2 := h1.setTy hj f.ty
  have h3 := h2.setCnt hj f.cnt
  have h4 := h3.setTot hj f.tot
  simp only [Mach.upd_upd, Mach.upd_same] at h4
  have e : ({ owner := f.owner, ty := f.ty, cnt := f.cnt, tot := f.tot, bs := (M.fr j).bs } : Fr) = f := by rw [← hf]
  rw [e] at h4
  have st : ∀ k, L.foot b k → L.foot b k ∨ w.heap.size ≤ k := fun _ h => .inl h
  exact ⟨L, h4.grown (grownBy_drew _ none), rfl, (((((Chg.of0 hg).trans (chgF b L _ _ _) st).trans (chgF b L _ _ _) st).trans (chgF b L _ _ _) st).trans (chgF b L _ _ _) st).trans (Chg.of0 (S := L.foot b) (grownBy_drew _ none)) st, st⟩

end Go.Proofs.YtnplkifohocekaaDoor
