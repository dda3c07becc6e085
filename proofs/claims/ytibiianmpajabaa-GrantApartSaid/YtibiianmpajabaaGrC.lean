/-
  Package tenementref06: Unpack, refused at its first test.
-/
import Derived.Test.YtibiianmpajabaaGrB
set_option linter.unusedSimpArgs false
set_option linter.unusedVariables false
namespace Go.Proofs.Ytibiianmpajabaa
open Go.RowKit
set_option maxHeartbeats 4000000

/-- the struct's zero stored over a block that holds it -/
theorem zero7 {w : World} {g : Nat} (h : Row w g 77 7 (fun k => [Value.int .i64 0, .bool false, .bool false, .int .i64 0, .int .i64 0, .int .i64 0, .int .i64 0].getD k undef)) :
    w.cell? ⟨g, 0, none⟩ = some (.int .i64 0) ∧ w.cell? ⟨g, 1, none⟩ = some (.bool false) ∧ w.cell? ⟨g, 2, none⟩ = some (.bool false) ∧ w.cell? ⟨g, 3, none⟩ = some (.int .i64 0) ∧ w.cell? ⟨g, 4, none⟩ = some (.int .i64 0) ∧ w.cell? ⟨g, 5, none⟩ = some (.int .i64 0) ∧ w.cell? ⟨g, 6, none⟩ = some (.int .i64 0) :=
  ⟨h.cell (k := 0) (by omega), h.cell (k := 1) (by omega), h.cell (k := 2) (by omega), h.cell (k := 3) (by omega), h.cell (k := 4) (by omega), h.cell (k := 5) (by omega), h.cell (k := 6) (by omega)⟩
set_option maxRecDepth 100000 in
theorem gUn_bad (g o c : Nat) (b : Nat → Nat) (w : World) (h : B8 w g o b) (hbad : 16 ≤ b 0 ∨ b 1 ≠ 0 ∨ b 0 % 4 = 3) : Calls Try.prog 116 #[.slice (some ⟨g, o, none⟩) 8 c] w fun e w' => e = .returned (.tuple #[g0.val, .int .i64 60]) ∧ w.grownBy w' none := by
  have l0 := h.lt 0 (by omega); have l1 := h.lt 1 (by omega)
  obtain ⟨W, hW⟩ : ∃ W, w.alloc (.cells #[.int .i64 0, .bool false, .bool false, .int .i64 0, .int .i64 0, .int .i64 0, .int .i64 0] 77) = W := ⟨_, rfl⟩
  have hg : w.grownBy W none := hW ▸ World.grownBy_alloc _ _ none
  have HG := hid hg
  have h' := h.grown hg
  have c0 := h'.c 0 (by omega); have c1 := h'.c 1 (by omega)
  rw [Nat.add_zero] at c0
  generalize b 0 = x0 at *; generalize b 1 = x1 at *
  obtain ⟨z0, z1, z2, z3, z4, z5, z6⟩ := zero7 (hW ▸ row7z w : Row W w.heap.size 77 7 _)
  have HR := hid (hW ▸ row7z w : Row W w.heap.size 77 7 _)
  have zz := (hW ▸ row7z w : Row W w.heap.size 77 7 _).frozen
  have HB := hid hbad
  clear hbad h h' hg
  by_cases k0 : 16 ≤ x0
  · have q0 : decide (16 ≤ (x0 : Int)) = true := by simp; omega
    clear k0 HB
    go_enter Try.func116, Try.ntmps116
    go_wp2
    have rs := set7 HR.out (.int .i64 0) (.bool false) (.bool false) (.int .i64 0) (.int .i64 0) (.int .i64 0) (.int .i64 0)
    have hG2 := HG.out.andThen (set7_grown W w.heap.size (.int .i64 0) (.bool false) (.bool false) (.int .i64 0) (.int .i64 0) (.int .i64 0) (.int .i64 0)) (fun j e => .inl (by cases e; exact Nat.le_refl _))
    clear z0 z1 z2 z3 z4 z5 z6 zz
    generalize ((((((W.setCell ⟨w.heap.size, 0, none⟩ (.int .i64 0)).setCell ⟨w.heap.size, 1, none⟩ (.bool false)).setCell ⟨w.heap.size, 2, none⟩ (.bool false)).setCell ⟨w.heap.size, 3, none⟩ (.int .i64 0)).setCell ⟨w.heap.size, 4, none⟩ (.int .i64 0)).setCell ⟨w.heap.size, 5, none⟩ (.int .i64 0)).setCell ⟨w.heap.size, 6, none⟩ (.int .i64 0) = W3 at *
    have z0 := rs.cell (k := 0) (by omega); have z1 := rs.cell (k := 1) (by omega); have z2 := rs.cell (k := 2) (by omega); have z3 := rs.cell (k := 3) (by omega); have z4 := rs.cell (k := 4) (by omega); have z5 := rs.cell (k := 5) (by omega); have z6 := rs.cell (k := 6) (by omega)
    simp only [sevV, List.getD_cons_zero, List.getD_cons_succ] at z0 z1 z2 z3 z4 z5 z6
    clear rs
    refine bodyPost_ret (v := .tuple #[g0.val, .int .i64 60]) (by simp [results, Try.results116, go_sem, g0, GV.val, z0, z1, z2, z3, z4, z5, z6]) rfl ⟨rfl, hG2⟩
  by_cases k1 : x1 ≠ 0
  · have q0 : decide (16 ≤ (x0 : Int)) = false := by simp; omega
    have q1 : ((x1 : Int) != 0) = true := by simp; omega
    clear k0 k1 HB
    go_enter Try.func116, Try.ntmps116
    go_wp2
    have rs := set7 HR.out (.int .i64 0) (.bool false) (.bool false) (.int .i64 0) (.int .i64 0) (.int .i64 0) (.int .i64 0)
    have hG2 := HG.out.andThen (set7_grown W w.heap.size (.int .i64 0) (.bool false) (.bool false) (.int .i64 0) (.int .i64 0) (.int .i64 0) (.int .i64 0)) (fun j e => .inl (by cases e; exact Nat.le_refl _))
    clear z0 z1 z2 z3 z4 z5 z6 zz
    generalize ((((((W.setCell ⟨w.heap.size, 0, none⟩ (.int .i64 0)).setCell ⟨w.heap.size, 1, none⟩ (.bool false)).setCell ⟨w.heap.size, 2, none⟩ (.bool false)).setCell ⟨w.heap.size, 3, none⟩ (.int .i64 0)).setCell ⟨w.heap.size, 4, none⟩ (.int .i64 0)).setCell ⟨w.heap.size, 5, none⟩ (.int .i64 0)).setCell ⟨w.heap.size, 6, none⟩ (.int .i64 0) = W3 at *
    have z0 := rs.cell (k := 0) (by omega); have z1 := rs.cell (k := 1) (by omega); have z2 := rs.cell (k := 2) (by omega); have z3 := rs.cell (k := 3) (by omega); have z4 := rs.cell (k := 4) (by omega); have z5 := rs.cell (k := 5) (by omega); have z6 := rs.cell (k := 6) (by omega)
    simp only [sevV, List.getD_cons_zero, List.getD_cons_succ] at z0 z1 z2 z3 z4 z5 z6
    clear rs
    refine bodyPost_ret (v := .tuple #[g0.val, .int .i64 60]) (by simp [results, Try.results116, go_sem, g0, GV.val, z0, z1, z2, z3, z4, z5, z6]) rfl ⟨rfl, hG2⟩
  · have q0 : decide (16 ≤ (x0 : Int)) = false := by simp; omega
    have q1 : ((x1 : Int) != 0) = false := by simp; omega
    have q2 : ((x0 : Int) % 4 == 3) = true := by have := HB.out; simp; omega
    clear k0 k1 HB
    go_enter Try.func116, Try.ntmps116
    go_wp2
    have rs := set7 HR.out (.int .i64 0) (.bool false) (.bool false) (.int .i64 0) (.int .i64 0) (.int .i64 0) (.int .i64 0)
    have hG2 := HG.out.andThen (set7_grown W w.heap.size (.int .i64 0) (.bool false) (.bool false) (.int .i64 0) (.int .i64 0) (.int .i64 0) (.int .i64 0)) (fun j e => .inl (by cases e; exact Nat.le_refl _))
    clear z0 z1 z2 z3 z4 z5 z6 zz
    generalize ((((((W.setCell ⟨w.heap.size, 0, none⟩ (.int .i64 0)).setCell ⟨w.heap.size, 1, none⟩ (.bool false)).setCell ⟨w.heap.size, 2, none⟩ (.bool false)).setCell ⟨w.heap.size, 3, none⟩ (.int .i64 0)).setCell ⟨w.heap.size, 4, none⟩ (.int .i64 0)).setCell ⟨w.heap.size, 5, none⟩ (.int .i64 0)).setCell ⟨w.heap.size, 6, none⟩ (.int .i64 0) = W3 at *
    have z0 := rs.cell (k := 0) (by omega); have z1 := rs.cell (k := 1) (by omega); have z2 := rs.cell (k := 2) (by omega); have z3 := rs.cell (k := 3) (by omega); have z4 := rs.cell (k := 4) (by omega); have z5 := rs.cell (k := 5) (by omega); have z6 := rs.cell (k := 6) (by omega)
    simp only [sevV, List.getD_cons_zero, List.getD_cons_succ] at z0 z1 z2 z3 z4 z5 z6
    clear rs
    refine bodyPost_ret (v := .tuple #[g0.val, .int .i64 60]) (by simp [results, Try.results116, go_sem, g0, GV.val, z0, z1, z2, z3, z4, z5, z6]) rfl ⟨rfl, hG2⟩
end Go.Proofs.Ytibiianmpajabaa
