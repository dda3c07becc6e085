/-
  Package tenementref06: Unpack of an entry that is Sub.
-/
import Derived.Test.YtibiianmpajabaaGrB
import Derived.Test.YtibiianmpajabaaRefM
import Derived.Test.YtibiianmpajabaaChecked
import Derived.WalkKit
import Derived.Below
import Derived.Deep.QuietTactic
import Derived.BigQuiet
import Derived.Deep.RegionHeld3
set_option linter.unusedSimpArgs false
set_option linter.unusedVariables false
namespace Go.Proofs.Ytibiianmpajabaa
open Go.RowKit
set_option maxHeartbeats 4000000

set_option maxRecDepth 100000 in
theorem gUn_sub (g o c : Nat) (b : Nat → Nat) (w : World) (h : B8 w g o b) (hbad : ¬ (16 ≤ b 0 ∨ b 1 ≠ 0 ∨ b 0 % 4 = 3)) (hs : b 0 / 8 = 1) (hl : ¬ 256 < b 6 + b 7 + 1) : Calls Try.prog 116 #[.slice (some ⟨g, o, none⟩) 8 c] w fun e w' => e = .returned (.tuple #[(unG b).1.val, .int .i64 (unG b).2]) ∧ w.grownBy w' none := by
  have e : unG b = (⟨(b 0 % 4 : Nat), decide (b 0 / 4 % 2 = 1), true, (b 2 + 256 * b 3 : Nat), (b 4 + 256 * b 5 : Nat), (b 6 : Nat), (b 7 + 1 : Nat)⟩, 0) := by unfold unG; rw [if_neg hbad, if_pos hs, if_neg hl]
  rw [e]
  have l0 := h.lt 0 (by omega); have l2 := h.lt 2 (by omega); have l3 := h.lt 3 (by omega); have l4 := h.lt 4 (by omega); have l5 := h.lt 5 (by omega); have l6 := h.lt 6 (by omega); have l7 := h.lt 7 (by omega)
  obtain ⟨W, hW⟩ : ∃ W, w.alloc (.cells #[.int .i64 0, .bool false, .bool false, .int .i64 0, .int .i64 0, .int .i64 0, .int .i64 0] 77) = W := ⟨_, rfl⟩
  have hg : w.grownBy W none := hW ▸ World.grownBy_alloc _ _ none
  have h' := h.grown hg
  have c0 := h'.c 0 (by omega); have c1 := h'.c 1 (by omega); have c2 := h'.c 2 (by omega); have c3 := h'.c 3 (by omega); have c4 := h'.c 4 (by omega); have c5 := h'.c 5 (by omega); have C6 := hid (h'.c 6 (by omega)); have C7 := hid (h'.c 7 (by omega))
  rw [Nat.add_zero] at c0
  generalize b 0 = x0 at *; generalize b 1 = x1 at *; generalize b 2 = x2 at *; generalize b 3 = x3 at *; generalize b 4 = x4 at *; generalize b 5 = x5 at *; generalize b 6 = x6 at *; generalize b 7 = x7 at *
  have L6 := hid l6; have L7 := hid l7; have HL := hid hl
  clear l6 l7 hl
  have q0 : decide (16 ≤ (x0 : Int)) = false := by simp; omega
  have q1 : ((x1 : Int) != 0) = false := by simp; omega
  have q2 : ((x0 : Int) % 4 == 3) = false := by simp; omega
  have q3 : ((x0 : Int) / 8 == 1) = true := by simp; omega
  obtain ⟨r, hr⟩ : ∃ r, decide (x0 / 4 % 2 = 1) = r := ⟨_, rfl⟩
  have q4 : ((x0 : Int) / 4 % 2 == 1) = r := by rw [← hr, Bool.eq_iff_iff]; simp; omega
  rw [hr]
  obtain ⟨a0, ha0⟩ : ∃ a, ((x0 % 4 : Nat) : Int) = a := ⟨_, rfl⟩
  obtain ⟨a3, ha3⟩ : ∃ a, ((x2 + 256 * x3 : Nat) : Int) = a := ⟨_, rfl⟩
  obtain ⟨a4, ha4⟩ : ∃ a, ((x4 + 256 * x5 : Nat) : Int) = a := ⟨_, rfl⟩
  rw [ha0, ha3, ha4]
  have HA0 := hid ha0; have HA3 := hid ha3; have HA4 := hid ha4
  clear hr hbad hs e h h' ha0 ha3 ha4
  go_enter Try.func116, Try.ntmps116
  go_wp2
  have N0 := World.new_ne W ⟨g, o, none⟩ c0
  have r7 := row7z W.drew
  have v0 := r7.cell (k := 0) (by omega); have v1 := r7.cell (k := 1) (by omega); have v2 := r7.cell (k := 2) (by omega); have v3 := r7.cell (k := 3) (by omega); have v4 := r7.cell (k := 4) (by omega); have v5 := r7.cell (k := 5) (by omega); have v6 := r7.cell (k := 6) (by omega); have vz := r7.frozen
  simp only [List.getD_cons_zero, List.getD_cons_succ] at v0 v1 v2 v3 v4 v5 v6
  clear r7
  go_region_held3 (fun w' => w'.cell? ⟨g, o, none⟩ = some (.int .u8 (x0 : Nat)) ∧ w'.cell? ⟨g, o + 2, none⟩ = some (.int .u8 (x2 : Nat)) ∧ w'.cell? ⟨g, o + 3, none⟩ = some (.int .u8 (x3 : Nat)) ∧ w'.cell? ⟨g, o + 4, none⟩ = some (.int .u8 (x4 : Nat)) ∧ w'.cell? ⟨g, o + 5, none⟩ = some (.int .u8 (x5 : Nat))) (first | exact ⟨by assumption, by assumption, by assumption, by assumption, by assumption⟩ | go_keep) (fail)
  rw [show IntKind.i64.wrap ((x0 : Int).tmod 4) = a0 by rw [← HA0.out, Int.tmod_eq_emod_of_nonneg (by omega)]; simp only [IntKind.wrap_i64]; omega,
    show ((IntKind.u8.wrap ((x0 : Int) / 4)).tmod 2 == 1) = r by rw [IntKind.wrap_u8', Int.tmod_eq_emod_of_nonneg (by omega), ← q4]; congr 1; omega,
    show (IntKind.u8.wrap ((x0 : Int) / 8) == 1) = true by rw [IntKind.wrap_u8', ← q3]; congr 1; omega,
    show IntKind.i64.wrap (IntKind.i64.wrap (x2 : Int) + IntKind.i64.wrap (256 * IntKind.i64.wrap (x3 : Int))) = a3 by rw [← HA3.out]; simp only [IntKind.wrap_i64]; omega,
    show IntKind.i64.wrap (IntKind.i64.wrap (x4 : Int) + IntKind.i64.wrap (256 * IntKind.i64.wrap (x5 : Int))) = a4 by rw [← HA4.out]; simp only [IntKind.wrap_i64]; omega]
  have RZ := hid (hW ▸ row7z w : Row W w.heap.size 77 7 _)
  have zr := fun ob => RZ.out.grown (World.grownBy_alloc W ob none) (by simp)
  have z0 := fun ob => (zr ob).cell (k := 0) (by omega)
  have z1 := fun ob => (zr ob).cell (k := 1) (by omega)
  have z2 := fun ob => (zr ob).cell (k := 2) (by omega)
  have z3 := fun ob => (zr ob).cell (k := 3) (by omega)
  have z4 := fun ob => (zr ob).cell (k := 4) (by omega)
  have z5 := fun ob => (zr ob).cell (k := 5) (by omega)
  have z6 := fun ob => (zr ob).cell (k := 6) (by omega)
  have zz := fun ob => (zr ob).frozen
  simp only [List.getD_cons_zero, List.getD_cons_succ] at z0 z1 z2 z3 z4 z5 z6
  clear zr
  have l6 := L6.out; have l7 := L7.out; have hl := HL.out; 
  have N1 := Ne.symm N0
  have c6 : ∀ ob, (W.alloc ob).cell? ⟨g, o + 6, none⟩ = some (.int .u8 (x6 : Nat)) := fun ob => by rw [((Below.refl W.heap.size W).alloc (Nat.le_refl _) ob).cell (p := ⟨g, o + 6, none⟩) (World.block_lt_of_cell? W _ C6.out)]; exact C6.out
  have c7 : ∀ ob, (W.alloc ob).cell? ⟨g, o + 7, none⟩ = some (.int .u8 (x7 : Nat)) := fun ob => by rw [((Below.refl W.heap.size W).alloc (Nat.le_refl _) ob).cell (p := ⟨g, o + 7, none⟩) (World.block_lt_of_cell? W _ C7.out)]; exact C7.out
  clear v0 v1 v2 v3 v4 v5 v6 vz c0 c1 c2 c3 c4 c5 q0 q1 q2 q3 q4 l0 l2 l3 l4 l5
  go_wp2_with fail
  obtain ⟨X, hX⟩ : ∃ X, W.alloc (Obj.cells #[Value.int IntKind.i64 a0, Value.bool r, Value.bool true, Value.int IntKind.i64 a3, Value.int IntKind.i64 a4, Value.int IntKind.i64 x6, Value.int IntKind.i64 (x7 + 1)] 77) = X := ⟨_, rfl⟩
  have hgX : w.grownBy X none := hX ▸ hg.trans (World.grownBy_alloc _ _ none)
  have rs := set7 (hX ▸ RZ.out.grown (World.grownBy_alloc W _ none) (by simp) : Row X w.heap.size 77 7 _) (.int .i64 a0) (.bool r) (.bool true) (.int .i64 a3) (.int .i64 a4) (.int .i64 x6) (.int .i64 (x7 + 1))
  have gs := set7_grown X w.heap.size (.int .i64 a0) (.bool r) (.bool true) (.int .i64 a3) (.int .i64 a4) (.int .i64 x6) (.int .i64 (x7 + 1))
  have hG2 := hgX.andThen gs (fun j e => .inl (by cases e; exact Nat.le_refl _))
  rw [hX]
  clear gs z0 z1 z2 z3 z4 z5 z6 zz RZ hX hgX
  generalize (((((((X.setCell ⟨w.heap.size, 0, none⟩ (.int .i64 a0)).setCell ⟨w.heap.size, 1, none⟩ (.bool r)).setCell ⟨w.heap.size, 2, none⟩ (.bool true)).setCell ⟨w.heap.size, 3, none⟩ (.int .i64 a3)).setCell ⟨w.heap.size, 4, none⟩ (.int .i64 a4)).setCell ⟨w.heap.size, 5, none⟩ (.int .i64 x6)).setCell ⟨w.heap.size, 6, none⟩ (.int .i64 (x7 + 1))) = W3 at *
  have z0 := rs.cell (k := 0) (by omega); have z1 := rs.cell (k := 1) (by omega); have z2 := rs.cell (k := 2) (by omega); have z3 := rs.cell (k := 3) (by omega); have z4 := rs.cell (k := 4) (by omega); have z5 := rs.cell (k := 5) (by omega); have z6 := rs.cell (k := 6) (by omega)
  simp only [sevV, List.getD_cons_zero, List.getD_cons_succ] at z0 z1 z2 z3 z4 z5 z6
  clear rs
  refine bodyPost_ret (v := .tuple #[.agg #[.int .i64 a0, .bool r, .bool true, .int .i64 a3, .int .i64 a4, .int .i64 x6, .int .i64 (x7 + 1)], .int .i64 0]) (by simp [results, Try.results116, go_sem, z0, z1, z2, z3, z4, z5, z6]) rfl ⟨rfl, hG2.trans (grownBy_drew _ none)⟩
set_option maxRecDepth 100000 in
theorem gUn_long (g o c : Nat) (b : Nat → Nat) (w : World) (h : B8 w g o b) (hbad : ¬ (16 ≤ b 0 ∨ b 1 ≠ 0 ∨ b 0 % 4 = 3)) (hs : b 0 / 8 = 1) (hl : 256 < b 6 + b 7 + 1) : Calls Try.prog 116 #[.slice (some ⟨g, o, none⟩) 8 c] w fun e w' => e = .returned (.tuple #[(unG b).1.val, .int .i64 (unG b).2]) ∧ w.grownBy w' none := by
  have e : unG b = (g0, 60) := by unfold unG; rw [if_neg hbad, if_pos hs, if_pos hl]
  rw [e]
  have l0 := h.lt 0 (by omega); have l2 := h.lt 2 (by omega); have l3 := h.lt 3 (by omega); have l4 := h.lt 4 (by omega); have l5 := h.lt 5 (by omega); have l6 := h.lt 6 (by omega); have l7 := h.lt 7 (by omega)
  obtain ⟨W, hW⟩ : ∃ W, w.alloc (.cells #[.int .i64 0, .bool false, .bool false, .int .i64 0, .int .i64 0, .int .i64 0, .int .i64 0] 77) = W := ⟨_, rfl⟩
  have hg : w.grownBy W none := hW ▸ World.grownBy_alloc _ _ none
  have h' := h.grown hg
  have c0 := h'.c 0 (by omega); have c1 := h'.c 1 (by omega); have c2 := h'.c 2 (by omega); have c3 := h'.c 3 (by omega); have c4 := h'.c 4 (by omega); have c5 := h'.c 5 (by omega); have C6 := hid (h'.c 6 (by omega)); have C7 := hid (h'.c 7 (by omega))
  rw [Nat.add_zero] at c0
  generalize b 0 = x0 at *; generalize b 1 = x1 at *; generalize b 2 = x2 at *; generalize b 3 = x3 at *; generalize b 4 = x4 at *; generalize b 5 = x5 at *; generalize b 6 = x6 at *; generalize b 7 = x7 at *
  have L6 := hid l6; have L7 := hid l7; have HL := hid hl
  clear l6 l7 hl
  have q0 : decide (16 ≤ (x0 : Int)) = false := by simp; omega
  have q1 : ((x1 : Int) != 0) = false := by simp; omega
  have q2 : ((x0 : Int) % 4 == 3) = false := by simp; omega
  have q3 : ((x0 : Int) / 8 == 1) = true := by simp; omega
  obtain ⟨r, hr⟩ : ∃ r, decide (x0 / 4 % 2 = 1) = r := ⟨_, rfl⟩
  have q4 : ((x0 : Int) / 4 % 2 == 1) = r := by rw [← hr, Bool.eq_iff_iff]; simp; omega
  obtain ⟨a0, ha0⟩ : ∃ a, ((x0 % 4 : Nat) : Int) = a := ⟨_, rfl⟩
  obtain ⟨a3, ha3⟩ : ∃ a, ((x2 + 256 * x3 : Nat) : Int) = a := ⟨_, rfl⟩
  obtain ⟨a4, ha4⟩ : ∃ a, ((x4 + 256 * x5 : Nat) : Int) = a := ⟨_, rfl⟩
  have HA0 := hid ha0; have HA3 := hid ha3; have HA4 := hid ha4
  clear hr hbad hs e h h' ha0 ha3 ha4
  go_enter Try.func116, Try.ntmps116
  go_wp2
  have N0 := World.new_ne W ⟨g, o, none⟩ c0
  have r7 := row7z W.drew
  have v0 := r7.cell (k := 0) (by omega); have v1 := r7.cell (k := 1) (by omega); have v2 := r7.cell (k := 2) (by omega); have v3 := r7.cell (k := 3) (by omega); have v4 := r7.cell (k := 4) (by omega); have v5 := r7.cell (k := 5) (by omega); have v6 := r7.cell (k := 6) (by omega); have vz := r7.frozen
  simp only [List.getD_cons_zero, List.getD_cons_succ] at v0 v1 v2 v3 v4 v5 v6
  clear r7
  go_region_held3 (fun w' => w'.cell? ⟨g, o, none⟩ = some (.int .u8 (x0 : Nat)) ∧ w'.cell? ⟨g, o + 2, none⟩ = some (.int .u8 (x2 : Nat)) ∧ w'.cell? ⟨g, o + 3, none⟩ = some (.int .u8 (x3 : Nat)) ∧ w'.cell? ⟨g, o + 4, none⟩ = some (.int .u8 (x4 : Nat)) ∧ w'.cell? ⟨g, o + 5, none⟩ = some (.int .u8 (x5 : Nat))) (first | exact ⟨by assumption, by assumption, by assumption, by assumption, by assumption⟩ | go_keep) (fail)
  rw [show IntKind.i64.wrap ((x0 : Int).tmod 4) = a0 by rw [← HA0.out, Int.tmod_eq_emod_of_nonneg (by omega)]; simp only [IntKind.wrap_i64]; omega,
    show ((IntKind.u8.wrap ((x0 : Int) / 4)).tmod 2 == 1) = r by rw [IntKind.wrap_u8', Int.tmod_eq_emod_of_nonneg (by omega), ← q4]; congr 1; omega,
    show (IntKind.u8.wrap ((x0 : Int) / 8) == 1) = true by rw [IntKind.wrap_u8', ← q3]; congr 1; omega,
    show IntKind.i64.wrap (IntKind.i64.wrap (x2 : Int) + IntKind.i64.wrap (256 * IntKind.i64.wrap (x3 : Int))) = a3 by rw [← HA3.out]; simp only [IntKind.wrap_i64]; omega,
    show IntKind.i64.wrap (IntKind.i64.wrap (x4 : Int) + IntKind.i64.wrap (256 * IntKind.i64.wrap (x5 : Int))) = a4 by rw [← HA4.out]; simp only [IntKind.wrap_i64]; omega]
  have RZ := hid (hW ▸ row7z w : Row W w.heap.size 77 7 _)
  have zr := fun ob => RZ.out.grown (World.grownBy_alloc W ob none) (by simp)
  have z0 := fun ob => (zr ob).cell (k := 0) (by omega)
  have z1 := fun ob => (zr ob).cell (k := 1) (by omega)
  have z2 := fun ob => (zr ob).cell (k := 2) (by omega)
  have z3 := fun ob => (zr ob).cell (k := 3) (by omega)
  have z4 := fun ob => (zr ob).cell (k := 4) (by omega)
  have z5 := fun ob => (zr ob).cell (k := 5) (by omega)
  have z6 := fun ob => (zr ob).cell (k := 6) (by omega)
  have zz := fun ob => (zr ob).frozen
  simp only [List.getD_cons_zero, List.getD_cons_succ] at z0 z1 z2 z3 z4 z5 z6
  clear zr
  have l6 := L6.out; have l7 := L7.out; have hl := HL.out; 
  have N1 := Ne.symm N0
  have c6 : ∀ ob, (W.alloc ob).cell? ⟨g, o + 6, none⟩ = some (.int .u8 (x6 : Nat)) := fun ob => by rw [((Below.refl W.heap.size W).alloc (Nat.le_refl _) ob).cell (p := ⟨g, o + 6, none⟩) (World.block_lt_of_cell? W _ C6.out)]; exact C6.out
  have c7 : ∀ ob, (W.alloc ob).cell? ⟨g, o + 7, none⟩ = some (.int .u8 (x7 : Nat)) := fun ob => by rw [((Below.refl W.heap.size W).alloc (Nat.le_refl _) ob).cell (p := ⟨g, o + 7, none⟩) (World.block_lt_of_cell? W _ C7.out)]; exact C7.out
  clear v0 v1 v2 v3 v4 v5 v6 vz c0 c1 c2 c3 c4 c5 q0 q1 q2 q3 q4 l0 l2 l3 l4 l5
  go_wp2_with fail
  obtain ⟨X, hX⟩ : ∃ X, W.alloc (Obj.cells #[Value.int IntKind.i64 a0, Value.bool r, Value.bool true, Value.int IntKind.i64 a3, Value.int IntKind.i64 a4, Value.int IntKind.i64 x6, Value.int IntKind.i64 (x7 + 1)] 77) = X := ⟨_, rfl⟩
  have hgX : w.grownBy X none := hX ▸ hg.trans (World.grownBy_alloc _ _ none)
  have rs := set7 (hX ▸ RZ.out.grown (World.grownBy_alloc W _ none) (by simp) : Row X w.heap.size 77 7 _) (.int .i64 0) (.bool false) (.bool false) (.int .i64 0) (.int .i64 0) (.int .i64 0) (.int .i64 0)
  have gs := set7_grown X w.heap.size (.int .i64 0) (.bool false) (.bool false) (.int .i64 0) (.int .i64 0) (.int .i64 0) (.int .i64 0)
  have hG2 := hgX.andThen gs (fun j e => .inl (by cases e; exact Nat.le_refl _))
  rw [hX]
  clear gs z0 z1 z2 z3 z4 z5 z6 zz RZ hX hgX
  generalize (((((((X.setCell ⟨w.heap.size, 0, none⟩ (.int .i64 0)).setCell ⟨w.heap.size, 1, none⟩ (.bool false)).setCell ⟨w.heap.size, 2, none⟩ (.bool false)).setCell ⟨w.heap.size, 3, none⟩ (.int .i64 0)).setCell ⟨w.heap.size, 4, none⟩ (.int .i64 0)).setCell ⟨w.heap.size, 5, none⟩ (.int .i64 0)).setCell ⟨w.heap.size, 6, none⟩ (.int .i64 0)) = W3 at *
  have z0 := rs.cell (k := 0) (by omega); have z1 := rs.cell (k := 1) (by omega); have z2 := rs.cell (k := 2) (by omega); have z3 := rs.cell (k := 3) (by omega); have z4 := rs.cell (k := 4) (by omega); have z5 := rs.cell (k := 5) (by omega); have z6 := rs.cell (k := 6) (by omega)
  simp only [sevV, List.getD_cons_zero, List.getD_cons_succ] at z0 z1 z2 z3 z4 z5 z6
  clear rs
  refine bodyPost_ret (v := .tuple #[.agg #[.int .i64 0, .bool false, .bool false, .int .i64 0, .int .i64 0, .int .i64 0, .int .i64 0], .int .i64 60]) (by simp [results, Try.results116, go_sem, z0, z1, z2, z3, z4, z5, z6]) rfl ⟨rfl, hG2.trans (grownBy_drew _ none)⟩
end Go.Proofs.Ytibiianmpajabaa
