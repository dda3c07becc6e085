/-
  Package grant: Unpack.
-/
import Derived.Test.YtibiianmpajabaaGrD
set_option linter.unusedSimpArgs false
set_option linter.unusedVariables false
namespace Go.Proofs.Ytibiianmpajabaa
open Go.RowKit
set_option maxHeartbeats 4000000
/-- what the program makes of eight bytes, ahead of its tests -/
def gpV (b : Nat → Nat) : GV := ⟨((b 0 + 256 * b 1) % 4 : Nat), decide ((b 0 + 256 * b 1) / 4 % 2 = 1), decide ((b 0 + 256 * b 1) / 8 % 2 = 1), (b 2 + 256 * b 3 : Nat), (b 4 + 256 * b 5 : Nat), if decide ((b 0 + 256 * b 1) / 8 % 2 = 1) = true then (b 6 : Nat) else 0, if decide ((b 0 + 256 * b 1) / 8 % 2 = 1) = true then (b 7 + 1 : Nat) else 256⟩
theorem unP (b : Nat → Nat) (h : ∀ k, k < 8 → b k < 256) : unG b = if 15 < b 0 + 256 * b 1 ∨ packV (gpV b) = false then (g0, 60) else (gpV b, 0) := by
  have l0 := h 0 (by omega); have l1 := h 1 (by omega); have l2 := h 2 (by omega); have l3 := h 3 (by omega); have l4 := h 4 (by omega); have l5 := h 5 (by omega); have l6 := h 6 (by omega); have l7 := h 7 (by omega)
  unfold unG gpV packV wV pgV
  generalize b 0 = x0 at *; generalize b 1 = x1 at *; generalize b 2 = x2 at *; generalize b 3 = x3 at *; generalize b 4 = x4 at *; generalize b 5 = x5 at *; generalize b 6 = x6 at *; generalize b 7 = x7 at *
  by_cases hb : 15 < x0 + 256 * x1
  · rw [if_pos (by omega), if_pos (.inl hb)]
  have hx1 : x1 = 0 := by omega
  subst hx1
  by_cases hk : x0 % 4 = 3
  · rw [if_pos (.inr (.inr hk)), if_pos (.inr (by simp; omega))]
  · rw [if_neg (by omega)]
    by_cases hs : x0 / 8 = 1
    · have e : decide ((x0 + 256 * 0) / 8 % 2 = 1) = true := by simp; omega
      rw [if_pos hs, e]
      by_cases hl : 256 < x6 + x7 + 1
      · rw [if_pos hl, if_pos (.inr (by simp; omega))]
      · rw [if_neg hl, if_neg (by simp; omega)]
        simp
    · have e : decide ((x0 + 256 * 0) / 8 % 2 = 1) = false := by simp; omega
      rw [if_neg hs, e, if_neg (by simp; omega)]
      simp
set_option maxRecDepth 100000 in
theorem gPn_len (p : Option Addr) (n c : Nat) (w : World) (h : n ≠ 8) : Calls Try.prog 137 #[.slice p n c] w fun e w' => e = .returned (.tuple #[g0.val, .int .i64 1]) ∧ w.grownBy w' none := by
  have hb : ((n : Int) != 8) = true := by simp; omega
  go_enter Try.func137, Try.ntmps137
  go_wp2_with fail
  exact bodyPost_ret (v := .tuple #[g0.val, .int .i64 1]) (by simp [results, Try.results137, go_sem, g0, GV.val]) rfl ⟨rfl, World.grownBy_alloc _ _ _⟩
abbrev WdAt (g o c : Nat) (k : Int) (v : Int) (w : World) : Prop := Calls Try.prog 143 #[.slice (some ⟨g, o, none⟩) 8 c, .int .i64 k] w fun e w' => e = .returned (.int .i64 v) ∧ w.grownBy w' none
set_option maxRecDepth 100000 in
theorem gPn_all_big (g o c f : Nat) (a0 d p : Int) (r : Bool) (w : World) (h0 : ∀ w', w.grownBy w' none → WdAt g o c 0 (f : Int) w') (h2 : ∀ w', w.grownBy w' none → WdAt g o c 2 d w') (h4 : ∀ w', w.grownBy w' none → WdAt g o c 4 p w')
    (e3 : bits .and .i64 (f : Int) 3 = a0) (e4 : (bits .and .i64 (f : Int) 4 != 0) = r) (e8 : (bits .and .i64 (f : Int) 8 != 0) = false) (hf : decide (15 < (f : Int)) = true) :
    Calls Try.prog 137 #[.slice (some ⟨g, o, none⟩) 8 c] w fun e w' => e = .returned (.tuple #[.agg #[.int .i64 0, .bool false, .bool false, .int .i64 0, .int .i64 0, .int .i64 0, .int .i64 0], .int .i64 60]) ∧ w.grownBy w' none := by
  obtain ⟨W, hW⟩ : ∃ W, w.alloc (.cells #[.int .i64 0, .bool false, .bool false, .int .i64 0, .int .i64 0, .int .i64 0, .int .i64 0] 77) = W := ⟨_, rfl⟩
  have HGW := hid (show w.grownBy W none from hW ▸ World.grownBy_alloc _ _ none)
  have RZ := hid (hW ▸ row7z w : Row W w.heap.size 77 7 _)
  have H0 := hid h0; have H2 := hid h2; have H4 := hid h4
  skip
  skip
  clear h0 h2 h4  
  go_enter Try.func137, Try.ntmps137
  go_wp2_with (first 
   | (go_at_call 143; first
    | ((with_reducible refine (H0.out _ HGW.out).mono ?_); rintro e w1 ⟨rfl, g1⟩; have HG1 := hid (HGW.out.trans g1); have RZ1 := hid (RZ.out.grown g1 (by simp)); clear g1 hW)
    | ((with_reducible refine (H2.out _ HG1.out).mono ?_); rintro e w2 ⟨rfl, g2⟩; have HG2 := hid (HG1.out.trans g2); have RZ2 := hid (RZ1.out.grown g2 (by simp)); clear g2)
    | ((with_reducible refine (H4.out _ HG2.out).mono ?_); rintro e w3 ⟨rfl, g3⟩; have HG3 := hid (HG2.out.trans g3); have RZ3 := hid (RZ2.out.grown g3 (by simp)); clear g3; have z0 := fun ob => (RZ3.out.grown (World.grownBy_alloc w3 ob none) (by simp)).cell (k := 0) (by omega); have z1 := fun ob => (RZ3.out.grown (World.grownBy_alloc w3 ob none) (by simp)).cell (k := 1) (by omega); have z2 := fun ob => (RZ3.out.grown (World.grownBy_alloc w3 ob none) (by simp)).cell (k := 2) (by omega); have z3 := fun ob => (RZ3.out.grown (World.grownBy_alloc w3 ob none) (by simp)).cell (k := 3) (by omega); have z4 := fun ob => (RZ3.out.grown (World.grownBy_alloc w3 ob none) (by simp)).cell (k := 4) (by omega); have z5 := fun ob => (RZ3.out.grown (World.grownBy_alloc w3 ob none) (by simp)).cell (k := 5) (by omega); have z6 := fun ob => (RZ3.out.grown (World.grownBy_alloc w3 ob none) (by simp)).cell (k := 6) (by omega); have zz := fun ob => (RZ3.out.grown (World.grownBy_alloc w3 ob none) (by simp)).frozen; simp only [List.getD_cons_zero, List.getD_cons_succ] at z0 z1 z2 z3 z4 z5 z6)))
  obtain ⟨X, hX⟩ : ∃ X, w3.alloc (Obj.cells #[Value.int IntKind.i64 a0, Value.bool r, Value.bool false, Value.int IntKind.i64 d, Value.int IntKind.i64 p, Value.int IntKind.i64 0, Value.int IntKind.i64 256] 77) = X := ⟨_, rfl⟩
  have hgX : w.grownBy X none := hX ▸ HG3.out.trans (World.grownBy_alloc _ _ none)
  have rs := set7 (hX ▸ RZ3.out.grown (World.grownBy_alloc w3 _ none) (by simp) : Row X w.heap.size 77 7 _) (.int .i64 0) (.bool false) (.bool false) (.int .i64 0) (.int .i64 0) (.int .i64 0) (.int .i64 0)
  have gs := set7_grown X w.heap.size (.int .i64 0) (.bool false) (.bool false) (.int .i64 0) (.int .i64 0) (.int .i64 0) (.int .i64 0)
  have hG2 := hgX.andThen gs (fun j e => .inl (by cases e; exact Nat.le_refl _))
  rw [hX]
  clear gs z0 z1 z2 z3 z4 z5 z6 zz hX hgX
  generalize (((((((X.setCell ⟨w.heap.size, 0, none⟩ (.int .i64 0)).setCell ⟨w.heap.size, 1, none⟩ (.bool false)).setCell ⟨w.heap.size, 2, none⟩ (.bool false)).setCell ⟨w.heap.size, 3, none⟩ (.int .i64 0)).setCell ⟨w.heap.size, 4, none⟩ (.int .i64 0)).setCell ⟨w.heap.size, 5, none⟩ (.int .i64 0)).setCell ⟨w.heap.size, 6, none⟩ (.int .i64 0)) = W3 at *
  have z0 := rs.cell (k := 0) (by omega); have z1 := rs.cell (k := 1) (by omega); have z2 := rs.cell (k := 2) (by omega); have z3 := rs.cell (k := 3) (by omega); have z4 := rs.cell (k := 4) (by omega); have z5 := rs.cell (k := 5) (by omega); have z6 := rs.cell (k := 6) (by omega)
  simp only [sevV, List.getD_cons_zero, List.getD_cons_succ] at z0 z1 z2 z3 z4 z5 z6
  clear rs
  refine bodyPost_ret (v := .tuple #[.agg #[.int .i64 0, .bool false, .bool false, .int .i64 0, .int .i64 0, .int .i64 0, .int .i64 0], .int .i64 60]) (by simp [results, Try.results137, go_sem, z0, z1, z2, z3, z4, z5, z6]) rfl ⟨rfl, by first | exact hG2 | exact hG2.trans (grownBy_drew _ none)⟩

set_option maxRecDepth 100000 in
theorem gPn_all_bad (g o c f : Nat) (a0 d p : Int) (r : Bool) (w : World) (h0 : ∀ w', w.grownBy w' none → WdAt g o c 0 (f : Int) w') (h2 : ∀ w', w.grownBy w' none → WdAt g o c 2 d w') (h4 : ∀ w', w.grownBy w' none → WdAt g o c 4 p w')
    (e3 : bits .and .i64 (f : Int) 3 = a0) (e4 : (bits .and .i64 (f : Int) 4 != 0) = r) (e8 : (bits .and .i64 (f : Int) 8 != 0) = false) (hf : decide (15 < (f : Int)) = false) (hpk : ∀ w', Calls Try.prog 120 #[.agg #[.int .i64 a0, .bool r, .bool false, .int .i64 d, .int .i64 p, .int .i64 0, .int .i64 256]] w' fun e w'' => e = .returned (.bool false) ∧ w'.grownBy w'' none) :
    Calls Try.prog 137 #[.slice (some ⟨g, o, none⟩) 8 c] w fun e w' => e = .returned (.tuple #[.agg #[.int .i64 0, .bool false, .bool false, .int .i64 0, .int .i64 0, .int .i64 0, .int .i64 0], .int .i64 60]) ∧ w.grownBy w' none := by
  obtain ⟨W, hW⟩ : ∃ W, w.alloc (.cells #[.int .i64 0, .bool false, .bool false, .int .i64 0, .int .i64 0, .int .i64 0, .int .i64 0] 77) = W := ⟨_, rfl⟩
  have HGW := hid (show w.grownBy W none from hW ▸ World.grownBy_alloc _ _ none)
  have RZ := hid (hW ▸ row7z w : Row W w.heap.size 77 7 _)
  have H0 := hid h0; have H2 := hid h2; have H4 := hid h4
  have HPk := hid hpk
  skip
  clear h0 h2 h4 hpk 
  go_enter Try.func137, Try.ntmps137
  go_wp2_with (first 
   | (go_at_call 120; refine (HPk.out _).mono ?_; rintro e w4 ⟨rfl, g4⟩; have G34 := hid (show w3.grownBy w4 none from (World.grownBy_alloc _ _ none).trans g4); have HG4 := hid (HG3.out.trans G34.out); have RZ4 := hid (RZ3.out.grown G34.out (by simp));  have z0 := RZ4.out.cell (k := 0) (by omega); have z1 := RZ4.out.cell (k := 1) (by omega); have z2 := RZ4.out.cell (k := 2) (by omega); have z3 := RZ4.out.cell (k := 3) (by omega); have z4 := RZ4.out.cell (k := 4) (by omega); have z5 := RZ4.out.cell (k := 5) (by omega); have z6 := RZ4.out.cell (k := 6) (by omega); have zz := RZ4.out.frozen; simp only [List.getD_cons_zero, List.getD_cons_succ] at z0 z1 z2 z3 z4 z5 z6; clear g4)
   | (go_at_call 143; first
    | ((with_reducible refine (H0.out _ HGW.out).mono ?_); rintro e w1 ⟨rfl, g1⟩; have HG1 := hid (HGW.out.trans g1); have RZ1 := hid (RZ.out.grown g1 (by simp)); clear g1 hW)
    | ((with_reducible refine (H2.out _ HG1.out).mono ?_); rintro e w2 ⟨rfl, g2⟩; have HG2 := hid (HG1.out.trans g2); have RZ2 := hid (RZ1.out.grown g2 (by simp)); clear g2)
    | ((with_reducible refine (H4.out _ HG2.out).mono ?_); rintro e w3 ⟨rfl, g3⟩; have HG3 := hid (HG2.out.trans g3); have RZ3 := hid (RZ2.out.grown g3 (by simp)); clear g3)))
  have rs := set7 RZ4.out (.int .i64 0) (.bool false) (.bool false) (.int .i64 0) (.int .i64 0) (.int .i64 0) (.int .i64 0)
  have gs := set7_grown w4 w.heap.size (.int .i64 0) (.bool false) (.bool false) (.int .i64 0) (.int .i64 0) (.int .i64 0) (.int .i64 0)
  have hG2 := HG4.out.andThen gs (fun j e => .inl (by cases e; exact Nat.le_refl _))
  clear gs z0 z1 z2 z3 z4 z5 z6 zz
  generalize (((((((w4.setCell ⟨w.heap.size, 0, none⟩ (.int .i64 0)).setCell ⟨w.heap.size, 1, none⟩ (.bool false)).setCell ⟨w.heap.size, 2, none⟩ (.bool false)).setCell ⟨w.heap.size, 3, none⟩ (.int .i64 0)).setCell ⟨w.heap.size, 4, none⟩ (.int .i64 0)).setCell ⟨w.heap.size, 5, none⟩ (.int .i64 0)).setCell ⟨w.heap.size, 6, none⟩ (.int .i64 0)) = W3 at *
  have z0 := rs.cell (k := 0) (by omega); have z1 := rs.cell (k := 1) (by omega); have z2 := rs.cell (k := 2) (by omega); have z3 := rs.cell (k := 3) (by omega); have z4 := rs.cell (k := 4) (by omega); have z5 := rs.cell (k := 5) (by omega); have z6 := rs.cell (k := 6) (by omega)
  simp only [sevV, List.getD_cons_zero, List.getD_cons_succ] at z0 z1 z2 z3 z4 z5 z6
  clear rs
  refine bodyPost_ret (v := .tuple #[.agg #[.int .i64 0, .bool false, .bool false, .int .i64 0, .int .i64 0, .int .i64 0, .int .i64 0], .int .i64 60]) (by simp [results, Try.results137, go_sem, z0, z1, z2, z3, z4, z5, z6]) rfl ⟨rfl, by first | exact hG2 | exact hG2.trans (grownBy_drew _ none)⟩

set_option maxRecDepth 100000 in
theorem gPn_all_ok (g o c f : Nat) (a0 d p : Int) (r : Bool) (w : World) (h0 : ∀ w', w.grownBy w' none → WdAt g o c 0 (f : Int) w') (h2 : ∀ w', w.grownBy w' none → WdAt g o c 2 d w') (h4 : ∀ w', w.grownBy w' none → WdAt g o c 4 p w')
    (e3 : bits .and .i64 (f : Int) 3 = a0) (e4 : (bits .and .i64 (f : Int) 4 != 0) = r) (e8 : (bits .and .i64 (f : Int) 8 != 0) = false) (hf : decide (15 < (f : Int)) = false) (hpk : ∀ w', Calls Try.prog 120 #[.agg #[.int .i64 a0, .bool r, .bool false, .int .i64 d, .int .i64 p, .int .i64 0, .int .i64 256]] w' fun e w'' => e = .returned (.bool true) ∧ w'.grownBy w'' none) :
    Calls Try.prog 137 #[.slice (some ⟨g, o, none⟩) 8 c] w fun e w' => e = .returned (.tuple #[.agg #[.int .i64 a0, .bool r, .bool false, .int .i64 d, .int .i64 p, .int .i64 0, .int .i64 256], .int .i64 0]) ∧ w.grownBy w' none := by
  obtain ⟨W, hW⟩ : ∃ W, w.alloc (.cells #[.int .i64 0, .bool false, .bool false, .int .i64 0, .int .i64 0, .int .i64 0, .int .i64 0] 77) = W := ⟨_, rfl⟩
  have HGW := hid (show w.grownBy W none from hW ▸ World.grownBy_alloc _ _ none)
  have RZ := hid (hW ▸ row7z w : Row W w.heap.size 77 7 _)
  have H0 := hid h0; have H2 := hid h2; have H4 := hid h4
  have HPk := hid hpk
  skip
  clear h0 h2 h4 hpk 
  go_enter Try.func137, Try.ntmps137
  go_wp2_with (first 
   | (go_at_call 120; refine (HPk.out _).mono ?_; rintro e w4 ⟨rfl, g4⟩; have G34 := hid (show w3.grownBy w4 none from (World.grownBy_alloc _ _ none).trans g4); have HG4 := hid (HG3.out.trans G34.out); have RZ4 := hid (RZ3.out.grown G34.out (by simp)); have y0 := g4.cell (a := ⟨w3.heap.size, 0, none⟩) (v := .int .i64 a0) (by simp [go_sem]) (by simp); have y1 := g4.cell (a := ⟨w3.heap.size, 1, none⟩) (v := .bool r) (by simp [go_sem]) (by simp); have y2 := g4.cell (a := ⟨w3.heap.size, 2, none⟩) (v := .bool false) (by simp [go_sem]) (by simp); have y3 := g4.cell (a := ⟨w3.heap.size, 3, none⟩) (v := .int .i64 d) (by simp [go_sem]) (by simp); have y4 := g4.cell (a := ⟨w3.heap.size, 4, none⟩) (v := .int .i64 p) (by simp [go_sem]) (by simp); have y5 := g4.cell (a := ⟨w3.heap.size, 5, none⟩) (v := .int .i64 0) (by simp [go_sem]) (by simp); have y6 := g4.cell (a := ⟨w3.heap.size, 6, none⟩) (v := .int .i64 256) (by simp [go_sem]) (by simp); have z0 := RZ4.out.cell (k := 0) (by omega); have z1 := RZ4.out.cell (k := 1) (by omega); have z2 := RZ4.out.cell (k := 2) (by omega); have z3 := RZ4.out.cell (k := 3) (by omega); have z4 := RZ4.out.cell (k := 4) (by omega); have z5 := RZ4.out.cell (k := 5) (by omega); have z6 := RZ4.out.cell (k := 6) (by omega); have zz := RZ4.out.frozen; simp only [List.getD_cons_zero, List.getD_cons_succ] at z0 z1 z2 z3 z4 z5 z6; clear g4)
   | (go_at_call 143; first
    | ((with_reducible refine (H0.out _ HGW.out).mono ?_); rintro e w1 ⟨rfl, g1⟩; have HG1 := hid (HGW.out.trans g1); have RZ1 := hid (RZ.out.grown g1 (by simp)); clear g1 hW)
    | ((with_reducible refine (H2.out _ HG1.out).mono ?_); rintro e w2 ⟨rfl, g2⟩; have HG2 := hid (HG1.out.trans g2); have RZ2 := hid (RZ1.out.grown g2 (by simp)); clear g2)
    | ((with_reducible refine (H4.out _ HG2.out).mono ?_); rintro e w3 ⟨rfl, g3⟩; have HG3 := hid (HG2.out.trans g3); have RZ3 := hid (RZ2.out.grown g3 (by simp)); clear g3)))
  have rs := set7 RZ4.out (.int .i64 a0) (.bool r) (.bool false) (.int .i64 d) (.int .i64 p) (.int .i64 0) (.int .i64 256)
  have gs := set7_grown w4 w.heap.size (.int .i64 a0) (.bool r) (.bool false) (.int .i64 d) (.int .i64 p) (.int .i64 0) (.int .i64 256)
  have hG2 := HG4.out.andThen gs (fun j e => .inl (by cases e; exact Nat.le_refl _))
  clear gs z0 z1 z2 z3 z4 z5 z6 zz
  generalize (((((((w4.setCell ⟨w.heap.size, 0, none⟩ (.int .i64 a0)).setCell ⟨w.heap.size, 1, none⟩ (.bool r)).setCell ⟨w.heap.size, 2, none⟩ (.bool false)).setCell ⟨w.heap.size, 3, none⟩ (.int .i64 d)).setCell ⟨w.heap.size, 4, none⟩ (.int .i64 p)).setCell ⟨w.heap.size, 5, none⟩ (.int .i64 0)).setCell ⟨w.heap.size, 6, none⟩ (.int .i64 256)) = W3 at *
  have z0 := rs.cell (k := 0) (by omega); have z1 := rs.cell (k := 1) (by omega); have z2 := rs.cell (k := 2) (by omega); have z3 := rs.cell (k := 3) (by omega); have z4 := rs.cell (k := 4) (by omega); have z5 := rs.cell (k := 5) (by omega); have z6 := rs.cell (k := 6) (by omega)
  simp only [sevV, List.getD_cons_zero, List.getD_cons_succ] at z0 z1 z2 z3 z4 z5 z6
  clear rs
  refine bodyPost_ret (v := .tuple #[.agg #[.int .i64 a0, .bool r, .bool false, .int .i64 d, .int .i64 p, .int .i64 0, .int .i64 256], .int .i64 0]) (by simp [results, Try.results137, go_sem, z0, z1, z2, z3, z4, z5, z6]) rfl ⟨rfl, by first | exact hG2 | exact hG2.trans (grownBy_drew _ none)⟩

set_option maxRecDepth 100000 in
theorem gPn_sub_big (g o c f : Nat) (a0 d p : Int) (r : Bool) (x6 x7 : Nat) (w : World) (h0 : ∀ w', w.grownBy w' none → WdAt g o c 0 (f : Int) w') (h2 : ∀ w', w.grownBy w' none → WdAt g o c 2 d w') (h4 : ∀ w', w.grownBy w' none → WdAt g o c 4 p w')
    (e3 : bits .and .i64 (f : Int) 3 = a0) (e4 : (bits .and .i64 (f : Int) 4 != 0) = r) (e8 : (bits .and .i64 (f : Int) 8 != 0) = true) (hf : decide (15 < (f : Int)) = true) (c6 : w.cell? ⟨g, o + 6, none⟩ = some (.int .u8 (x6 : Nat))) (c7 : w.cell? ⟨g, o + 7, none⟩ = some (.int .u8 (x7 : Nat))) (l6 : x6 < 256) (l7 : x7 < 256) :
    Calls Try.prog 137 #[.slice (some ⟨g, o, none⟩) 8 c] w fun e w' => e = .returned (.tuple #[.agg #[.int .i64 0, .bool false, .bool false, .int .i64 0, .int .i64 0, .int .i64 0, .int .i64 0], .int .i64 60]) ∧ w.grownBy w' none := by
  obtain ⟨W, hW⟩ : ∃ W, w.alloc (.cells #[.int .i64 0, .bool false, .bool false, .int .i64 0, .int .i64 0, .int .i64 0, .int .i64 0] 77) = W := ⟨_, rfl⟩
  have HGW := hid (show w.grownBy W none from hW ▸ World.grownBy_alloc _ _ none)
  have RZ := hid (hW ▸ row7z w : Row W w.heap.size 77 7 _)
  have H0 := hid h0; have H2 := hid h2; have H4 := hid h4
  skip
  have C6 := hid c6; have C7 := hid c7
  clear h0 h2 h4  c6 c7
  go_enter Try.func137, Try.ntmps137
  go_wp2_with (first 
   | (go_at_call 143; first
    | ((with_reducible refine (H0.out _ HGW.out).mono ?_); rintro e w1 ⟨rfl, g1⟩; have HG1 := hid (HGW.out.trans g1); have RZ1 := hid (RZ.out.grown g1 (by simp)); clear g1 hW)
    | ((with_reducible refine (H2.out _ HG1.out).mono ?_); rintro e w2 ⟨rfl, g2⟩; have HG2 := hid (HG1.out.trans g2); have RZ2 := hid (RZ1.out.grown g2 (by simp)); clear g2)
    | ((with_reducible refine (H4.out _ HG2.out).mono ?_); rintro e w3 ⟨rfl, g3⟩; have HG3 := hid (HG2.out.trans g3); have RZ3 := hid (RZ2.out.grown g3 (by simp)); clear g3; have z0 := fun ob => (RZ3.out.grown (World.grownBy_alloc w3 ob none) (by simp)).cell (k := 0) (by omega); have z1 := fun ob => (RZ3.out.grown (World.grownBy_alloc w3 ob none) (by simp)).cell (k := 1) (by omega); have z2 := fun ob => (RZ3.out.grown (World.grownBy_alloc w3 ob none) (by simp)).cell (k := 2) (by omega); have z3 := fun ob => (RZ3.out.grown (World.grownBy_alloc w3 ob none) (by simp)).cell (k := 3) (by omega); have z4 := fun ob => (RZ3.out.grown (World.grownBy_alloc w3 ob none) (by simp)).cell (k := 4) (by omega); have z5 := fun ob => (RZ3.out.grown (World.grownBy_alloc w3 ob none) (by simp)).cell (k := 5) (by omega); have z6 := fun ob => (RZ3.out.grown (World.grownBy_alloc w3 ob none) (by simp)).cell (k := 6) (by omega); have zz := fun ob => (RZ3.out.grown (World.grownBy_alloc w3 ob none) (by simp)).frozen; simp only [List.getD_cons_zero, List.getD_cons_succ] at z0 z1 z2 z3 z4 z5 z6; have k6 := fun ob => (HG3.out.trans (World.grownBy_alloc w3 ob none)).cell C6.out (by simp); have k7 := fun ob => (HG3.out.trans (World.grownBy_alloc w3 ob none)).cell C7.out (by simp))))
  go_region
  all_goals
    go_wp2
    obtain ⟨X, hX⟩ : ∃ X, w3.alloc (Obj.cells #[Value.int IntKind.i64 a0, Value.bool r, Value.bool true, Value.int IntKind.i64 d, Value.int IntKind.i64 p, Value.int IntKind.i64 x6, Value.int IntKind.i64 (x7 + 1)] 77) = X := ⟨_, rfl⟩
    have hgX : w.grownBy X none := hX ▸ HG3.out.trans (World.grownBy_alloc _ _ none)
    have rs := set7 (hX ▸ RZ3.out.grown (World.grownBy_alloc w3 _ none) (by simp) : Row X w.heap.size 77 7 _) (.int .i64 0) (.bool false) (.bool false) (.int .i64 0) (.int .i64 0) (.int .i64 0) (.int .i64 0)
    have gs := set7_grown X w.heap.size (.int .i64 0) (.bool false) (.bool false) (.int .i64 0) (.int .i64 0) (.int .i64 0) (.int .i64 0)
    have hG2 := hgX.andThen gs (fun j e => .inl (by cases e; exact Nat.le_refl _))
    rw [hX]
    clear gs z0 z1 z2 z3 z4 z5 z6 zz hX hgX
    generalize (((((((X.setCell ⟨w.heap.size, 0, none⟩ (.int .i64 0)).setCell ⟨w.heap.size, 1, none⟩ (.bool false)).setCell ⟨w.heap.size, 2, none⟩ (.bool false)).setCell ⟨w.heap.size, 3, none⟩ (.int .i64 0)).setCell ⟨w.heap.size, 4, none⟩ (.int .i64 0)).setCell ⟨w.heap.size, 5, none⟩ (.int .i64 0)).setCell ⟨w.heap.size, 6, none⟩ (.int .i64 0)) = W3 at *
    have z0 := rs.cell (k := 0) (by omega); have z1 := rs.cell (k := 1) (by omega); have z2 := rs.cell (k := 2) (by omega); have z3 := rs.cell (k := 3) (by omega); have z4 := rs.cell (k := 4) (by omega); have z5 := rs.cell (k := 5) (by omega); have z6 := rs.cell (k := 6) (by omega)
    simp only [sevV, List.getD_cons_zero, List.getD_cons_succ] at z0 z1 z2 z3 z4 z5 z6
    clear rs
    refine bodyPost_ret (v := .tuple #[.agg #[.int .i64 0, .bool false, .bool false, .int .i64 0, .int .i64 0, .int .i64 0, .int .i64 0], .int .i64 60]) (by simp [results, Try.results137, go_sem, z0, z1, z2, z3, z4, z5, z6]) rfl ⟨rfl, by first | exact hG2 | exact hG2.trans (grownBy_drew _ none)⟩

set_option maxRecDepth 100000 in
theorem gPn_sub_bad (g o c f : Nat) (a0 d p : Int) (r : Bool) (x6 x7 : Nat) (w : World) (h0 : ∀ w', w.grownBy w' none → WdAt g o c 0 (f : Int) w') (h2 : ∀ w', w.grownBy w' none → WdAt g o c 2 d w') (h4 : ∀ w', w.grownBy w' none → WdAt g o c 4 p w')
    (e3 : bits .and .i64 (f : Int) 3 = a0) (e4 : (bits .and .i64 (f : Int) 4 != 0) = r) (e8 : (bits .and .i64 (f : Int) 8 != 0) = true) (hf : decide (15 < (f : Int)) = false) (hpk : ∀ w', Calls Try.prog 120 #[.agg #[.int .i64 a0, .bool r, .bool true, .int .i64 d, .int .i64 p, .int .i64 x6, .int .i64 (x7 + 1)]] w' fun e w'' => e = .returned (.bool false) ∧ w'.grownBy w'' none) (c6 : w.cell? ⟨g, o + 6, none⟩ = some (.int .u8 (x6 : Nat))) (c7 : w.cell? ⟨g, o + 7, none⟩ = some (.int .u8 (x7 : Nat))) (l6 : x6 < 256) (l7 : x7 < 256) :
    Calls Try.prog 137 #[.slice (some ⟨g, o, none⟩) 8 c] w fun e w' => e = .returned (.tuple #[.agg #[.int .i64 0, .bool false, .bool false, .int .i64 0, .int .i64 0, .int .i64 0, .int .i64 0], .int .i64 60]) ∧ w.grownBy w' none := by
  obtain ⟨W, hW⟩ : ∃ W, w.alloc (.cells #[.int .i64 0, .bool false, .bool false, .int .i64 0, .int .i64 0, .int .i64 0, .int .i64 0] 77) = W := ⟨_, rfl⟩
  have HGW := hid (show w.grownBy W none from hW ▸ World.grownBy_alloc _ _ none)
  have RZ := hid (hW ▸ row7z w : Row W w.heap.size 77 7 _)
  have H0 := hid h0; have H2 := hid h2; have H4 := hid h4
  have HPk := hid hpk
  have C6 := hid c6; have C7 := hid c7
  clear h0 h2 h4 hpk c6 c7
  go_enter Try.func137, Try.ntmps137
  go_wp2_with (first 
   | (go_at_call 143; first
    | ((with_reducible refine (H0.out _ HGW.out).mono ?_); rintro e w1 ⟨rfl, g1⟩; have HG1 := hid (HGW.out.trans g1); have RZ1 := hid (RZ.out.grown g1 (by simp)); clear g1 hW)
    | ((with_reducible refine (H2.out _ HG1.out).mono ?_); rintro e w2 ⟨rfl, g2⟩; have HG2 := hid (HG1.out.trans g2); have RZ2 := hid (RZ1.out.grown g2 (by simp)); clear g2)
    | ((with_reducible refine (H4.out _ HG2.out).mono ?_); rintro e w3 ⟨rfl, g3⟩; have HG3 := hid (HG2.out.trans g3); have RZ3 := hid (RZ2.out.grown g3 (by simp)); clear g3; have k6 := fun ob => (HG3.out.trans (World.grownBy_alloc w3 ob none)).cell C6.out (by simp); have k7 := fun ob => (HG3.out.trans (World.grownBy_alloc w3 ob none)).cell C7.out (by simp))))
  go_region
  all_goals
    go_wp2_with (go_at_call 120; refine (HPk.out _).mono ?_; rintro e w4 ⟨rfl, g4⟩; have G34 := hid (show w3.grownBy w4 none from (World.grownBy_alloc _ _ none).trans ((grownBy_drew _ none).trans g4)); have HG4 := hid (HG3.out.trans G34.out); have RZ4 := hid (RZ3.out.grown G34.out (by simp));  have z0 := RZ4.out.cell (k := 0) (by omega); have z1 := RZ4.out.cell (k := 1) (by omega); have z2 := RZ4.out.cell (k := 2) (by omega); have z3 := RZ4.out.cell (k := 3) (by omega); have z4 := RZ4.out.cell (k := 4) (by omega); have z5 := RZ4.out.cell (k := 5) (by omega); have z6 := RZ4.out.cell (k := 6) (by omega); have zz := RZ4.out.frozen; simp only [List.getD_cons_zero, List.getD_cons_succ] at z0 z1 z2 z3 z4 z5 z6; clear g4)
    have rs := set7 RZ4.out (.int .i64 0) (.bool false) (.bool false) (.int .i64 0) (.int .i64 0) (.int .i64 0) (.int .i64 0)
    have gs := set7_grown w4 w.heap.size (.int .i64 0) (.bool false) (.bool false) (.int .i64 0) (.int .i64 0) (.int .i64 0) (.int .i64 0)
    have hG2 := HG4.out.andThen gs (fun j e => .inl (by cases e; exact Nat.le_refl _))
    clear gs z0 z1 z2 z3 z4 z5 z6 zz
    generalize (((((((w4.setCell ⟨w.heap.size, 0, none⟩ (.int .i64 0)).setCell ⟨w.heap.size, 1, none⟩ (.bool false)).setCell ⟨w.heap.size, 2, none⟩ (.bool false)).setCell ⟨w.heap.size, 3, none⟩ (.int .i64 0)).setCell ⟨w.heap.size, 4, none⟩ (.int .i64 0)).setCell ⟨w.heap.size, 5, none⟩ (.int .i64 0)).setCell ⟨w.heap.size, 6, none⟩ (.int .i64 0)) = W3 at *
    have z0 := rs.cell (k := 0) (by omega); have z1 := rs.cell (k := 1) (by omega); have z2 := rs.cell (k := 2) (by omega); have z3 := rs.cell (k := 3) (by omega); have z4 := rs.cell (k := 4) (by omega); have z5 := rs.cell (k := 5) (by omega); have z6 := rs.cell (k := 6) (by omega)
    simp only [sevV, List.getD_cons_zero, List.getD_cons_succ] at z0 z1 z2 z3 z4 z5 z6
    clear rs
    refine bodyPost_ret (v := .tuple #[.agg #[.int .i64 0, .bool false, .bool false, .int .i64 0, .int .i64 0, .int .i64 0, .int .i64 0], .int .i64 60]) (by simp [results, Try.results137, go_sem, z0, z1, z2, z3, z4, z5, z6]) rfl ⟨rfl, by first | exact hG2 | exact hG2.trans (grownBy_drew _ none)⟩

set_option maxRecDepth 100000 in
theorem gPn_sub_ok (g o c f : Nat) (a0 d p : Int) (r : Bool) (x6 x7 : Nat) (w : World) (h0 : ∀ w', w.grownBy w' none → WdAt g o c 0 (f : Int) w') (h2 : ∀ w', w.grownBy w' none → WdAt g o c 2 d w') (h4 : ∀ w', w.grownBy w' none → WdAt g o c 4 p w')
    (e3 : bits .and .i64 (f : Int) 3 = a0) (e4 : (bits .and .i64 (f : Int) 4 != 0) = r) (e8 : (bits .and .i64 (f : Int) 8 != 0) = true) (hf : decide (15 < (f : Int)) = false) (hpk : ∀ w', Calls Try.prog 120 #[.agg #[.int .i64 a0, .bool r, .bool true, .int .i64 d, .int .i64 p, .int .i64 x6, .int .i64 (x7 + 1)]] w' fun e w'' => e = .returned (.bool true) ∧ w'.grownBy w'' none) (c6 : w.cell? ⟨g, o + 6, none⟩ = some (.int .u8 (x6 : Nat))) (c7 : w.cell? ⟨g, o + 7, none⟩ = some (.int .u8 (x7 : Nat))) (l6 : x6 < 256) (l7 : x7 < 256) :
    Calls Try.prog 137 #[.slice (some ⟨g, o, none⟩) 8 c] w fun e w' => e = .returned (.tuple #[.agg #[.int .i64 a0, .bool r, .bool true, .int .i64 d, .int .i64 p, .int .i64 x6, .int .i64 (x7 + 1)], .int .i64 0]) ∧ w.grownBy w' none := by
  obtain ⟨W, hW⟩ : ∃ W, w.alloc (.cells #[.int .i64 0, .bool false, .bool false, .int .i64 0, .int .i64 0, .int .i64 0, .int .i64 0] 77) = W := ⟨_, rfl⟩
  have HGW := hid (show w.grownBy W none from hW ▸ World.grownBy_alloc _ _ none)
  have RZ := hid (hW ▸ row7z w : Row W w.heap.size 77 7 _)
  have H0 := hid h0; have H2 := hid h2; have H4 := hid h4
  have HPk := hid hpk
  have C6 := hid c6; have C7 := hid c7
  clear h0 h2 h4 hpk c6 c7
  go_enter Try.func137, Try.ntmps137
  go_wp2_with (first 
   | (go_at_call 143; first
    | ((with_reducible refine (H0.out _ HGW.out).mono ?_); rintro e w1 ⟨rfl, g1⟩; have HG1 := hid (HGW.out.trans g1); have RZ1 := hid (RZ.out.grown g1 (by simp)); clear g1 hW)
    | ((with_reducible refine (H2.out _ HG1.out).mono ?_); rintro e w2 ⟨rfl, g2⟩; have HG2 := hid (HG1.out.trans g2); have RZ2 := hid (RZ1.out.grown g2 (by simp)); clear g2)
    | ((with_reducible refine (H4.out _ HG2.out).mono ?_); rintro e w3 ⟨rfl, g3⟩; have HG3 := hid (HG2.out.trans g3); have RZ3 := hid (RZ2.out.grown g3 (by simp)); clear g3; have k6 := fun ob => (HG3.out.trans (World.grownBy_alloc w3 ob none)).cell C6.out (by simp); have k7 := fun ob => (HG3.out.trans (World.grownBy_alloc w3 ob none)).cell C7.out (by simp))))
  go_region
  all_goals
    go_wp2_with (go_at_call 120; refine (HPk.out _).mono ?_; rintro e w4 ⟨rfl, g4⟩; have G34 := hid (show w3.grownBy w4 none from (World.grownBy_alloc _ _ none).trans ((grownBy_drew _ none).trans g4)); have HG4 := hid (HG3.out.trans G34.out); have RZ4 := hid (RZ3.out.grown G34.out (by simp)); have y0 := g4.cell (a := ⟨w3.heap.size, 0, none⟩) (v := .int .i64 a0) (by simp [go_sem]) (by simp); have y1 := g4.cell (a := ⟨w3.heap.size, 1, none⟩) (v := .bool r) (by simp [go_sem]) (by simp); have y2 := g4.cell (a := ⟨w3.heap.size, 2, none⟩) (v := .bool true) (by simp [go_sem]) (by simp); have y3 := g4.cell (a := ⟨w3.heap.size, 3, none⟩) (v := .int .i64 d) (by simp [go_sem]) (by simp); have y4 := g4.cell (a := ⟨w3.heap.size, 4, none⟩) (v := .int .i64 p) (by simp [go_sem]) (by simp); have y5 := g4.cell (a := ⟨w3.heap.size, 5, none⟩) (v := .int .i64 x6) (by simp [go_sem]) (by simp); have y6 := g4.cell (a := ⟨w3.heap.size, 6, none⟩) (v := .int .i64 (x7 + 1)) (by simp [go_sem]) (by simp); have z0 := RZ4.out.cell (k := 0) (by omega); have z1 := RZ4.out.cell (k := 1) (by omega); have z2 := RZ4.out.cell (k := 2) (by omega); have z3 := RZ4.out.cell (k := 3) (by omega); have z4 := RZ4.out.cell (k := 4) (by omega); have z5 := RZ4.out.cell (k := 5) (by omega); have z6 := RZ4.out.cell (k := 6) (by omega); have zz := RZ4.out.frozen; simp only [List.getD_cons_zero, List.getD_cons_succ] at z0 z1 z2 z3 z4 z5 z6; clear g4)
    have rs := set7 RZ4.out (.int .i64 a0) (.bool r) (.bool true) (.int .i64 d) (.int .i64 p) (.int .i64 x6) (.int .i64 (x7 + 1))
    have gs := set7_grown w4 w.heap.size (.int .i64 a0) (.bool r) (.bool true) (.int .i64 d) (.int .i64 p) (.int .i64 x6) (.int .i64 (x7 + 1))
    have hG2 := HG4.out.andThen gs (fun j e => .inl (by cases e; exact Nat.le_refl _))
    clear gs z0 z1 z2 z3 z4 z5 z6 zz
    generalize (((((((w4.setCell ⟨w.heap.size, 0, none⟩ (.int .i64 a0)).setCell ⟨w.heap.size, 1, none⟩ (.bool r)).setCell ⟨w.heap.size, 2, none⟩ (.bool true)).setCell ⟨w.heap.size, 3, none⟩ (.int .i64 d)).setCell ⟨w.heap.size, 4, none⟩ (.int .i64 p)).setCell ⟨w.heap.size, 5, none⟩ (.int .i64 x6)).setCell ⟨w.heap.size, 6, none⟩ (.int .i64 (x7 + 1))) = W3 at *
    have z0 := rs.cell (k := 0) (by omega); have z1 := rs.cell (k := 1) (by omega); have z2 := rs.cell (k := 2) (by omega); have z3 := rs.cell (k := 3) (by omega); have z4 := rs.cell (k := 4) (by omega); have z5 := rs.cell (k := 5) (by omega); have z6 := rs.cell (k := 6) (by omega)
    simp only [sevV, List.getD_cons_zero, List.getD_cons_succ] at z0 z1 z2 z3 z4 z5 z6
    clear rs
    refine bodyPost_ret (v := .tuple #[.agg #[.int .i64 a0, .bool r, .bool true, .int .i64 d, .int .i64 p, .int .i64 x6, .int .i64 (x7 + 1)], .int .i64 0]) (by simp [results, Try.results137, go_sem, z0, z1, z2, z3, z4, z5, z6]) rfl ⟨rfl, by first | exact hG2 | exact hG2.trans (grownBy_drew _ none)⟩

end Go.Proofs.Ytibiianmpajabaa

