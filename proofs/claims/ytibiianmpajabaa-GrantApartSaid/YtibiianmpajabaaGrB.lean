/-
  Package tenementref06: Unpack.
-/
import Derived.Test.YtibiianmpajabaaGrP
import Derived.Test.YtibiianmpajabaaRefM
import Derived.Test.YtibiianmpajabaaChecked
import Derived.WalkKit
import Derived.Deep.QuietTactic
import Derived.BigQuiet
import Derived.Deep.RegionHeld3
set_option linter.unusedSimpArgs false
set_option linter.unusedVariables false
namespace Go.Proofs.Ytibiianmpajabaa
open Go.RowKit
set_option maxHeartbeats 4000000

theorem row7z (w : World) : Row (w.alloc (.cells #[.int .i64 0, .bool false, .bool false, .int .i64 0, .int .i64 0, .int .i64 0, .int .i64 0] 77)) w.heap.size 77 7 (fun k => [Value.int .i64 0, .bool false, .bool false, .int .i64 0, .int .i64 0, .int .i64 0, .int .i64 0].getD k undef) :=
  ⟨_, heap_alloc_new w _, by simp, fun k hk => by match k, hk with | 0, _ => rfl | 1, _ => rfl | 2, _ => rfl | 3, _ => rfl | 4, _ => rfl | 5, _ => rfl | 6, _ => rfl⟩
def sevV (v0 v1 v2 v3 v4 v5 v6 : Value) (k : Nat) : Value := [v0, v1, v2, v3, v4, v5, v6].getD k undef
theorem set7 {w : World} {g : Nat} {t : TypeId} {X : Nat → Value} (h : Row w g t 7 X) (v0 v1 v2 v3 v4 v5 v6 : Value) :
    Row (((((((w.setCell ⟨g, 0, none⟩ v0).setCell ⟨g, 1, none⟩ v1).setCell ⟨g, 2, none⟩ v2).setCell ⟨g, 3, none⟩ v3).setCell ⟨g, 4, none⟩ v4).setCell ⟨g, 5, none⟩ v5).setCell ⟨g, 6, none⟩ v6) g t 7 (sevV v0 v1 v2 v3 v4 v5 v6) := by
  have h0 := h.set (k := 0) (v := v0) (X' := fun q => if q = 0 then v0 else X q) rfl (fun j _ hj => by simp [hj])
  have h1 := h0.set (k := 1) (v := v1) (X' := fun q => if q = 1 then v1 else if q = 0 then v0 else X q) rfl (fun j _ hj => by simp [hj])
  have h2 := h1.set (k := 2) (v := v2) (X' := fun q => if q = 2 then v2 else if q = 1 then v1 else if q = 0 then v0 else X q) rfl (fun j _ hj => by simp [hj])
  have h3 := h2.set (k := 3) (v := v3) (X' := fun q => if q = 3 then v3 else if q = 2 then v2 else if q = 1 then v1 else if q = 0 then v0 else X q) rfl (fun j _ hj => by simp [hj])
  have h4 := h3.set (k := 4) (v := v4) (X' := fun q => if q = 4 then v4 else if q = 3 then v3 else if q = 2 then v2 else if q = 1 then v1 else if q = 0 then v0 else X q) rfl (fun j _ hj => by simp [hj])
  have h5 := h4.set (k := 5) (v := v5) (X' := fun q => if q = 5 then v5 else if q = 4 then v4 else if q = 3 then v3 else if q = 2 then v2 else if q = 1 then v1 else if q = 0 then v0 else X q) rfl (fun j _ hj => by simp [hj])
  have h6 := h5.set (k := 6) (v := v6) (X' := fun q => if q = 6 then v6 else if q = 5 then v5 else if q = 4 then v4 else if q = 3 then v3 else if q = 2 then v2 else if q = 1 then v1 else if q = 0 then v0 else X q) rfl (fun j _ hj => by simp [hj])
  exact h6.congr fun k hk => by match k, hk with | 0, _ => rfl | 1, _ => rfl | 2, _ => rfl | 3, _ => rfl | 4, _ => rfl | 5, _ => rfl | 6, _ => rfl
theorem set7_grown (w : World) (g : Nat) (v0 v1 v2 v3 v4 v5 v6 : Value) : w.grownBy (((((((w.setCell ⟨g, 0, none⟩ v0).setCell ⟨g, 1, none⟩ v1).setCell ⟨g, 2, none⟩ v2).setCell ⟨g, 3, none⟩ v3).setCell ⟨g, 4, none⟩ v4).setCell ⟨g, 5, none⟩ v5).setCell ⟨g, 6, none⟩ v6) (some g) :=
  ((((((grownBy_setCell w g 0 none v0).trans (grownBy_setCell _ g 1 none v1)).trans (grownBy_setCell _ g 2 none v2)).trans (grownBy_setCell _ g 3 none v3)).trans (grownBy_setCell _ g 4 none v4)).trans (grownBy_setCell _ g 5 none v5)).trans (grownBy_setCell _ g 6 none v6)
set_option maxRecDepth 100000 in
theorem gUn_len (p : Option Addr) (n c : Nat) (w : World) (h : n ≠ 8) : Calls Try.prog 116 #[.slice p n c] w fun e w' => e = .returned (.tuple #[g0.val, .int .i64 1]) ∧ w.grownBy w' none := by
  have hb : ((n : Int) != 8) = true := by simp; omega
  go_enter Try.func116, Try.ntmps116
  go_wp2_with fail
  exact bodyPost_ret (v := .tuple #[g0.val, .int .i64 1]) (by simp [results, Try.results116, go_sem, g0, GV.val]) rfl ⟨rfl, World.grownBy_alloc _ _ _⟩
set_option maxRecDepth 100000 in
theorem gUn_yes (g o c : Nat) (b : Nat → Nat) (w : World) (h : B8 w g o b) (hbad : ¬ (16 ≤ b 0 ∨ b 1 ≠ 0 ∨ b 0 % 4 = 3)) (hs : b 0 / 8 ≠ 1) : Calls Try.prog 116 #[.slice (some ⟨g, o, none⟩) 8 c] w fun e w' => e = .returned (.tuple #[(unG b).1.val, .int .i64 (unG b).2]) ∧ w.grownBy w' none := by
  have e : unG b = (⟨(b 0 % 4 : Nat), decide (b 0 / 4 % 2 = 1), false, (b 2 + 256 * b 3 : Nat), (b 4 + 256 * b 5 : Nat), 0, 256⟩, 0) := by unfold unG; rw [if_neg hbad, if_neg hs]
  rw [e]
  have l0 := h.lt 0 (by omega); have l2 := h.lt 2 (by omega); have l3 := h.lt 3 (by omega); have l4 := h.lt 4 (by omega); have l5 := h.lt 5 (by omega)
  obtain ⟨W, hW⟩ : ∃ W, w.alloc (.cells #[.int .i64 0, .bool false, .bool false, .int .i64 0, .int .i64 0, .int .i64 0, .int .i64 0] 77) = W := ⟨_, rfl⟩
  have hg : w.grownBy W none := hW ▸ World.grownBy_alloc _ _ none
  have h' := h.grown hg
  have c0 := h'.c 0 (by omega); have c1 := h'.c 1 (by omega); have c2 := h'.c 2 (by omega); have c3 := h'.c 3 (by omega); have c4 := h'.c 4 (by omega); have c5 := h'.c 5 (by omega)
  rw [Nat.add_zero] at c0
  generalize b 0 = x0 at *; generalize b 1 = x1 at *; generalize b 2 = x2 at *; generalize b 3 = x3 at *; generalize b 4 = x4 at *; generalize b 5 = x5 at *
  have q0 : decide (16 ≤ (x0 : Int)) = false := by simp; omega
  have q1 : ((x1 : Int) != 0) = false := by simp; omega
  have q2 : ((x0 : Int) % 4 == 3) = false := by simp; omega
  have q3 : ((x0 : Int) / 8 == 1) = false := by simp; omega
  obtain ⟨r, hr⟩ : ∃ r, decide (x0 / 4 % 2 = 1) = r := ⟨_, rfl⟩
  have q4 : ((x0 : Int) / 4 % 2 == 1) = r := by rw [← hr, Bool.eq_iff_iff]; simp; omega
  rw [hr]
  obtain ⟨a0, ha0⟩ : ∃ a, ((x0 % 4 : Nat) : Int) = a := ⟨_, rfl⟩
  obtain ⟨a3, ha3⟩ : ∃ a, ((x2 + 256 * x3 : Nat) : Int) = a := ⟨_, rfl⟩
  obtain ⟨a4, ha4⟩ : ∃ a, ((x4 + 256 * x5 : Nat) : Int) = a := ⟨_, rfl⟩
  rw [ha0, ha3, ha4]
  have HA0 := hid ha0; have HA3 := hid ha3; have HA4 := hid ha4
  clear hr hbad hs e h h' ha0 ha3 ha4
  go_enter Try.func116, Try.ntmps116
  go_wp2
  have N0 := World.new_ne W ⟨g, o, none⟩ c0
  have r7 := row7z W.drew
  have v0 := r7.cell (k := 0) (by omega); have v1 := r7.cell (k := 1) (by omega); have v2 := r7.cell (k := 2) (by omega); have v3 := r7.cell (k := 3) (by omega); have v4 := r7.cell (k := 4) (by omega); have v5 := r7.cell (k := 5) (by omega); have v6 := r7.cell (k := 6) (by omega); have vz := r7.frozen
  simp only [List.getD_cons_zero, List.getD_cons_succ] at v0 v1 v2 v3 v4 v5 v6
  clear r7
  go_region_held3 (fun w' => w'.cell? ⟨g, o, none⟩ = some (.int .u8 (x0 : Nat)) ∧ w'.cell? ⟨g, o + 2, none⟩ = some (.int .u8 (x2 : Nat)) ∧ w'.cell? ⟨g, o + 3, none⟩ = some (.int .u8 (x3 : Nat)) ∧ w'.cell? ⟨g, o + 4, none⟩ = some (.int .u8 (x4 : Nat)) ∧ w'.cell? ⟨g, o + 5, none⟩ = some (.int .u8 (x5 : Nat))) (first | exact ⟨by assumption, by assumption, by assumption, by assumption, by assumption⟩ | go_keep) (fail)
  rw [show IntKind.i64.wrap ((x0 : Int).tmod 4) = a0 by rw [← HA0.out, Int.tmod_eq_emod_of_nonneg (by omega)]; simp only [IntKind.wrap_i64]; omega,
    show ((IntKind.u8.wrap ((x0 : Int) / 4)).tmod 2 == 1) = r by rw [IntKind.wrap_u8', Int.tmod_eq_emod_of_nonneg (by omega), ← q4]; congr 1; omega,
    show (IntKind.u8.wrap ((x0 : Int) / 8) == 1) = false by rw [IntKind.wrap_u8', ← q3]; congr 1; omega,
    show IntKind.i64.wrap (IntKind.i64.wrap (x2 : Int) + IntKind.i64.wrap (256 * IntKind.i64.wrap (x3 : Int))) = a3 by rw [← HA3.out]; simp only [IntKind.wrap_i64]; omega,
    show IntKind.i64.wrap (IntKind.i64.wrap (x4 : Int) + IntKind.i64.wrap (256 * IntKind.i64.wrap (x5 : Int))) = a4 by rw [← HA4.out]; simp only [IntKind.wrap_i64]; omega]
  obtain ⟨W2, hW2⟩ : ∃ W2, (W.alloc (.cells #[.int .i64 a0, .bool r, .bool false, .int .i64 a3, .int .i64 a4, .int .i64 0, .int .i64 256] 77)).drew = W2 := ⟨_, rfl⟩
  have g2 : W.grownBy W2 none := by rw [← hW2]; exact (World.grownBy_alloc _ _ none).trans (grownBy_drew _ none)
  have f0 : W2.cell? ⟨W.heap.size, 0, none⟩ = some (.int .i64 a0) := by rw [← hW2]; simp [go_sem]
  have f1 : W2.cell? ⟨W.heap.size, 1, none⟩ = some (.bool r) := by rw [← hW2]; simp [go_sem]
  have f2 : W2.cell? ⟨W.heap.size, 2, none⟩ = some (.bool false) := by rw [← hW2]; simp [go_sem]
  have f3 : W2.cell? ⟨W.heap.size, 3, none⟩ = some (.int .i64 a3) := by rw [← hW2]; simp [go_sem]
  have f4 : W2.cell? ⟨W.heap.size, 4, none⟩ = some (.int .i64 a4) := by rw [← hW2]; simp [go_sem]
  have f5 : W2.cell? ⟨W.heap.size, 5, none⟩ = some (.int .i64 0) := by rw [← hW2]; simp [go_sem]
  have f6 : W2.cell? ⟨W.heap.size, 6, none⟩ = some (.int .i64 256) := by rw [← hW2]; simp [go_sem]
  have rz := (hW ▸ row7z w : Row W w.heap.size 77 7 _).grown g2 (by simp)
  have z0 := rz.cell (k := 0) (by omega); have z1 := rz.cell (k := 1) (by omega); have z2 := rz.cell (k := 2) (by omega); have z3 := rz.cell (k := 3) (by omega); have z4 := rz.cell (k := 4) (by omega); have z5 := rz.cell (k := 5) (by omega); have z6 := rz.cell (k := 6) (by omega); have zz := rz.frozen
  have RZ := hid rz; have G2 := hid g2
  simp only [List.getD_cons_zero, List.getD_cons_succ] at z0 z1 z2 z3 z4 z5 z6
  rw [hW2]
  clear hW2 v0 v1 v2 v3 v4 v5 v6 vz rz N0
  have hG : w.grownBy W2 none := hg.trans g2
  clear c0 c1 c2 c3 c4 c5 g2 hg
  go_wp2
  have rs := set7 RZ.out (.int .i64 a0) (.bool r) (.bool false) (.int .i64 a3) (.int .i64 a4) (.int .i64 0) (.int .i64 256)
  have gs := set7_grown W2 w.heap.size (.int .i64 a0) (.bool r) (.bool false) (.int .i64 a3) (.int .i64 a4) (.int .i64 0) (.int .i64 256)
  have hG2 := hG.andThen gs (fun j e => .inl (by cases e; exact Nat.le_refl _))
  clear gs z0 z1 z2 z3 z4 z5 z6 zz f0 f1 f2 f3 f4 f5 f6 RZ G2 hG
  generalize ((((((W2.setCell ⟨w.heap.size, 0, none⟩ (.int .i64 a0)).setCell ⟨w.heap.size, 1, none⟩ (.bool r)).setCell ⟨w.heap.size, 2, none⟩ (.bool false)).setCell ⟨w.heap.size, 3, none⟩ (.int .i64 a3)).setCell ⟨w.heap.size, 4, none⟩ (.int .i64 a4)).setCell ⟨w.heap.size, 5, none⟩ (.int .i64 0)).setCell ⟨w.heap.size, 6, none⟩ (.int .i64 256) = W3 at *
  have z0 := rs.cell (k := 0) (by omega); have z1 := rs.cell (k := 1) (by omega); have z2 := rs.cell (k := 2) (by omega); have z3 := rs.cell (k := 3) (by omega); have z4 := rs.cell (k := 4) (by omega); have z5 := rs.cell (k := 5) (by omega); have z6 := rs.cell (k := 6) (by omega)
  simp only [sevV, List.getD_cons_zero, List.getD_cons_succ] at z0 z1 z2 z3 z4 z5 z6
  clear rs
  refine bodyPost_ret (v := .tuple #[.agg #[.int .i64 a0, .bool r, .bool false, .int .i64 a3, .int .i64 a4, .int .i64 0, .int .i64 256], .int .i64 0]) (by simp [results, Try.results116, go_sem, z0, z1, z2, z3, z4, z5, z6]) rfl ⟨rfl, hG2⟩
end Go.Proofs.Ytibiianmpajabaa
