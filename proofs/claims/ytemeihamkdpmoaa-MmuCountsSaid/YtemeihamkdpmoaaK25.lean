/-
  Package mmu: where an entry is not changed; a row of changes.
-/
import Derived.Test.YtemeihamkdpmoaaK24
set_option linter.unusedSimpArgs false
set_option linter.unusedVariables false
namespace Go.Proofs.Ytemeihamkdpmoaa
open Go.RowKit
set_option maxHeartbeats 2000000

set_option maxRecDepth 100000 in
set_option maxHeartbeats 8000000 in
theorem xupdate_own (X B d t i n : Nat) (ow ty : Int) (w : World) (M : Mach) (T : Int) (h : XM w w B X M) (hok : M.ok T) (hd : d < 8) (ht : (t : Int) < M.n) (hi : i < 64) (ho : (M.fr t).owner = ow) (how : (ow != d) = true) (hty : (M.fr t).ty = ty) :
    Calls Try.prog 97 #[.pointer (some ⟨X, 0, none⟩), .int .i64 d, .agg #[.int .i64 t, .int .i64 i, .int .u32 n]] w fun e w' => e = .returned (.int .i64 12) ∧ XM w w' B X M := by
  obtain ⟨W0, hW, hg0, b0, b1, b2⟩ := box3 w (.int .i64 t) (.int .i64 i) (.int .u32 n) 107
  have hBl := h.m.lt
  have HNB := hid (show w.heap.size ≠ B by omega)
  have H0 := hid (h.more hg0)
  have HX0 := hid (h.more hg0).x
  have HOk := hid hok; have HTt := hid ht
  have HAt := hid (fun (wd : World) (hm : PM wd B M) => at_word B t i wd M T (M.word t i) hm hok hi ht rfl)
  have hd0 : (0 : Int) ≤ d := by omega
  have hd8 : (d : Int) < 8 := by omega
  have hdk := domOk_cast hd
  have x0 := (h.more hg0).x
  generalize hold : M.word t i = old at *
  clear h hg0 hok ht hold
  go_enter Try.func97, Try.ntmps97
  go_wp2
  go_region_held3 (fun w' => w'.cell? ⟨X, 0, none⟩ = some (.pointer (some ⟨B, 0, none⟩)) ∧ w'.cell? ⟨w.heap.size, 0, none⟩ = some (.int .i64 t) ∧ w'.cell? ⟨w.heap.size, 1, none⟩ = some (.int .i64 i) ∧ w'.cell? ⟨w.heap.size, 2, none⟩ = some (.int .u32 n)) (first | exact ⟨by assumption, by assumption, by assumption, by assumption⟩ | go_keep)
    (first | (go_at_call 25; refine (HAt.out _ (H0.out.more (grownBy_drew W0 none)).m).mono ?_; rintro e w1 ⟨rfl, g1⟩; have H1 := hid ((H0.out.more (grownBy_drew W0 none)).more g1); have x1 := g1.cell x0 (by simp); have c0 := g1.cell b0 (by simp); have c1 := g1.cell b1 (by simp); have c2 := g1.cell b2 (by simp); clear g1))
  clear x0 b0 b1 b2
  go_wp2_with (go_at_call 91; refine (xisDomain _ _).mono ?_; rintro e w2 ⟨rfl, rfl⟩)
  have N0 := World.new_ne w1 ⟨X, 0, none⟩ x1
  have N1 := World.new_ne w1 ⟨w.heap.size, 0, none⟩ c0
  go_region_held3 (fun w' => w'.cell? ⟨X, 0, none⟩ = some (.pointer (some ⟨B, 0, none⟩)) ∧ w'.cell? ⟨w.heap.size, 0, none⟩ = some (.int .i64 t) ∧ w'.cell? ⟨w.heap.size, 1, none⟩ = some (.int .i64 i) ∧ w'.cell? ⟨w.heap.size, 2, none⟩ = some (.int .u32 n)) (first | exact ⟨by assumption, by assumption, by assumption, by assumption⟩ | go_keep)
    (first | (go_at_call 50; refine (Frame_out B t _ M T (by first | exact (H1.out.more (grownBy_drew w1 none)).m | exact ((H1.out.more (grownBy_drew w1 none)).more (World.grownBy_alloc _ _ none)).m) HOk.out HTt.out).mono ?_; rintro e w3 ⟨rfl, g3⟩; have H3 := hid g3; have y0 := g3.cell (a := ⟨X, 0, none⟩) (by first | exact x1 | exact (World.grownBy_alloc w1.drew _ none).cell x1 (by simp)) (by simp); have y1 := g3.cell (a := ⟨w.heap.size, 0, none⟩) (by first | exact c0 | exact (World.grownBy_alloc w1.drew _ none).cell c0 (by simp)) (by simp); have y2 := g3.cell (a := ⟨w.heap.size, 1, none⟩) (by first | exact c1 | exact (World.grownBy_alloc w1.drew _ none).cell c1 (by simp)) (by simp); have y3 := g3.cell (a := ⟨w.heap.size, 2, none⟩) (by first | exact c2 | exact (World.grownBy_alloc w1.drew _ none).cell c2 (by simp)) (by simp); have N2 := World.new_ne w3 ⟨X, 0, none⟩ y0; have N3 := World.new_ne w3 ⟨w.heap.size, 0, none⟩ y1; (try (have r4 : Row w3 w1.heap.size 93 4 (fun _ => .int .i64 0) := Row.grown (row4z w1.drew) g3 (by simp); have v0 := r4.cell (k := 0) (by omega); have v1 := r4.cell (k := 1) (by omega); have v2 := r4.cell (k := 2) (by omega); have v3 := r4.cell (k := 3) (by omega); have vz := r4.frozen; have R4 := hid r4; clear r4)); clear g3))
  · have HW2' := hid ((((H1.out.more (grownBy_drew w1 none)).more H3.out)).more (World.grownBy_alloc w3 (.cells #[.int .i64 ow, .int .i64 ty, .int .i64 (M.fr t).cnt, .int .i64 (M.fr t).tot] 93) none))
    have ga := World.grownBy_alloc w3 (.cells #[.int .i64 ow, .int .i64 ty, .int .i64 (M.fr t).cnt, .int .i64 (M.fr t).tot] 93) none
    have u0' := ga.cell y1 (by simp); have u1' := ga.cell y2 (by simp); have u2' := ga.cell y3 (by simp)
    have f0' : (w3.alloc (.cells #[.int .i64 ow, .int .i64 ty, .int .i64 (M.fr t).cnt, .int .i64 (M.fr t).tot] 93)).cell? ⟨w3.heap.size, 0, none⟩ = some (.int .i64 ow) := by simp [go_sem]
    have f1' : (w3.alloc (.cells #[.int .i64 ow, .int .i64 ty, .int .i64 (M.fr t).cnt, .int .i64 (M.fr t).tot] 93)).cell? ⟨w3.heap.size, 1, none⟩ = some (.int .i64 ty) := by simp [go_sem]
    generalize w3.alloc (.cells #[.int .i64 ow, .int .i64 ty, .int .i64 (M.fr t).cnt, .int .i64 (M.fr t).tot] 93) = W2 at *
    have HW2 := HW2'; have u0 := u0'; have u1 := u1'; have u2 := u2'; have f0 := f0'; have f1 := f1'
    clear HW2' u0' u1' u2' f0' f1' ga y0 y1 y2 y3 x1 c0 c1 c2 N0 N1 N2 N3 H1 H3
    go_wp2
    go_ret
    exact ⟨rfl, HW2.out⟩
  · have gs := set4_grown w3 w1.heap.size (.int .i64 ow) (.int .i64 ty) (.int .i64 (M.fr t).cnt) (.int .i64 (M.fr t).tot)
    have rs := set4 R4.out (.int .i64 ow) (.int .i64 ty) (.int .i64 (M.fr t).cnt) (.int .i64 (M.fr t).tot)
    have hX1 := World.block_lt_of_cell? _ _ x1
    have hw1 := World.block_lt_of_cell? _ _ c0
    have HW2' := hid ((((H1.out.more (grownBy_drew w1 none)).more (World.grownBy_alloc _ _ none)).more H3.out).other gs (by have : w.heap.size < w1.heap.size := hw1; omega) (by have : w.heap.size < w1.heap.size := hw1; omega) (by have : X < w1.heap.size := hX1; omega))
    have hne : some w.heap.size ≠ some w1.heap.size := by have : w.heap.size < w1.heap.size := hw1; simp; omega
    have u0' := gs.cell y1 hne; have u1' := gs.cell y2 hne; have u2' := gs.cell y3 hne
    have f0' := rs.cell (k := 0) (by omega); have f1' := rs.cell (k := 1) (by omega)
    simp only [List.getD_cons_zero, List.getD_cons_succ] at f0' f1'
    generalize (((w3.setCell ⟨w1.heap.size, 0, none⟩ (.int .i64 ow)).setCell ⟨w1.heap.size, 1, none⟩ (.int .i64 ty)).setCell ⟨w1.heap.size, 2, none⟩ (.int .i64 (M.fr t).cnt)).setCell ⟨w1.heap.size, 3, none⟩ (.int .i64 (M.fr t).tot) = W2 at *
    have HW2 := HW2'; have u0 := u0'; have u1 := u1'; have u2 := u2'; have f0 := f0'; have f1 := f1'
    clear HW2' u0' u1' u2' f0' f1' gs rs y0 y1 y2 y3 x1 c0 c1 c2 N0 N1 N2 N3 H1 H3 R4 v0 v1 v2 v3 vz hX1 hw1 hne
    go_wp2
    go_ret
    exact ⟨rfl, HW2.out⟩
set_option maxRecDepth 100000 in
set_option maxHeartbeats 8000000 in
theorem xupdate_ty (X B d t i n : Nat) (ty : Int) (w : World) (M : Mach) (T : Int) (h : XM w w B X M) (hok : M.ok T) (hd : d < 8) (ht : (t : Int) < M.n) (hi : i < 64) (ho : (M.fr t).owner = d) (hty : (M.fr t).ty = ty) (hty0 : 0 ≤ ty) (hty1 : ty ≤ 1) :
    Calls Try.prog 97 #[.pointer (some ⟨X, 0, none⟩), .int .i64 d, .agg #[.int .i64 t, .int .i64 i, .int .u32 n]] w fun e w' => e = .returned (.int .i64 5) ∧ XM w w' B X M := by
  obtain ⟨W0, hW, hg0, b0, b1, b2⟩ := box3 w (.int .i64 t) (.int .i64 i) (.int .u32 n) 107
  have hBl := h.m.lt
  have HNB := hid (show w.heap.size ≠ B by omega)
  have H0 := hid (h.more hg0)
  have HX0 := hid (h.more hg0).x
  have HOk := hid hok; have HTt := hid ht
  have HAt := hid (fun (wd : World) (hm : PM wd B M) => at_word B t i wd M T (M.word t i) hm hok hi ht rfl)
  have hd0 : (0 : Int) ≤ d := by omega
  have hd8 : (d : Int) < 8 := by omega
  have hdk := domOk_cast hd
  have x0 := (h.more hg0).x
  generalize hold : M.word t i = old at *
  clear h hg0 hok ht hold
  go_enter Try.func97, Try.ntmps97
  go_wp2
  go_region_held3 (fun w' => w'.cell? ⟨X, 0, none⟩ = some (.pointer (some ⟨B, 0, none⟩)) ∧ w'.cell? ⟨w.heap.size, 0, none⟩ = some (.int .i64 t) ∧ w'.cell? ⟨w.heap.size, 1, none⟩ = some (.int .i64 i) ∧ w'.cell? ⟨w.heap.size, 2, none⟩ = some (.int .u32 n)) (first | exact ⟨by assumption, by assumption, by assumption, by assumption⟩ | go_keep)
    (first | (go_at_call 25; refine (HAt.out _ (H0.out.more (grownBy_drew W0 none)).m).mono ?_; rintro e w1 ⟨rfl, g1⟩; have H1 := hid ((H0.out.more (grownBy_drew W0 none)).more g1); have x1 := g1.cell x0 (by simp); have c0 := g1.cell b0 (by simp); have c1 := g1.cell b1 (by simp); have c2 := g1.cell b2 (by simp); clear g1))
  clear x0 b0 b1 b2
  go_wp2_with (go_at_call 91; refine (xisDomain _ _).mono ?_; rintro e w2 ⟨rfl, rfl⟩)
  have N0 := World.new_ne w1 ⟨X, 0, none⟩ x1
  have N1 := World.new_ne w1 ⟨w.heap.size, 0, none⟩ c0
  go_region_held3 (fun w' => w'.cell? ⟨X, 0, none⟩ = some (.pointer (some ⟨B, 0, none⟩)) ∧ w'.cell? ⟨w.heap.size, 0, none⟩ = some (.int .i64 t) ∧ w'.cell? ⟨w.heap.size, 1, none⟩ = some (.int .i64 i) ∧ w'.cell? ⟨w.heap.size, 2, none⟩ = some (.int .u32 n)) (first | exact ⟨by assumption, by assumption, by assumption, by assumption⟩ | go_keep)
    (first | (go_at_call 50; refine (Frame_out B t _ M T (by first | exact (H1.out.more (grownBy_drew w1 none)).m | exact ((H1.out.more (grownBy_drew w1 none)).more (World.grownBy_alloc _ _ none)).m) HOk.out HTt.out).mono ?_; rintro e w3 ⟨rfl, g3⟩; have H3 := hid g3; have y0 := g3.cell (a := ⟨X, 0, none⟩) (by first | exact x1 | exact (World.grownBy_alloc w1.drew _ none).cell x1 (by simp)) (by simp); have y1 := g3.cell (a := ⟨w.heap.size, 0, none⟩) (by first | exact c0 | exact (World.grownBy_alloc w1.drew _ none).cell c0 (by simp)) (by simp); have y2 := g3.cell (a := ⟨w.heap.size, 1, none⟩) (by first | exact c1 | exact (World.grownBy_alloc w1.drew _ none).cell c1 (by simp)) (by simp); have y3 := g3.cell (a := ⟨w.heap.size, 2, none⟩) (by first | exact c2 | exact (World.grownBy_alloc w1.drew _ none).cell c2 (by simp)) (by simp); have N2 := World.new_ne w3 ⟨X, 0, none⟩ y0; have N3 := World.new_ne w3 ⟨w.heap.size, 0, none⟩ y1; (try (have r4 : Row w3 w1.heap.size 93 4 (fun _ => .int .i64 0) := Row.grown (row4z w1.drew) g3 (by simp); have v0 := r4.cell (k := 0) (by omega); have v1 := r4.cell (k := 1) (by omega); have v2 := r4.cell (k := 2) (by omega); have v3 := r4.cell (k := 3) (by omega); have vz := r4.frozen; have R4 := hid r4; clear r4)); clear g3))
  · have HW2' := hid ((((H1.out.more (grownBy_drew w1 none)).more H3.out)).more (World.grownBy_alloc w3 (.cells #[.int .i64 d, .int .i64 ty, .int .i64 (M.fr t).cnt, .int .i64 (M.fr t).tot] 93) none))
    have ga := World.grownBy_alloc w3 (.cells #[.int .i64 d, .int .i64 ty, .int .i64 (M.fr t).cnt, .int .i64 (M.fr t).tot] 93) none
    have u0' := ga.cell y1 (by simp); have u1' := ga.cell y2 (by simp); have u2' := ga.cell y3 (by simp)
    have f0' : (w3.alloc (.cells #[.int .i64 d, .int .i64 ty, .int .i64 (M.fr t).cnt, .int .i64 (M.fr t).tot] 93)).cell? ⟨w3.heap.size, 0, none⟩ = some (.int .i64 d) := by simp [go_sem]
    have f1' : (w3.alloc (.cells #[.int .i64 d, .int .i64 ty, .int .i64 (M.fr t).cnt, .int .i64 (M.fr t).tot] 93)).cell? ⟨w3.heap.size, 1, none⟩ = some (.int .i64 ty) := by simp [go_sem]
    generalize w3.alloc (.cells #[.int .i64 d, .int .i64 ty, .int .i64 (M.fr t).cnt, .int .i64 (M.fr t).tot] 93) = W2 at *
    have HW2 := HW2'; have u0 := u0'; have u1 := u1'; have u2 := u2'; have f0 := f0'; have f1 := f1'
    clear HW2' u0' u1' u2' f0' f1' ga y0 y1 y2 y3 x1 c0 c1 c2 N0 N1 N2 N3 H1 H3
    have HLn := hid (fun wd => levelBy_no ty wd hty0 hty1)
    go_wp2_with (go_at_call 116; refine (HLn.out _).mono ?_; rintro e w4 ⟨rfl, g4⟩; have H4 := hid (HW2.out.more (g4.trans (World.grownBy_alloc w4 (.cells #[.int .i64 0, .nilFunc] 161) none))); clear g4)
    go_ret
    exact ⟨rfl, H4.out⟩
  · have gs := set4_grown w3 w1.heap.size (.int .i64 d) (.int .i64 ty) (.int .i64 (M.fr t).cnt) (.int .i64 (M.fr t).tot)
    have rs := set4 R4.out (.int .i64 d) (.int .i64 ty) (.int .i64 (M.fr t).cnt) (.int .i64 (M.fr t).tot)
    have hX1 := World.block_lt_of_cell? _ _ x1
    have hw1 := World.block_lt_of_cell? _ _ c0
    have HW2' := hid ((((H1.out.more (grownBy_drew w1 none)).more (World.grownBy_alloc _ _ none)).more H3.out).other gs (by have : w.heap.size < w1.heap.size := hw1; omega) (by have : w.heap.size < w1.heap.size := hw1; omega) (by have : X < w1.heap.size := hX1; omega))
    have hne : some w.heap.size ≠ some w1.heap.size := by have : w.heap.size < w1.heap.size := hw1; simp; omega
    have u0' := gs.cell y1 hne; have u1' := gs.cell y2 hne; have u2' := gs.cell y3 hne
    have f0' := rs.cell (k := 0) (by omega); have f1' := rs.cell (k := 1) (by omega)
    simp only [List.getD_cons_zero, List.getD_cons_succ] at f0' f1'
    generalize (((w3.setCell ⟨w1.heap.size, 0, none⟩ (.int .i64 d)).setCell ⟨w1.heap.size, 1, none⟩ (.int .i64 ty)).setCell ⟨w1.heap.size, 2, none⟩ (.int .i64 (M.fr t).cnt)).setCell ⟨w1.heap.size, 3, none⟩ (.int .i64 (M.fr t).tot) = W2 at *
    have HW2 := HW2'; have u0 := u0'; have u1 := u1'; have u2 := u2'; have f0 := f0'; have f1 := f1'
    clear HW2' u0' u1' u2' f0' f1' gs rs y0 y1 y2 y3 x1 c0 c1 c2 N0 N1 N2 N3 H1 H3 R4 v0 v1 v2 v3 vz hX1 hw1 hne
    have HLn := hid (fun wd => levelBy_no ty wd hty0 hty1)
    go_wp2_with (go_at_call 116; refine (HLn.out _).mono ?_; rintro e w4 ⟨rfl, g4⟩; have H4 := hid (HW2.out.more (g4.trans (World.grownBy_alloc w4 (.cells #[.int .i64 0, .nilFunc] 161) none))); clear g4)
    go_ret
    exact ⟨rfl, H4.out⟩
set_option maxRecDepth 100000 in
theorem xupdate_bad (X B : Nat) (o t i : Int) (n : Nat) (w : World) (M : Mach) (T : Int) (h : XM w w B X M) (hok : M.ok T) (hb : domOk o = false ∨ M.is t = false ∨ idx i = false) :
    Calls Try.prog 97 #[.pointer (some ⟨X, 0, none⟩), .int .i64 o, .agg #[.int .i64 t, .int .i64 i, .int .u32 n]] w fun e w' => e = .returned (.int .i64 1) ∧ XM w w' B X M := by
  obtain ⟨W0, hW, hg0, b0, b1, b2⟩ := box3 w (.int .i64 t) (.int .i64 i) (.int .u32 n) 107
  have H0 := hid (h.more hg0)
  have HAt := hid (fun (wd : World) (hm : PM wd B M) => ptAt B t i wd M T hm hok)
  have hpe : domOk o = false ∨ ((M.pat t i).2 != 0) = true := by
    rcases hb with e | e | e
    · exact .inl e
    · right; unfold Mach.pat; by_cases hx : idx i = false
      · rw [if_pos hx]; rfl
      · rw [if_neg hx, if_pos e]; rfl
    · right; unfold Mach.pat; rw [if_pos e]; rfl
  have x0 := (h.more hg0).x
  obtain ⟨r, hr⟩ : ∃ r, M.pat t i = r := ⟨_, rfl⟩
  rw [hr] at hpe HAt
  obtain ⟨old, c⟩ := r
  simp only at hpe HAt
  clear h hg0 hok hb hr
  cases hd : domOk o with
  | false =>
    go_enter Try.func97, Try.ntmps97
    go_wp2
    go_region_held3 (fun w' => w'.cell? ⟨X, 0, none⟩ = some (.pointer (some ⟨B, 0, none⟩)) ∧ w'.cell? ⟨w.heap.size, 0, none⟩ = some (.int .i64 t) ∧ w'.cell? ⟨w.heap.size, 1, none⟩ = some (.int .i64 i) ∧ w'.cell? ⟨w.heap.size, 2, none⟩ = some (.int .u32 n)) (first | exact ⟨by assumption, by assumption, by assumption, by assumption⟩ | go_keep)
      (first | (go_at_call 25; refine (HAt.out _ (H0.out.more (grownBy_drew W0 none)).m).mono ?_; rintro e w1 ⟨rfl, g1⟩; have H1 := hid ((H0.out.more (grownBy_drew W0 none)).more g1); have x1 := g1.cell x0 (by simp); have c0 := g1.cell b0 (by simp); have c1 := g1.cell b1 (by simp); have c2 := g1.cell b2 (by simp); clear g1))
    go_wp2_with (go_at_call 91; refine (xisDomain _ _).mono ?_; rintro e w2 ⟨rfl, rfl⟩)
    go_ret
    exact ⟨rfl, H1.out⟩
  | true =>
    have hc : (c != 0) = true := by rcases hpe with e | e; (rw [hd] at e; cases e); exact e
    clear hpe
    go_enter Try.func97, Try.ntmps97
    go_wp2
    go_region_held3 (fun w' => w'.cell? ⟨X, 0, none⟩ = some (.pointer (some ⟨B, 0, none⟩)) ∧ w'.cell? ⟨w.heap.size, 0, none⟩ = some (.int .i64 t) ∧ w'.cell? ⟨w.heap.size, 1, none⟩ = some (.int .i64 i) ∧ w'.cell? ⟨w.heap.size, 2, none⟩ = some (.int .u32 n)) (first | exact ⟨by assumption, by assumption, by assumption, by assumption⟩ | go_keep)
      (first | (go_at_call 25; refine (HAt.out _ (H0.out.more (grownBy_drew W0 none)).m).mono ?_; rintro e w1 ⟨rfl, g1⟩; have H1 := hid ((H0.out.more (grownBy_drew W0 none)).more g1); have x1 := g1.cell x0 (by simp); have c0 := g1.cell b0 (by simp); have c1 := g1.cell b1 (by simp); have c2 := g1.cell b2 (by simp); clear g1))
    go_wp2_with (go_at_call 91; refine (xisDomain _ _).mono ?_; rintro e w2 ⟨rfl, rfl⟩)
    go_ret
    exact ⟨rfl, H1.out⟩
end Go.Proofs.Ytemeihamkdpmoaa
