/-
  Package mmu: one entry is changed.
-/
import Derived.Test.YtemeihamkdpmoaaK23
set_option linter.unusedSimpArgs false
set_option linter.unusedVariables false
namespace Go.Proofs.Ytemeihamkdpmoaa
open Go.RowKit
set_option maxHeartbeats 2000000

theorem row4z (w : World) : Row (w.alloc (.cells #[.int .i64 0, .int .i64 0, .int .i64 0, .int .i64 0] 93)) w.heap.size 93 4 (fun _ => .int .i64 0) :=
  ⟨_, heap_alloc_new w _, by simp, fun k hk => by match k, hk with | 0, _ => rfl | 1, _ => rfl | 2, _ => rfl | 3, _ => rfl⟩
theorem box3 (w : World) (a b c : Value) (t : TypeId) : ∃ W, w.alloc (.cells #[a, b, c] t) = W ∧ w.grownBy W none ∧ W.cell? ⟨w.heap.size, 0, none⟩ = some a ∧ W.cell? ⟨w.heap.size, 1, none⟩ = some b ∧ W.cell? ⟨w.heap.size, 2, none⟩ = some c :=
  ⟨_, rfl, World.grownBy_alloc w _ none, by simp [go_sem], by simp [go_sem], by simp [go_sem]⟩
theorem set4 {w : World} {g : Nat} {t : TypeId} {X : Nat → Value} (h : Row w g t 4 X) (a b c d : Value) :
    Row ((((w.setCell ⟨g, 0, none⟩ a).setCell ⟨g, 1, none⟩ b).setCell ⟨g, 2, none⟩ c).setCell ⟨g, 3, none⟩ d) g t 4 (fun k => [a, b, c, d].getD k undef) := by
  have h1 := h.set (k := 0) (v := a) (X' := fun q => if q = 0 then a else X q) rfl (fun j _ hj => by simp [hj])
  have h2 := h1.set (k := 1) (v := b) (X' := fun q => if q = 1 then b else if q = 0 then a else X q) rfl (fun j _ hj => by simp [hj])
  have h3 := h2.set (k := 2) (v := c) (X' := fun q => if q = 2 then c else if q = 1 then b else if q = 0 then a else X q) rfl (fun j _ hj => by simp [hj])
  have h4 := h3.set (k := 3) (v := d) (X' := fun q => if q = 3 then d else if q = 2 then c else if q = 1 then b else if q = 0 then a else X q) rfl (fun j _ hj => by simp [hj])
  exact h4.congr fun k hk => by match k, hk with | 0, _ => rfl | 1, _ => rfl | 2, _ => rfl | 3, _ => rfl
theorem set4_grown (w : World) (g : Nat) (a b c d : Value) : w.grownBy ((((w.setCell ⟨g, 0, none⟩ a).setCell ⟨g, 1, none⟩ b).setCell ⟨g, 2, none⟩ c).setCell ⟨g, 3, none⟩ d) (some g) :=
  (((grownBy_setCell w g 0 none a).trans (grownBy_setCell _ g 1 none b)).trans (grownBy_setCell _ g 2 none c)).trans (grownBy_setCell _ g 3 none d)
theorem XM.other {w0 w W : World} {B X : Nat} {M : Mach} (h : XM w0 w B X M) {g : Nat} (hg : w.grownBy W (some g)) (hb : w0.heap.size ≤ g) (hB : B ≠ g) (hX : X ≠ g) : XM w0 W B X M :=
  ⟨h.m.grown hg (by simpa using hB), hg.cell h.x (by simpa using hX), h.g.andThen hg (fun j e => by cases e; exact .inl hb), h.XB⟩
theorem row_bytes {w : World} {g n : Nat} (h : Row w g 5 4 (fun k => .int .u8 ((le4 n).getD k 0).toNat)) : ∀ k x, (le4 n)[k]? = some x → w.cell? ((⟨g, 0, none⟩ : Addr).add k) = some (.int .u8 x.toNat) := fun k x hx => by
  obtain ⟨hk, rfl⟩ := List.getElem?_eq_some_iff.1 hx
  have hk4 : k < 4 := hk
  have e : (⟨g, 0, none⟩ : Addr).add k = ⟨g, k, none⟩ := by unfold Addr.add; split <;> simp_all
  rw [e, h.cell hk4]
  simp [List.getD, List.getElem?_eq_getElem hk]
set_option maxRecDepth 100000 in
set_option maxHeartbeats 8000000 in
theorem xupdate_core (X B K fn d t i n : Nat) (w : World) (M M1 M3 : Mach) (T T1 : Int) (c : Int) (h : XM w w B X M) (hok : M.ok T) (hd : d < 8) (ht : (t : Int) < M.n) (hi : i < 64) (hn : n < 4294967296) (ho : (M.fr t).owner = d) (hlv : LvBy K fn) (hty : (M.fr t).ty = K) (hok1 : M1.ok T1) (hcM : c ≠ 0 → M1 = M)
    (hte : ∀ W, XM W W B X M → Calls Try.prog 119 #[.pointer (some ⟨X, 0, none⟩), .int .i64 d, .int .u32 n, .agg #[.int .i64 K, .func (.func fn) #[] #[]]] W fun e w' => e = .returned (.int .i64 c) ∧ XM W w' B X M1)
    (hde : c = 0 → ∀ W, XM W W B X (M1.write t (4 * i : Nat) (le4 n)).2 → Calls Try.prog 121 #[.pointer (some ⟨X, 0, none⟩), .int .u32 (M.word t i : Nat), .agg #[.int .i64 K, .func (.func fn) #[] #[]]] W fun e w' => e = .returned (.tuple #[]) ∧ XM W w' B X M3) :
    Calls Try.prog 97 #[.pointer (some ⟨X, 0, none⟩), .int .i64 d, .agg #[.int .i64 t, .int .i64 i, .int .u32 n]] w fun e w' => e = .returned (.int .i64 c) ∧ XM w w' B X (if c = 0 then M3 else M) := by
  obtain ⟨Mr, hMr⟩ : ∃ Mr, (if c = 0 then M3 else M) = Mr := ⟨_, rfl⟩
  have HR0 := hid (show c = 0 → Mr = M3 from fun e => by rw [← hMr, if_pos e])
  have HRN := hid (show c ≠ 0 → Mr = M1 from fun e => by rw [← hMr, if_neg e, hcM e])
  rw [hMr]
  clear hMr
  obtain ⟨W0, hW, hg0, b0, b1, b2⟩ := box3 w (.int .i64 t) (.int .i64 i) (.int .u32 n) 107
  have hBl := h.m.lt
  have HNB := hid (show w.heap.size ≠ B by omega)
  have H0 := hid (h.more hg0)
  have HX0 := hid (h.more hg0).x
  have HOk := hid hok; have HTt := hid ht
  have HAt := hid (fun (wd : World) (hm : PM wd B M) => at_word B t i wd M T (M.word t i) hm hok hi ht rfl)
  have HL := hid hlv
  have HTE := hid hte; have HDE := hid hde
  have hd0 : (0 : Int) ≤ d := by omega
  have hd8 : (d : Int) < 8 := by omega
  have hdk := domOk_cast hd
  have x0 := (h.more hg0).x
  generalize hold : M.word t i = old at *
  clear h hg0 hok ht hlv hte hde hold
  go_enter Try.func97, Try.ntmps97
  go_wp2
  go_region_held3 (fun w' => w'.cell? ⟨X, 0, none⟩ = some (.pointer (some ⟨B, 0, none⟩)) ∧ w'.cell? ⟨w.heap.size, 0, none⟩ = some (.int .i64 t) ∧ w'.cell? ⟨w.heap.size, 1, none⟩ = some (.int .i64 i) ∧ w'.cell? ⟨w.heap.size, 2, none⟩ = some (.int .u32 n)) (first | exact ⟨by assumption, by assumption, by assumption, by assumption⟩ | go_keep)
    (first | (go_at_call 25; refine (HAt.out _ (H0.out.more (grownBy_drew W0 none)).m).mono ?_; rintro e w1 ⟨rfl, g1⟩; have H1 := hid ((H0.out.more (grownBy_drew W0 none)).more g1); have x1 := g1.cell x0 (by simp); have c0 := g1.cell b0 (by simp); have c1 := g1.cell b1 (by simp); have c2 := g1.cell b2 (by simp); clear g1))
  clear x0 b0 b1 b2
  go_wp2_with (go_at_call 91; refine (xisDomain _ _).mono ?_; rintro e w2 ⟨rfl, rfl⟩)
  have N0 := World.new_ne w1 ⟨X, 0, none⟩ x1
  have N1 := World.new_ne w1 ⟨w.heap.size, 0, none⟩ c0
  go_region_held3 (fun w' => w'.cell? ⟨X, 0, none⟩ = some (.pointer (some ⟨B, 0, none⟩)) ∧ w'.cell? ⟨w.heap.size, 0, none⟩ = some (.int .i64 t) ∧ w'.cell? ⟨w.heap.size, 1, none⟩ = some (.int .i64 i) ∧ w'.cell? ⟨w.heap.size, 2, none⟩ = some (.int .u32 n)) (first | exact ⟨by assumption, by assumption, by assumption, by assumption⟩ | go_keep)
    (first | (go_at_call 50; refine (Frame_out B t _ M T (by first | exact (H1.out.more (grownBy_drew w1 none)).m | exact ((H1.out.more (grownBy_drew w1 none)).more (World.grownBy_alloc _ _ none)).m) HOk.out HTt.out).mono ?_; rintro e w3 ⟨rfl, g3⟩; have H3 := hid g3; have y0 := g3.cell (a := ⟨X, 0, none⟩) (by first | exact x1 | exact (World.grownBy_alloc w1.drew _ none).cell x1 (by simp)) (by simp); have y1 := g3.cell (a := ⟨w.heap.size, 0, none⟩) (by first | exact c0 | exact (World.grownBy_alloc w1.drew _ none).cell c0 (by simp)) (by simp); have y2 := g3.cell (a := ⟨w.heap.size, 1, none⟩) (by first | exact c1 | exact (World.grownBy_alloc w1.drew _ none).cell c1 (by simp)) (by simp); have y3 := g3.cell (a := ⟨w.heap.size, 2, none⟩) (by first | exact c2 | exact (World.grownBy_alloc w1.drew _ none).cell c2 (by simp)) (by simp); have N2 := World.new_ne w3 ⟨X, 0, none⟩ y0; have N3 := World.new_ne w3 ⟨w.heap.size, 0, none⟩ y1; (try (have r4 : Row w3 w1.heap.size 93 4 (fun _ => .int .i64 0) := Row.grown (row4z w1.drew) g3 (by simp); have v0 := r4.cell (k := 0) (by omega); have v1 := r4.cell (k := 1) (by omega); have v2 := r4.cell (k := 2) (by omega); have v3 := r4.cell (k := 3) (by omega); have vz := r4.frozen; have R4 := hid r4; clear r4)); clear g3))
  · have HW2' := hid ((((H1.out.more (grownBy_drew w1 none)).more H3.out)).more (World.grownBy_alloc w3 (.cells #[.int .i64 d, .int .i64 K, .int .i64 (M.fr t).cnt, .int .i64 (M.fr t).tot] 93) none))
    have ga := World.grownBy_alloc w3 (.cells #[.int .i64 d, .int .i64 K, .int .i64 (M.fr t).cnt, .int .i64 (M.fr t).tot] 93) none
    have u0' := ga.cell y1 (by simp); have u1' := ga.cell y2 (by simp); have u2' := ga.cell y3 (by simp)
    have f0' : (w3.alloc (.cells #[.int .i64 d, .int .i64 K, .int .i64 (M.fr t).cnt, .int .i64 (M.fr t).tot] 93)).cell? ⟨w3.heap.size, 0, none⟩ = some (.int .i64 d) := by simp [go_sem]
    have f1' : (w3.alloc (.cells #[.int .i64 d, .int .i64 K, .int .i64 (M.fr t).cnt, .int .i64 (M.fr t).tot] 93)).cell? ⟨w3.heap.size, 1, none⟩ = some (.int .i64 K) := by simp [go_sem]
    generalize w3.alloc (.cells #[.int .i64 d, .int .i64 K, .int .i64 (M.fr t).cnt, .int .i64 (M.fr t).tot] 93) = W2 at *
    have HW2 := HW2'; have u0 := u0'; have u1 := u1'; have u2 := u2'; have f0 := f0'; have f1 := f1'
    clear HW2' u0' u1' u2' f0' f1' ga y0 y1 y2 y3 x1 c0 c1 c2 N0 N1 N2 N3 H1 H3
    have HU0 := hid u0; have HU1 := hid u1; have HU2 := hid u2
    have HN5 := hid (show some w.heap.size ≠ some B by simpa using HNB.out)
    by_cases hz : c = 0
    · subst hz
      go_wp2_with (first
        | (go_at_call 116; refine (HL.out _).mono ?_; rintro e w4 ⟨rfl, g4⟩; have g4' := g4.trans (World.grownBy_alloc w4 (.cells #[.int .i64 K, .func (.func fn) #[] #[]] 161) none); have H4 := hid (HW2.out.more g4'); have s0 := g4'.cell u0 (by simp); have s1 := g4'.cell u1 (by simp); have s2 := g4'.cell u2 (by simp); have l0 : (w4.alloc (.cells #[.int .i64 K, .func (.func fn) #[] #[]] 161)).cell? ⟨w4.heap.size, 0, none⟩ = some (.int .i64 K) := (by simp [go_sem]); have l1 : (w4.alloc (.cells #[.int .i64 K, .func (.func fn) #[] #[]] 161)).cell? ⟨w4.heap.size, 1, none⟩ = some (.func (.func fn) #[] #[]) := (by simp [go_sem]); have HN4 := hid (show some w4.heap.size ≠ some B by have := HW2.out.g.size; have := g4.size; simp; omega); clear g4 g4' u0 u1 u2 f0 f1)
        | (go_at_call 119; refine (HTE.out _ H4.out.here).mono ?_; rintro e w5 ⟨rfl, h5⟩; have H5 := hid (H4.out.step h5); have t0 := h5.g.cell s0 HN5.out; have t1 := h5.g.cell s1 HN5.out; have t2 := h5.g.cell s2 HN5.out; have m0 := h5.g.cell l0 HN4.out; have m1 := h5.g.cell l1 HN4.out; clear h5 s0 s1 s2 l0 l1))
      have hwk : IntKind.i64.wrap ((i : Int) * 4) = (i : Int) * 4 := by simp only [IntKind.wrap_i64]; omega
      have hof : ((4 * i : Nat) : Int) = (i : Int) * 4 := by omega
      rw [hof] at HDE
      have HD5 := hid (H5.out.more (grownBy_drew _ none))
      have q0 := H5.out.x
      have HM0 := hid m0; have HM1 := hid m1
      clear m0 m1
      go_region_held3 (fun w' => w'.cell? ⟨X, 0, none⟩ = some (.pointer (some ⟨B, 0, none⟩)) ∧ w'.cell? ⟨w.heap.size, 0, none⟩ = some (.int .i64 t) ∧ w'.cell? ⟨w.heap.size, 1, none⟩ = some (.int .i64 i) ∧ w'.cell? ⟨w.heap.size, 2, none⟩ = some (.int .u32 n)) (first | exact ⟨by assumption, by assumption, by assumption, by assumption⟩ | go_keep)
        (first
          | (go_at_call 120; refine (xbytesOf n _ hn).mono ?_; rintro e w6 ⟨g6, rfl, hr6, hg6, gr6⟩; have H6 := hid (HD5.out.more gr6); have R6 := hid hr6; have HG6 := hid hg6; have a0 := gr6.cell q0 (by simp); have a1 := gr6.cell t0 (by simp); have a2 := gr6.cell t1 (by simp); have a3 := gr6.cell t2 (by simp); have HM6 := hid (gr6.cell HM0.out (by simp)); have HM7 := hid (gr6.cell HM1.out (by simp)); have HNg := hid (show g6 ≠ B by have := HD5.out.m.lt; omega); clear hr6 hg6 gr6)
          | (go_at_call 19; refine (Write_any B t ((i : Int) * 4) _ (le4 n) _ M1 T1 H6.out.m hok1 (by omega) (.inr ⟨⟨g6, 0, none⟩, 4, rfl, HNg.out, row_bytes R6.out⟩) (by simp [le4])).mono ?_; rintro e w7 ⟨rfl, hm7, g7⟩; have H7 := hid (H6.out.put hm7 g7); have b0 := H7.out.x; have b1 := g7.cell a1 HN5.out; have b2 := g7.cell a2 HN5.out; have b3 := g7.cell a3 HN5.out; have HM8 := hid (g7.cell HM6.out HN4.out); have HM9 := hid (g7.cell HM7.out HN4.out); clear hm7 g7))
      all_goals
        have n0 := HM8.out; have n1 := HM9.out
        have HDf := hid (HDE.out (by trivial))
        go_wp2_with (go_at_call 121; refine (HDf.out _ H7.out.here).mono ?_; rintro e w8 ⟨rfl, h8⟩; have H8 := hid (H7.out.step h8); clear h8)
        go_ret
        have h9 := H8.out
        rw [← HR0.out (by trivial)] at h9
        exact ⟨rfl, h9⟩
    · have hzb : (c != 0) = true := by simp [hz]
      go_wp2_with (first
        | (go_at_call 116; refine (HL.out _).mono ?_; rintro e w4 ⟨rfl, g4⟩; have g4' := g4.trans (World.grownBy_alloc w4 (.cells #[.int .i64 K, .func (.func fn) #[] #[]] 161) none); have H4 := hid (HW2.out.more g4'); have s0 := g4'.cell u0 (by simp); have s1 := g4'.cell u1 (by simp); have s2 := g4'.cell u2 (by simp); have l0 : (w4.alloc (.cells #[.int .i64 K, .func (.func fn) #[] #[]] 161)).cell? ⟨w4.heap.size, 0, none⟩ = some (.int .i64 K) := (by simp [go_sem]); have l1 : (w4.alloc (.cells #[.int .i64 K, .func (.func fn) #[] #[]] 161)).cell? ⟨w4.heap.size, 1, none⟩ = some (.func (.func fn) #[] #[]) := (by simp [go_sem]); have HN4 := hid (show some w4.heap.size ≠ some B by have := HW2.out.g.size; have := g4.size; simp; omega); clear g4 g4' u0 u1 u2 f0 f1)
        | (go_at_call 119; refine (HTE.out _ H4.out.here).mono ?_; rintro e w5 ⟨rfl, h5⟩; have H5 := hid (H4.out.step h5); have t0 := h5.g.cell s0 HN5.out; have t1 := h5.g.cell s1 HN5.out; have t2 := h5.g.cell s2 HN5.out; have m0 := h5.g.cell l0 HN4.out; have m1 := h5.g.cell l1 HN4.out; clear h5 s0 s1 s2 l0 l1))
      go_ret
      have h9 := H5.out
      rw [← HRN.out hz] at h9
      exact ⟨rfl, h9⟩
  · have gs := set4_grown w3 w1.heap.size (.int .i64 d) (.int .i64 K) (.int .i64 (M.fr t).cnt) (.int .i64 (M.fr t).tot)
    have rs := set4 R4.out (.int .i64 d) (.int .i64 K) (.int .i64 (M.fr t).cnt) (.int .i64 (M.fr t).tot)
    have hX1 := World.block_lt_of_cell? _ _ x1
    have hw1 := World.block_lt_of_cell? _ _ c0
    have HW2' := hid ((((H1.out.more (grownBy_drew w1 none)).more (World.grownBy_alloc _ _ none)).more H3.out).other gs (by have : w.heap.size < w1.heap.size := hw1; omega) (by have : w.heap.size < w1.heap.size := hw1; omega) (by have : X < w1.heap.size := hX1; omega))
    have hne : some w.heap.size ≠ some w1.heap.size := by have : w.heap.size < w1.heap.size := hw1; simp; omega
    have u0' := gs.cell y1 hne; have u1' := gs.cell y2 hne; have u2' := gs.cell y3 hne
    have f0' := rs.cell (k := 0) (by omega); have f1' := rs.cell (k := 1) (by omega)
    simp only [List.getD_cons_zero, List.getD_cons_succ] at f0' f1'
    generalize (((w3.setCell ⟨w1.heap.size, 0, none⟩ (.int .i64 d)).setCell ⟨w1.heap.size, 1, none⟩ (.int .i64 K)).setCell ⟨w1.heap.size, 2, none⟩ (.int .i64 (M.fr t).cnt)).setCell ⟨w1.heap.size, 3, none⟩ (.int .i64 (M.fr t).tot) = W2 at *
    have HW2 := HW2'; have u0 := u0'; have u1 := u1'; have u2 := u2'; have f0 := f0'; have f1 := f1'
    clear HW2' u0' u1' u2' f0' f1' gs rs y0 y1 y2 y3 x1 c0 c1 c2 N0 N1 N2 N3 H1 H3 R4 v0 v1 v2 v3 vz hX1 hw1 hne
    have HU0 := hid u0; have HU1 := hid u1; have HU2 := hid u2
    have HN5 := hid (show some w.heap.size ≠ some B by simpa using HNB.out)
    by_cases hz : c = 0
    · subst hz
      go_wp2_with (first
        | (go_at_call 116; refine (HL.out _).mono ?_; rintro e w4 ⟨rfl, g4⟩; have g4' := g4.trans (World.grownBy_alloc w4 (.cells #[.int .i64 K, .func (.func fn) #[] #[]] 161) none); have H4 := hid (HW2.out.more g4'); have s0 := g4'.cell u0 (by simp); have s1 := g4'.cell u1 (by simp); have s2 := g4'.cell u2 (by simp); have l0 : (w4.alloc (.cells #[.int .i64 K, .func (.func fn) #[] #[]] 161)).cell? ⟨w4.heap.size, 0, none⟩ = some (.int .i64 K) := (by simp [go_sem]); have l1 : (w4.alloc (.cells #[.int .i64 K, .func (.func fn) #[] #[]] 161)).cell? ⟨w4.heap.size, 1, none⟩ = some (.func (.func fn) #[] #[]) := (by simp [go_sem]); have HN4 := hid (show some w4.heap.size ≠ some B by have := HW2.out.g.size; have := g4.size; simp; omega); clear g4 g4' u0 u1 u2 f0 f1)
        | (go_at_call 119; refine (HTE.out _ H4.out.here).mono ?_; rintro e w5 ⟨rfl, h5⟩; have H5 := hid (H4.out.step h5); have t0 := h5.g.cell s0 HN5.out; have t1 := h5.g.cell s1 HN5.out; have t2 := h5.g.cell s2 HN5.out; have m0 := h5.g.cell l0 HN4.out; have m1 := h5.g.cell l1 HN4.out; clear h5 s0 s1 s2 l0 l1))
      have hwk : IntKind.i64.wrap ((i : Int) * 4) = (i : Int) * 4 := by simp only [IntKind.wrap_i64]; omega
      have hof : ((4 * i : Nat) : Int) = (i : Int) * 4 := by omega
      rw [hof] at HDE
      have HD5 := hid (H5.out.more (grownBy_drew _ none))
      have q0 := H5.out.x
      have HM0 := hid m0; have HM1 := hid m1
      clear m0 m1
      go_region_held3 (fun w' => w'.cell? ⟨X, 0, none⟩ = some (.pointer (some ⟨B, 0, none⟩)) ∧ w'.cell? ⟨w.heap.size, 0, none⟩ = some (.int .i64 t) ∧ w'.cell? ⟨w.heap.size, 1, none⟩ = some (.int .i64 i) ∧ w'.cell? ⟨w.heap.size, 2, none⟩ = some (.int .u32 n)) (first | exact ⟨by assumption, by assumption, by assumption, by assumption⟩ | go_keep)
        (first
          | (go_at_call 120; refine (xbytesOf n _ hn).mono ?_; rintro e w6 ⟨g6, rfl, hr6, hg6, gr6⟩; have H6 := hid (HD5.out.more gr6); have R6 := hid hr6; have HG6 := hid hg6; have a0 := gr6.cell q0 (by simp); have a1 := gr6.cell t0 (by simp); have a2 := gr6.cell t1 (by simp); have a3 := gr6.cell t2 (by simp); have HM6 := hid (gr6.cell HM0.out (by simp)); have HM7 := hid (gr6.cell HM1.out (by simp)); have HNg := hid (show g6 ≠ B by have := HD5.out.m.lt; omega); clear hr6 hg6 gr6)
          | (go_at_call 19; refine (Write_any B t ((i : Int) * 4) _ (le4 n) _ M1 T1 H6.out.m hok1 (by omega) (.inr ⟨⟨g6, 0, none⟩, 4, rfl, HNg.out, row_bytes R6.out⟩) (by simp [le4])).mono ?_; rintro e w7 ⟨rfl, hm7, g7⟩; have H7 := hid (H6.out.put hm7 g7); have b0 := H7.out.x; have b1 := g7.cell a1 HN5.out; have b2 := g7.cell a2 HN5.out; have b3 := g7.cell a3 HN5.out; have HM8 := hid (g7.cell HM6.out HN4.out); have HM9 := hid (g7.cell HM7.out HN4.out); clear hm7 g7))
      all_goals
        have n0 := HM8.out; have n1 := HM9.out
        have HDf := hid (HDE.out (by trivial))
        go_wp2_with (go_at_call 121; refine (HDf.out _ H7.out.here).mono ?_; rintro e w8 ⟨rfl, h8⟩; have H8 := hid (H7.out.step h8); clear h8)
        go_ret
        have h9 := H8.out
        rw [← HR0.out (by trivial)] at h9
        exact ⟨rfl, h9⟩
    · have hzb : (c != 0) = true := by simp [hz]
      go_wp2_with (first
        | (go_at_call 116; refine (HL.out _).mono ?_; rintro e w4 ⟨rfl, g4⟩; have g4' := g4.trans (World.grownBy_alloc w4 (.cells #[.int .i64 K, .func (.func fn) #[] #[]] 161) none); have H4 := hid (HW2.out.more g4'); have s0 := g4'.cell u0 (by simp); have s1 := g4'.cell u1 (by simp); have s2 := g4'.cell u2 (by simp); have l0 : (w4.alloc (.cells #[.int .i64 K, .func (.func fn) #[] #[]] 161)).cell? ⟨w4.heap.size, 0, none⟩ = some (.int .i64 K) := (by simp [go_sem]); have l1 : (w4.alloc (.cells #[.int .i64 K, .func (.func fn) #[] #[]] 161)).cell? ⟨w4.heap.size, 1, none⟩ = some (.func (.func fn) #[] #[]) := (by simp [go_sem]); have HN4 := hid (show some w4.heap.size ≠ some B by have := HW2.out.g.size; have := g4.size; simp; omega); clear g4 g4' u0 u1 u2 f0 f1)
        | (go_at_call 119; refine (HTE.out _ H4.out.here).mono ?_; rintro e w5 ⟨rfl, h5⟩; have H5 := hid (H4.out.step h5); have t0 := h5.g.cell s0 HN5.out; have t1 := h5.g.cell s1 HN5.out; have t2 := h5.g.cell s2 HN5.out; have m0 := h5.g.cell l0 HN4.out; have m1 := h5.g.cell l1 HN4.out; clear h5 s0 s1 s2 l0 l1))
      go_ret
      have h9 := H5.out
      rw [← HRN.out hz] at h9
      exact ⟨rfl, h9⟩
end Go.Proofs.Ytemeihamkdpmoaa
