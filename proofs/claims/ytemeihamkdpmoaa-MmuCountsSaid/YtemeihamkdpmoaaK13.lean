/-
  Package mmu: an entry's reference is taken, goes.
-/
import Derived.Test.YtemeihamkdpmoaaK12
import Derived.Deep.RegionHeld3
set_option linter.unusedSimpArgs false
set_option linter.unusedVariables false
namespace Go.Proofs.Ytemeihamkdpmoaa
open Go.RowKit
set_option maxHeartbeats 1000000

theorem unpack_out (n : Nat) (p q : Bool) (m c : Int) (wd : World) (hn : n < 4294967296) (h : unpackV n = (⟨p, q, m⟩, c)) : Calls Try.prog 31 #[.int .u32 n] wd fun e w' => e = .returned (.tuple #[.agg #[.bool p, .bool q, .int .i64 m], .int .i64 c]) ∧ wd.grownBy w' none := by
  have := unpack_any n wd hn
  rw [h] at this
  exact this
theorem pageKind_out (p q : Bool) (m : Int) (w : World) : Calls Try.prog 112 #[.agg #[.bool p, .bool q, .int .i64 m]] w fun x w' => x = .returned (.int .i64 (kindOf q)) ∧ w.grownBy w' none := pageKind_any ⟨p, q, m⟩ w
theorem tableKind_out (p q : Bool) (m : Int) (w : World) : Calls Try.prog 113 #[.agg #[.bool p, .bool q, .int .i64 m]] w fun x w' => x = .returned (.int .i64 2) ∧ w.grownBy w' none := tableKind_any ⟨p, q, m⟩ w
theorem XM.ent {w0 w : World} {B X : Nat} {M : Mach} (h : XM w0 w B X M) (a b c : Value) (t : TypeId) : XM w0 (w.alloc (.cells #[a, b, c] t)) B X M := h.more (World.grownBy_alloc w _ none)
theorem ent3 (w : World) (a b c : Value) (t : TypeId) : (w.alloc (.cells #[a, b, c] t)).cell? ⟨w.heap.size, 0, none⟩ = some a ∧ (w.alloc (.cells #[a, b, c] t)).cell? ⟨w.heap.size, 1, none⟩ = some b ∧ (w.alloc (.cells #[a, b, c] t)).cell? ⟨w.heap.size, 2, none⟩ = some c :=
  ⟨by simp [go_sem], by simp [go_sem], by simp [go_sem]⟩
set_option maxRecDepth 100000 in
theorem xtakeEntry1 (B X : Nat) (o : Int) (n : Nat) (w : World) (M : Mach) (R : Int × Mach) (h : XM w w B X M) (hn : n < 4294967296)
    (ht : ∀ W, XM W W B X M → Calls Try.prog 94 #[.pointer (some ⟨X, 0, none⟩), .int .i64 o, .int .i64 (unpackV n).1.mfn, .int .i64 (kindOf (unpackV n).1.w : Nat)] W fun e w' => e = .returned (.int .i64 R.1) ∧ XM W w' B X R.2) :
    Calls Try.prog 119 #[.pointer (some ⟨X, 0, none⟩), .int .i64 o, .int .u32 n, .agg #[.int .i64 2, .func (.func 112) #[] #[]]] w fun e w' =>
      e = .returned (.int .i64 (if (unpackV n).2 ≠ 0 then ((unpackV n).2, M) else if (unpackV n).1.p = false then (0, M) else R).1) ∧ XM w w' B X (if (unpackV n).2 ≠ 0 then ((unpackV n).2, M) else if (unpackV n).1.p = false then (0, M) else R).2 := by
  have H := hid h
  have HT := hid ht
  obtain ⟨⟨⟨p, q, m⟩, c⟩, hU⟩ : ∃ r, unpackV n = r := ⟨_, rfl⟩
  have HU := hid (fun wd => unpack_out n p q m c wd hn hU)
  rw [hU] at HT ⊢
  obtain ⟨rc, rM⟩ := R
  have HB := hid (World.grownBy_alloc w (.cells #[.int .i64 2, .func (.func 112) #[] #[]] 161) none)
  have hb1 : (w.alloc (.cells #[.int .i64 2, .func (.func 112) #[] #[]] 161)).cell? ⟨w.heap.size, 1, none⟩ = some (.func (.func 112) #[] #[]) := by simp [go_sem]
  have hBl := h.m.lt
  have HN0 := hid (show w.heap.size ≠ B by omega)
  clear h ht hU
  by_cases hc : c = 0
  · subst hc
    simp only [ne_eq, not_true, if_false]
    cases p with
    | false =>
      simp only [if_true]
      go_enter Try.func119, Try.ntmps119
      go_wp2_with (go_at_call 31; refine (HU.out _).mono ?_; rintro e w1 ⟨rfl, g1⟩; have H1 := hid ((H.out.more (HB.out.trans g1)).ent (.bool false) (.bool q) (.int .i64 m) 57); clear g1)
      go_ret
      exact ⟨rfl, H1.out⟩
    | true =>
      simp only [Bool.true_eq_false, if_false]
      go_enter Try.func119, Try.ntmps119
      go_wp2_with (go_at_call 31; refine (HU.out _).mono ?_; rintro e w1 ⟨rfl, g1⟩; have H1 := hid ((H.out.more (HB.out.trans g1)).ent (.bool true) (.bool q) (.int .i64 m) 57); obtain ⟨e0, e1, e2⟩ := ent3 w1 (.bool true) (.bool q) (.int .i64 m) 57; have k1 := (World.grownBy_alloc w1 (.cells #[.bool true, .bool q, .int .i64 m] 57) none).cell (g1.cell hb1 (by simp)) (by simp); have HN1 := hid (show w1.heap.size ≠ B by have := g1.size; simp at this; omega); clear g1 hb1)
      have HD := hid (H1.out.more (grownBy_drew _ none))
      go_region_held3 (fun w' => w'.cell? ⟨w1.heap.size, 0, none⟩ = some (.bool true) ∧ w'.cell? ⟨w1.heap.size, 1, none⟩ = some (.bool q) ∧ w'.cell? ⟨w1.heap.size, 2, none⟩ = some (.int .i64 m) ∧ w'.cell? ⟨w.heap.size, 1, none⟩ = some (.func (.func 112) #[] #[])) (first | exact ⟨by assumption, by assumption, by assumption, by assumption⟩ | go_keep)
        (first
          | (go_at_call 112; refine (pageKind_out _ _ _ _).mono ?_; rintro e w2 ⟨rfl, g2⟩; have H2 := hid (HD.out.more g2); have j0 := g2.cell (a := ⟨w1.heap.size, 0, none⟩) (by assumption) (by simp); have j1 := g2.cell (a := ⟨w1.heap.size, 1, none⟩) (by assumption) (by simp); have j2 := g2.cell (a := ⟨w1.heap.size, 2, none⟩) (by assumption) (by simp); have j3 := g2.cell (a := ⟨w.heap.size, 1, none⟩) (by assumption) (by simp); clear g2)
          | (go_at_call 94; refine (HT.out _ H2.out.here).mono ?_; rintro e w3 ⟨rfl, h3⟩; have H3 := hid (H2.out.step h3); have j0 := h3.g.cell (a := ⟨w1.heap.size, 0, none⟩) (by assumption) (by simpa using HN1.out); have j1 := h3.g.cell (a := ⟨w1.heap.size, 1, none⟩) (by assumption) (by simpa using HN1.out); have j2 := h3.g.cell (a := ⟨w1.heap.size, 2, none⟩) (by assumption) (by simpa using HN1.out); have j3 := h3.g.cell (a := ⟨w.heap.size, 1, none⟩) (by assumption) (by simpa using HN0.out); clear h3))
      all_goals go_wp2
      all_goals go_ret
      all_goals exact ⟨rfl, H3.out⟩
  · have hcb : (c != 0) = true := by simp [hc]
    rw [if_pos hc]
    clear hc
    go_enter Try.func119, Try.ntmps119
    go_wp2_with (go_at_call 31; refine (HU.out _).mono ?_; rintro e w1 ⟨rfl, g1⟩; have H1 := hid ((H.out.more (HB.out.trans g1)).ent (.bool p) (.bool q) (.int .i64 m) 57); clear g1)
    go_ret
    exact ⟨rfl, H1.out⟩
set_option maxRecDepth 100000 in
theorem xtakeEntry2 (B X : Nat) (o : Int) (n : Nat) (w : World) (M : Mach) (R : Int × Mach) (h : XM w w B X M) (hn : n < 4294967296)
    (ht : ∀ W, XM W W B X M → Calls Try.prog 94 #[.pointer (some ⟨X, 0, none⟩), .int .i64 o, .int .i64 (unpackV n).1.mfn, .int .i64 2] W fun e w' => e = .returned (.int .i64 R.1) ∧ XM W w' B X R.2) :
    Calls Try.prog 119 #[.pointer (some ⟨X, 0, none⟩), .int .i64 o, .int .u32 n, .agg #[.int .i64 3, .func (.func 113) #[] #[]]] w fun e w' =>
      e = .returned (.int .i64 (if (unpackV n).2 ≠ 0 then ((unpackV n).2, M) else if (unpackV n).1.p = false then (0, M) else R).1) ∧ XM w w' B X (if (unpackV n).2 ≠ 0 then ((unpackV n).2, M) else if (unpackV n).1.p = false then (0, M) else R).2 := by
  have H := hid h
  have HT := hid ht
  obtain ⟨⟨⟨p, q, m⟩, c⟩, hU⟩ : ∃ r, unpackV n = r := ⟨_, rfl⟩
  have HU := hid (fun wd => unpack_out n p q m c wd hn hU)
  rw [hU] at HT ⊢
  obtain ⟨rc, rM⟩ := R
  have HB := hid (World.grownBy_alloc w (.cells #[.int .i64 3, .func (.func 113) #[] #[]] 161) none)
  have hb1 : (w.alloc (.cells #[.int .i64 3, .func (.func 113) #[] #[]] 161)).cell? ⟨w.heap.size, 1, none⟩ = some (.func (.func 113) #[] #[]) := by simp [go_sem]
  have hBl := h.m.lt
  have HN0 := hid (show w.heap.size ≠ B by omega)
  clear h ht hU
  by_cases hc : c = 0
  · subst hc
    simp only [ne_eq, not_true, if_false]
    cases p with
    | false =>
      simp only [if_true]
      go_enter Try.func119, Try.ntmps119
      go_wp2_with (go_at_call 31; refine (HU.out _).mono ?_; rintro e w1 ⟨rfl, g1⟩; have H1 := hid ((H.out.more (HB.out.trans g1)).ent (.bool false) (.bool q) (.int .i64 m) 57); clear g1)
      go_ret
      exact ⟨rfl, H1.out⟩
    | true =>
      simp only [Bool.true_eq_false, if_false]
      go_enter Try.func119, Try.ntmps119
      go_wp2_with (go_at_call 31; refine (HU.out _).mono ?_; rintro e w1 ⟨rfl, g1⟩; have H1 := hid ((H.out.more (HB.out.trans g1)).ent (.bool true) (.bool q) (.int .i64 m) 57); obtain ⟨e0, e1, e2⟩ := ent3 w1 (.bool true) (.bool q) (.int .i64 m) 57; have k1 := (World.grownBy_alloc w1 (.cells #[.bool true, .bool q, .int .i64 m] 57) none).cell (g1.cell hb1 (by simp)) (by simp); have HN1 := hid (show w1.heap.size ≠ B by have := g1.size; simp at this; omega); clear g1 hb1)
      have HD := hid (H1.out.more (grownBy_drew _ none))
      go_region_held3 (fun w' => w'.cell? ⟨w1.heap.size, 0, none⟩ = some (.bool true) ∧ w'.cell? ⟨w1.heap.size, 1, none⟩ = some (.bool q) ∧ w'.cell? ⟨w1.heap.size, 2, none⟩ = some (.int .i64 m) ∧ w'.cell? ⟨w.heap.size, 1, none⟩ = some (.func (.func 113) #[] #[])) (first | exact ⟨by assumption, by assumption, by assumption, by assumption⟩ | go_keep)
        (first
          | (go_at_call 113; refine (tableKind_out _ _ _ _).mono ?_; rintro e w2 ⟨rfl, g2⟩; have H2 := hid (HD.out.more g2); have j0 := g2.cell (a := ⟨w1.heap.size, 0, none⟩) (by assumption) (by simp); have j1 := g2.cell (a := ⟨w1.heap.size, 1, none⟩) (by assumption) (by simp); have j2 := g2.cell (a := ⟨w1.heap.size, 2, none⟩) (by assumption) (by simp); have j3 := g2.cell (a := ⟨w.heap.size, 1, none⟩) (by assumption) (by simp); clear g2)
          | (go_at_call 94; refine (HT.out _ H2.out.here).mono ?_; rintro e w3 ⟨rfl, h3⟩; have H3 := hid (H2.out.step h3); have j0 := h3.g.cell (a := ⟨w1.heap.size, 0, none⟩) (by assumption) (by simpa using HN1.out); have j1 := h3.g.cell (a := ⟨w1.heap.size, 1, none⟩) (by assumption) (by simpa using HN1.out); have j2 := h3.g.cell (a := ⟨w1.heap.size, 2, none⟩) (by assumption) (by simpa using HN1.out); have j3 := h3.g.cell (a := ⟨w.heap.size, 1, none⟩) (by assumption) (by simpa using HN0.out); clear h3))
      all_goals go_wp2
      all_goals go_ret
      all_goals exact ⟨rfl, H3.out⟩
  · have hcb : (c != 0) = true := by simp [hc]
    rw [if_pos hc]
    clear hc
    go_enter Try.func119, Try.ntmps119
    go_wp2_with (go_at_call 31; refine (HU.out _).mono ?_; rintro e w1 ⟨rfl, g1⟩; have H1 := hid ((H.out.more (HB.out.trans g1)).ent (.bool p) (.bool q) (.int .i64 m) 57); clear g1)
    go_ret
    exact ⟨rfl, H1.out⟩
set_option maxRecDepth 100000 in
theorem xdropEntry1 (B X : Nat) (n : Nat) (w : World) (M R : Mach) (h : XM w w B X M) (hn : n < 4294967296)
    (ht : (unpackV n).1.p = true → ∀ W, XM W W B X M → Calls Try.prog 96 #[.pointer (some ⟨X, 0, none⟩), .int .i64 (unpackV n).1.mfn, .int .i64 (kindOf (unpackV n).1.w : Nat)] W fun e w' => e = .returned (.tuple #[]) ∧ XM W w' B X R) :
    Calls Try.prog 121 #[.pointer (some ⟨X, 0, none⟩), .int .u32 n, .agg #[.int .i64 2, .func (.func 112) #[] #[]]] w fun e w' =>
      e = .returned (.tuple #[]) ∧ XM w w' B X (if (unpackV n).1.p = false then M else R) := by
  have H := hid h
  have HT := hid ht
  obtain ⟨⟨⟨p, q, m⟩, c⟩, hU⟩ : ∃ r, unpackV n = r := ⟨_, rfl⟩
  have HU := hid (fun wd => unpack_out n p q m c wd hn hU)
  rw [hU] at HT ⊢
  have HB := hid (World.grownBy_alloc w (.cells #[.int .i64 2, .func (.func 112) #[] #[]] 161) none)
  have hb1 : (w.alloc (.cells #[.int .i64 2, .func (.func 112) #[] #[]] 161)).cell? ⟨w.heap.size, 1, none⟩ = some (.func (.func 112) #[] #[]) := by simp [go_sem]
  have hBl := h.m.lt
  have HN0 := hid (show w.heap.size ≠ B by omega)
  clear h ht hU
  cases p with
  | false =>
    simp only [if_true]
    go_enter Try.func121, Try.ntmps121
    go_wp2_with (go_at_call 31; refine (HU.out _).mono ?_; rintro e w1 ⟨rfl, g1⟩; have H1 := hid ((H.out.more (HB.out.trans g1)).ent (.bool false) (.bool q) (.int .i64 m) 57); clear g1)
    (first | go_end0 | ((try simp only [Exit.inBlock, Exit.then]); refine bodyPost_ret (results_none rfl _ _ _) rfl ?_))
    exact ⟨rfl, H1.out⟩
  | true =>
    simp only [Bool.true_eq_false, if_false]
    go_enter Try.func121, Try.ntmps121
    go_wp2_with (go_at_call 31; refine (HU.out _).mono ?_; rintro e w1 ⟨rfl, g1⟩; have H1 := hid ((H.out.more (HB.out.trans g1)).ent (.bool true) (.bool q) (.int .i64 m) 57); obtain ⟨e0, e1, e2⟩ := ent3 w1 (.bool true) (.bool q) (.int .i64 m) 57; have k1 := (World.grownBy_alloc w1 (.cells #[.bool true, .bool q, .int .i64 m] 57) none).cell (g1.cell hb1 (by simp)) (by simp); have HN1 := hid (show w1.heap.size ≠ B by have := g1.size; simp at this; omega); clear g1 hb1)
    have HD := hid (H1.out.more (grownBy_drew _ none))
    go_region_held3 (fun w' => w'.cell? ⟨w1.heap.size, 0, none⟩ = some (.bool true) ∧ w'.cell? ⟨w1.heap.size, 1, none⟩ = some (.bool q) ∧ w'.cell? ⟨w1.heap.size, 2, none⟩ = some (.int .i64 m) ∧ w'.cell? ⟨w.heap.size, 1, none⟩ = some (.func (.func 112) #[] #[])) (first | exact ⟨by assumption, by assumption, by assumption, by assumption⟩ | go_keep)
      (first
        | (go_at_call 112; refine (pageKind_out _ _ _ _).mono ?_; rintro e w2 ⟨rfl, g2⟩; have H2 := hid (HD.out.more g2); have j0 := g2.cell (a := ⟨w1.heap.size, 0, none⟩) (by assumption) (by simp); have j1 := g2.cell (a := ⟨w1.heap.size, 1, none⟩) (by assumption) (by simp); have j2 := g2.cell (a := ⟨w1.heap.size, 2, none⟩) (by assumption) (by simp); have j3 := g2.cell (a := ⟨w.heap.size, 1, none⟩) (by assumption) (by simp); clear g2)
        | (go_at_call 96; refine (HT.out trivial _ H2.out.here).mono ?_; rintro e w3 ⟨rfl, h3⟩; have H3 := hid (H2.out.step h3); have j0 := h3.g.cell (a := ⟨w1.heap.size, 0, none⟩) (by assumption) (by simpa using HN1.out); have j1 := h3.g.cell (a := ⟨w1.heap.size, 1, none⟩) (by assumption) (by simpa using HN1.out); have j2 := h3.g.cell (a := ⟨w1.heap.size, 2, none⟩) (by assumption) (by simpa using HN1.out); have j3 := h3.g.cell (a := ⟨w.heap.size, 1, none⟩) (by assumption) (by simpa using HN0.out); clear h3))
    all_goals go_wp2
    all_goals (first | go_end0 | ((try simp only [Exit.inBlock, Exit.then]); refine bodyPost_ret (results_none rfl _ _ _) rfl ?_))
    all_goals exact ⟨rfl, H3.out⟩
set_option maxRecDepth 100000 in
theorem xdropEntry2 (B X : Nat) (n : Nat) (w : World) (M R : Mach) (h : XM w w B X M) (hn : n < 4294967296)
    (ht : (unpackV n).1.p = true → ∀ W, XM W W B X M → Calls Try.prog 96 #[.pointer (some ⟨X, 0, none⟩), .int .i64 (unpackV n).1.mfn, .int .i64 2] W fun e w' => e = .returned (.tuple #[]) ∧ XM W w' B X R) :
    Calls Try.prog 121 #[.pointer (some ⟨X, 0, none⟩), .int .u32 n, .agg #[.int .i64 3, .func (.func 113) #[] #[]]] w fun e w' =>
      e = .returned (.tuple #[]) ∧ XM w w' B X (if (unpackV n).1.p = false then M else R) := by
  have H := hid h
  have HT := hid ht
  obtain ⟨⟨⟨p, q, m⟩, c⟩, hU⟩ : ∃ r, unpackV n = r := ⟨_, rfl⟩
  have HU := hid (fun wd => unpack_out n p q m c wd hn hU)
  rw [hU] at HT ⊢
  have HB := hid (World.grownBy_alloc w (.cells #[.int .i64 3, .func (.func 113) #[] #[]] 161) none)
  have hb1 : (w.alloc (.cells #[.int .i64 3, .func (.func 113) #[] #[]] 161)).cell? ⟨w.heap.size, 1, none⟩ = some (.func (.func 113) #[] #[]) := by simp [go_sem]
  have hBl := h.m.lt
  have HN0 := hid (show w.heap.size ≠ B by omega)
  clear h ht hU
  cases p with
  | false =>
    simp only [if_true]
    go_enter Try.func121, Try.ntmps121
    go_wp2_with (go_at_call 31; refine (HU.out _).mono ?_; rintro e w1 ⟨rfl, g1⟩; have H1 := hid ((H.out.more (HB.out.trans g1)).ent (.bool false) (.bool q) (.int .i64 m) 57); clear g1)
    (first | go_end0 | ((try simp only [Exit.inBlock, Exit.then]); refine bodyPost_ret (results_none rfl _ _ _) rfl ?_))
    exact ⟨rfl, H1.out⟩
  | true =>
    simp only [Bool.true_eq_false, if_false]
    go_enter Try.func121, Try.ntmps121
    go_wp2_with (go_at_call 31; refine (HU.out _).mono ?_; rintro e w1 ⟨rfl, g1⟩; have H1 := hid ((H.out.more (HB.out.trans g1)).ent (.bool true) (.bool q) (.int .i64 m) 57); obtain ⟨e0, e1, e2⟩ := ent3 w1 (.bool true) (.bool q) (.int .i64 m) 57; have k1 := (World.grownBy_alloc w1 (.cells #[.bool true, .bool q, .int .i64 m] 57) none).cell (g1.cell hb1 (by simp)) (by simp); have HN1 := hid (show w1.heap.size ≠ B by have := g1.size; simp at this; omega); clear g1 hb1)
    have HD := hid (H1.out.more (grownBy_drew _ none))
    go_region_held3 (fun w' => w'.cell? ⟨w1.heap.size, 0, none⟩ = some (.bool true) ∧ w'.cell? ⟨w1.heap.size, 1, none⟩ = some (.bool q) ∧ w'.cell? ⟨w1.heap.size, 2, none⟩ = some (.int .i64 m) ∧ w'.cell? ⟨w.heap.size, 1, none⟩ = some (.func (.func 113) #[] #[])) (first | exact ⟨by assumption, by assumption, by assumption, by assumption⟩ | go_keep)
      (first
        | (go_at_call 113; refine (tableKind_out _ _ _ _).mono ?_; rintro e w2 ⟨rfl, g2⟩; have H2 := hid (HD.out.more g2); have j0 := g2.cell (a := ⟨w1.heap.size, 0, none⟩) (by assumption) (by simp); have j1 := g2.cell (a := ⟨w1.heap.size, 1, none⟩) (by assumption) (by simp); have j2 := g2.cell (a := ⟨w1.heap.size, 2, none⟩) (by assumption) (by simp); have j3 := g2.cell (a := ⟨w.heap.size, 1, none⟩) (by assumption) (by simp); clear g2)
        | (go_at_call 96; refine (HT.out trivial _ H2.out.here).mono ?_; rintro e w3 ⟨rfl, h3⟩; have H3 := hid (H2.out.step h3); have j0 := h3.g.cell (a := ⟨w1.heap.size, 0, none⟩) (by assumption) (by simpa using HN1.out); have j1 := h3.g.cell (a := ⟨w1.heap.size, 1, none⟩) (by assumption) (by simpa using HN1.out); have j2 := h3.g.cell (a := ⟨w1.heap.size, 2, none⟩) (by assumption) (by simpa using HN1.out); have j3 := h3.g.cell (a := ⟨w.heap.size, 1, none⟩) (by assumption) (by simpa using HN0.out); clear h3))
    all_goals go_wp2
    all_goals (first | go_end0 | ((try simp only [Exit.inBlock, Exit.then]); refine bodyPost_ret (results_none rfl _ _ _) rfl ?_))
    all_goals exact ⟨rfl, H3.out⟩
end Go.Proofs.Ytemeihamkdpmoaa
