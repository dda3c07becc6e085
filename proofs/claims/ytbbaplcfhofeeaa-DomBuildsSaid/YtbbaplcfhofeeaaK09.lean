/-
  Package mmu: an entry's reference is taken, goes.
-/
import Derived.Test.YtbbaplcfhofeeaaK08
import Derived.Deep.RegionHeld3
import Derived.Defers
import Derived.Recover
set_option linter.unusedSimpArgs false
set_option linter.unusedVariables false
namespace Go.Proofs.Ytbbaplcfhofeeaa
open Go.RowKit
set_option maxHeartbeats 1000000

theorem unpack_out (n : Nat) (p q : Bool) (m c : Int) (wd : World) (hn : n < 4294967296) (h : unpackV n = (⟨p, q, m⟩, c)) : Calls Try.prog 74 #[.int .u32 n] wd fun e w' => e = .returned (.tuple #[.agg #[.bool p, .bool q, .int .i64 m], .int .i64 c]) ∧ wd.grownBy w' none := by
  have := unpack_any n wd hn
  rw [h] at this
  exact this
theorem pageKind_out (p q : Bool) (m : Int) (w : World) : Calls Try.prog 69 #[.agg #[.bool p, .bool q, .int .i64 m]] w fun x w' => x = .returned (.int .i64 (kindOf q)) ∧ w.grownBy w' none := pageKind_any ⟨p, q, m⟩ w
theorem tableKind_out (p q : Bool) (m : Int) (w : World) : Calls Try.prog 70 #[.agg #[.bool p, .bool q, .int .i64 m]] w fun x w' => x = .returned (.int .i64 2) ∧ w.grownBy w' none := tableKind_any ⟨p, q, m⟩ w
theorem XM.ent {w0 w : World} {B X : Nat} {M : Mach} (h : XM w0 w B X M) (a b c : Value) (t : TypeId) : XM w0 (w.alloc (.cells #[a, b, c] t)) B X M := h.more (World.grownBy_alloc w _ none)
theorem ent3 (w : World) (a b c : Value) (t : TypeId) : (w.alloc (.cells #[a, b, c] t)).cell? ⟨w.heap.size, 0, none⟩ = some a ∧ (w.alloc (.cells #[a, b, c] t)).cell? ⟨w.heap.size, 1, none⟩ = some b ∧ (w.alloc (.cells #[a, b, c] t)).cell? ⟨w.heap.size, 2, none⟩ = some c :=
  ⟨by simp [go_sem], by simp [go_sem], by simp [go_sem]⟩
set_option maxRecDepth 100000 in
theorem xtakeEntry1 (B X : Nat) (o : Int) (n : Nat) (w : World) (M : Mach) (R : Int × Mach) (h : XM w w B X M) (hn : n < 4294967296)
    (ht : ∀ W, XM W W B X M → Calls Try.prog 48 #[.pointer (some ⟨X, 0, none⟩), .int .i64 o, .int .i64 (unpackV n).1.mfn, .int .i64 (kindOf (unpackV n).1.w : Nat)] W fun e w' => e = .returned (.int .i64 R.1) ∧ XM W w' B X R.2) :
    Calls Try.prog 67 #[.pointer (some ⟨X, 0, none⟩), .int .i64 o, .int .u32 n, .agg #[.int .i64 2, .func (.func 69) #[] #[]]] w fun e w' =>
      e = .returned (.int .i64 (if (unpackV n).2 ≠ 0 then ((unpackV n).2, M) else if (unpackV n).1.p = false then (0, M) else R).1) ∧ XM w w' B X (if (unpackV n).2 ≠ 0 then ((unpackV n).2, M) else if (unpackV n).1.p = false then (0, M) else R).2 := by
  have H := hid h
  have HT := hid ht
  obtain ⟨⟨⟨p, q, m⟩, c⟩, hU⟩ : ∃ r, unpackV n = r := ⟨_, rfl⟩
  have HU := hid (fun wd => unpack_out n p q m c wd hn hU)
  rw [hU] at HT ⊢
  obtain ⟨rc, rM⟩ := R
  have HB := hid (World.grownBy_alloc w (.cells #[.int .i64 2, .func (.func 69) #[] #[]] 123) none)
  have hb1 : (w.alloc (.cells #[.int .i64 2, .func (.func 69) #[] #[]] 123)).cell? ⟨w.heap.size, 1, none⟩ = some (.func (.func 69) #[] #[]) := by simp [go_sem]
  have hBl := h.m.lt
  have HN0 := hid (show w.heap.size ≠ B by omega)
  clear h ht hU
  by_cases hc : c = 0
  · subst hc
    simp only [ne_eq, not_true, if_false]
    cases p with
    | false =>
      simp only [if_true]
      go_enter Try.func67, Try.ntmps67
      go_wp2_with (go_at_call 74; refine (HU.out _).mono ?_; rintro e w1 ⟨rfl, g1⟩; have H1 := hid ((H.out.more (HB.out.trans g1)).ent (.bool false) (.bool q) (.int .i64 m) 108); clear g1)
      go_ret
      exact ⟨rfl, H1.out⟩
    | true =>
      simp only [Bool.true_eq_false, if_false]
      go_enter Try.func67, Try.ntmps67
      go_wp2_with (go_at_call 74; refine (HU.out _).mono ?_; rintro e w1 ⟨rfl, g1⟩; have H1 := hid ((H.out.more (HB.out.trans g1)).ent (.bool true) (.bool q) (.int .i64 m) 108); obtain ⟨e0, e1, e2⟩ := ent3 w1 (.bool true) (.bool q) (.int .i64 m) 108; have k1 := (World.grownBy_alloc w1 (.cells #[.bool true, .bool q, .int .i64 m] 108) none).cell (g1.cell hb1 (by simp)) (by simp); have HN1 := hid (show w1.heap.size ≠ B by have := g1.size; simp at this; omega); clear g1 hb1)
      have HD := hid (H1.out.more (grownBy_drew _ none))
      go_region_held3 (fun w' => w'.cell? ⟨w1.heap.size, 0, none⟩ = some (.bool true) ∧ w'.cell? ⟨w1.heap.size, 1, none⟩ = some (.bool q) ∧ w'.cell? ⟨w1.heap.size, 2, none⟩ = some (.int .i64 m) ∧ w'.cell? ⟨w.heap.size, 1, none⟩ = some (.func (.func 69) #[] #[])) (first | exact ⟨by assumption, by assumption, by assumption, by assumption⟩ | go_keep)
        (first
          | (go_at_call 69; refine (pageKind_out _ _ _ _).mono ?_; rintro e w2 ⟨rfl, g2⟩; have H2 := hid (HD.out.more g2); have j0 := g2.cell (a := ⟨w1.heap.size, 0, none⟩) (by assumption) (by simp); have j1 := g2.cell (a := ⟨w1.heap.size, 1, none⟩) (by assumption) (by simp); have j2 := g2.cell (a := ⟨w1.heap.size, 2, none⟩) (by assumption) (by simp); have j3 := g2.cell (a := ⟨w.heap.size, 1, none⟩) (by assumption) (by simp); clear g2)
          | (go_at_call 48; refine (HT.out _ H2.out.here).mono ?_; rintro e w3 ⟨rfl, h3⟩; have H3 := hid (H2.out.step h3); have j0 := h3.g.cell (a := ⟨w1.heap.size, 0, none⟩) (by assumption) (by simpa using HN1.out); have j1 := h3.g.cell (a := ⟨w1.heap.size, 1, none⟩) (by assumption) (by simpa using HN1.out); have j2 := h3.g.cell (a := ⟨w1.heap.size, 2, none⟩) (by assumption) (by simpa using HN1.out); have j3 := h3.g.cell (a := ⟨w.heap.size, 1, none⟩) (by assumption) (by simpa using HN0.out); clear h3))
      all_goals go_wp2
      all_goals go_ret
      all_goals exact ⟨rfl, H3.out⟩
  · have hcb : (c != 0) = true := by simp [hc]
    rw [if_pos hc]
    clear hc
    go_enter Try.func67, Try.ntmps67
    go_wp2_with (go_at_call 74; refine (HU.out _).mono ?_; rintro e w1 ⟨rfl, g1⟩; have H1 := hid ((H.out.more (HB.out.trans g1)).ent (.bool p) (.bool q) (.int .i64 m) 108); clear g1)
    go_ret
    exact ⟨rfl, H1.out⟩
set_option maxRecDepth 100000 in
theorem xtakeEntry2 (B X : Nat) (o : Int) (n : Nat) (w : World) (M : Mach) (R : Int × Mach) (h : XM w w B X M) (hn : n < 4294967296)
    (ht : ∀ W, XM W W B X M → Calls Try.prog 48 #[.pointer (some ⟨X, 0, none⟩), .int .i64 o, .int .i64 (unpackV n).1.mfn, .int .i64 2] W fun e w' => e = .returned (.int .i64 R.1) ∧ XM W w' B X R.2) :
    Calls Try.prog 67 #[.pointer (some ⟨X, 0, none⟩), .int .i64 o, .int .u32 n, .agg #[.int .i64 3, .func (.func 70) #[] #[]]] w fun e w' =>
      e = .returned (.int .i64 (if (unpackV n).2 ≠ 0 then ((unpackV n).2, M) else if (unpackV n).1.p = false then (0, M) else R).1) ∧ XM w w' B X (if (unpackV n).2 ≠ 0 then ((unpackV n).2, M) else if (unpackV n).1.p = false then (0, M) else R).2 := by
  have H := hid h
  have HT := hid ht
  obtain ⟨⟨⟨p, q, m⟩, c⟩, hU⟩ : ∃ r, unpackV n = r := ⟨_, rfl⟩
  have HU := hid (fun wd => unpack_out n p q m c wd hn hU)
  rw [hU] at HT ⊢
  obtain ⟨rc, rM⟩ := R
  have HB := hid (World.grownBy_alloc w (.cells #[.int .i64 3, .func (.func 70) #[] #[]] 123) none)
  have hb1 : (w.alloc (.cells #[.int .i64 3, .func (.func 70) #[] #[]] 123)).cell? ⟨w.heap.size, 1, none⟩ = some (.func (.func 70) #[] #[]) := by simp [go_sem]
  have hBl := h.m.lt
  have HN0 := hid (show w.heap.size ≠ B by omega)
  clear h ht hU
  by_cases hc : c = 0
  · subst hc
    simp only [ne_eq, not_true, if_false]
    cases p with
    | false =>
      simp only [if_true]
      go_enter Try.func67, Try.ntmps67
      go_wp2_with (go_at_call 74; refine (HU.out _).mono ?_; rintro e w1 ⟨rfl, g1⟩; have H1 := hid ((H.out.more (HB.out.trans g1)).ent (.bool false) (.bool q) (.int .i64 m) 108); clear g1)
      go_ret
      exact ⟨rfl, H1.out⟩
    | true =>
      simp only [Bool.true_eq_false, if_false]
      go_enter Try.func67, Try.ntmps67
      go_wp2_with (go_at_call 74; refine (HU.out _).mono ?_; rintro e w1 ⟨rfl, g1⟩; have H1 := hid ((H.out.more (HB.out.trans g1)).ent (.bool true) (.bool q) (.int .i64 m) 108); obtain ⟨e0, e1, e2⟩ := ent3 w1 (.bool true) (.bool q) (.int .i64 m) 108; have k1 := (World.grownBy_alloc w1 (.cells #[.bool true, .bool q, .int .i64 m] 108) none).cell (g1.cell hb1 (by simp)) (by simp); have HN1 := hid (show w1.heap.size ≠ B by have := g1.size; simp at this; omega); clear g1 hb1)
      have HD := hid (H1.out.more (grownBy_drew _ none))
      go_region_held3 (fun w' => w'.cell? ⟨w1.heap.size, 0, none⟩ = some (.bool true) ∧ w'.cell? ⟨w1.heap.size, 1, none⟩ = some (.bool q) ∧ w'.cell? ⟨w1.heap.size, 2, none⟩ = some (.int .i64 m) ∧ w'.cell? ⟨w.heap.size, 1, none⟩ = some (.func (.func 70) #[] #[])) (first | exact ⟨by assumption, by assumption, by assumption, by assumption⟩ | go_keep)
        (first
          | (go_at_call 70; refine (tableKind_out _ _ _ _).mono ?_; rintro e w2 ⟨rfl, g2⟩; have H2 := hid (HD.out.more g2); have j0 := g2.cell (a := ⟨w1.heap.size, 0, none⟩) (by assumption) (by simp); have j1 := g2.cell (a := ⟨w1.heap.size, 1, none⟩) (by assumption) (by simp); have j2 := g2.cell (a := ⟨w1.heap.size, 2, none⟩) (by assumption) (by simp); have j3 := g2.cell (a := ⟨w.heap.size, 1, none⟩) (by assumption) (by simp); clear g2)
          | (go_at_call 48; refine (HT.out _ H2.out.here).mono ?_; rintro e w3 ⟨rfl, h3⟩; have H3 := hid (H2.out.step h3); have j0 := h3.g.cell (a := ⟨w1.heap.size, 0, none⟩) (by assumption) (by simpa using HN1.out); have j1 := h3.g.cell (a := ⟨w1.heap.size, 1, none⟩) (by assumption) (by simpa using HN1.out); have j2 := h3.g.cell (a := ⟨w1.heap.size, 2, none⟩) (by assumption) (by simpa using HN1.out); have j3 := h3.g.cell (a := ⟨w.heap.size, 1, none⟩) (by assumption) (by simpa using HN0.out); clear h3))
      all_goals go_wp2
      all_goals go_ret
      all_goals exact ⟨rfl, H3.out⟩
  · have hcb : (c != 0) = true := by simp [hc]
    rw [if_pos hc]
    clear hc
    go_enter Try.func67, Try.ntmps67
    go_wp2_with (go_at_call 74; refine (HU.out _).mono ?_; rintro e w1 ⟨rfl, g1⟩; have H1 := hid ((H.out.more (HB.out.trans g1)).ent (.bool p) (.bool q) (.int .i64 m) 108); clear g1)
    go_ret
    exact ⟨rfl, H1.out⟩
set_option maxRecDepth 100000 in
theorem xdropEntry1 (B X : Nat) (n : Nat) (w : World) (M R : Mach) (h : XM w w B X M) (hn : n < 4294967296)
    (ht : (unpackV n).1.p = true → ∀ W, XM W W B X M → Calls Try.prog 49 #[.pointer (some ⟨X, 0, none⟩), .int .i64 (unpackV n).1.mfn, .int .i64 (kindOf (unpackV n).1.w : Nat)] W fun e w' => e = .returned (.tuple #[]) ∧ XM W w' B X R) :
    Calls Try.prog 68 #[.pointer (some ⟨X, 0, none⟩), .int .u32 n, .agg #[.int .i64 2, .func (.func 69) #[] #[]]] w fun e w' =>
      e = .returned (.tuple #[]) ∧ XM w w' B X (if (unpackV n).1.p = false then M else R) := by
  have H := hid h
  have HT := hid ht
  obtain ⟨⟨⟨p, q, m⟩, c⟩, hU⟩ : ∃ r, unpackV n = r := ⟨_, rfl⟩
  have HU := hid (fun wd => unpack_out n p q m c wd hn hU)
  rw [hU] at HT ⊢
  have HB := hid (World.grownBy_alloc w (.cells #[.int .i64 2, .func (.func 69) #[] #[]] 123) none)
  have hb1 : (w.alloc (.cells #[.int .i64 2, .func (.func 69) #[] #[]] 123)).cell? ⟨w.heap.size, 1, none⟩ = some (.func (.func 69) #[] #[]) := by simp [go_sem]
  have hBl := h.m.lt
  have HN0 := hid (show w.heap.size ≠ B by omega)
  clear h ht hU
  cases p with
  | false =>
    simp only [if_true]
    go_enter Try.func68, Try.ntmps68
    go_wp2_with (go_at_call 74; refine (HU.out _).mono ?_; rintro e w1 ⟨rfl, g1⟩; have H1 := hid ((H.out.more (HB.out.trans g1)).ent (.bool false) (.bool q) (.int .i64 m) 108); clear g1)
    (first | go_end0 | ((try simp only [Exit.inBlock, Exit.then]); refine bodyPost_ret (results_none rfl _ _ _) rfl ?_))
    exact ⟨rfl, H1.out⟩
  | true =>
    simp only [Bool.true_eq_false, if_false]
    go_enter Try.func68, Try.ntmps68
    go_wp2_with (go_at_call 74; refine (HU.out _).mono ?_; rintro e w1 ⟨rfl, g1⟩; have H1 := hid ((H.out.more (HB.out.trans g1)).ent (.bool true) (.bool q) (.int .i64 m) 108); obtain ⟨e0, e1, e2⟩ := ent3 w1 (.bool true) (.bool q) (.int .i64 m) 108; have k1 := (World.grownBy_alloc w1 (.cells #[.bool true, .bool q, .int .i64 m] 108) none).cell (g1.cell hb1 (by simp)) (by simp); have HN1 := hid (show w1.heap.size ≠ B by have := g1.size; simp at this; omega); clear g1 hb1)
    have HD := hid (H1.out.more (grownBy_drew _ none))
    go_region_held3 (fun w' => w'.cell? ⟨w1.heap.size, 0, none⟩ = some (.bool true) ∧ w'.cell? ⟨w1.heap.size, 1, none⟩ = some (.bool q) ∧ w'.cell? ⟨w1.heap.size, 2, none⟩ = some (.int .i64 m) ∧ w'.cell? ⟨w.heap.size, 1, none⟩ = some (.func (.func 69) #[] #[])) (first | exact ⟨by assumption, by assumption, by assumption, by assumption⟩ | go_keep)
      (first
        | (go_at_call 69; refine (pageKind_out _ _ _ _).mono ?_; rintro e w2 ⟨rfl, g2⟩; have H2 := hid (HD.out.more g2); have j0 := g2.cell (a := ⟨w1.heap.size, 0, none⟩) (by assumption) (by simp); have j1 := g2.cell (a := ⟨w1.heap.size, 1, none⟩) (by assumption) (by simp); have j2 := g2.cell (a := ⟨w1.heap.size, 2, none⟩) (by assumption) (by simp); have j3 := g2.cell (a := ⟨w.heap.size, 1, none⟩) (by assumption) (by simp); clear g2)
        | (go_at_call 49; refine (HT.out trivial _ H2.out.here).mono ?_; rintro e w3 ⟨rfl, h3⟩; have H3 := hid (H2.out.step h3); have j0 := h3.g.cell (a := ⟨w1.heap.size, 0, none⟩) (by assumption) (by simpa using HN1.out); have j1 := h3.g.cell (a := ⟨w1.heap.size, 1, none⟩) (by assumption) (by simpa using HN1.out); have j2 := h3.g.cell (a := ⟨w1.heap.size, 2, none⟩) (by assumption) (by simpa using HN1.out); have j3 := h3.g.cell (a := ⟨w.heap.size, 1, none⟩) (by assumption) (by simpa using HN0.out); clear h3))
    all_goals go_wp2
    all_goals (first | go_end0 | ((try simp only [Exit.inBlock, Exit.then]); refine bodyPost_ret (results_none rfl _ _ _) rfl ?_))
    all_goals exact ⟨rfl, H3.out⟩
set_option maxRecDepth 100000 in
theorem xdropEntry2 (B X : Nat) (n : Nat) (w : World) (M R : Mach) (h : XM w w B X M) (hn : n < 4294967296)
    (ht : (unpackV n).1.p = true → ∀ W, XM W W B X M → Calls Try.prog 49 #[.pointer (some ⟨X, 0, none⟩), .int .i64 (unpackV n).1.mfn, .int .i64 2] W fun e w' => e = .returned (.tuple #[]) ∧ XM W w' B X R) :
    Calls Try.prog 68 #[.pointer (some ⟨X, 0, none⟩), .int .u32 n, .agg #[.int .i64 3, .func (.func 70) #[] #[]]] w fun e w' =>
      e = .returned (.tuple #[]) ∧ XM w w' B X (if (unpackV n).1.p = false then M else R) := by
  have H := hid h
  have HT := hid ht
  obtain ⟨⟨⟨p, q, m⟩, c⟩, hU⟩ : ∃ r, unpackV n = r := ⟨_, rfl⟩
  have HU := hid (fun wd => unpack_out n p q m c wd hn hU)
  rw [hU] at HT ⊢
  have HB := hid (World.grownBy_alloc w (.cells #[.int .i64 3, .func (.func 70) #[] #[]] 123) none)
  have hb1 : (w.alloc (.cells #[.int .i64 3, .func (.func 70) #[] #[]] 123)).cell? ⟨w.heap.size, 1, none⟩ = some (.func (.func 70) #[] #[]) := by simp [go_sem]
  have hBl := h.m.lt
  have HN0 := hid (show w.heap.size ≠ B by omega)
  clear h ht hU
  cases p with
  | false =>
    simp only [if_true]
    go_enter Try.func68, Try.ntmps68
    go_wp2_with (go_at_call 74; refine (HU.out _).mono ?_; rintro e w1 ⟨rfl, g1⟩; have H1 := hid ((H.out.more (HB.out.trans g1)).ent (.bool false) (.bool q) (.int .i64 m) 108); clear g1)
    (first | go_end0 | ((try simp only [Exit.inBlock, Exit.then]); refine bodyPost_ret (results_none rfl _ _ _) rfl ?_))
    exact ⟨rfl, H1.out⟩
  | true =>
    simp only [Bool.true_eq_false, if_false]
    go_enter Try.func68, Try.ntmps68
    go_wp2_with (go_at_call 74; refine (HU.out _).mono ?_; rintro e w1 ⟨rfl, g1⟩; have H1 := hid ((H.out.more (HB.out.trans g1)).ent (.bool true) (.bool q) (.int .i64 m) 108); obtain ⟨e0, e1, e2⟩ := ent3 w1 (.bool true) (.bool q) (.int .i64 m) 108; have k1 := (World.grownBy_alloc w1 (.cells #[.bool true, .bool q, .int .i64 m] 108) none).cell (g1.cell hb1 (by simp)) (by simp); have HN1 := hid (show w1.heap.size ≠ B by have := g1.size; simp at this; omega); clear g1 hb1)
    have HD := hid (H1.out.more (grownBy_drew _ none))
    go_region_held3 (fun w' => w'.cell? ⟨w1.heap.size, 0, none⟩ = some (.bool true) ∧ w'.cell? ⟨w1.heap.size, 1, none⟩ = some (.bool q) ∧ w'.cell? ⟨w1.heap.size, 2, none⟩ = some (.int .i64 m) ∧ w'.cell? ⟨w.heap.size, 1, none⟩ = some (.func (.func 70) #[] #[])) (first | exact ⟨by assumption, by assumption, by assumption, by assumption⟩ | go_keep)
      (first
        | (go_at_call 70; refine (tableKind_out _ _ _ _).mono ?_; rintro e w2 ⟨rfl, g2⟩; have H2 := hid (HD.out.more g2); have j0 := g2.cell (a := ⟨w1.heap.size, 0, none⟩) (by assumption) (by simp); have j1 := g2.cell (a := ⟨w1.heap.size, 1, none⟩) (by assumption) (by simp); have j2 := g2.cell (a := ⟨w1.heap.size, 2, none⟩) (by assumption) (by simp); have j3 := g2.cell (a := ⟨w.heap.size, 1, none⟩) (by assumption) (by simp); clear g2)
        | (go_at_call 49; refine (HT.out trivial _ H2.out.here).mono ?_; rintro e w3 ⟨rfl, h3⟩; have H3 := hid (H2.out.step h3); have j0 := h3.g.cell (a := ⟨w1.heap.size, 0, none⟩) (by assumption) (by simpa using HN1.out); have j1 := h3.g.cell (a := ⟨w1.heap.size, 1, none⟩) (by assumption) (by simpa using HN1.out); have j2 := h3.g.cell (a := ⟨w1.heap.size, 2, none⟩) (by assumption) (by simpa using HN1.out); have j3 := h3.g.cell (a := ⟨w.heap.size, 1, none⟩) (by assumption) (by simpa using HN0.out); clear h3))
    all_goals go_wp2
    all_goals (first | go_end0 | ((try simp only [Exit.inBlock, Exit.then]); refine bodyPost_ret (results_none rfl _ _ _) rfl ?_))
    all_goals exact ⟨rfl, H3.out⟩
end Go.Proofs.Ytbbaplcfhofeeaa

/-
  Package mmu: the references of a table's entries go.
-/
set_option linter.unusedSimpArgs false
set_option linter.unusedVariables false
namespace Go.Proofs.Ytbbaplcfhofeeaa
open Go.RowKit
set_option maxHeartbeats 1000000

theorem at_word (b t i : Nat) (w : World) (M : Mach) (T : Int) (n : Nat) (hM : PM w b M) (hok : M.ok T) (hi : i < 64) (ht : (t : Int) < M.n) (hn : M.word t i = n) : Calls Try.prog 66 #[.pointer (some ⟨b, 0, none⟩), .int .i64 t, .int .i64 i] w fun e w' => e = .returned (.tuple #[.int .u32 n, .int .i64 0]) ∧ w.grownBy w' none := by
  subst hn
  exact ptAt_yes b t i w M T hM hok hi ht
theorem Mach.word_lt (M : Mach) (t j : Nat) : M.word t j < 4294967296 := word4_lt _ _
set_option maxRecDepth 100000 in
theorem xdropEntries (B X K fn t k : Nat) (hk : k ≤ 64) (w : World) (Ms : Nat → Mach) (T : Int) (h : XM w w B X (Ms 0)) (hok : ∀ j, j ≤ k → (Ms j).ok T) (ht : (t : Int) < (Ms 0).n) (hs : ∀ j, j ≤ k → MSame (Ms 0) (Ms j))
    (hd : ∀ j, j < k → ∀ W, XM W W B X (Ms j) → Calls Try.prog 68 #[.pointer (some ⟨X, 0, none⟩), .int .u32 ((Ms 0).word t j : Nat), .agg #[.int .i64 K, .func (.func fn) #[] #[]]] W fun e w' => e = .returned (.tuple #[]) ∧ XM W w' B X (Ms (j + 1))) :
    Calls Try.prog 62 #[.pointer (some ⟨X, 0, none⟩), .int .i64 t, .agg #[.int .i64 K, .func (.func fn) #[] #[]], .int .i64 k] w fun e w' => e = .returned (.tuple #[]) ∧ XM w w' B X (Ms k) := by
  have H := hid h; have HOk := hid hok; have HS := hid hs; have HD := hid hd; have HT := hid ht
  have hBl := h.m.lt
  have hBne : w.heap.size ≠ B := by omega
  have HN := hid hBne
  obtain ⟨W, hW⟩ : ∃ W, w.alloc (.cells #[.int .i64 K, .func (.func fn) #[] #[]] 123) = W := ⟨_, rfl⟩
  have H0 := hid (show XM w W B X (Ms 0) by rw [← hW]; exact h.more (World.grownBy_alloc w _ none))
  have q0 : W.cell? ⟨w.heap.size, 0, none⟩ = some (.int .i64 K) := by rw [← hW]; simp [go_sem]
  have q1 : W.cell? ⟨w.heap.size, 1, none⟩ = some (.func (.func fn) #[] #[]) := by rw [← hW]; simp [go_sem]
  have HQ0 := hid q0; have HQ1 := hid q1
  clear h hok hs hd ht hBl hBne q0 q1
  go_enter Try.func62, Try.ntmps62
  go_wp2
  go_loopw [12] (fun x wr => ∃ j : Nat, x = .int .i64 j ∧ j ≤ k ∧ XM w wr B X (Ms j) ∧ wr.cell? ⟨w.heap.size, 0, none⟩ = some (.int .i64 K) ∧ wr.cell? ⟨w.heap.size, 1, none⟩ = some (.func (.func fn) #[] #[])) (fun x _ => k - (intOf x).toNat)
  case atStart => exact ⟨0, rfl, by omega, H0.out, HQ0.out, HQ1.out⟩
  case round =>
    clear H0 HQ0 HQ1
    obtain ⟨j, rfl, hj, hx, q0, q1⟩ := hrel
    have hxx := hx.x
    have HX := hid hx
    have hj0 : (0 : Int) ≤ j := by omega
    clear hx
    by_cases hjk : j < k
    · have hjk' : (j : Int) < k := by omega
      have hsj := HS.out j hj
      have HA := hid (at_word B t j wr (Ms j) T ((Ms 0).word t j) HX.out.m (HOk.out j hj) (by omega) (by rw [hsj.n]; exact HT.out) (Mach.word_bs (hsj.bs t) j))
      clear hsj
      go_wp2_with (first
        | (go_at_call 66; refine HA.out.mono ?_; rintro e w2 ⟨rfl, g2⟩; have H2 := hid (HX.out.more g2); have r0 := g2.cell q0 (by simp); have r1 := g2.cell q1 (by simp); clear g2)
        | (go_at_call 68; refine (HD.out j hjk _ H2.out.here).mono ?_; rintro e w3 ⟨rfl, h3⟩; have H3 := hid (H2.out.step h3); have s0 := h3.g.cell r0 (by simpa using HN.out); have s1 := h3.g.cell r1 (by simpa using HN.out); clear h3))
      go_roundw
      case rel => exact ⟨j + 1, by go_num, by omega, H3.out, s0, s1⟩
      case measure => simp [intOf]; omega
    · obtain rfl : j = k := by omega
      have hge : (j : Int) ≤ j := by omega
      go_wp2
      first | go_end0 | ((try simp only [Exit.inBlock, Exit.then]); refine bodyPost_ret (results_none rfl _ _ _) rfl ?_)
      exact ⟨rfl, HX.out⟩
end Go.Proofs.Ytbbaplcfhofeeaa

/-
  Package mmu: a table is validated; what is deferred there.
-/
set_option linter.unusedSimpArgs false
set_option linter.unusedVariables false
namespace Go.Proofs.Ytbbaplcfhofeeaa
open Go.RowKit
set_option maxHeartbeats 1000000

set_option maxRecDepth 100000 in
theorem undo_no (e x t l k : Addr) (u : FrameMode) (w : World) (he : w.cell? e = some (.int .i64 0)) :
    CallsD Try.prog 65 #[.pointer (some e), .pointer (some x), .pointer (some t), .pointer (some l), .pointer (some k)] u w fun e' u' w' => u' = u ∧ (e' = .returned (.tuple #[]) ∧ w = w') := by
  go_enter_d Try.func65, Try.ntmps65
  go_wp2
  first | go_end0 | ((try simp only [Exit.inBlock, Exit.then]); refine bodyPost_ret (results_none rfl _ _ _) rfl ?_)
  exact ⟨rfl, rfl⟩
/-- the variables that the closure holds, in blocks b .. b + 4 of their own -/
structure VB (w : World) (b X : Nat) (c t : Int) (K fn : Nat) (j : Int) : Prop where
  x : w.cell? ⟨b, 0, none⟩ = some (.pointer (some ⟨X, 0, none⟩))
  t : w.cell? ⟨b + 1, 0, none⟩ = some (.int .i64 t)
  l0 : w.cell? ⟨b + 1 + 1, 0, none⟩ = some (.int .i64 K)
  l1 : w.cell? ⟨b + 1 + 1, 1, none⟩ = some (.func (.func fn) #[] #[])
  e : w.cell? ⟨b + 1 + 1 + 1, 0, none⟩ = some (.int .i64 c)
  j : w.cell? ⟨b + 1 + 1 + 1 + 1, 0, none⟩ = some (.int .i64 j)
  ze : w.frozen? ⟨b + 1 + 1 + 1, 0, none⟩ = false
  zj : w.frozen? ⟨b + 1 + 1 + 1 + 1, 0, none⟩ = false
theorem grown_frozen {w W : World} {row : Option Nat} (h : w.grownBy W row) {a : Addr} (hl : a.block < w.heap.size) (hr : some a.block ≠ row) : W.frozen? a = w.frozen? a := by
  unfold World.frozen?
  rw [h.block _ hl hr]
theorem VB.grown {w W : World} {b X K fn B : Nat} {c t j : Int} (h : VB w b X c t K fn j) (hg : w.grownBy W (some B)) (hb : B < b) : VB W b X c t K fn j := by
  have le := World.block_lt_of_cell? _ _ h.e
  have lj := World.block_lt_of_cell? _ _ h.j
  exact ⟨hg.cell h.x (by simp; omega), hg.cell h.t (by simp; omega), hg.cell h.l0 (by simp; omega), hg.cell h.l1 (by simp; omega), hg.cell h.e (by simp; omega), hg.cell h.j (by simp; omega), (grown_frozen hg le (by simp; omega)).trans h.ze, (grown_frozen hg lj (by simp; omega)).trans h.zj⟩
set_option maxRecDepth 100000 in
theorem undo_yes (B X b K fn : Nat) (hb : B < b) (c : Int) (hc : c ≠ 0) (t k : Nat) (u : FrameMode) (w : World) (M M1 : Mach) (T : Int) (h : XM w w B X M) (hv : VB w b X c t K fn k) (hok : M1.ok T) (hT : T < 9223372036854775807)
    (hd : ∀ W, XM W W B X M → Calls Try.prog 62 #[.pointer (some ⟨X, 0, none⟩), .int .i64 t, .agg #[.int .i64 K, .func (.func fn) #[] #[]], .int .i64 k] W fun e w' => e = .returned (.tuple #[]) ∧ XM W w' B X M1) :
    CallsD Try.prog 65 #[.pointer (some ⟨b + 1 + 1 + 1, 0, none⟩), .pointer (some ⟨b, 0, none⟩), .pointer (some ⟨b + 1, 0, none⟩), .pointer (some ⟨b + 1 + 1, 0, none⟩), .pointer (some ⟨b + 1 + 1 + 1 + 1, 0, none⟩)] u w fun e' u' w' => u' = u ∧ (e' = .returned (.tuple #[]) ∧ XM w w' B X (M1.put t K).2) := by
  have H := hid h; have HV := hid hv; have HD := hid hd; have HOk := hid hok
  have hcb : (c != 0) = true := by simp [hc]
  have e0 := hv.e; have e1 := hv.x; have e2 := hv.t; have e3 := hv.l0; have e4 := hv.l1; have e5 := hv.j
  clear h hv hd hok
  go_enter_d Try.func65, Try.ntmps65
  go_wp2_with (go_at_call 62; refine (HD.out _ H.out).mono ?_; rintro e w1 ⟨rfl, h1⟩; have H1 := hid h1; have HV1 := hid (HV.out.grown h1.g hb); have hx1 := h1.x; have f1 := HV1.out.x; have f2 := HV1.out.t; have f3 := HV1.out.l0; clear h1 e0 e1 e2 e3 e4 e5)
  go_region_held3 (fun w' => w'.cell? ⟨b, 0, none⟩ = some (.pointer (some ⟨X, 0, none⟩)) ∧ w'.cell? ⟨b + 1, 0, none⟩ = some (.int .i64 t) ∧ w'.cell? ⟨b + 1 + 1, 0, none⟩ = some (.int .i64 K) ∧ w'.cell? ⟨X, 0, none⟩ = some (.pointer (some ⟨B, 0, none⟩))) (first | exact ⟨by assumption, by assumption, by assumption, by assumption⟩ | go_keep)
    (first | (go_at_call 38; refine (Put_any B t K _ M1 T (H1.out.more (grownBy_drew _ none)).m HOk.out hT).mono ?_; rintro e w2 ⟨rfl, hm, g2⟩; have H2 := hid ((H1.out.more (grownBy_drew _ none)).put hm g2); have HV2 := hid ((HV1.out.grown (grownBy_drew _ (some B)) hb).grown g2 hb); have j1 := HV2.out.x; have j2 := HV2.out.t; have j3 := HV2.out.l0; have j4 := H2.out.x; clear hm g2))
  all_goals go_wp2
  all_goals (first | go_end0 | ((try simp only [Exit.inBlock, Exit.then]); refine bodyPost_ret (results_none rfl _ _ _) rfl ?_))
  all_goals exact ⟨rfl, H2.out⟩
end Go.Proofs.Ytbbaplcfhofeeaa

/-
  Package mmu: a table is validated.
-/
set_option linter.unusedSimpArgs false
set_option linter.unusedVariables false
namespace Go.Proofs.Ytbbaplcfhofeeaa
open Go.RowKit
set_option maxHeartbeats 2000000

theorem VB.setj {w : World} {b X K fn : Nat} {c t j : Int} (h : VB w b X c t K fn j) (i : Int) : VB (w.setCell ⟨b + 1 + 1 + 1 + 1, 0, none⟩ (.int .i64 i)) b X c t K fn i := by
  have hg := grownBy_setCell w (b + 1 + 1 + 1 + 1) 0 none (.int .i64 i)
  have lx := World.block_lt_of_cell? _ _ h.e
  have lj := World.block_lt_of_cell? _ _ h.j
  exact ⟨hg.cell h.x (by simp <;> omega), hg.cell h.t (by simp <;> omega), hg.cell h.l0 (by simp <;> omega), hg.cell h.l1 (by simp <;> omega), hg.cell h.e (by simp), World.cell?_setCell_same _ _ _ h.j, (grown_frozen hg lx (by simp)).trans h.ze, by simpa [go_sem] using h.zj⟩
theorem VB.sete {w : World} {b X K fn : Nat} {c t j : Int} (h : VB w b X c t K fn j) (i : Int) : VB (w.setCell ⟨b + 1 + 1 + 1, 0, none⟩ (.int .i64 i)) b X i t K fn j := by
  have hg := grownBy_setCell w (b + 1 + 1 + 1) 0 none (.int .i64 i)
  have lx := World.block_lt_of_cell? _ _ h.e
  have lj := World.block_lt_of_cell? _ _ h.j
  exact ⟨hg.cell h.x (by simp <;> omega), hg.cell h.t (by simp <;> omega), hg.cell h.l0 (by simp <;> omega), hg.cell h.l1 (by simp <;> omega), World.cell?_setCell_same _ _ _ h.e, hg.cell h.j (by simp), by simpa [go_sem] using h.ze, (grown_frozen hg lj (by simp)).trans h.zj⟩
theorem XM.set {w0 w : World} {B X : Nat} {M : Mach} (h : XM w0 w B X M) (b o : Nat) (v : Value) (hb : w0.heap.size ≤ b) (hB : B < w0.heap.size) (hX : X < w0.heap.size) : XM w0 (w.setCell ⟨b, o, none⟩ v) B X M :=
  have hg := grownBy_setCell w b o none v
  ⟨h.m.grown hg (by simp <;> omega), hg.cell h.x (by simp <;> omega), h.g.andThen hg (fun j e => by cases e; exact .inl hb), h.XB⟩
set_option maxRecDepth 100000 in
theorem xvalidate (B X K fn t : Nat) (o : Int) (w : World) (M0 : Mach) (Es : Nat → Int × Mach) (Md : Nat → Mach) (T : Int) (h : XM w w B X (Es 0).2) (h00 : (Es 0).1 = 0) (hok : ∀ j, j ≤ 64 → (Es j).2.ok T) (hokd : ∀ j, j ≤ 64 → (Md j).ok T) (hT : T < 9223372036854775807) (ht : (t : Int) < (Es 0).2.n) (hs : ∀ j, j ≤ 64 → MSame (Es 0).2 (Es j).2)
    (hst : ∀ j, j < 64 → (Es j).1 ≠ 0 → Es (j + 1) = Es j)
    (hte : ∀ j, j < 64 → (Es j).1 = 0 → ∀ W, XM W W B X (Es j).2 → Calls Try.prog 67 #[.pointer (some ⟨X, 0, none⟩), .int .i64 o, .int .u32 ((Es 0).2.word t j : Nat), .agg #[.int .i64 K, .func (.func fn) #[] #[]]] W fun e w' => e = .returned (.int .i64 (Es (j + 1)).1) ∧ XM W w' B X (Es (j + 1)).2)
    (hun : ∀ j, j < 64 → (Es j).1 = 0 → (Es (j + 1)).1 ≠ 0 → (∀ W, XM W W B X (Es (j + 1)).2 → Calls Try.prog 62 #[.pointer (some ⟨X, 0, none⟩), .int .i64 t, .agg #[.int .i64 K, .func (.func fn) #[] #[]], .int .i64 j] W fun e w' => e = .returned (.tuple #[]) ∧ XM W w' B X (Md j)) ∧ ((Md j).put t K).2 = M0) :
    Calls Try.prog 61 #[.pointer (some ⟨X, 0, none⟩), .int .i64 o, .int .i64 t, .agg #[.int .i64 K, .func (.func fn) #[] #[]]] w fun e w' => e = .returned (.int .i64 (Es 64).1) ∧ XM w w' B X (if (Es 64).1 = 0 then (Es 64).2 else M0) := by
  have H := hid h; have HOk := hid hok; have HOkd := hid hokd; have HS := hid hs; have HT := hid ht; have HTE := hid hte; have HUN := hid hun; have HST := hid hst
  have HBl := hid h.m.lt
  have HXl := hid (World.block_lt_of_cell? _ _ h.x)
  obtain ⟨a, ha⟩ : ∃ a, (Es 64).1 = a := ⟨_, rfl⟩
  obtain ⟨Mr, hMr⟩ : ∃ Mr, (if (Es 64).1 = 0 then (Es 64).2 else M0) = Mr := ⟨_, rfl⟩
  have HA0 := hid (show (Es 64).1 = 0 → a = 0 ∧ Mr = (Es 64).2 from fun e => ⟨by rw [← ha, e], by rw [← hMr, if_pos e]⟩)
  have HA1 := hid (show ∀ c, (Es 64).1 = c → c ≠ 0 → a = c ∧ Mr = M0 from fun c e hc => ⟨by rw [← ha, e], by rw [← hMr, if_neg (by rw [e]; exact hc)]⟩)
  rw [hMr, ha]
  clear ha hMr
  obtain ⟨W, hW⟩ : ∃ W, ((((w.alloc (.cells #[.pointer (some ⟨X, 0, none⟩)] 40)).alloc (.cells #[.int .i64 t] 3)).alloc (.cells #[.int .i64 K, .func (.func fn) #[] #[]] 123)).alloc (.cells #[.int .i64 0] 24)).alloc (.cells #[.int .i64 0] 3) = W := ⟨_, rfl⟩
  have HX0 := hid (show XM w W B X (Es 0).2 by rw [← hW]; exact ((((h.more (World.grownBy_alloc _ _ none)).more (World.grownBy_alloc _ _ none)).more (World.grownBy_alloc _ _ none)).more (World.grownBy_alloc _ _ none)).more (World.grownBy_alloc _ _ none))
  have HV0 := hid (show VB W w.heap.size X 0 t K fn 0 by rw [← hW]; constructor <;> simp [go_sem])
  have hmf : ∀ (fn : Fn) (first cap : Array Value) (w : World), (Instr.makeFunc fn first cap).run Try.prog w = .ok (.func fn first cap) w := fun _ _ _ _ => rfl
  clear h hok hokd hs ht hte hun hst
  have k0 := HV0.out.j; have k1 := HV0.out.zj
  have HX1 := hid (HX0.out.set (w.heap.size + 1 + 1 + 1 + 1) 0 (.int .i64 0) (by omega) HBl.out HXl.out)
  have HV1 := hid (HV0.out.setj 0)
  clear HX0 HV0
  go_enter_defers Try.func61, Try.ntmps61
  go_wp2
  clear k0 k1
  go_loopw [] (fun wr => ∃ j : Nat, j ≤ 64 ∧ (Es j).1 = 0 ∧ XM w wr B X (Es j).2 ∧ VB wr w.heap.size X 0 t K fn j) (fun wr => 64 - (match wr.cell? ⟨w.heap.size + 1 + 1 + 1 + 1, 0, none⟩ with | some v => (intOf v).toNat | none => 0))
  case atStart => exact ⟨0, by omega, h00, HX1.out, HV1.out⟩
  case round =>
    clear HX1 HV1
    obtain ⟨j, hj, he, hx, hv⟩ := hrel
    have f0 := hv.x; have f1 := hv.t; have f2 := hv.l0; have f3 := hv.l1; have f4 := hv.e; have f5 := hv.j; have f6 := hv.ze; have f7 := hv.zj; have f8 := hx.x
    have HX := hid hx; have HV := hid hv
    clear hx hv
    by_cases hj64 : j < 64
    · have hj64' : (j : Int) < 64 := by omega
      have hsj := HS.out j hj
      have HA := hid (fun (wd : World) (hm : PM wd B (Es j).2) => at_word B t j wd (Es j).2 T ((Es 0).2.word t j) hm (HOk.out j hj) (by omega) (by rw [hsj.n]; exact HT.out) (Mach.word_bs (hsj.bs t) j))
      clear hsj
      have HTj := hid (HTE.out j hj64 he)
      have HUj := hid (HUN.out j hj64 he)
      have HOj := hid (HOkd.out j hj)
      have HST1 := hid (fun (e1 : (Es (j + 1)).1 ≠ 0) => (show Es 64 = Es (j + 1) from by
        have : ∀ q, j + 1 + q ≤ 64 → Es (j + 1 + q) = Es (j + 1) := fun q => by
          induction q with
          | zero => intro; rfl
          | succ q ih => intro hq; exact (HST.out (j + 1 + q) (by omega) (by rw [ih (by omega)]; exact e1)).trans (ih (by omega))
        have := this (64 - (j + 1)) (by omega)
        rwa [show j + 1 + (64 - (j + 1)) = 64 by omega] at this))
      have hk4 : ((j + 1 : Nat) : Int) = (j : Int) + 1 := by omega
      generalize hE : Es (j + 1) = r at HTj HUj HST1
      obtain ⟨c, M'⟩ := r
      have HE := hid hE
      clear hE
      go_wp2
      go_region_held3 (fun w' => w'.cell? ⟨w.heap.size, 0, none⟩ = some (.pointer (some ⟨X, 0, none⟩)) ∧ w'.cell? ⟨w.heap.size + 1, 0, none⟩ = some (.int .i64 t) ∧ w'.cell? ⟨w.heap.size + 1 + 1 + 1 + 1, 0, none⟩ = some (.int .i64 j) ∧ w'.cell? ⟨X, 0, none⟩ = some (.pointer (some ⟨B, 0, none⟩))) (first | exact ⟨by assumption, by assumption, by assumption, by assumption⟩ | go_keep)
        (first | (go_at_call 66; refine (HA.out _ (HX.out.more (grownBy_drew _ none)).m).mono ?_; rintro e w2 ⟨rfl, g2⟩; have H2 := hid ((HX.out.more (grownBy_drew _ none)).more g2); have HV2 := hid ((HV.out.grown (grownBy_drew _ (some B)) HBl.out).grown (g2.but (some B)) HBl.out); have j1 := HV2.out.x; have j2 := HV2.out.t; have j3 := HV2.out.j; have j4 := H2.out.x; have j5 := HV2.out.l0; have j6 := HV2.out.l1; clear g2))
      clear f0 f1 f2 f3 f4 f5 f6 f7 f8
      by_cases hc : c = 0
      · subst hc
        go_wp2_with (go_at_call 67; refine (HTj.out _ H2.out.here).mono ?_; rintro e w3 ⟨rfl, h3⟩; have H3 := hid (H2.out.step h3); have HV3 := hid (HV2.out.grown h3.g HBl.out); have i1 := HV3.out.j; have i2 := HV3.out.zj; clear h3)
        go_roundw
        case rel => exact ⟨j + 1, by omega, by rw [HE.out], by rw [HE.out]; exact H3.out.set _ 0 _ (by omega) HBl.out HXl.out, by rw [hk4]; exact HV3.out.setj _⟩
        case measure =>
          have a1 := HV.out.j; have a2 := (HV3.out.setj ((j + 1 : Nat) : Int)).j
          rw [← hk4]
          simp only [a1, a2, intOf, Int.toNat_natCast]; exact Nat.sub_lt_sub_left hj64 (Nat.lt_succ_self j)
      · have hcb : (c != 0) = true := by simp [hc]
        go_wp2_with (go_at_call 67; refine (HTj.out _ H2.out.here).mono ?_; rintro e w3 ⟨rfl, h3⟩; have H3 := hid (H2.out.step h3); have HV3 := hid (HV2.out.grown h3.g HBl.out); have i1 := HV3.out.e; have i2 := HV3.out.ze; clear h3)
        obtain ⟨hu1, hu2⟩ := HUj.out hc
        obtain ⟨r1, r2⟩ := HA1.out c (by rw [HST1.out hc]) hc
        have H4 := hid (H3.out.set (w.heap.size + 1 + 1 + 1) 0 (.int .i64 c) (by omega) HBl.out HXl.out)
        have HV4 := hid (HV3.out.sete c)
        refine leaves_cons (f := 65) (args := #[.pointer (some ⟨w.heap.size + 1 + 1 + 1, 0, none⟩), .pointer (some ⟨w.heap.size, 0, none⟩), .pointer (some ⟨w.heap.size + 1, 0, none⟩), .pointer (some ⟨w.heap.size + 1 + 1, 0, none⟩), .pointer (some ⟨w.heap.size + 1 + 1 + 1 + 1, 0, none⟩)]) (by simp) (by simp [go_sem]) ?_
        refine (undo_yes B X w.heap.size K fn HBl.out c hc t j .returning _ M' (Md j) T H4.out.here HV4.out HOj.out hT hu1).mono ?_
        rintro e u' w5 ⟨rfl, rfl, h5⟩
        have hr := (HV4.out.grown h5.g HBl.out).e
        rw [hu2] at h5
        rw [r1, r2]
        refine ⟨.int .i64 c, by simp [results, Try.results61, go_sem, hr], rfl, H4.out.step h5⟩
    · obtain rfl : j = 64 := by omega
      have hge : ¬ ((64 : Nat) : Int) < 64 := by omega
      go_wp2
      obtain ⟨r1, r2⟩ := HA0.out he
      have H4 := hid (HX.out.set (w.heap.size + 1 + 1 + 1) 0 (.int .i64 0) (by omega) HBl.out HXl.out)
      have hr := (HV.out.sete 0).e
      refine leaves_cons (f := 65) (args := #[.pointer (some ⟨w.heap.size + 1 + 1 + 1, 0, none⟩), .pointer (some ⟨w.heap.size, 0, none⟩), .pointer (some ⟨w.heap.size + 1, 0, none⟩), .pointer (some ⟨w.heap.size + 1 + 1, 0, none⟩), .pointer (some ⟨w.heap.size + 1 + 1 + 1 + 1, 0, none⟩)]) (by simp) (by simp [go_sem]) ?_
      refine (undo_no _ _ _ _ _ .returning _ hr).mono ?_
      rintro e u' w5 ⟨rfl, rfl, rfl⟩
      rw [r1, r2]
      refine ⟨.int .i64 0, by simp [results, Try.results61, go_sem, hr], rfl, H4.out⟩
end Go.Proofs.Ytbbaplcfhofeeaa
