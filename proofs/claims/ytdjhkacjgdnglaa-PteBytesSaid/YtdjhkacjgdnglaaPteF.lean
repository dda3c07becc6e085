/-
  Package pte: Walk. (Written by wip/tools/gen_pwalk.py.)
-/
import Derived.Test.YtdjhkacjgdnglaaPteE
namespace Go.Proofs.Ytdjhkacjgdnglaa
open Go.RowKit
set_option maxHeartbeats 2000000

/-- a new entry's block -/
def Box3 (w : World) (A : Nat) (a b c : Value) : Prop := w.heap[A]? = some (.cells #[a, b, c] 69 (0, 0))
theorem Box3.lt {w : World} {A : Nat} {a b c : Value} (h : Box3 w A a b c) : A < w.heap.size := (Array.getElem?_eq_some_iff.1 h).1
theorem Box3.facts {w : World} {A : Nat} {a b c : Value} (h : Box3 w A a b c) : w.cell? ⟨A, 0, none⟩ = some a ∧ w.cell? ⟨A, 1, none⟩ = some b ∧ w.cell? ⟨A, 2, none⟩ = some c ∧ w.frozen? ⟨A, 0, none⟩ = false ∧ w.frozen? ⟨A, 1, none⟩ = false ∧ w.frozen? ⟨A, 2, none⟩ = false ∧ A < w.heap.size :=
  ⟨cell_of_row w _ 0 _ _ _ h, cell_of_row w _ 1 _ _ _ h, cell_of_row w _ 2 _ _ _ h, frozen_of_row w _ 0 _ _ h, frozen_of_row w _ 1 _ _ h, frozen_of_row w _ 2 _ _ h, h.lt⟩
theorem Box3.grown {w w' : World} {A : Nat} {a b c : Value} (h : Box3 w A a b c) (hg : w.grownBy w' none) : Box3 w' A a b c := (hg.block A h.lt (by simp)).trans h
theorem Box3.set3 {w : World} {A : Nat} {a b c : Value} (h : Box3 w A a b c) (a' b' c' : Value) : Box3 (((w.setCell ⟨A, 0, none⟩ a').setCell ⟨A, 1, none⟩ b').setCell ⟨A, 2, none⟩ c') A a' b' c' :=
  heap_setCell_same _ A 2 _ _ c' (heap_setCell_same _ A 1 _ _ b' (heap_setCell_same w A 0 _ _ a' h))
theorem Box3.other {w : World} {A B : Nat} {a b c : Value} (h : Box3 w A a b c) (hne : A ≠ B) (x y z : Value) : Box3 (((w.setCell ⟨B, 0, none⟩ x).setCell ⟨B, 1, none⟩ y).setCell ⟨B, 2, none⟩ z) A a b c :=
  (heap_setCell_other _ _ A z hne).trans ((heap_setCell_other _ _ A y hne).trans ((heap_setCell_other _ _ A x hne).trans h))
theorem PM.set3 {w : World} {b A : Nat} {M : Mach} (h : PM w b M) (hne : b ≠ A) (x y z : Value) : PM (((w.setCell ⟨A, 0, none⟩ x).setCell ⟨A, 1, none⟩ y).setCell ⟨A, 2, none⟩ z) b M :=
  ((h.setOther _ hne x).setOther _ hne y).setOther _ hne z
theorem ent2_kept {w w2 : World} {a b c d e f : Value} (hg : ((w.alloc (.cells #[a, b, c] 69)).alloc (.cells #[d, e, f] 69)).grownBy w2 none) :
    Box3 w2 w.heap.size a b c ∧ Box3 w2 (w.heap.size + 1) d e f := by
  have h1 : Box3 (w.alloc (.cells #[a, b, c] 69)) w.heap.size a b c := heap_alloc_new w _
  have h2 : Box3 ((w.alloc (.cells #[a, b, c] 69)).alloc (.cells #[d, e, f] 69)) (w.heap.size + 1) d e f := by
    have := heap_alloc_new (w.alloc (.cells #[a, b, c] 69)) (.cells #[d, e, f] 69)
    simpa [Box3] using this
  exact ⟨(h1.grown (World.grownBy_alloc _ _ none)).grown hg, h2.grown hg⟩
/-- at the label 'fault': the error lies in its slot -/
def WJ (w : World) (err : Int) (a : Act) (w' : World) : Prop :=
  (∃ u0 u1 u2 u3 u4 u5 u6 u7 u8 u9 u10 u11 u12 u13 u14 u15 u17 u18 u19 u20 u21 u22 u23 u24 u25 u26 u27 u28 u29 u30 u31 u32 u33 u34 u35 u36 u37 u38 u39 u40 u41 u42 u43 u44 u45 u46 u47 u48 u49 u50 u51 u52 u53 u54 u55 u56 u57 u58 u59 u60 u61 u62 u63 u64 u65 u66 : Value, a = { tmps := #[u0, u1, u2, u3, u4, u5, u6, u7, u8, u9, u10, u11, u12, u13, u14, u15, (.int .i64 err), u17, u18, u19, u20, u21, u22, u23, u24, u25, u26, u27, u28, u29, u30, u31, u32, u33, u34, u35, u36, u37, u38, u39, u40, u41, u42, u43, u44, u45, u46, u47, u48, u49, u50, u51, u52, u53, u54, u55, u56, u57, u58, u59, u60, u61, u62, u63, u64, u65, u66], defers := [] }) ∧ w.grownBy w' none
set_option maxRecDepth 100000 in
theorem ptWalk_far (b : Nat) (r : Int) (va : Nat) (x : Bool) (w : World) (M : Mach) (T : Int) (hM : PM w b M) (hok : M.ok T) (hv : va < 4294967296) (h : 1048576 ≤ va) : Calls Try.prog 26 #[.pointer (some ⟨b, 0, none⟩), .int .i64 r, .int .u32 va, .bool x] w fun e w' => e = .returned (.tuple #[.int .i64 0, .int .i64 0, .int .i64 1]) ∧ w.grownBy w' none := by
  have HS := hid (fun w => split_any va w hv)
  rw [show splitV va = (0, 0, 0, 1) by unfold splitV; rw [if_pos h]] at HS
  have HM := hid hM
  have HN := hid hok.n1
  have HB := hid hM.lt
  clear h hv hM hok
  go_enter Try.func26, Try.ntmps26
  go_wp2_with fail
  refine wp_scope_jumps 0 (WJ w 1) (fun _ _ => 0) rfl ?_ ?_
  · go_wp2_with (first
    | (go_at_call 67; refine (ptMade _ _ _ (by first | exact HM.out | exact (HM.out.alloc _)) HN.out).mono ?_; rintro e w2 ⟨rfl, rfl⟩)
    | (go_at_call 36; refine (HS.out _).mono ?_; rintro e w2 ⟨rfl, rfl⟩; simp only [split4]))
    go_step3
    exact ⟨rfl, ⟨_, _, _, _, _, _, _, _, _, _, _, _, _, _, _, _, _, _, _, _, _, _, _, _, _, _, _, _, _, _, _, _, _, _, _, _, _, _, _, _, _, _, _, _, _, _, _, _, _, _, _, _, _, _, _, _, _, _, _, _, _, _, _, _, _, _, rfl⟩, (World.grownBy_alloc _ _ _).trans (World.grownBy_alloc _ _ _)⟩
  · rintro a' w' ⟨⟨u0, u1, u2, u3, u4, u5, u6, u7, u8, u9, u10, u11, u12, u13, u14, u15, u17, u18, u19, u20, u21, u22, u23, u24, u25, u26, u27, u28, u29, u30, u31, u32, u33, u34, u35, u36, u37, u38, u39, u40, u41, u42, u43, u44, u45, u46, u47, u48, u49, u50, u51, u52, u53, u54, u55, u56, u57, u58, u59, u60, u61, u62, u63, u64, u65, u66, rfl⟩, hg⟩
    go_wp2
    simp only [Exit.jump]
    go_ret3
    exact ⟨rfl, hg⟩
set_option maxRecDepth 100000 in
theorem ptWalk_e1 (b : Nat) (r : Int) (va : Nat) (x : Bool) (w : World) (M : Mach) (T : Int) (hM : PM w b M) (hok : M.ok T) (hv : va < 4294967296) (h : ¬ 1048576 ≤ va) (c : Int) (he : (M.pent r ((va / 16384 : Nat) : Int)).2 = c) (hc : c ≠ 0) : Calls Try.prog 26 #[.pointer (some ⟨b, 0, none⟩), .int .i64 r, .int .u32 va, .bool x] w fun e w' => e = .returned (.tuple #[.int .i64 0, .int .i64 0, .int .i64 c]) ∧ w.grownBy w' none := by
  have HS := hid (fun w => split_any va w hv)
  rw [show splitV va = (va / 16384, va / 256 % 64, va % 256, 0) by unfold splitV; rw [if_neg h]] at HS
  have HM := hid hM
  have HN := hid hok.n1
  have HB := hid hM.lt
  have HP := hid (fun w hM => ptPresent b r ((va / 16384 : Nat) : Int) w M T hM hok)
  rw [he] at HP
  obtain ⟨⟨p, q, m⟩, hx⟩ : ∃ y, (M.pent r ((va / 16384 : Nat) : Int)).1 = y := ⟨_, rfl⟩
  rw [hx] at HP
  simp only [Ent.val] at HP
  have hc' : (c != 0) = true := by simpa using hc
  clear h hv hM hok he hx hc
  generalize va / 16384 = l2 at *
  generalize va / 256 % 64 = l1 at *
  generalize va % 256 = off at *
  go_enter Try.func26, Try.ntmps26
  go_wp2_with fail
  refine wp_scope_jumps 0 (WJ w c) (fun _ _ => 0) rfl ?_ ?_
  · go_wp2_with (first
    | (go_at_call 67; refine (ptMade _ _ _ (by first | exact HM.out | exact (HM.out.alloc _)) HN.out).mono ?_; rintro e w2 ⟨rfl, rfl⟩)
    | (go_at_call 36; refine (HS.out _).mono ?_; rintro e w2 ⟨rfl, rfl⟩; simp only [split4])
    | (go_at_call 70; refine (HP.out _ ((HM.out.alloc _).alloc _)).mono ?_; rintro e w2 ⟨rfl, hg⟩; have HG := hid hg; obtain ⟨A1, B1⟩ := ent2_kept hg; have HA1 := hid A1; have HB1 := hid B1; obtain ⟨k0, k1, k2, f0, f1, f2, hz⟩ := A1.facts; clear hg A1 B1))
    go_step3
    exact ⟨rfl, ⟨_, _, _, _, _, _, _, _, _, _, _, _, _, _, _, _, _, _, _, _, _, _, _, _, _, _, _, _, _, _, _, _, _, _, _, _, _, _, _, _, _, _, _, _, _, _, _, _, _, _, _, _, _, _, _, _, _, _, _, _, _, _, _, _, _, _, rfl⟩, grown_set (grown_set (grown_set (((World.grownBy_alloc _ _ _).trans (World.grownBy_alloc _ _ _)).trans HG.out) (Nat.le_refl _) _) (Nat.le_refl _) _) (Nat.le_refl _) _⟩
  · rintro a' w' ⟨⟨u0, u1, u2, u3, u4, u5, u6, u7, u8, u9, u10, u11, u12, u13, u14, u15, u17, u18, u19, u20, u21, u22, u23, u24, u25, u26, u27, u28, u29, u30, u31, u32, u33, u34, u35, u36, u37, u38, u39, u40, u41, u42, u43, u44, u45, u46, u47, u48, u49, u50, u51, u52, u53, u54, u55, u56, u57, u58, u59, u60, u61, u62, u63, u64, u65, u66, rfl⟩, hg⟩
    go_wp2
    simp only [Exit.jump]
    go_ret3
    exact ⟨rfl, hg⟩
set_option maxRecDepth 100000 in
theorem ptWalk_e2 (b : Nat) (r : Int) (va : Nat) (x : Bool) (w : World) (M : Mach) (T : Int) (hM : PM w b M) (hok : M.ok T) (hv : va < 4294967296) (h : ¬ 1048576 ≤ va) (p q : Bool) (m : Int) (hX : (M.pent r ((va / 16384 : Nat) : Int)).1 = ⟨p, q, m⟩) (he : (M.pent r ((va / 16384 : Nat) : Int)).2 = 0) (p2 q2 : Bool) (m2 : Int) (hY : (M.pent m ((va / 256 % 64 : Nat) : Int)).1 = ⟨p2, q2, m2⟩) (c : Int) (he2 : (M.pent m ((va / 256 % 64 : Nat) : Int)).2 = c) (hc : c ≠ 0) : Calls Try.prog 26 #[.pointer (some ⟨b, 0, none⟩), .int .i64 r, .int .u32 va, .bool x] w fun e w' => e = .returned (.tuple #[.int .i64 0, .int .i64 0, .int .i64 c]) ∧ w.grownBy w' none := by
  have HS := hid (fun w => split_any va w hv)
  rw [show splitV va = (va / 16384, va / 256 % 64, va % 256, 0) by unfold splitV; rw [if_neg h]] at HS
  have HM := hid hM
  have HN := hid hok.n1
  have HB := hid hM.lt
  have HP := hid (fun w hM => ptPresent b r ((va / 16384 : Nat) : Int) w M T hM hok)
  have HP2 := hid (fun w hM => ptPresent b m ((va / 256 % 64 : Nat) : Int) w M T hM hok)
  rw [he, hX] at HP
  rw [he2, hY] at HP2
  simp only [Ent.val] at HP HP2
  have hc' : (c != 0) = true := by simpa using hc
  clear hok hc
  clear h hv hM hX hY he he2
  generalize va / 16384 = l2 at *
  generalize va / 256 % 64 = l1 at *
  generalize va % 256 = off at *
  go_enter Try.func26, Try.ntmps26
  go_wp2_with fail
  refine wp_scope_jumps 0 (WJ w c) (fun _ _ => 0) rfl ?_ ?_
  · go_wp2_with (first
    | (go_at_call 67; refine (ptMade _ _ _ (by first | exact HM.out | exact (HM.out.alloc _)) HN.out).mono ?_; rintro e w2 ⟨rfl, rfl⟩)
    | (go_at_call 36; refine (HS.out _).mono ?_; rintro e w2 ⟨rfl, rfl⟩; simp only [split4])
    | (go_at_call 70; with_reducible refine (HP.out _ ((HM.out.alloc _).alloc _)).mono ?_; rintro e w2 ⟨rfl, hg⟩; have HG := hid hg; obtain ⟨A1, B1⟩ := ent2_kept hg; have HA1 := hid A1; have HB1 := hid B1; obtain ⟨k0, k1, k2, f0, f1, f2, hz⟩ := A1.facts; have HM2 := hid (((HM.out.alloc _).alloc _).grown hg (by simp)); have hnb : w.heap.size ≠ w.heap.size + 1 := (by omega); clear hg A1 B1)
    | (go_at_call 70; refine (HP2.out _ (HM2.out.set3 (Nat.ne_of_lt HB.out) _ _ _)).mono ?_; rintro e w3 ⟨rfl, hg⟩; have HGr := hid hg; have HA2 := hid ((Box3.set3 HA1.out (.bool p) (.bool q) (.int .i64 m)).grown hg); have HB2 := hid ((Box3.other HB1.out (Nat.succ_ne_self _) _ _ _).grown hg); clear k0 k1 k2 f0 f1 f2 hz; obtain ⟨k0, k1, k2, f0, f1, f2, hz⟩ := HA2.out.facts; obtain ⟨l0, l1', l2', g0, g1, g2, hy⟩ := HB2.out.facts; have HM3 := hid ((HM2.out.set3 (Nat.ne_of_lt HB.out) _ _ _).grown hg (by simp)); clear hg))
    go_step3
    exact ⟨rfl, ⟨_, _, _, _, _, _, _, _, _, _, _, _, _, _, _, _, _, _, _, _, _, _, _, _, _, _, _, _, _, _, _, _, _, _, _, _, _, _, _, _, _, _, _, _, _, _, _, _, _, _, _, _, _, _, _, _, _, _, _, _, _, _, _, _, _, _, rfl⟩, grown_set (grown_set (grown_set ((grown_set (grown_set (grown_set (((World.grownBy_alloc _ _ _).trans (World.grownBy_alloc _ _ _)).trans HG.out) (Nat.le_refl _) _) (Nat.le_refl _) _) (Nat.le_refl _) _).trans HGr.out) (Nat.le_succ _) _) (Nat.le_succ _) _) (Nat.le_succ _) _⟩
  · rintro a' w' ⟨⟨u0, u1, u2, u3, u4, u5, u6, u7, u8, u9, u10, u11, u12, u13, u14, u15, u17, u18, u19, u20, u21, u22, u23, u24, u25, u26, u27, u28, u29, u30, u31, u32, u33, u34, u35, u36, u37, u38, u39, u40, u41, u42, u43, u44, u45, u46, u47, u48, u49, u50, u51, u52, u53, u54, u55, u56, u57, u58, u59, u60, u61, u62, u63, u64, u65, u66, rfl⟩, hg⟩
    go_wp2
    simp only [Exit.jump]
    go_ret3
    exact ⟨rfl, hg⟩
set_option maxRecDepth 100000 in
theorem ptWalk_ro (b : Nat) (r : Int) (va : Nat) (x : Bool) (w : World) (M : Mach) (T : Int) (hM : PM w b M) (hok : M.ok T) (hv : va < 4294967296) (h : ¬ 1048576 ≤ va) (p q : Bool) (m : Int) (hX : (M.pent r ((va / 16384 : Nat) : Int)).1 = ⟨p, q, m⟩) (he : (M.pent r ((va / 16384 : Nat) : Int)).2 = 0) (p2 q2 : Bool) (m2 : Int) (hY : (M.pent m ((va / 256 % 64 : Nat) : Int)).1 = ⟨p2, q2, m2⟩) (he2 : (M.pent m ((va / 256 % 64 : Nat) : Int)).2 = 0) (hw : x = true) (hq : q2 = false) : Calls Try.prog 26 #[.pointer (some ⟨b, 0, none⟩), .int .i64 r, .int .u32 va, .bool x] w fun e w' => e = .returned (.tuple #[.int .i64 0, .int .i64 0, .int .i64 41]) ∧ w.grownBy w' none := by
  have HS := hid (fun w => split_any va w hv)
  rw [show splitV va = (va / 16384, va / 256 % 64, va % 256, 0) by unfold splitV; rw [if_neg h]] at HS
  have HM := hid hM
  have HN := hid hok.n1
  have HB := hid hM.lt
  have HP := hid (fun w hM => ptPresent b r ((va / 16384 : Nat) : Int) w M T hM hok)
  have HP2 := hid (fun w hM => ptPresent b m ((va / 256 % 64 : Nat) : Int) w M T hM hok)
  rw [he, hX] at HP
  rw [he2, hY] at HP2
  simp only [Ent.val] at HP HP2
  subst hw hq
  clear hok
  clear h hv hM hX hY he he2
  generalize va / 16384 = l2 at *
  generalize va / 256 % 64 = l1 at *
  generalize va % 256 = off at *
  go_enter Try.func26, Try.ntmps26
  go_wp2_with fail
  refine wp_scope_jumps 0 (WJ w 41) (fun _ _ => 0) rfl ?_ ?_
  · go_wp2_with (first
    | (go_at_call 67; refine (ptMade _ _ _ (by first | exact HM.out | exact (HM.out.alloc _)) HN.out).mono ?_; rintro e w2 ⟨rfl, rfl⟩)
    | (go_at_call 36; refine (HS.out _).mono ?_; rintro e w2 ⟨rfl, rfl⟩; simp only [split4])
    | (go_at_call 70; with_reducible refine (HP.out _ ((HM.out.alloc _).alloc _)).mono ?_; rintro e w2 ⟨rfl, hg⟩; have HG := hid hg; obtain ⟨A1, B1⟩ := ent2_kept hg; have HA1 := hid A1; have HB1 := hid B1; obtain ⟨k0, k1, k2, f0, f1, f2, hz⟩ := A1.facts; have HM2 := hid (((HM.out.alloc _).alloc _).grown hg (by simp)); have hnb : w.heap.size ≠ w.heap.size + 1 := (by omega); clear hg A1 B1)
    | (go_at_call 70; refine (HP2.out _ (HM2.out.set3 (Nat.ne_of_lt HB.out) _ _ _)).mono ?_; rintro e w3 ⟨rfl, hg⟩; have HGr := hid hg; have HA2 := hid ((Box3.set3 HA1.out (.bool p) (.bool q) (.int .i64 m)).grown hg); have HB2 := hid ((Box3.other HB1.out (Nat.succ_ne_self _) _ _ _).grown hg); clear k0 k1 k2 f0 f1 f2 hz; obtain ⟨k0, k1, k2, f0, f1, f2, hz⟩ := HA2.out.facts; obtain ⟨l0, l1', l2', g0, g1, g2, hy⟩ := HB2.out.facts; have HM3 := hid ((HM2.out.set3 (Nat.ne_of_lt HB.out) _ _ _).grown hg (by simp)); clear hg))
    go_step3
    exact ⟨rfl, ⟨_, _, _, _, _, _, _, _, _, _, _, _, _, _, _, _, _, _, _, _, _, _, _, _, _, _, _, _, _, _, _, _, _, _, _, _, _, _, _, _, _, _, _, _, _, _, _, _, _, _, _, _, _, _, _, _, _, _, _, _, _, _, _, _, _, _, rfl⟩, grown_set (grown_set (grown_set ((grown_set (grown_set (grown_set (((World.grownBy_alloc _ _ _).trans (World.grownBy_alloc _ _ _)).trans HG.out) (Nat.le_refl _) _) (Nat.le_refl _) _) (Nat.le_refl _) _).trans HGr.out) (Nat.le_succ _) _) (Nat.le_succ _) _) (Nat.le_succ _) _⟩
  · rintro a' w' ⟨⟨u0, u1, u2, u3, u4, u5, u6, u7, u8, u9, u10, u11, u12, u13, u14, u15, u17, u18, u19, u20, u21, u22, u23, u24, u25, u26, u27, u28, u29, u30, u31, u32, u33, u34, u35, u36, u37, u38, u39, u40, u41, u42, u43, u44, u45, u46, u47, u48, u49, u50, u51, u52, u53, u54, u55, u56, u57, u58, u59, u60, u61, u62, u63, u64, u65, u66, rfl⟩, hg⟩
    go_wp2
    simp only [Exit.jump]
    go_ret3
    exact ⟨rfl, hg⟩
set_option maxRecDepth 100000 in
theorem ptWalk_nof (b : Nat) (r : Int) (va : Nat) (x : Bool) (w : World) (M : Mach) (T : Int) (hM : PM w b M) (hok : M.ok T) (hv : va < 4294967296) (h : ¬ 1048576 ≤ va) (p q : Bool) (m : Int) (hX : (M.pent r ((va / 16384 : Nat) : Int)).1 = ⟨p, q, m⟩) (he : (M.pent r ((va / 16384 : Nat) : Int)).2 = 0) (p2 q2 : Bool) (m2 : Int) (hY : (M.pent m ((va / 256 % 64 : Nat) : Int)).1 = ⟨p2, q2, m2⟩) (he2 : (M.pent m ((va / 256 % 64 : Nat) : Int)).2 = 0) (hw : (x && !q2) = false) (hf : M.is m2 = false) : Calls Try.prog 26 #[.pointer (some ⟨b, 0, none⟩), .int .i64 r, .int .u32 va, .bool x] w fun e w' => e = .returned (.tuple #[.int .i64 0, .int .i64 0, .int .i64 1]) ∧ w.grownBy w' none := by
  have HS := hid (fun w => split_any va w hv)
  rw [show splitV va = (va / 16384, va / 256 % 64, va % 256, 0) by unfold splitV; rw [if_neg h]] at HS
  have HM := hid hM
  have HN := hid hok.n1
  have HB := hid hM.lt
  have HP := hid (fun w hM => ptPresent b r ((va / 16384 : Nat) : Int) w M T hM hok)
  have HP2 := hid (fun w hM => ptPresent b m ((va / 256 % 64 : Nat) : Int) w M T hM hok)
  rw [he, hX] at HP
  rw [he2, hY] at HP2
  simp only [Ent.val] at HP HP2
  have HF := hid (fun w hM => Frame_no b m2 w M T hM hok (by have hh : ¬ (0 ≤ m2 ∧ m2 < M.n) := (fun hh => by have := Mach.is_iff.2 hh; rw [hf] at this; cases this); omega))
  clear hok hf
  clear h hv hM hX hY he he2
  generalize va / 16384 = l2 at *
  generalize va / 256 % 64 = l1 at *
  generalize va % 256 = off at *
  have hwx : x = false ∨ (x = true ∧ q2 = true) := by cases x <;> cases q2 <;> simp at hw <;> simp
  clear hw
  rcases hwx with rfl | ⟨rfl, rfl⟩
  all_goals
    go_enter Try.func26, Try.ntmps26
    go_wp2_with fail
    refine wp_scope_jumps 0 (WJ w 1) (fun _ _ => 0) rfl ?_ ?_
    · go_wp2_with (first
      | (go_at_call 67; refine (ptMade _ _ _ (by first | exact HM.out | exact (HM.out.alloc _)) HN.out).mono ?_; rintro e w2 ⟨rfl, rfl⟩)
      | (go_at_call 36; refine (HS.out _).mono ?_; rintro e w2 ⟨rfl, rfl⟩; simp only [split4])
      | (go_at_call 70; with_reducible refine (HP.out _ ((HM.out.alloc _).alloc _)).mono ?_; rintro e w2 ⟨rfl, hg⟩; have HG := hid hg; obtain ⟨A1, B1⟩ := ent2_kept hg; have HA1 := hid A1; have HB1 := hid B1; obtain ⟨k0, k1, k2, f0, f1, f2, hz⟩ := A1.facts; have HM2 := hid (((HM.out.alloc _).alloc _).grown hg (by simp)); have hnb : w.heap.size ≠ w.heap.size + 1 := (by omega); clear hg A1 B1)
      | (go_at_call 70; refine (HP2.out _ (HM2.out.set3 (Nat.ne_of_lt HB.out) _ _ _)).mono ?_; rintro e w3 ⟨rfl, hg⟩; have HGr := hid hg; have HA2 := hid ((Box3.set3 HA1.out (.bool p) (.bool q) (.int .i64 m)).grown hg); have HB2 := hid ((Box3.other HB1.out (Nat.succ_ne_self _) _ _ _).grown hg); clear k0 k1 k2 f0 f1 f2 hz; obtain ⟨k0, k1, k2, f0, f1, f2, hz⟩ := HA2.out.facts; obtain ⟨l0, l1', l2', g0, g1, g2, hy⟩ := HB2.out.facts; have HM3 := hid ((HM2.out.set3 (Nat.ne_of_lt HB.out) _ _ _).grown hg (by simp)); clear hg)
      | (go_at_call 63; refine (HF.out _ (HM3.out.set3 (fun e => by have := HB.out; omega) _ _ _)).mono ?_; rintro e w4 ⟨rfl, hg⟩; have HGf := hid hg; have HB3 := hid ((Box3.set3 HB2.out _ _ _).grown hg); clear k0 k1 k2 f0 f1 f2 hz l0 l1' l2' g0 g1 g2 hy; obtain ⟨l0, l1', l2', g0, g1, g2, hy⟩ := HB3.out.facts; clear hg))
      go_step3
      exact ⟨rfl, ⟨_, _, _, _, _, _, _, _, _, _, _, _, _, _, _, _, _, _, _, _, _, _, _, _, _, _, _, _, _, _, _, _, _, _, _, _, _, _, _, _, _, _, _, _, _, _, _, _, _, _, _, _, _, _, _, _, _, _, _, _, _, _, _, _, _, _, rfl⟩, (grown_set (grown_set (grown_set ((grown_set (grown_set (grown_set (((World.grownBy_alloc _ _ _).trans (World.grownBy_alloc _ _ _)).trans HG.out) (Nat.le_refl _) _) (Nat.le_refl _) _) (Nat.le_refl _) _).trans HGr.out) (Nat.le_succ _) _) (Nat.le_succ _) _) (Nat.le_succ _) _).trans HGf.out⟩
    · rintro a' w' ⟨⟨u0, u1, u2, u3, u4, u5, u6, u7, u8, u9, u10, u11, u12, u13, u14, u15, u17, u18, u19, u20, u21, u22, u23, u24, u25, u26, u27, u28, u29, u30, u31, u32, u33, u34, u35, u36, u37, u38, u39, u40, u41, u42, u43, u44, u45, u46, u47, u48, u49, u50, u51, u52, u53, u54, u55, u56, u57, u58, u59, u60, u61, u62, u63, u64, u65, u66, rfl⟩, hg⟩
      go_wp2
      simp only [Exit.jump]
      go_ret3
      exact ⟨rfl, hg⟩
set_option maxRecDepth 100000 in
theorem ptWalk_yes (b : Nat) (r : Int) (va : Nat) (x : Bool) (w : World) (M : Mach) (T : Int) (hM : PM w b M) (hok : M.ok T) (hv : va < 4294967296) (h : ¬ 1048576 ≤ va) (p q : Bool) (m : Int) (hX : (M.pent r ((va / 16384 : Nat) : Int)).1 = ⟨p, q, m⟩) (he : (M.pent r ((va / 16384 : Nat) : Int)).2 = 0) (p2 q2 : Bool) (m2 : Int) (hY : (M.pent m ((va / 256 % 64 : Nat) : Int)).1 = ⟨p2, q2, m2⟩) (he2 : (M.pent m ((va / 256 % 64 : Nat) : Int)).2 = 0) (hw : (x && !q2) = false) (hf : M.is m2 = true) : Calls Try.prog 26 #[.pointer (some ⟨b, 0, none⟩), .int .i64 r, .int .u32 va, .bool x] w fun e w' => e = .returned (.tuple #[.int .i64 m2, .int .i64 ((va % 256 : Nat) : Int), .int .i64 0]) ∧ w.grownBy w' none := by
  have HS := hid (fun w => split_any va w hv)
  rw [show splitV va = (va / 16384, va / 256 % 64, va % 256, 0) by unfold splitV; rw [if_neg h]] at HS
  have HM := hid hM
  have HN := hid hok.n1
  have HB := hid hM.lt
  have HP := hid (fun w hM => ptPresent b r ((va / 16384 : Nat) : Int) w M T hM hok)
  have HP2 := hid (fun w hM => ptPresent b m ((va / 256 % 64 : Nat) : Int) w M T hM hok)
  rw [he, hX] at HP
  rw [he2, hY] at HP2
  simp only [Ent.val] at HP HP2
  have HF := hid (fun w hM => Frame_yes b m2.toNat w M T hM hok (by have hh := Mach.is_iff.1 hf; omega))
  rw [show ((m2.toNat : Nat) : Int) = m2 by have hh := Mach.is_iff.1 hf; omega] at HF
  clear hok hf
  clear h hv hM hX hY he he2
  generalize va / 16384 = l2 at *
  generalize va / 256 % 64 = l1 at *
  generalize va % 256 = off at *
  have hwx : x = false ∨ (x = true ∧ q2 = true) := by cases x <;> cases q2 <;> simp at hw <;> simp
  clear hw
  rcases hwx with rfl | ⟨rfl, rfl⟩
  all_goals
    go_enter Try.func26, Try.ntmps26
    go_wp2_with fail
    go_step3
    go_wp2_with (first
      | (go_at_call 67; refine (ptMade _ _ _ (by first | exact HM.out | exact (HM.out.alloc _)) HN.out).mono ?_; rintro e w2 ⟨rfl, rfl⟩)
      | (go_at_call 36; refine (HS.out _).mono ?_; rintro e w2 ⟨rfl, rfl⟩; simp only [split4])
      | (go_at_call 70; with_reducible refine (HP.out _ ((HM.out.alloc _).alloc _)).mono ?_; rintro e w2 ⟨rfl, hg⟩; have HG := hid hg; obtain ⟨A1, B1⟩ := ent2_kept hg; have HA1 := hid A1; have HB1 := hid B1; obtain ⟨k0, k1, k2, f0, f1, f2, hz⟩ := A1.facts; have HM2 := hid (((HM.out.alloc _).alloc _).grown hg (by simp)); have hnb : w.heap.size ≠ w.heap.size + 1 := (by omega); clear hg A1 B1)
      | (go_at_call 70; refine (HP2.out _ (HM2.out.set3 (Nat.ne_of_lt HB.out) _ _ _)).mono ?_; rintro e w3 ⟨rfl, hg⟩; have HGr := hid hg; have HA2 := hid ((Box3.set3 HA1.out (.bool p) (.bool q) (.int .i64 m)).grown hg); have HB2 := hid ((Box3.other HB1.out (Nat.succ_ne_self _) _ _ _).grown hg); clear k0 k1 k2 f0 f1 f2 hz; obtain ⟨k0, k1, k2, f0, f1, f2, hz⟩ := HA2.out.facts; obtain ⟨l0, l1', l2', g0, g1, g2, hy⟩ := HB2.out.facts; have HM3 := hid ((HM2.out.set3 (Nat.ne_of_lt HB.out) _ _ _).grown hg (by simp)); clear hg)
      | (go_at_call 63; refine (HF.out _ (HM3.out.set3 (fun e => by have := HB.out; omega) _ _ _)).mono ?_; rintro e w4 ⟨rfl, hg⟩; simp only [Fr.head]; have HGf := hid hg; have HB3 := hid ((Box3.set3 HB2.out _ _ _).grown hg); clear k0 k1 k2 f0 f1 f2 hz l0 l1' l2' g0 g1 g2 hy; obtain ⟨l0, l1', l2', g0, g1, g2, hy⟩ := HB3.out.facts; clear hg))
    rw [Exit.noGoto_ret]
    go_ret3
    exact ⟨rfl, (grown_set (grown_set (grown_set ((grown_set (grown_set (grown_set (((World.grownBy_alloc _ _ _).trans (World.grownBy_alloc _ _ _)).trans HG.out) (Nat.le_refl _) _) (Nat.le_refl _) _) (Nat.le_refl _) _).trans HGr.out) (Nat.le_succ _) _) (Nat.le_succ _) _) (Nat.le_succ _) _).trans HGf.out⟩
end Go.Proofs.Ytdjhkacjgdnglaa
