/-
  Package tenementref04: Walk. (Written by wip/tools/gen_rwalk.py.)
-/
import Derived.Test.YtdjhkacjgdnglaaPteG
namespace Go.Proofs.Ytdjhkacjgdnglaa
open Go.RowKit
set_option maxHeartbeats 2000000

set_option maxRecDepth 100000 in
theorem rWalk_far (b : Nat) (r : Int) (va : Nat) (x : Bool) (w : World) (M : Mach) (L : Lay) (hR : RM w b M L) (hv : va < 4294967296) (h : 1048576 ≤ va) : Calls Try.prog 27 #[.pointer (some ⟨b, 0, none⟩), .int .i64 r, .int .u32 va, .bool x] w fun e w' => e = .returned (.tuple #[.int .i64 0, .int .i64 0, .int .i64 1]) ∧ w.grownBy w' none := by
  have HR := hid hR
  have hn := hR.hn
  have HS := hid (fun w => rSplit_any va w hv)
  rw [show splitV va = (0, 0, 0, 1) by unfold splitV; rw [if_pos h]] at HS
  clear h hv hR hn
  go_enter Try.func27, Try.ntmps27
  go_wp2_with (first
    | (go_at_call 38; refine (HS.out _).mono ?_; rintro e w1 ⟨rfl, rfl⟩; simp only [split4]))
  go_ret3
  exact ⟨rfl, World.grownBy.refl _ _⟩
set_option maxRecDepth 100000 in
theorem rWalk_e1 (b : Nat) (r : Int) (va : Nat) (x : Bool) (w : World) (M : Mach) (L : Lay) (hR : RM w b M L) (hv : va < 4294967296) (h : ¬ 1048576 ≤ va) (p q : Bool) (m : Int) (hX : (M.pent r ((va / 16384 : Nat) : Int)).1 = ⟨p, q, m⟩) (c : Int) (he : (M.pent r ((va / 16384 : Nat) : Int)).2 = c) (hc : c ≠ 0) : Calls Try.prog 27 #[.pointer (some ⟨b, 0, none⟩), .int .i64 r, .int .u32 va, .bool x] w fun e w' => e = .returned (.tuple #[.int .i64 0, .int .i64 0, .int .i64 c]) ∧ w.grownBy w' none := by
  have HR := hid hR
  have hn := hR.hn
  have HS := hid (fun w => rSplit_any va w hv)
  rw [show splitV va = (va / 16384, va / 256 % 64, va % 256, 0) by unfold splitV; rw [if_neg h]] at HS
  have HP := hid (fun w hR => rEntry b r ((va / 16384 : Nat) : Int) w M L hR)
  rw [he, hX] at HP
  simp only [Ent.val] at HP
  have hc' : (c != 0) = true := by simpa using hc
  clear h hv hR hn he hX hc
  generalize va / 16384 = l2 at *
  generalize va / 256 % 64 = l1 at *
  generalize va % 256 = off at *
  go_enter Try.func27, Try.ntmps27
  go_wp2_with (first
    | (go_at_call 38; refine (HS.out _).mono ?_; rintro e w1 ⟨rfl, rfl⟩; simp only [split4])
    | (go_at_call 71; with_reducible refine (HP.out _ HR.out).mono ?_; rintro e w2 ⟨rfl, hg⟩; have HG := hid hg; have HR2 := hid (HR.out.grown hg); clear hg))
  go_ret3
  exact ⟨rfl, HG.out.trans (World.grownBy_alloc _ _ _)⟩
set_option maxRecDepth 100000 in
theorem rWalk_e2 (b : Nat) (r : Int) (va : Nat) (x : Bool) (w : World) (M : Mach) (L : Lay) (hR : RM w b M L) (hv : va < 4294967296) (h : ¬ 1048576 ≤ va) (p q : Bool) (m : Int) (hX : (M.pent r ((va / 16384 : Nat) : Int)).1 = ⟨p, q, m⟩) (he : (M.pent r ((va / 16384 : Nat) : Int)).2 = 0) (p2 q2 : Bool) (m2 : Int) (hY : (M.pent m ((va / 256 % 64 : Nat) : Int)).1 = ⟨p2, q2, m2⟩) (c : Int) (he2 : (M.pent m ((va / 256 % 64 : Nat) : Int)).2 = c) (hc : c ≠ 0) : Calls Try.prog 27 #[.pointer (some ⟨b, 0, none⟩), .int .i64 r, .int .u32 va, .bool x] w fun e w' => e = .returned (.tuple #[.int .i64 0, .int .i64 0, .int .i64 c]) ∧ w.grownBy w' none := by
  have HR := hid hR
  have hn := hR.hn
  have HS := hid (fun w => rSplit_any va w hv)
  rw [show splitV va = (va / 16384, va / 256 % 64, va % 256, 0) by unfold splitV; rw [if_neg h]] at HS
  have HP := hid (fun w hR => rEntry b r ((va / 16384 : Nat) : Int) w M L hR)
  rw [he, hX] at HP
  simp only [Ent.val] at HP
  have HP2 := hid (fun w hR => rEntry b m ((va / 256 % 64 : Nat) : Int) w M L hR)
  rw [he2, hY] at HP2
  simp only [Ent.val] at HP2
  have hc' : (c != 0) = true := by simpa using hc
  clear h hv hR hn he hX hc hY he2
  generalize va / 16384 = l2 at *
  generalize va / 256 % 64 = l1 at *
  generalize va % 256 = off at *
  go_enter Try.func27, Try.ntmps27
  go_wp2_with (first
    | (go_at_call 38; refine (HS.out _).mono ?_; rintro e w1 ⟨rfl, rfl⟩; simp only [split4])
    | (go_at_call 71; with_reducible refine (HP.out _ HR.out).mono ?_; rintro e w2 ⟨rfl, hg⟩; have HG := hid hg; have HR2 := hid (HR.out.grown hg); clear hg)
    | (go_at_call 71; refine (HP2.out _ (HR2.out.grown (World.grownBy_alloc _ _ _))).mono ?_; rintro e w3 ⟨rfl, hg⟩; have HG3 := hid hg; have HR3 := hid ((HR2.out.grown (World.grownBy_alloc _ _ _)).grown hg); have hz := (show w2.heap.size < w3.heap.size by have := hg.size; simp at this; omega); clear hg))
  go_ret3
  exact ⟨rfl, (HG.out.trans (World.grownBy_alloc _ _ _)).trans (HG3.out.trans (World.grownBy_alloc _ _ _))⟩
set_option maxRecDepth 100000 in
theorem rWalk_ro (b : Nat) (r : Int) (va : Nat) (x : Bool) (w : World) (M : Mach) (L : Lay) (hR : RM w b M L) (hv : va < 4294967296) (h : ¬ 1048576 ≤ va) (p q : Bool) (m : Int) (hX : (M.pent r ((va / 16384 : Nat) : Int)).1 = ⟨p, q, m⟩) (he : (M.pent r ((va / 16384 : Nat) : Int)).2 = 0) (p2 q2 : Bool) (m2 : Int) (hY : (M.pent m ((va / 256 % 64 : Nat) : Int)).1 = ⟨p2, q2, m2⟩) (he2 : (M.pent m ((va / 256 % 64 : Nat) : Int)).2 = 0) (hw : x = true) (hq : q2 = false) : Calls Try.prog 27 #[.pointer (some ⟨b, 0, none⟩), .int .i64 r, .int .u32 va, .bool x] w fun e w' => e = .returned (.tuple #[.int .i64 0, .int .i64 0, .int .i64 41]) ∧ w.grownBy w' none := by
  have HR := hid hR
  have hn := hR.hn
  have HS := hid (fun w => rSplit_any va w hv)
  rw [show splitV va = (va / 16384, va / 256 % 64, va % 256, 0) by unfold splitV; rw [if_neg h]] at HS
  have HP := hid (fun w hR => rEntry b r ((va / 16384 : Nat) : Int) w M L hR)
  rw [he, hX] at HP
  simp only [Ent.val] at HP
  have HP2 := hid (fun w hR => rEntry b m ((va / 256 % 64 : Nat) : Int) w M L hR)
  rw [he2, hY] at HP2
  simp only [Ent.val] at HP2
  subst hw hq
  clear h hv hR hn he hX hY he2
  generalize va / 16384 = l2 at *
  generalize va / 256 % 64 = l1 at *
  generalize va % 256 = off at *
  go_enter Try.func27, Try.ntmps27
  go_wp2_with (first
    | (go_at_call 38; refine (HS.out _).mono ?_; rintro e w1 ⟨rfl, rfl⟩; simp only [split4])
    | (go_at_call 71; with_reducible refine (HP.out _ HR.out).mono ?_; rintro e w2 ⟨rfl, hg⟩; have HG := hid hg; have HR2 := hid (HR.out.grown hg); clear hg)
    | (go_at_call 71; refine (HP2.out _ (HR2.out.grown (World.grownBy_alloc _ _ _))).mono ?_; rintro e w3 ⟨rfl, hg⟩; have HG3 := hid hg; have HR3 := hid ((HR2.out.grown (World.grownBy_alloc _ _ _)).grown hg); have hz := (show w2.heap.size < w3.heap.size by have := hg.size; simp at this; omega); clear hg))
  go_ret3
  exact ⟨rfl, (HG.out.trans (World.grownBy_alloc _ _ _)).trans (HG3.out.trans (World.grownBy_alloc _ _ _))⟩
set_option maxRecDepth 100000 in
theorem rWalk_nof (b : Nat) (r : Int) (va : Nat) (x : Bool) (w : World) (M : Mach) (L : Lay) (hR : RM w b M L) (hv : va < 4294967296) (h : ¬ 1048576 ≤ va) (p q : Bool) (m : Int) (hX : (M.pent r ((va / 16384 : Nat) : Int)).1 = ⟨p, q, m⟩) (he : (M.pent r ((va / 16384 : Nat) : Int)).2 = 0) (p2 q2 : Bool) (m2 : Int) (hY : (M.pent m ((va / 256 % 64 : Nat) : Int)).1 = ⟨p2, q2, m2⟩) (he2 : (M.pent m ((va / 256 % 64 : Nat) : Int)).2 = 0) (hw : (x && !q2) = false) (hf : M.is m2 = false) : Calls Try.prog 27 #[.pointer (some ⟨b, 0, none⟩), .int .i64 r, .int .u32 va, .bool x] w fun e w' => e = .returned (.tuple #[.int .i64 0, .int .i64 0, .int .i64 1]) ∧ w.grownBy w' none := by
  have HR := hid hR
  have hn := hR.hn
  have HS := hid (fun w => rSplit_any va w hv)
  rw [show splitV va = (va / 16384, va / 256 % 64, va % 256, 0) by unfold splitV; rw [if_neg h]] at HS
  have HP := hid (fun w hR => rEntry b r ((va / 16384 : Nat) : Int) w M L hR)
  rw [he, hX] at HP
  simp only [Ent.val] at HP
  have HP2 := hid (fun w hR => rEntry b m ((va / 256 % 64 : Nat) : Int) w M L hR)
  rw [he2, hY] at HP2
  simp only [Ent.val] at HP2
  have HI := hid (show m2 < 0 ∨ M.n ≤ m2 by have hh : ¬ (0 ≤ m2 ∧ m2 < M.n) := (fun hh => by have := Mach.is_iff.2 hh; rw [hf] at this; cases this); omega)
  clear h hv hR hn he hX hY he2 hf
  generalize va / 16384 = l2 at *
  generalize va / 256 % 64 = l1 at *
  generalize va % 256 = off at *
  have hwx : x = false ∨ (x = true ∧ q2 = true) := by cases x <;> cases q2 <;> simp at hw <;> simp
  clear hw
  rcases hwx with rfl | ⟨rfl, rfl⟩
  all_goals
    go_enter Try.func27, Try.ntmps27
    go_wp2_with (first
      | (go_at_call 38; refine (HS.out _).mono ?_; rintro e w1 ⟨rfl, rfl⟩; simp only [split4])
      | (go_at_call 71; with_reducible refine (HP.out _ HR.out).mono ?_; rintro e w2 ⟨rfl, hg⟩; have HG := hid hg; have HR2 := hid (HR.out.grown hg); clear hg)
      | (go_at_call 71; refine (HP2.out _ (HR2.out.grown (World.grownBy_alloc _ _ _))).mono ?_; rintro e w3 ⟨rfl, hg⟩; have HG3 := hid hg; have HR3 := hid ((HR2.out.grown (World.grownBy_alloc _ _ _)).grown hg); have hz := (show w2.heap.size < w3.heap.size by have := hg.size; simp at this; omega); clear hg)
      | (go_at_call 69; refine (Is_no _ _ _ _ _ (HR3.out.grown (World.grownBy_alloc _ _ _)) HI.out).mono ?_; rintro e w4 ⟨rfl, rfl⟩))
    go_ret3
    exact ⟨rfl, (HG.out.trans (World.grownBy_alloc _ _ _)).trans (HG3.out.trans (World.grownBy_alloc _ _ _))⟩
set_option maxRecDepth 100000 in
theorem rWalk_yes (b : Nat) (r : Int) (va : Nat) (x : Bool) (w : World) (M : Mach) (L : Lay) (hR : RM w b M L) (hv : va < 4294967296) (h : ¬ 1048576 ≤ va) (p q : Bool) (m : Int) (hX : (M.pent r ((va / 16384 : Nat) : Int)).1 = ⟨p, q, m⟩) (he : (M.pent r ((va / 16384 : Nat) : Int)).2 = 0) (p2 q2 : Bool) (m2 : Nat) (hY : (M.pent m ((va / 256 % 64 : Nat) : Int)).1 = ⟨p2, q2, m2⟩) (he2 : (M.pent m ((va / 256 % 64 : Nat) : Int)).2 = 0) (hw : (x && !q2) = false) (hf : M.is m2 = true) : Calls Try.prog 27 #[.pointer (some ⟨b, 0, none⟩), .int .i64 r, .int .u32 va, .bool x] w fun e w' => e = .returned (.tuple #[.int .i64 m2, .int .i64 ((va % 256 : Nat) : Int), .int .i64 0]) ∧ w.grownBy w' none := by
  have HR := hid hR
  have hn := hR.hn
  have HS := hid (fun w => rSplit_any va w hv)
  rw [show splitV va = (va / 16384, va / 256 % 64, va % 256, 0) by unfold splitV; rw [if_neg h]] at HS
  have HP := hid (fun w hR => rEntry b r ((va / 16384 : Nat) : Int) w M L hR)
  rw [he, hX] at HP
  simp only [Ent.val] at HP
  have HP2 := hid (fun w hR => rEntry b m ((va / 256 % 64 : Nat) : Int) w M L hR)
  rw [he2, hY] at HP2
  simp only [Ent.val] at HP2
  have HI := hid (show m2 < L.n by have hh := Mach.is_iff.1 hf; omega)
  clear h hv hR hn he hX hY he2 hf
  generalize va / 16384 = l2 at *
  generalize va / 256 % 64 = l1 at *
  generalize va % 256 = off at *
  have hwx : x = false ∨ (x = true ∧ q2 = true) := by cases x <;> cases q2 <;> simp at hw <;> simp
  clear hw
  rcases hwx with rfl | ⟨rfl, rfl⟩
  all_goals
    go_enter Try.func27, Try.ntmps27
    go_wp2_with (first
      | (go_at_call 38; refine (HS.out _).mono ?_; rintro e w1 ⟨rfl, rfl⟩; simp only [split4])
      | (go_at_call 71; with_reducible refine (HP.out _ HR.out).mono ?_; rintro e w2 ⟨rfl, hg⟩; have HG := hid hg; have HR2 := hid (HR.out.grown hg); clear hg)
      | (go_at_call 71; refine (HP2.out _ (HR2.out.grown (World.grownBy_alloc _ _ _))).mono ?_; rintro e w3 ⟨rfl, hg⟩; have HG3 := hid hg; have HR3 := hid ((HR2.out.grown (World.grownBy_alloc _ _ _)).grown hg); have hz := (show w2.heap.size < w3.heap.size by have := hg.size; simp at this; omega); clear hg)
      | (go_at_call 69; refine (Is_yes _ _ _ _ _ (HR3.out.grown (World.grownBy_alloc _ _ _)) HI.out).mono ?_; rintro e w4 ⟨rfl, rfl⟩))
    go_ret3
    exact ⟨rfl, (HG.out.trans (World.grownBy_alloc _ _ _)).trans (HG3.out.trans (World.grownBy_alloc _ _ _))⟩
theorem rWalk (b : Nat) (r : Int) (va : Nat) (x : Bool) (w : World) (M : Mach) (L : Lay) (hR : RM w b M L) (hv : va < 4294967296) : Calls Try.prog 27 #[.pointer (some ⟨b, 0, none⟩), .int .i64 r, .int .u32 va, .bool x] w fun e w' => e = .returned (walk3 (M.walkV r va x)) ∧ w.grownBy w' none := by
  unfold Mach.walkV
  by_cases h : 1048576 ≤ va
  · rw [if_pos h]; exact rWalk_far b r va x w M L hR hv h
  rw [if_neg h]
  obtain ⟨⟨p, q, m⟩, hX⟩ : ∃ y, (M.pent r ((va / 16384 : Nat) : Int)).1 = y := ⟨_, rfl⟩
  by_cases he : (M.pent r ((va / 16384 : Nat) : Int)).2 = 0
  · unfold Mach.walk1
    rw [if_neg (fun hh => hh he), hX]
    simp only
    obtain ⟨⟨p2, q2, m2⟩, hY⟩ : ∃ y, (M.pent m ((va / 256 % 64 : Nat) : Int)).1 = y := ⟨_, rfl⟩
    by_cases he2 : (M.pent m ((va / 256 % 64 : Nat) : Int)).2 = 0
    · unfold Mach.walk2
      rw [if_neg (fun hh => hh he2), hY]
      simp only
      cases hw : (x && !q2)
      · rw [if_neg (by simp)]
        cases hf : M.is m2
        · rw [if_pos rfl]; exact rWalk_nof b r va x w M L hR hv h p q m hX he p2 q2 m2 hY he2 hw hf
        · rw [if_neg (by simp)]
          obtain ⟨k, rfl⟩ : ∃ k : Nat, m2 = k := ⟨m2.toNat, by have := Mach.is_iff.1 hf; omega⟩
          exact rWalk_yes b r va x w M L hR hv h p q m hX he p2 q2 k hY he2 hw hf
      · rw [if_pos rfl]
        have hx : x = true ∧ q2 = false := by cases x <;> cases q2 <;> simp at hw <;> simp
        exact rWalk_ro b r va x w M L hR hv h p q m hX he p2 q2 m2 hY he2 hx.1 hx.2
    · unfold Mach.walk2
      rw [if_pos he2]
      exact rWalk_e2 b r va x w M L hR hv h p q m hX he p2 q2 m2 hY _ rfl he2
  · unfold Mach.walk1
    rw [if_pos he]
    exact rWalk_e1 b r va x w M L hR hv h p q m hX _ rfl he
end Go.Proofs.Ytdjhkacjgdnglaa
