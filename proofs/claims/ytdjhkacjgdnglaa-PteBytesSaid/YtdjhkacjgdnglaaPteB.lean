/-
  Package tenementref04: entries and addresses, contracts.
-/
import Derived.Test.YtdjhkacjgdnglaaPteA
namespace Go.Proofs.Ytdjhkacjgdnglaa
open Go.RowKit
set_option maxHeartbeats 1000000

theorem rUnpack_no (n : Nat) (wd : World) (hn : n < 4294967296) (h : n % 2 = 0) : Calls Try.prog 41 #[.int .u32 n] wd fun e w' => e = .returned (.tuple #[ent0.val, .int .i64 0]) ∧ wd.grownBy w' none := by
  have h1 : ((n : Int) % 2 == 0) = true := by simp; omega
  go_enter Try.func41, Try.ntmps41
  go_wp2_with fail
  exact bodyPost_ret (v := .tuple #[.agg #[.bool false, .bool false, .int .i64 0], .int .i64 0]) (by simp [results, Try.results41, go_sem]) rfl ⟨rfl, World.grownBy_alloc _ _ _⟩
theorem rUnpack_bad (n : Nat) (wd : World) (hn : n < 4294967296) (h : n % 2 = 1) (h3 : 3 < n % 256) : Calls Try.prog 41 #[.int .u32 n] wd fun e w' => e = .returned (.tuple #[ent0.val, .int .i64 4]) ∧ wd.grownBy w' none := by
  have h1 : ((n : Int) % 2 == 0) = false := by simp; omega
  have h3' : (3 : Int) < n % 256 := by omega
  go_enter Try.func41, Try.ntmps41
  go_wp2_with fail
  exact bodyPost_ret (v := .tuple #[.agg #[.bool false, .bool false, .int .i64 0], .int .i64 4]) (by simp [results, Try.results41, go_sem]) rfl ⟨rfl, World.grownBy_alloc _ _ _⟩
theorem rUnpack_yes (n : Nat) (wd : World) (hn : n < 4294967296) (h : n % 2 = 1) (h3 : ¬ 3 < n % 256) : Calls Try.prog 41 #[.int .u32 n] wd fun e w' => e = .returned (.tuple #[(Ent.mk true (decide (n % 4 = 3)) ((n / 256 : Nat) : Int)).val, .int .i64 0]) ∧ wd.grownBy w' none := by
  have h1 : ((n : Int) % 2 == 0) = false := by simp; omega
  have h3' : ¬ (3 : Int) < n % 256 := by omega
  have h4 : ((n : Int) % 4 == 3) = decide (n % 4 = 3) := by rw [Bool.eq_iff_iff]; simp; omega
  obtain ⟨x, hx⟩ : ∃ x, decide (n % 4 = 3) = x := ⟨_, rfl⟩
  rw [hx] at h4 ⊢
  clear hx h h3
  go_enter Try.func41, Try.ntmps41
  go_wp2_with fail
  exact bodyPost_ret (v := .tuple #[.agg #[.bool true, .bool x, .int .i64 ((n / 256 : Nat) : Int)], .int .i64 0]) (by simp [results, Try.results41, go_sem]) rfl ⟨rfl, World.grownBy_alloc _ _ _⟩
theorem rUnpack_any (n : Nat) (wd : World) (hn : n < 4294967296) : Calls Try.prog 41 #[.int .u32 n] wd fun e w' => e = .returned (.tuple #[(unpackV n).1.val, .int .i64 (unpackV n).2]) ∧ wd.grownBy w' none := by
  by_cases h : n % 2 = 0
  · rw [show unpackV n = (ent0, 0) by unfold unpackV; rw [if_pos h]]; exact rUnpack_no n wd hn h
  have h1 : n % 2 = 1 := by omega
  by_cases h3 : 3 < n % 256
  · rw [show unpackV n = (ent0, 4) by unfold unpackV; rw [if_neg h, if_pos h3]]; exact rUnpack_bad n wd hn h1 h3
  · rw [show unpackV n = (⟨true, decide (n % 4 = 3), (n / 256 : Nat)⟩, 0) by unfold unpackV; rw [if_neg h, if_neg h3]]
    exact rUnpack_yes n wd hn h1 h3
set_option maxRecDepth 100000 in
theorem rSplit_any (va : Nat) (w : World) (hv : va < 4294967296) : Calls Try.prog 38 #[.int .u32 va] w fun e w' => e = .returned (split4 (splitV va)) ∧ w = w' := by
  by_cases h : 1048576 ≤ va
  · rw [show splitV va = (0, 0, 0, 1) by unfold splitV; rw [if_pos h]]
    have h' : (1048576 : Int) ≤ va := by omega
    clear h
    go_enter Try.func38, Try.ntmps38
    go_wp2
    exact bodyPost_ret (v := .tuple #[.int .i64 0, .int .i64 0, .int .i64 0, .int .i64 1]) (by simp [results, Try.results38, go_sem]) rfl ⟨rfl, rfl⟩
  · rw [show splitV va = (va / 16384, va / 256 % 64, va % 256, 0) by unfold splitV; rw [if_neg h]]
    have h' : ¬ (1048576 : Int) ≤ va := by omega
    clear h
    go_enter Try.func38, Try.ntmps38
    go_wp2
    exact bodyPost_ret (v := .tuple #[.int .i64 ((va / 16384 : Nat) : Int), .int .i64 ((va / 256 % 64 : Nat) : Int), .int .i64 ((va % 256 : Nat) : Int), .int .i64 0]) (by simp [results, Try.results38, go_sem]) rfl ⟨rfl, rfl⟩
theorem rJoin_yes (a b c : Nat) (w : World) (ha : a ≤ 63) (hb : b ≤ 63) (hc : c ≤ 255) : Calls Try.prog 42 #[.int .i64 a, .int .i64 b, .int .i64 c] w fun e w' => e = .returned (.tuple #[.int .u32 (((a : Int) * 64 + b) * 256 + c), .int .i64 0]) ∧ w = w' := by
  go_enter Try.func42, Try.ntmps42
  go_wp2_with fail
  go_ret2
  exact ⟨rfl, rfl⟩
theorem rJoin_no (a b c : Int) (w : World) (h : ¬ joinOk a b c) : Calls Try.prog 42 #[.int .i64 a, .int .i64 b, .int .i64 c] w fun e w' => e = .returned (.tuple #[.int .u32 0, .int .i64 1]) ∧ w = w' := by
  have hh : (a < 0) ∨ (0 ≤ a ∧ 63 < a) ∨ (0 ≤ a ∧ a ≤ 63 ∧ b < 0) ∨ (0 ≤ a ∧ a ≤ 63 ∧ 0 ≤ b ∧ 63 < b) ∨ (0 ≤ a ∧ a ≤ 63 ∧ 0 ≤ b ∧ b ≤ 63 ∧ c < 0) ∨ (0 ≤ a ∧ a ≤ 63 ∧ 0 ≤ b ∧ b ≤ 63 ∧ 0 ≤ c ∧ 255 < c) := by unfold joinOk at h; omega
  clear h
  rcases hh with h | ⟨h, h1⟩ | ⟨h, h1, h2⟩ | ⟨h, h1, h2, h3⟩ | ⟨h, h1, h2, h3, h4⟩ | ⟨h, h1, h2, h3, h4, h5⟩
  all_goals
    go_enter Try.func42, Try.ntmps42
    go_wp2_with fail
    go_ret2
    exact ⟨rfl, rfl⟩
set_option maxRecDepth 100000 in
theorem rPack_yes (w : Bool) (m : Nat) (wd : World) (hm : m < 16777216) : Calls Try.prog 40 #[.agg #[.bool true, .bool w, .int .i64 m]] wd fun e w' => e = .returned (.tuple #[.int .u32 (m * 256 + b2i true + 2 * b2i w), .int .i64 0]) ∧ wd.grownBy w' none := by
  have d0 : decide ((m : Int) < 0) = false := by rw [decide_eq_false_iff_not]; omega
  have d1 : decide (16777216 ≤ (m : Int)) = false := by rw [decide_eq_false_iff_not]; omega
  cases w
  · go_enter Try.func40, Try.ntmps40
    go_wp2_with fail
    go_ret2
    exact ⟨ret_u (by simp [b2i]), World.grownBy_alloc _ _ _⟩
  · go_enter Try.func40, Try.ntmps40
    go_wp2_with fail
    go_ret2
    exact ⟨ret_u (by simp [b2i]), World.grownBy_alloc _ _ _⟩
theorem rPack_nil (wd : World) : Calls Try.prog 40 #[.agg #[.bool false, .bool false, .int .i64 0]] wd fun e w' => e = .returned (.tuple #[.int .u32 0, .int .i64 0]) ∧ wd.grownBy w' none := by
  go_enter Try.func40, Try.ntmps40
  go_wp2_with fail
  go_ret2
  exact ⟨rfl, World.grownBy_alloc _ _ _⟩
theorem rPack_bad (p w : Bool) (m : Int) (wd : World) (hm : m < 0 ∨ 16777216 ≤ m) : Calls Try.prog 40 #[.agg #[.bool p, .bool w, .int .i64 m]] wd fun e w' => e = .returned (.tuple #[.int .u32 0, .int .i64 1]) ∧ wd.grownBy w' none := by
  rcases hm with hm | hm
  · go_enter Try.func40, Try.ntmps40
    go_wp2_with fail
    go_ret2
    exact ⟨rfl, World.grownBy_alloc _ _ _⟩
  · have h0 : ¬ m < 0 := by omega
    go_enter Try.func40, Try.ntmps40
    go_wp2_with fail
    go_ret2
    exact ⟨rfl, World.grownBy_alloc _ _ _⟩
set_option maxRecDepth 100000 in
theorem rPack_odd (w : Bool) (m : Nat) (wd : World) (hm : m < 16777216) (h : w = true ∨ m ≠ 0) : Calls Try.prog 40 #[.agg #[.bool false, .bool w, .int .i64 m]] wd fun e w' => e = .returned (.tuple #[.int .u32 0, .int .i64 1]) ∧ wd.grownBy w' none := by
  have d0 : decide ((m : Int) < 0) = false := by rw [decide_eq_false_iff_not]; omega
  have d1 : decide (16777216 ≤ (m : Int)) = false := by rw [decide_eq_false_iff_not]; omega
  cases w
  · have h0 : ((m : Int) != 0) = true := by simpa using h
    go_enter Try.func40, Try.ntmps40
    go_wp2_with fail
    go_ret2
    exact ⟨rfl, World.grownBy_alloc _ _ _⟩
  · clear h
    go_enter Try.func40, Try.ntmps40
    go_wp2_with fail
    go_ret2
    exact ⟨rfl, World.grownBy_alloc _ _ _⟩
theorem rPack_any (e : Ent) (wd : World) : Calls Try.prog 40 #[e.val] wd fun x w' => x = .returned (.tuple #[.int .u32 (packV e).1, .int .i64 (packV e).2]) ∧ wd.grownBy w' none := by
  obtain ⟨p, w, m⟩ := e
  by_cases hm : m < 0 ∨ 16777216 ≤ m
  · rw [show packV ⟨p, w, m⟩ = (0, 1) by unfold packV; rw [if_pos]; rcases hm with h | h; exact .inl h; exact .inr (.inl h)]
    exact rPack_bad p w m wd hm
  obtain ⟨k, rfl⟩ : ∃ k : Nat, m = k := ⟨m.toNat, by omega⟩
  have hk : k < 16777216 := by omega
  cases p
  · by_cases ho : w = true ∨ k ≠ 0
    · rw [show packV ⟨false, w, k⟩ = (0, 1) by unfold packV; rw [if_pos]; refine .inr (.inr ⟨rfl, ?_⟩); rcases ho with h | h; exact .inl h; exact .inr (by simpa using h)]
      exact rPack_odd w k wd hk ho
    · have hw : w = false := by cases w; rfl; exact absurd (.inl rfl) ho
      have h0 : k = 0 := by omega
      subst hw h0
      exact rPack_nil wd
  · rw [show packV ⟨true, w, k⟩ = ((k : Int) * 256 + b2i true + 2 * b2i w, 0) by unfold packV; rw [if_neg]; rintro (h | h | h); exact hm (.inl h); exact hm (.inr h); exact absurd h.1 (by simp)]
    exact rPack_yes w k wd hk
end Go.Proofs.Ytdjhkacjgdnglaa
