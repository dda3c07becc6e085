/-
  Package pte: entries and addresses, contracts.
-/
import Derived.Test.YtemeihamkdpmoaaRows
import Derived.Test.YtemeihamkdpmoaaK01
import Derived.ProofKit
import Derived.Maps.AppendAt
import Derived.Lib.Hide
import Derived.Deep.QuietTactic
import Derived.BigQuiet
import Derived.Laws.StructEq
import Derived.Laws.ShiftsVarLaws
set_option linter.unusedSimpArgs false
set_option linter.unusedVariables false
namespace Go.Proofs.Ytemeihamkdpmoaa
open Go.RowKit
set_option maxHeartbeats 1000000

theorem bit_any (x : Bool) (w : World) : Calls Try.prog 81 #[.bool x] w fun e w' => e = .returned (.int .u32 (b2i x)) ∧ w = w' := by
  cases x
  · go_enter Try.func81, Try.ntmps81
    go_wp2
    go_ret
    exact ⟨rfl, rfl⟩
  · go_enter Try.func81, Try.ntmps81
    go_wp2
    go_ret
    exact ⟨rfl, rfl⟩
theorem bit_q (x : Bool) (w : World) : Calls Try.prog 81 #[.bool x] w fun e w' => e = .returned (.int .u32 (b2i x)) ∧ w' = w := (bit_any x w).mono fun _ _ h => ⟨h.1, h.2.symm⟩
theorem has0 (n : Nat) (w : World) (hn : n < 4294967296) : Calls Try.prog 82 #[.int .u32 n, .int .i64 0] w fun e w' => e = .returned (.bool (decide (n % 2 = 1))) ∧ w = w' := by
  have h := Lib.hid (and_one n hn)
  go_enter Try.func82, Try.ntmps82
  go_wp2
  go_ret
  exact ⟨by rw [← h.out]; rfl, rfl⟩
theorem has1 (n : Nat) (w : World) (hn : n < 4294967296) : Calls Try.prog 82 #[.int .u32 n, .int .i64 1] w fun e w' => e = .returned (.bool (decide (n / 2 % 2 = 1))) ∧ w = w' := by
  have h := Lib.hid (and_one (n / 2) (by omega))
  go_enter Try.func82, Try.ntmps82
  go_wp2
  go_ret
  exact ⟨by rw [← h.out]; rfl, rfl⟩
theorem grown_box (wd : World) (o : Obj) (n : Nat) : wd.grownBy ((wd.alloc o).drewN n) none := (World.grownBy_alloc wd o none).trans ⟨rfl, rfl, rfl, Nat.le_refl _, fun _ _ _ => rfl⟩
theorem ret_u {k : IntKind} {a c : Int} {x : Value} (h : a = c) : Ending.returned (.tuple #[.int k a, x]) = .returned (.tuple #[.int k c, x]) := by rw [h]
theorem pack_yes (w : Bool) (m : Nat) (wd : World) (hm : m < 16777216) : Calls Try.prog 30 #[.agg #[.bool true, .bool w, .int .i64 m]] wd fun e w' => e = .returned (.tuple #[.int .u32 (m * 256 + b2i true + 2 * b2i w), .int .i64 0]) ∧ wd.grownBy w' none := by
  go_enter Try.func30, Try.ntmps30
  go_wp2_with fail
  go_quiet ((go_at_call 81; exact Calls.quiet_of_same (bit_q _ _)))
  go_wp2
  go_ret2
  exact ⟨ret_u (pack_bits true w m hm), grown_box _ _ _⟩
theorem pack_nil (wd : World) : Calls Try.prog 30 #[.agg #[.bool false, .bool false, .int .i64 0]] wd fun e w' => e = .returned (.tuple #[.int .u32 0, .int .i64 0]) ∧ wd.grownBy w' none := by
  go_enter Try.func30, Try.ntmps30
  go_wp2_with fail
  go_quiet ((go_at_call 81; exact Calls.quiet_of_same (bit_q _ _)))
  go_wp2
  go_ret2
  exact ⟨ret_u (by decide +kernel), grown_box _ _ _⟩
theorem pack_bad (p w : Bool) (m : Int) (wd : World) (hm : m < 0 ∨ 16777216 ≤ m) : Calls Try.prog 30 #[.agg #[.bool p, .bool w, .int .i64 m]] wd fun e w' => e = .returned (.tuple #[.int .u32 0, .int .i64 1]) ∧ wd.grownBy w' none := by
  rcases hm with hm | hm
  · go_enter Try.func30, Try.ntmps30
    go_wp2_with fail
    go_ret2
    exact ⟨rfl, World.grownBy_alloc _ _ _⟩
  · have h0 : ¬ m < 0 := by omega
    go_enter Try.func30, Try.ntmps30
    go_wp2_with fail
    go_ret2
    exact ⟨rfl, World.grownBy_alloc _ _ _⟩
theorem pack_odd (w : Bool) (m : Nat) (wd : World) (hm : m < 16777216) (h : w = true ∨ m ≠ 0) : Calls Try.prog 30 #[.agg #[.bool false, .bool w, .int .i64 m]] wd fun e w' => e = .returned (.tuple #[.int .u32 0, .int .i64 1]) ∧ wd.grownBy w' none := by
  rcases h with rfl | h
  · go_enter Try.func30, Try.ntmps30
    go_wp2_with fail
    go_ret2
    exact ⟨rfl, World.grownBy_alloc _ _ _⟩
  · go_enter Try.func30, Try.ntmps30
    go_wp2_with fail
    all_goals go_ret2
    all_goals exact ⟨rfl, World.grownBy_alloc _ _ _⟩
theorem unpack_no (n : Nat) (wd : World) (hn : n < 4294967296) (h : n % 2 = 0) : Calls Try.prog 31 #[.int .u32 n] wd fun e w' => e = .returned (.tuple #[ent0.val, .int .i64 0]) ∧ wd.grownBy w' none := by
  have h1 : decide (n % 2 = 1) = false := by simp; omega
  go_enter Try.func31, Try.ntmps31
  go_wp2_with (go_at_call 82; refine (has0 n _ hn).mono ?_; rintro e w2 ⟨rfl, rfl⟩)
  exact bodyPost_ret (v := .tuple #[.agg #[.bool false, .bool false, .int .i64 0], .int .i64 0]) (by simp [results, Try.results31, go_sem]) rfl ⟨rfl, World.grownBy_alloc _ _ _⟩
theorem unpack_bad (n : Nat) (wd : World) (hn : n < 4294967296) (h : n % 2 = 1) (h3 : 3 < n % 256) : Calls Try.prog 31 #[.int .u32 n] wd fun e w' => e = .returned (.tuple #[ent0.val, .int .i64 4]) ∧ wd.grownBy w' none := by
  have h1 : decide (n % 2 = 1) = true := by simp [h]
  have h2 := and_252 n hn
  rw [decide_eq_true h3] at h2
  go_enter Try.func31, Try.ntmps31
  go_wp2_with (go_at_call 82; refine (has0 n _ hn).mono ?_; rintro e w2 ⟨rfl, rfl⟩)
  exact bodyPost_ret (v := .tuple #[.agg #[.bool false, .bool false, .int .i64 0], .int .i64 4]) (by simp [results, Try.results31, go_sem]) rfl ⟨rfl, World.grownBy_alloc _ _ _⟩
theorem unpack_yes (n : Nat) (wd : World) (hn : n < 4294967296) (h : n % 2 = 1) (h3 : ¬ 3 < n % 256) : Calls Try.prog 31 #[.int .u32 n] wd fun e w' => e = .returned (.tuple #[(Ent.mk true (decide (n / 2 % 2 = 1)) ((n / 256 : Nat) : Int)).val, .int .i64 0]) ∧ wd.grownBy w' none := by
  have h1 : decide (n % 2 = 1) = true := by simp [h]
  have h2 := and_252 n hn
  rw [decide_eq_false h3] at h2
  obtain ⟨x, hx⟩ : ∃ x, decide (n / 2 % 2 = 1) = x := ⟨_, rfl⟩
  have H1 := Lib.hid (hx ▸ has1 n · hn)
  rw [hx]
  clear hx
  go_enter Try.func31, Try.ntmps31
  go_wp2_with (first | (go_at_call 82; with_reducible refine (has0 n _ hn).mono ?_; rintro e w2 ⟨rfl, rfl⟩) | (go_at_call 82; refine (H1.out _).mono ?_; rintro e w2 ⟨rfl, rfl⟩))
  exact bodyPost_ret (v := .tuple #[.agg #[.bool true, .bool x, .int .i64 ((n / 256 : Nat) : Int)], .int .i64 0]) (by simp [results, Try.results31, go_sem]) rfl ⟨rfl, World.grownBy_alloc _ _ _⟩
theorem unpack_any (n : Nat) (wd : World) (hn : n < 4294967296) : Calls Try.prog 31 #[.int .u32 n] wd fun e w' => e = .returned (.tuple #[(unpackV n).1.val, .int .i64 (unpackV n).2]) ∧ wd.grownBy w' none := by
  by_cases h : n % 2 = 0
  · rw [show unpackV n = (ent0, 0) by unfold unpackV; rw [if_pos h]]; exact unpack_no n wd hn h
  have h1 : n % 2 = 1 := by omega
  by_cases h3 : 3 < n % 256
  · rw [show unpackV n = (ent0, 4) by unfold unpackV; rw [if_neg h, if_pos h3]]; exact unpack_bad n wd hn h1 h3
  · rw [show unpackV n = (⟨true, decide (n / 2 % 2 = 1), (n / 256 : Nat)⟩, 0) by
      unfold unpackV; rw [if_neg h, if_neg h3]
      congr 3; exact propext ⟨fun _ => by omega, fun _ => by omega⟩]
    exact unpack_yes n wd hn h1 h3
theorem pack_any (e : Ent) (wd : World) : Calls Try.prog 30 #[e.val] wd fun x w' => x = .returned (.tuple #[.int .u32 (packV e).1, .int .i64 (packV e).2]) ∧ wd.grownBy w' none := by
  obtain ⟨p, w, m⟩ := e
  by_cases hm : m < 0 ∨ 16777216 ≤ m
  · rw [show packV ⟨p, w, m⟩ = (0, 1) by unfold packV; rw [if_pos]; rcases hm with h | h; exact .inl h; exact .inr (.inl h)]
    exact pack_bad p w m wd hm
  obtain ⟨k, rfl⟩ : ∃ k : Nat, m = k := ⟨m.toNat, by omega⟩
  have hk : k < 16777216 := by omega
  cases p
  · by_cases ho : w = true ∨ k ≠ 0
    · rw [show packV ⟨false, w, k⟩ = (0, 1) by unfold packV; rw [if_pos]; refine .inr (.inr ⟨rfl, ?_⟩); rcases ho with h | h; exact .inl h; exact .inr (by simpa using h)]
      exact pack_odd w k wd hk ho
    · have hw : w = false := by cases w; rfl; exact absurd (.inl rfl) ho
      have h0 : k = 0 := by omega
      subst hw h0
      exact pack_nil wd
  · rw [show packV ⟨true, w, k⟩ = ((k : Int) * 256 + b2i true + 2 * b2i w, 0) by unfold packV; rw [if_neg]; rintro (h | h | h); exact hm (.inl h); exact hm (.inr h); exact absurd h.1 (by simp)]
    exact pack_yes w k wd hk
def split4 (r : Nat × Nat × Nat × Int) : Value := .tuple #[.int .i64 r.1, .int .i64 r.2.1, .int .i64 r.2.2.1, .int .i64 r.2.2.2]
set_option maxRecDepth 100000 in
theorem split_any (va : Nat) (w : World) (hv : va < 4294967296) : Calls Try.prog 32 #[.int .u32 va] w fun e w' => e = .returned (split4 (splitV va)) ∧ w = w' := by
  by_cases h : 1048576 ≤ va
  · rw [show splitV va = (0, 0, 0, 1) by unfold splitV; rw [if_pos h]]
    have h' : (1048576 : Int) ≤ va := by omega
    clear h
    go_enter Try.func32, Try.ntmps32
    go_wp2
    exact bodyPost_ret (v := .tuple #[.int .i64 0, .int .i64 0, .int .i64 0, .int .i64 1]) (by simp [results, Try.results32, go_sem]) rfl ⟨rfl, rfl⟩
  · rw [show splitV va = (va / 16384, va / 256 % 64, va % 256, 0) by unfold splitV; rw [if_neg h]]
    have h' : ¬ (1048576 : Int) ≤ va := by omega
    clear h
    go_enter Try.func32, Try.ntmps32
    go_wp2
    exact bodyPost_ret (v := .tuple #[.int .i64 ((va / 16384 : Nat) : Int), .int .i64 ((va / 256 % 64 : Nat) : Int), .int .i64 ((va % 256 : Nat) : Int), .int .i64 0]) (by simp [results, Try.results32, go_sem]) rfl ⟨rfl, rfl⟩
theorem isIndex_yes (k : Int) (w : World) (h0 : 0 ≤ k) (h3 : k < 64) : Calls Try.prog 76 #[.int .i64 k] w fun e w' => e = .returned (.bool true) ∧ w = w' := by
  go_enter Try.func76, Try.ntmps76
  go_wp2
  go_ret
  exact ⟨rfl, rfl⟩
theorem isIndex_no (k : Int) (w : World) (h : k < 0 ∨ 63 < k) : Calls Try.prog 76 #[.int .i64 k] w fun e w' => e = .returned (.bool false) ∧ w = w' := by
  rcases h with h | h
  · go_enter Try.func76, Try.ntmps76
    go_wp2
    go_ret
    exact ⟨rfl, rfl⟩
  · have h' : ¬ k < 64 := by omega
    have h0 : 0 ≤ k := by omega
    clear h
    go_enter Try.func76, Try.ntmps76
    go_wp2
    go_ret
    exact ⟨rfl, rfl⟩
theorem join_yes (a b c : Nat) (w : World) (ha : a ≤ 63) (hb : b ≤ 63) (hc : c ≤ 255) : Calls Try.prog 33 #[.int .i64 a, .int .i64 b, .int .i64 c] w fun e w' => e = .returned (.tuple #[.int .u32 (((a : Int) * 64 + b) * 256 + c), .int .i64 0]) ∧ w = w' := by
  go_enter Try.func33, Try.ntmps33
  go_wp2_with (go_at_call 76; refine (isIndex_yes _ _ (by omega) (by omega)).mono ?_; rintro e w2 ⟨rfl, rfl⟩)
  go_ret2
  exact ⟨ret_u (join_bits a b c ha hb hc), rfl⟩
theorem join_no (a b c : Int) (w : World) (h : ¬ joinOk a b c) : Calls Try.prog 33 #[.int .i64 a, .int .i64 b, .int .i64 c] w fun e w' => e = .returned (.tuple #[.int .u32 0, .int .i64 1]) ∧ w = w' := by
  by_cases ha : 0 ≤ a ∧ a < 64
  · by_cases hb : 0 ≤ b ∧ b < 64
    · rcases (show c < 0 ∨ ¬ c < 0 ∧ 256 ≤ c by unfold joinOk at h; omega) with hc | ⟨hc0, hc⟩
      · clear h
        go_enter Try.func33, Try.ntmps33
        go_wp2_with (first | (go_at_call 76; with_reducible refine (isIndex_yes a _ ha.1 ha.2).mono ?_; rintro e w2 ⟨rfl, rfl⟩) | (go_at_call 76; refine (isIndex_yes b _ hb.1 hb.2).mono ?_; rintro e w2 ⟨rfl, rfl⟩))
        go_ret2
        exact ⟨rfl, rfl⟩
      · clear h
        go_enter Try.func33, Try.ntmps33
        go_wp2_with (first | (go_at_call 76; with_reducible refine (isIndex_yes a _ ha.1 ha.2).mono ?_; rintro e w2 ⟨rfl, rfl⟩) | (go_at_call 76; refine (isIndex_yes b _ hb.1 hb.2).mono ?_; rintro e w2 ⟨rfl, rfl⟩))
        go_ret2
        exact ⟨rfl, rfl⟩
    · clear h
      go_enter Try.func33, Try.ntmps33
      go_wp2_with (first | (go_at_call 76; with_reducible refine (isIndex_yes a _ ha.1 ha.2).mono ?_; rintro e w2 ⟨rfl, rfl⟩) | (go_at_call 76; refine (isIndex_no b _ (by omega)).mono ?_; rintro e w2 ⟨rfl, rfl⟩))
      go_ret2
      exact ⟨rfl, rfl⟩
  · clear h
    go_enter Try.func33, Try.ntmps33
    go_wp2_with (go_at_call 76; refine (isIndex_no a _ (by omega)).mono ?_; rintro e w2 ⟨rfl, rfl⟩)
    go_ret2
    exact ⟨rfl, rfl⟩
end Go.Proofs.Ytemeihamkdpmoaa
