/-
  Contracts of the functions of package phys on one frame.
-/
import Derived.Test.YtolfjbodgdjbjaaGreatPhysA
set_option linter.unusedSimpArgs false
set_option linter.unusedVariables false
namespace Go.Proofs.YtolfjbodgdjbjaaGreat
open Go.RowKit
set_option maxHeartbeats 400000

theorem has_none (b o : Nat) (c t : Int) (w : World) (h2 : w.cell? ⟨b, o + 2, none⟩ = some (.int .i64 c)) (h3 : w.cell? ⟨b, o + 3, none⟩ = some (.int .i64 t)) :
    Calls Tryz.prog 92 #[.pointer (some ⟨b, o, none⟩), .int .i64 0] w fun e w' => e = .returned (.bool (t != c)) ∧ ∃ n, w' = w.drewN n := by
  go_enter Tryz.func92, Tryz.ntmps92
  go_wp2
  go_quiet (fail)
  go_wp2
  go_ret
  exact ⟨rfl, _, rfl⟩
theorem has_kind (b o : Nat) (ty k : Int) (w : World) (h1 : w.cell? ⟨b, o + 1, none⟩ = some (.int .i64 ty)) (hk : (k == 0) = false) :
    Calls Tryz.prog 92 #[.pointer (some ⟨b, o, none⟩), .int .i64 k] w fun e w' => e = .returned (.bool (ty == k)) ∧ w = w' := by
  go_enter Tryz.func92, Tryz.ntmps92
  go_wp2
  go_ret
  exact ⟨rfl, rfl⟩

theorem drop_no_none (b o : Nat) (c : Int) (w : World) (h2 : w.cell? ⟨b, o + 2, none⟩ = some (.int .i64 c)) (h3 : w.cell? ⟨b, o + 3, none⟩ = some (.int .i64 c)) :
    Calls Tryz.prog 85 #[.pointer (some ⟨b, o, none⟩), .int .i64 0] w fun e w' => e = .returned (.int .i64 14) ∧ ∃ n, w' = w.drewN n := by
  have hx : (c != c) = false := by simp
  go_enter Tryz.func85, Tryz.ntmps85
  go_wp2_with (go_at_call 92; refine (has_none _ _ c c _ h2 h3).mono ?_; rintro e w' ⟨rfl, n, rfl⟩)
  go_ret
  exact ⟨rfl, _, rfl⟩
theorem drop_no_kind (b o : Nat) (ty k : Int) (w : World) (h1 : w.cell? ⟨b, o + 1, none⟩ = some (.int .i64 ty)) (hk : (k == 0) = false) (ht : (ty == k) = false) :
    Calls Tryz.prog 85 #[.pointer (some ⟨b, o, none⟩), .int .i64 k] w fun e w' => e = .returned (.int .i64 14) ∧ w = w' := by
  go_enter Tryz.func85, Tryz.ntmps85
  go_wp2_with (go_at_call 92; refine (has_kind _ _ ty k _ h1 hk).mono ?_; rintro e w' ⟨rfl, rfl⟩)
  go_ret
  exact ⟨rfl, rfl⟩
theorem drop_none (b o : Nat) (c t : Int) (w : World) (h2 : w.cell? ⟨b, o + 2, none⟩ = some (.int .i64 c)) (h3 : w.cell? ⟨b, o + 3, none⟩ = some (.int .i64 t)) (f3 : w.frozen? ⟨b, o + 3, none⟩ = false) (hx : (t != c) = true) (h0 : 1 ≤ t) (ht : t ≤ 9223372036854775807) :
    Calls Tryz.prog 85 #[.pointer (some ⟨b, o, none⟩), .int .i64 0] w fun e w' => e = .returned (.int .i64 0) ∧ ∃ n, w' = (w.drewN n).setCell ⟨b, o + 3, none⟩ (.int .i64 (t - 1)) := by
  go_enter Tryz.func85, Tryz.ntmps85
  go_wp2_with (go_at_call 92; refine (has_none _ _ c t _ h2 h3).mono ?_; rintro e w' ⟨rfl, n, rfl⟩)
  go_ret
  exact ⟨rfl, _, rfl⟩
theorem drop_more (b o : Nat) (c t k : Int) (w : World) (h1 : w.cell? ⟨b, o + 1, none⟩ = some (.int .i64 k)) (h2 : w.cell? ⟨b, o + 2, none⟩ = some (.int .i64 c)) (h3 : w.cell? ⟨b, o + 3, none⟩ = some (.int .i64 t))
    (f1 : w.frozen? ⟨b, o + 1, none⟩ = false) (f2 : w.frozen? ⟨b, o + 2, none⟩ = false) (f3 : w.frozen? ⟨b, o + 3, none⟩ = false) (h0 : 1 ≤ t) (ht : t ≤ 9223372036854775807) (hc0 : 2 ≤ c) (hc : c ≤ 9223372036854775807) (hk : (k == 0) = false) :
    Calls Tryz.prog 85 #[.pointer (some ⟨b, o, none⟩), .int .i64 k] w fun e w' => e = .returned (.int .i64 0) ∧
      w' = (w.setCell ⟨b, o + 3, none⟩ (.int .i64 (t - 1))).setCell ⟨b, o + 2, none⟩ (.int .i64 (c - 1)) := by
  have hx : (k == k) = true := by simp
  go_enter Tryz.func85, Tryz.ntmps85
  go_wp2_with (go_at_call 92; refine (has_kind _ _ k k _ h1 hk).mono ?_; rintro e w' ⟨rfl, rfl⟩)
  go_ret
  exact ⟨rfl, rfl⟩
theorem drop_last (b o : Nat) (t k : Int) (w : World) (h1 : w.cell? ⟨b, o + 1, none⟩ = some (.int .i64 k)) (h2 : w.cell? ⟨b, o + 2, none⟩ = some (.int .i64 1)) (h3 : w.cell? ⟨b, o + 3, none⟩ = some (.int .i64 t))
    (f1 : w.frozen? ⟨b, o + 1, none⟩ = false) (f2 : w.frozen? ⟨b, o + 2, none⟩ = false) (f3 : w.frozen? ⟨b, o + 3, none⟩ = false) (h0 : 1 ≤ t) (ht : t ≤ 9223372036854775807) (hk : (k == 0) = false) :
    Calls Tryz.prog 85 #[.pointer (some ⟨b, o, none⟩), .int .i64 k] w fun e w' => e = .returned (.int .i64 0) ∧
      w' = ((w.setCell ⟨b, o + 3, none⟩ (.int .i64 (t - 1))).setCell ⟨b, o + 2, none⟩ (.int .i64 0)).setCell ⟨b, o + 1, none⟩ (.int .i64 0) := by
  have hx : (k == k) = true := by simp
  go_enter Tryz.func85, Tryz.ntmps85
  go_wp2_with (go_at_call 92; refine (has_kind _ _ k k _ h1 hk).mono ?_; rintro e w' ⟨rfl, rfl⟩)
  go_ret
  exact ⟨rfl, rfl⟩

end Go.Proofs.YtolfjbodgdjbjaaGreat
