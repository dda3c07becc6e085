/-
  Package event: its calls on events that nobody made.
-/
import Derived.Test.YtjgikapoohibnaaEvV
set_option linter.unusedSimpArgs false
set_option linter.unusedVariables false
namespace Go.Proofs.Ytjgikapoohibnaa
open Go.RowKit Gen
set_option maxHeartbeats 1000000

theorem alloc_nil (d r : Int) (w : World) : Calls Try.prog 18 #[.pointer none, .int .i64 d, .int .i64 r] w fun e w' => e = .returned (.tuple #[.int .i64 0, .int .i64 7]) ∧ w = w' := by
  go_enter Try.func18, Try.ntmps18
  go_wp2_with (go_at_call 40; refine (eOf_nil d _).mono ?_; rintro e w' ⟨rfl, rfl⟩)
  go_ret2
  exact ⟨rfl, rfl⟩
theorem bind_zero (X : Nat) (d r p : Int) (w : World) (h : w.cell? ⟨X, 0, none⟩ = some (.bool false)) : Calls Try.prog 19 #[.pointer (some ⟨X, 0, none⟩), .int .i64 d, .int .i64 r, .int .i64 p] w fun e w' => e = .returned (.tuple #[.int .i64 0, .int .i64 7]) ∧ w = w' := by
  go_enter Try.func19, Try.ntmps19
  go_wp2_with (go_at_call 40; refine (eOf_zero X d _ h).mono ?_; rintro e w' ⟨rfl, rfl⟩)
  go_ret2
  exact ⟨rfl, rfl⟩
theorem virq_nil (d v : Int) (w : World) : Calls Try.prog 20 #[.pointer none, .int .i64 d, .int .i64 v] w fun e w' => e = .returned (.tuple #[.int .i64 0, .int .i64 7]) ∧ w = w' := by
  go_enter Try.func20, Try.ntmps20
  go_wp2_with (go_at_call 40; refine (eOf_nil d _).mono ?_; rintro e w' ⟨rfl, rfl⟩)
  go_ret2
  exact ⟨rfl, rfl⟩
theorem take_nil (d : Int) (w : World) : Calls Try.prog 21 #[.pointer none, .int .i64 d] w fun e w' => e = .returned (.tuple #[.bool false, .int .i64 7]) ∧ w = w' := by
  go_enter Try.func21, Try.ntmps21
  go_wp2_with (go_at_call 40; refine (eOf_nil d _).mono ?_; rintro e w' ⟨rfl, rfl⟩)
  go_ret2
  exact ⟨rfl, rfl⟩
theorem close_zero (X : Nat) (d p : Int) (w : World) (h : w.cell? ⟨X, 0, none⟩ = some (.bool false)) : Calls Try.prog 22 #[.pointer (some ⟨X, 0, none⟩), .int .i64 d, .int .i64 p] w fun e w' => e = .returned (.int .i64 7) ∧ w = w' := by
  go_enter Try.func22, Try.ntmps22
  go_wp2_with (go_at_call 38; refine (eAt_zero X d p _ h).mono ?_; rintro e w' ⟨rfl, rfl⟩)
  go_ret
  exact ⟨rfl, rfl⟩
theorem send_nil (d p : Int) (w : World) : Calls Try.prog 16 #[.pointer none, .int .i64 d, .int .i64 p] w fun e w' => e = .returned (.int .i64 7) ∧ w = w' := by
  go_enter Try.func16, Try.ntmps16
  go_wp2_with (go_at_call 38; refine (eAt_nil d p _).mono ?_; rintro e w' ⟨rfl, rfl⟩)
  go_ret
  exact ⟨rfl, rfl⟩
theorem raise_zero (X : Nat) (d v : Int) (w : World) (h : w.cell? ⟨X, 0, none⟩ = some (.bool false)) : Calls Try.prog 23 #[.pointer (some ⟨X, 0, none⟩), .int .i64 d, .int .i64 v] w fun e w' => e = .returned (.int .i64 7) ∧ w = w' := by
  go_enter Try.func23, Try.ntmps23
  go_wp2_with (go_at_call 40; refine (eOf_zero X d _ h).mono ?_; rintro e w' ⟨rfl, rfl⟩)
  go_ret
  exact ⟨rfl, rfl⟩
theorem mask_nil (d p : Int) (on : Bool) (w : World) : Calls Try.prog 24 #[.pointer none, .int .i64 d, .int .i64 p, .bool on] w fun e w' => e = .returned (.int .i64 7) ∧ w = w' := by
  go_enter Try.func24, Try.ntmps24
  go_wp2_with (go_at_call 45; refine (eUsed_nil d p _).mono ?_; rintro e w' ⟨rfl, rfl⟩)
  go_ret
  exact ⟨rfl, rfl⟩
theorem clear_zero (X : Nat) (d p : Int) (w : World) (h : w.cell? ⟨X, 0, none⟩ = some (.bool false)) : Calls Try.prog 25 #[.pointer (some ⟨X, 0, none⟩), .int .i64 d, .int .i64 p] w fun e w' => e = .returned (.int .i64 7) ∧ w = w' := by
  go_enter Try.func25, Try.ntmps25
  go_wp2_with (go_at_call 45; refine (eUsed_zero X d p _ h).mono ?_; rintro e w' ⟨rfl, rfl⟩)
  go_ret
  exact ⟨rfl, rfl⟩
theorem drop_nil (d : Int) (w : World) : Calls Try.prog 26 #[.pointer none, .int .i64 d] w fun e w' => e = .returned (.int .i64 7) ∧ w = w' := by
  go_enter Try.func26, Try.ntmps26
  go_wp2_with (go_at_call 40; refine (eOf_nil d _).mono ?_; rintro e w' ⟨rfl, rfl⟩)
  go_ret
  exact ⟨rfl, rfl⟩
end Go.Proofs.Ytjgikapoohibnaa
