/-
  Package ring where nobody made the end, the view or the machine.
-/
import Derived.Test.YtgnihllnjaagcaaRgB
import Derived.Test.YtgnihllnjaagcaaRgG
import Derived.Test.YtgnihllnjaagcaaViewZ
import Derived.Test.YtgnihllnjaagcaaVOpen
set_option linter.unusedSimpArgs false
set_option linter.unusedVariables false
namespace Go.Proofs.Ytgnihllnjaagcaa
open Go.RowKit
attribute [local go_sem] Oper.semAt_some
set_option maxHeartbeats 1000000

theorem vNew0 (B : Nat) (w : World) (M : Mach) (hM : PM w B M) (hn1 : 1 ≤ M.n) : Calls Try.prog 20 #[.pointer (some ⟨B, 0, none⟩), .slice none 0 0] w fun e w' => e = .returned (.tuple #[.pointer (some ⟨w.heap.size + 1, 0, none⟩), .int .i64 0]) ∧
    (∃ f, VV w' (w.heap.size + 1) w.heap.size B (fun k => w.heap.size + 2 ≤ k ∧ k < w'.heap.size) [] 0 0 f) ∧ w.grownBy w' none :=
  vNew B none 0 [] w M hM hn1 (by simp) (fun j hj => by simp at hj)
theorem vMachine_nil (w : World) : Calls Try.prog 26 #[.pointer none] w fun e w' => e = .returned (.pointer none) ∧ w = w' := by
  go_enter Try.func26, Try.ntmps26
  go_wp2_with (go_at_call 79; refine (vmade_nil _).mono ?_; rintro e w' ⟨rfl, rfl⟩)
  go_ret
  exact ⟨rfl, rfl⟩
theorem zExists_nil (w : World) : Calls Try.prog 83 #[.pointer none] w fun e w' => e = .returned (.bool false) ∧ w = w' := by
  go_enter Try.func83, Try.ntmps83
  go_wp2
  go_ret
  exact ⟨rfl, rfl⟩
theorem zExists_zero (K : Nat) (w : World) (h : w.cell? ⟨K, 3, none⟩ = some (.bool false)) : Calls Try.prog 83 #[.pointer (some ⟨K, 0, none⟩)] w fun e w' => e = .returned (.bool false) ∧ w = w' := by
  go_enter Try.func83, Try.ntmps83
  go_wp2
  go_ret
  exact ⟨rfl, rfl⟩
theorem zSees_nil (v : Value) (w : World) : Calls Try.prog 87 #[.pointer none, v] w fun e w' => e = .returned (.bool false) ∧ w = w' := by
  go_enter Try.func87, Try.ntmps87
  go_wp2_with (go_at_call 83; refine (zExists_nil _).mono ?_; rintro e w' ⟨rfl, rfl⟩)
  all_goals go_ret
  all_goals exact ⟨rfl, rfl⟩
theorem zSees_zero (K : Nat) (v : Value) (w : World) (h : w.cell? ⟨K, 3, none⟩ = some (.bool false)) : Calls Try.prog 87 #[.pointer (some ⟨K, 0, none⟩), v] w fun e w' => e = .returned (.bool false) ∧ w = w' := by
  go_enter Try.func87, Try.ntmps87
  go_wp2_with (go_at_call 83; refine (zExists_zero _ _ h).mono ?_; rintro e w' ⟨rfl, rfl⟩)
  all_goals go_ret
  all_goals exact ⟨rfl, rfl⟩
theorem zSees_vnil (K : Nat) (g : Rg) (w : World) (h : RB w K g) : Calls Try.prog 87 #[.pointer (some ⟨K, 0, none⟩), .pointer none] w fun e w' => e = .returned (.bool false) ∧ w = w' := by
  go_enter Try.func87, Try.ntmps87
  go_wp2_with (first
    | (go_at_call 83; refine (rgExists _ _ _ h).mono ?_; rintro e w' ⟨rfl, rfl⟩)
    | (go_at_call 26; refine (vMachine_nil _).mono ?_; rintro e w' ⟨rfl, rfl⟩))
  all_goals go_ret
  all_goals exact ⟨rfl, rfl⟩
theorem zSees_vzero (K x : Nat) (g : Rg) (w : World) (h : RB w K g) (hx : w.cell? ⟨x, 0, none⟩ = some (.pointer none)) : Calls Try.prog 87 #[.pointer (some ⟨K, 0, none⟩), .pointer (some ⟨x, 0, none⟩)] w fun e w' => e = .returned (.bool false) ∧ w = w' := by
  go_enter Try.func87, Try.ntmps87
  go_wp2_with (first
    | (go_at_call 83; refine (rgExists _ _ _ h).mono ?_; rintro e w' ⟨rfl, rfl⟩)
    | (go_at_call 26; refine (vMachine_zero _ _ hx).mono ?_; rintro e w' ⟨rfl, rfl⟩))
  all_goals go_ret
  all_goals exact ⟨rfl, rfl⟩
theorem zLook (p q : Option Addr) (w : World) (h : Calls Try.prog 87 #[.pointer p, .pointer q] w fun e w' => e = .returned (.bool false) ∧ w = w') : Calls Try.prog 44 #[.pointer p, .pointer q] w fun e w' => e = .returned (.tuple #[.int .i64 0, .bool false, .int .i64 7]) ∧ w = w' := by
  have H := hid h
  clear h
  go_enter Try.func44, Try.ntmps44
  go_wp2_with (go_at_call 87; refine H.out.mono ?_; rintro e w' ⟨rfl, rfl⟩)
  go_ret3
  exact ⟨rfl, rfl⟩
theorem zTake (p q : Option Addr) (w : World) (h : Calls Try.prog 87 #[.pointer p, .pointer q] w fun e w' => e = .returned (.bool false) ∧ w = w') : Calls Try.prog 45 #[.pointer p, .pointer q] w fun e w' => e = .returned (.tuple #[.slice none 0 0, .int .i64 7]) ∧ w = w' := by
  have H := hid h
  clear h
  go_enter Try.func45, Try.ntmps45
  go_wp2_with (go_at_call 87; refine H.out.mono ?_; rintro e w' ⟨rfl, rfl⟩)
  go_ret2
  exact ⟨rfl, rfl⟩
theorem zAnswer (p q : Option Addr) (v : Value) (w : World) (h : Calls Try.prog 87 #[.pointer p, .pointer q] w fun e w' => e = .returned (.bool false) ∧ w = w') : Calls Try.prog 46 #[.pointer p, .pointer q, v] w fun e w' => e = .returned (.int .i64 7) ∧ w = w' := by
  have H := hid h
  clear h
  go_enter Try.func46, Try.ntmps46
  go_wp2_with (go_at_call 87; refine H.out.mono ?_; rintro e w' ⟨rfl, rfl⟩)
  go_ret
  exact ⟨rfl, rfl⟩
section
variable (p : Option Addr) (w : World) (h : Calls Try.prog 83 #[.pointer p] w fun e w' => e = .returned (.bool false) ∧ w = w')
include h
theorem zTaken : Calls Try.prog 33 #[.pointer p] w fun e w' => e = .returned (.int .u16 0) ∧ w = w' := by
  have H := hid h
  clear h
  go_enter Try.func33, Try.ntmps33
  go_wp2_with (go_at_call 83; refine H.out.mono ?_; rintro e w' ⟨rfl, rfl⟩)
  go_ret
  exact ⟨rfl, rfl⟩
theorem zLaid : Calls Try.prog 34 #[.pointer p] w fun e w' => e = .returned (.int .u16 0) ∧ w = w' := by
  have H := hid h
  clear h
  go_enter Try.func34, Try.ntmps34
  go_wp2_with (go_at_call 83; refine H.out.mono ?_; rintro e w' ⟨rfl, rfl⟩)
  go_ret
  exact ⟨rfl, rfl⟩
theorem zWaiting : Calls Try.prog 35 #[.pointer p] w fun e w' => e = .returned (.int .i64 0) ∧ w = w' := by
  have H := hid h
  clear h
  go_enter Try.func35, Try.ntmps35
  go_wp2_with (go_at_call 83; refine H.out.mono ?_; rintro e w' ⟨rfl, rfl⟩)
  go_ret
  exact ⟨rfl, rfl⟩
theorem zMfn : Calls Try.prog 37 #[.pointer p] w fun e w' => e = .returned (.int .i64 (-1)) ∧ w = w' := by
  have H := hid h
  clear h
  go_enter Try.func37, Try.ntmps37
  go_wp2_with (go_at_call 83; refine H.out.mono ?_; rintro e w' ⟨rfl, rfl⟩)
  go_ret
  exact ⟨rfl, rfl⟩
end
theorem zfExists_nil (w : World) : Calls Try.prog 84 #[.pointer none] w fun e w' => e = .returned (.bool false) ∧ w = w' := by
  go_enter Try.func84, Try.ntmps84
  go_wp2
  go_ret
  exact ⟨rfl, rfl⟩
theorem zfExists_zero (K : Nat) (w : World) (h : w.cell? ⟨K, 3, none⟩ = some (.pointer none)) : Calls Try.prog 84 #[.pointer (some ⟨K, 0, none⟩)] w fun e w' => e = .returned (.bool false) ∧ w = w' := by
  go_enter Try.func84, Try.ntmps84
  go_wp2
  go_ret
  exact ⟨rfl, rfl⟩
section
variable (p : Option Addr) (w : World) (h : Calls Try.prog 84 #[.pointer p] w fun e w' => e = .returned (.bool false) ∧ w = w')
include h
theorem zGet : Calls Try.prog 47 #[.pointer p] w fun e w' => e = .returned (.tuple #[.slice none 0 0, .int .i64 7]) ∧ w = w' := by
  have H := hid h
  clear h
  go_enter Try.func47, Try.ntmps47
  go_wp2_with (go_at_call 84; refine H.out.mono ?_; rintro e w' ⟨rfl, rfl⟩)
  go_ret2
  exact ⟨rfl, rfl⟩
theorem zPut (v : Value) : Calls Try.prog 42 #[.pointer p, v] w fun e w' => e = .returned (.int .i64 7) ∧ w = w' := by
  have H := hid h
  clear h
  go_enter Try.func42, Try.ntmps42
  go_wp2_with (go_at_call 84; refine H.out.mono ?_; rintro e w' ⟨rfl, rfl⟩)
  go_ret
  exact ⟨rfl, rfl⟩
theorem zRoom : Calls Try.prog 48 #[.pointer p] w fun e w' => e = .returned (.int .i64 0) ∧ w = w' := by
  have H := hid h
  clear h
  go_enter Try.func48, Try.ntmps48
  go_wp2_with (go_at_call 84; refine H.out.mono ?_; rintro e w' ⟨rfl, rfl⟩)
  go_ret
  exact ⟨rfl, rfl⟩
end
theorem Frame_nil (i : Int) (w : World) : Calls Try.prog 69 #[.pointer none, .int .i64 i] w fun e w' => e = .returned (.tuple #[.agg #[.int .i64 0, .int .i64 0, .int .i64 0, .int .i64 0], .int .i64 7]) ∧ w.grownBy w' none := by
  go_enter Try.func69, Try.ntmps69
  go_wp2_with (go_at_call 52; refine (at_nil _ _).mono ?_; rintro e w' ⟨rfl, rfl⟩)
  go_returns
  exact ⟨rfl, World.grownBy_alloc _ _ _⟩
theorem zOpen_nil (i : Int) (w : World) : Calls Try.prog 41 #[.pointer none, .int .i64 i] w fun e w' => e = .returned (.tuple #[.pointer none, .int .i64 7]) ∧ w.grownBy w' none := by
  go_enter Try.func41, Try.ntmps41
  go_wp2_with (go_at_call 69; refine (Frame_nil _ _).mono ?_; rintro e w1 ⟨rfl, g1⟩; have G1 := hid g1; clear g1)
  go_ret2
  exact ⟨rfl, G1.out.trans (World.grownBy_alloc _ _ none)⟩
theorem zOpen_no (B : Nat) (i : Int) (w : World) (M : Mach) (X : Int) (hM : PM w B M) (hok : M.ok X) (hi : i < 0 ∨ M.n ≤ i) : Calls Try.prog 41 #[.pointer (some ⟨B, 0, none⟩), .int .i64 i] w fun e w' => e = .returned (.tuple #[.pointer none, .int .i64 1]) ∧ w.grownBy w' none := by
  have H := hid (Frame_no B i w M X hM hok hi)
  clear hM hok hi
  go_enter Try.func41, Try.ntmps41
  go_wp2_with (go_at_call 69; refine H.out.mono ?_; rintro e w1 ⟨rfl, g1⟩; have G1 := hid g1; clear g1)
  go_ret2
  exact ⟨rfl, G1.out.trans (World.grownBy_alloc _ _ none)⟩
end Go.Proofs.Ytgnihllnjaagcaa
