/-
  Package net: Reply of both sides.
-/
import Derived.Test.YtoeohbiofmcdeaaNtA
import Derived.BigQuiet
set_option linter.unusedSimpArgs false
set_option linter.unusedVariables false
namespace Go.Proofs.Ytoeohbiofmcdeaa.Nt
open Go.RowKit Gen Bk
set_option maxHeartbeats 4000000

/-- a response's ID, status, length, and the error -/
def rp4 (l : List UInt8) : Value := if l.length = 8 then .tuple #[.int .i64 (((l.getD 0 0).toNat + 256 * (l.getD 1 0).toNat : Nat) : Int), .int .i64 ((l.getD 2 0).toNat : Int), .int .i64 ((l.getD 3 0).toNat : Int), .int .i64 0] else .tuple #[.int .i64 0, .int .i64 0, .int .i64 0, .int .i64 1]
theorem nWord2 (a b : Nat) (w : World) (ha : a < 256) (hb : b < 256) : Calls Try.prog 41 #[.int .u8 a, .int .u8 b] w fun e w' => e = .returned (.int .i64 ((a + 256 * b : Nat) : Int)) ∧ w = w' := by
  have e1 : bits .or .i64 (a : Int) ((b : Int) * 256) = ((a + 256 * b : Nat) : Int) := by have := or_i64 8 256 b a rfl (by omega) (by omega) (by omega); rw [Nat.mul_comm] at this; exact this
  go_enter Try.func41, Try.ntmps41
  go_wp2
  go_ret
  exact ⟨by simp, rfl⟩
theorem nReply (l : List UInt8) (p : Option Addr) (c : Nat) (w : World) (h : BA w p l) (hl : l.length ≤ 140737488351232) : Calls Try.prog 20 #[.slice p l.length c] w fun e w' => e = .returned (rp4 l) ∧ w.grownBy w' none := by
  unfold rp4
  by_cases h8 : l.length = 8
  · obtain ⟨b, o, rfl⟩ := h.ptr (by omega)
    rw [if_pos h8, h8]
    have c0 := h.at (k := 0) (by omega)
    have c1 := h.at (k := 1) (by omega)
    have c2 := h.at (k := 2) (by omega)
    have c3 := h.at (k := 3) (by omega)
    rw [Nat.add_zero] at c0
    have y0 := UInt8.toNat_lt (l.getD 0 0)
    have y1 := UInt8.toNat_lt (l.getD 1 0)
    have y2 := UInt8.toNat_lt (l.getD 2 0)
    have y3 := UInt8.toNat_lt (l.getD 3 0)
    clear h h8 hl
    generalize (l.getD 0 0).toNat = x0 at *
    generalize (l.getD 1 0).toNat = x1 at *
    generalize (l.getD 2 0).toNat = x2 at *
    generalize (l.getD 3 0).toNat = x3 at *
    have HW := hid fun w' => nWord2 x0 x1 w' y0 y1
    go_enter Try.func20, Try.ntmps20
    go_wp2
    go_quiet ((go_at_call 41; refine Calls.quiet_of_same (v := .int .i64 ((x0 + 256 * x1 : Nat) : Int)) ((HW.out _).mono ?_); rintro ex w' ⟨rfl, rfl⟩; exact ⟨rfl, rfl⟩))
    go_wp2
    refine bodyPost_ret (v := .tuple #[.int .i64 ((x0 + 256 * x1 : Nat) : Int), .int .i64 (x2 : Int), .int .i64 (x3 : Int), .int .i64 0]) (by simp [results, Try.results20, go_sem, Act.put]) rfl ⟨rfl, grownBy_drewN _ _ _⟩
  · rw [if_neg h8]
    have h1 : ((l.length : Int) != 8) = true := by simp; omega
    clear h8 h
    go_enter Try.func20, Try.ntmps20
    go_wp2
    refine bodyPost_ret (v := .tuple #[.int .i64 0, .int .i64 0, .int .i64 0, .int .i64 1]) (by simp [results, Try.results20, go_sem, Act.put]) rfl ⟨rfl, grownBy_refl _ _⟩
theorem rReply (l : List UInt8) (p : Option Addr) (c : Nat) (w : World) (h : BA w p l) (hl : l.length ≤ 140737488351232) : Calls Try.prog 21 #[.slice p l.length c] w fun e w' => e = .returned (rp4 l) ∧ w.grownBy w' none := by
  unfold rp4
  by_cases h8 : l.length = 8
  · obtain ⟨b, o, rfl⟩ := h.ptr (by omega)
    rw [if_pos h8, h8]
    have c0 := h.at (k := 0) (by omega)
    have c1 := h.at (k := 1) (by omega)
    have c2 := h.at (k := 2) (by omega)
    have c3 := h.at (k := 3) (by omega)
    rw [Nat.add_zero] at c0
    have y0 := UInt8.toNat_lt (l.getD 0 0)
    have y1 := UInt8.toNat_lt (l.getD 1 0)
    have y2 := UInt8.toNat_lt (l.getD 2 0)
    have y3 := UInt8.toNat_lt (l.getD 3 0)
    clear h h8 hl
    generalize (l.getD 0 0).toNat = x0 at *
    generalize (l.getD 1 0).toNat = x1 at *
    generalize (l.getD 2 0).toNat = x2 at *
    generalize (l.getD 3 0).toNat = x3 at *
    have e1 : wrap64 (256 * (x1 : Int)) = 256 * x1 := by unfold wrap64; omega
    have e2 : wrap64 ((x0 : Int) + 256 * x1) = ((x0 + 256 * x1 : Nat) : Int) := by unfold wrap64; omega
    go_enter Try.func21, Try.ntmps21
    go_wp2
    go_quiet (fail)
    go_wp2
    refine bodyPost_ret (v := .tuple #[.int .i64 ((x0 + 256 * x1 : Nat) : Int), .int .i64 (x2 : Int), .int .i64 (x3 : Int), .int .i64 0]) (by simp [results, Try.results21, go_sem, Act.put]) rfl ⟨rfl, grownBy_drewN _ _ _⟩
  · rw [if_neg h8]
    have h1 : ((l.length : Int) != 8) = true := by simp; omega
    clear h8 h
    go_enter Try.func21, Try.ntmps21
    go_wp2
    refine bodyPost_ret (v := .tuple #[.int .i64 0, .int .i64 0, .int .i64 0, .int .i64 1]) (by simp [results, Try.results21, go_sem, Act.put]) rfl ⟨rfl, grownBy_refl _ _⟩
end Go.Proofs.Ytoeohbiofmcdeaa.Nt
