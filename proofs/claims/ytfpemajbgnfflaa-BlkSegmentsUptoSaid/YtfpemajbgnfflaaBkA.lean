/-
  Package blk: the program's small functions: fits, number, bytesOf, isBackwards, mayHave.
-/
import Derived.Test.YtfpemajbgnfflaaBkL
import Derived.Test.YtfpemajbgnfflaaBkP
import Derived.Laws.BitsAllLaws
set_option linter.unusedSimpArgs false
set_option linter.unusedVariables false
namespace Go.Proofs.Ytfpemajbgnfflaa.Bk
open Go.RowKit Gen
set_option maxHeartbeats 1000000

theorem ofInt_i64 (a : Nat) (ha : a < 9223372036854775808) : (BitVec.ofInt 64 (a : Int)).toNat = a := by
  rw [BitVec.ofInt_natCast, BitVec.toNat_ofNat]; exact Nat.mod_eq_of_lt (by omega)
theorem i64_or_nat (a b : Nat) (ha : a < 9223372036854775808) (hb : b < 9223372036854775808) : bits .or .i64 (a : Int) (b : Int) = ((a ||| b : Nat) : Int) := by
  have hx : a ||| b < 2 ^ 63 := Nat.or_lt_two_pow (by omega) (by omega)
  show IntKind.i64.wrap ((BitVec.ofInt 64 (a : Int) ||| BitVec.ofInt 64 (b : Int)).toNat : Int) = _
  rw [BitVec.toNat_or, ofInt_i64 a ha, ofInt_i64 b hb, IntKind.wrap_i64]
  omega
theorem or_low (i a b : Nat) (h : b < 2 ^ i) : b ||| a * 2 ^ i = b + a * 2 ^ i := by
  rw [Nat.mul_comm, Nat.or_comm, ← Nat.two_pow_add_eq_or_of_lt h, Nat.add_comm]
/-- the lower part and the upper one -/
theorem or_i64 (i k a b : Nat) (hk : 2 ^ i = k) (h : b < k) (hx : a * k < 9223372036854775808) (hb : b < 9223372036854775808) : bits .or .i64 (b : Int) ((a : Int) * (k : Int)) = ((b + a * k : Nat) : Int) := by
  subst hk
  rw [← Int.natCast_mul, i64_or_nat b (a * 2 ^ i) hb hx, or_low i a b h]

theorem bFits2 (n : Int) (w : World) (h : I64 n) : Calls Try.prog 9 #[.int .i64 n, .int .i64 2] w fun e w' => e = .returned (.bool (fitsV n 4)) ∧ w = w' := by
  obtain ⟨h0, h1⟩ := h
  cases hb : fitsV n 4 with
  | false =>
    have e : ¬ n / 4 = 0 := by simp [fitsV] at hb; omega
    go_enter Try.func9, Try.ntmps9
    go_wp2
    go_ret
    exact ⟨by simp [e], rfl⟩
  | true =>
    have e : n / 4 = 0 := by simp [fitsV] at hb; omega
    go_enter Try.func9, Try.ntmps9
    go_wp2
    go_ret
    exact ⟨by simp [e], rfl⟩
theorem bFits8 (n : Int) (w : World) (h : I64 n) : Calls Try.prog 9 #[.int .i64 n, .int .i64 8] w fun e w' => e = .returned (.bool (fitsV n 256)) ∧ w = w' := by
  obtain ⟨h0, h1⟩ := h
  cases hb : fitsV n 256 with
  | false =>
    have e : ¬ n / 256 = 0 := by simp [fitsV] at hb; omega
    go_enter Try.func9, Try.ntmps9
    go_wp2
    go_ret
    exact ⟨by simp [e], rfl⟩
  | true =>
    have e : n / 256 = 0 := by simp [fitsV] at hb; omega
    go_enter Try.func9, Try.ntmps9
    go_wp2
    go_ret
    exact ⟨by simp [e], rfl⟩
theorem bFits16 (n : Int) (w : World) (h : I64 n) : Calls Try.prog 9 #[.int .i64 n, .int .i64 16] w fun e w' => e = .returned (.bool (fitsV n 65536)) ∧ w = w' := by
  obtain ⟨h0, h1⟩ := h
  cases hb : fitsV n 65536 with
  | false =>
    have e : ¬ n / 65536 = 0 := by simp [fitsV] at hb; omega
    go_enter Try.func9, Try.ntmps9
    go_wp2
    go_ret
    exact ⟨by simp [e], rfl⟩
  | true =>
    have e : n / 65536 = 0 := by simp [fitsV] at hb; omega
    go_enter Try.func9, Try.ntmps9
    go_wp2
    go_ret
    exact ⟨by simp [e], rfl⟩
theorem bFits32 (n : Int) (w : World) (h : I64 n) : Calls Try.prog 9 #[.int .i64 n, .int .i64 32] w fun e w' => e = .returned (.bool (fitsV n 4294967296)) ∧ w = w' := by
  obtain ⟨h0, h1⟩ := h
  cases hb : fitsV n 4294967296 with
  | false =>
    have e : ¬ n / 4294967296 = 0 := by simp [fitsV] at hb; omega
    go_enter Try.func9, Try.ntmps9
    go_wp2
    go_ret
    exact ⟨by simp [e], rfl⟩
  | true =>
    have e : n / 4294967296 = 0 := by simp [fitsV] at hb; omega
    go_enter Try.func9, Try.ntmps9
    go_wp2
    go_ret
    exact ⟨by simp [e], rfl⟩

/-- the number of the first k bytes -/
def upN (x0 x1 x2 x3 : Nat) : Nat → Nat
  | 0 => 0
  | 1 => x0
  | 2 => x0 + 256 * x1
  | 3 => x0 + 256 * x1 + 65536 * x2
  | _ => x0 + 256 * x1 + 65536 * x2 + 16777216 * x3
end Go.Proofs.Ytfpemajbgnfflaa.Bk
