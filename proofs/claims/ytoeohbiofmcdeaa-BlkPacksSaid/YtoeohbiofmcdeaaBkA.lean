/-
  Package blk: the program's small functions: fits, number, bytesOf, isBackwards, mayHave.
-/
import Derived.Test.YtoeohbiofmcdeaaBkL
import Derived.Test.YtoeohbiofmcdeaaBkP
import Derived.Laws.BitsAllLaws
set_option linter.unusedSimpArgs false
set_option linter.unusedVariables false
namespace Go.Proofs.Ytoeohbiofmcdeaa.Bk
open Go.RowKit Gen
set_option maxHeartbeats 1000000

theorem ofInt_i64 (a : Nat) (ha : a < 9223372036854775808) : (BitVec.ofInt 64 (a : Int)).toNat = a := by
  rw [BitVec.ofInt_natCast, BitVec.toNat_ofNat]; exact Nat.mod_eq_of_lt (by omega)
theorem i64_or_nat (a b : Nat) (ha : a < 9223372036854775808) (hb : b < 9223372036854775808) : bits .or .i64 (a : Int) (b : Int) = ((a ||| b : Nat) : Int) := by
  have hx : a ||| b < 2 ^ 63 := Nat.or_lt_two_pow (by omega) (by omega)
  show IntKind.i64.wrap ((BitVec.ofInt 64 (a : Int) ||| BitVec.ofInt 64 (b : Int)).toNat : Int) = _
  rw [BitVec.toNat_or, ofInt_i64 a ha, ofInt_i64 b hb, IntKind.wrap_i64]
  omega
theorem or_low (i a b : Nat) (h : b < 2 ^ i) : b ||| a * 2 ^ i = b + a * 2 ^ i := by
  rw [Nat.mul_comm, Nat.or_comm, ← Nat.two_pow_add_eq_or_of_lt h, Nat.add_comm]
/-- the lower part and the upper one -/
theorem or_i64 (i k a b : Nat) (hk : 2 ^ i = k) (h : b < k) (hx : a * k < 9223372036854775808) (hb : b < 9223372036854775808) : bits .or .i64 (b : Int) ((a : Int) * (k : Int)) = ((b + a * k : Nat) : Int) := by
  subst hk
  rw [← Int.natCast_mul, i64_or_nat b (a * 2 ^ i) hb hx, or_low i a b h]

theorem bFits2 (n : Int) (w : World) (h : I64 n) : Calls Try.prog 23 #[.int .i64 n, .int .i64 2] w fun e w' => e = .returned (.bool (fitsV n 4)) ∧ w = w' := by
  obtain ⟨h0, h1⟩ := h
  cases hb : fitsV n 4 with
  | false =>
    have e : ¬ n / 4 = 0 := by simp [fitsV] at hb; omega
    go_enter Try.func23, Try.ntmps23
    go_wp2
    go_ret
    exact ⟨by simp [e], rfl⟩
  | true =>
    have e : n / 4 = 0 := by simp [fitsV] at hb; omega
    go_enter Try.func23, Try.ntmps23
    go_wp2
    go_ret
    exact ⟨by simp [e], rfl⟩
theorem bFits8 (n : Int) (w : World) (h : I64 n) : Calls Try.prog 23 #[.int .i64 n, .int .i64 8] w fun e w' => e = .returned (.bool (fitsV n 256)) ∧ w = w' := by
  obtain ⟨h0, h1⟩ := h
  cases hb : fitsV n 256 with
  | false =>
    have e : ¬ n / 256 = 0 := by simp [fitsV] at hb; omega
    go_enter Try.func23, Try.ntmps23
    go_wp2
    go_ret
    exact ⟨by simp [e], rfl⟩
  | true =>
    have e : n / 256 = 0 := by simp [fitsV] at hb; omega
    go_enter Try.func23, Try.ntmps23
    go_wp2
    go_ret
    exact ⟨by simp [e], rfl⟩
theorem bFits16 (n : Int) (w : World) (h : I64 n) : Calls Try.prog 23 #[.int .i64 n, .int .i64 16] w fun e w' => e = .returned (.bool (fitsV n 65536)) ∧ w = w' := by
  obtain ⟨h0, h1⟩ := h
  cases hb : fitsV n 65536 with
  | false =>
    have e : ¬ n / 65536 = 0 := by simp [fitsV] at hb; omega
    go_enter Try.func23, Try.ntmps23
    go_wp2
    go_ret
    exact ⟨by simp [e], rfl⟩
  | true =>
    have e : n / 65536 = 0 := by simp [fitsV] at hb; omega
    go_enter Try.func23, Try.ntmps23
    go_wp2
    go_ret
    exact ⟨by simp [e], rfl⟩
theorem bFits32 (n : Int) (w : World) (h : I64 n) : Calls Try.prog 23 #[.int .i64 n, .int .i64 32] w fun e w' => e = .returned (.bool (fitsV n 4294967296)) ∧ w = w' := by
  obtain ⟨h0, h1⟩ := h
  cases hb : fitsV n 4294967296 with
  | false =>
    have e : ¬ n / 4294967296 = 0 := by simp [fitsV] at hb; omega
    go_enter Try.func23, Try.ntmps23
    go_wp2
    go_ret
    exact ⟨by simp [e], rfl⟩
  | true =>
    have e : n / 4294967296 = 0 := by simp [fitsV] at hb; omega
    go_enter Try.func23, Try.ntmps23
    go_wp2
    go_ret
    exact ⟨by simp [e], rfl⟩

/-- the number of the first k bytes -/
def upN (x0 x1 x2 x3 : Nat) : Nat → Nat
  | 0 => 0
  | 1 => x0
  | 2 => x0 + 256 * x1
  | 3 => x0 + 256 * x1 + 65536 * x2
  | _ => x0 + 256 * x1 + 65536 * x2 + 16777216 * x3
theorem bNumber (b o c m : Nat) (x0 x1 x2 x3 : Nat) (w : World) (hm : m ≤ 4) (hx : x0 < 256 ∧ x1 < 256 ∧ x2 < 256 ∧ x3 < 256) (h : ∀ k, k < m → w.cell? ⟨b, o + k, none⟩ = some (.int .u8 (match k with | 0 => x0 | 1 => x1 | 2 => x2 | _ => x3 : Nat))) :
    Calls Try.prog 32 #[.slice (some ⟨b, o, none⟩) m c] w fun e w' => e = .returned (.int .i64 (upN x0 x1 x2 x3 m : Nat)) ∧ ∃ n, w' = w.drewN n := by
  obtain ⟨hx0, hx1, hx2, hx3⟩ := hx
  have H := hid h
  clear h
  have e0 : bits .or .i64 (0 : Int) (x0 : Int) = (x0 : Int) := by have := or_i64 0 1 x0 0 rfl (by omega) (by omega) (by omega); simpa using this
  have e1 : bits .or .i64 (x0 : Int) ((x1 : Int) * 256) = ((x0 + 256 * x1 : Nat) : Int) := by have := or_i64 8 256 x1 x0 rfl (by omega) (by omega) (by omega); rw [Nat.mul_comm] at this; exact this
  have e2 : bits .or .i64 ((x0 + 256 * x1 : Nat) : Int) ((x2 : Int) * 65536) = ((x0 + 256 * x1 + 65536 * x2 : Nat) : Int) := by have := or_i64 16 65536 x2 (x0 + 256 * x1) rfl (by omega) (by omega) (by omega); rw [Nat.mul_comm x2] at this; exact this
  have e3 : bits .or .i64 ((x0 + 256 * x1 + 65536 * x2 : Nat) : Int) ((x3 : Int) * 16777216) = ((x0 + 256 * x1 + 65536 * x2 + 16777216 * x3 : Nat) : Int) := by have := or_i64 24 16777216 x3 (x0 + 256 * x1 + 65536 * x2) rfl (by omega) (by omega) (by omega); rw [Nat.mul_comm x3] at this; exact this
  have E0 := hid e0; clear e0
  have E1 := hid e1; clear e1
  have E2 := hid e2; clear e2
  have E3 := hid e3; clear e3
  go_enter Try.func32, Try.ntmps32
  go_wp2
  go_loopw [3, 8] (fun n i wr => ∃ k q : Nat, i = .int .i64 k ∧ k ≤ m ∧ n = .int .i64 (upN x0 x1 x2 x3 k : Nat) ∧ wr = w.drewN q) (fun _ i _ => m - (intOf i).toNat)
  case atStart => exact ⟨0, 0, rfl, by omega, rfl, rfl⟩
  case round =>
    obtain ⟨k, q, rfl, hk, rfl, rfl⟩ := hrel
    by_cases hlt : k < m
    · match k, hlt with
      | 0, hlt =>
        have hlt' : (0 : Int) < m := by omega
        have c : w.cell? ⟨b, o, none⟩ = some (.int .u8 x0) := H.out 0 hlt
        obtain ⟨N, hN⟩ : ∃ N, upN x0 x1 x2 x3 0 = N := ⟨_, rfl⟩
        obtain ⟨N', hN'⟩ : ∃ N', upN x0 x1 x2 x3 (0 + 1) = N' := ⟨_, rfl⟩
        have e0' : bits .or .i64 (N : Int) (x0 : Int) = (N' : Int) := by rw [← hN, ← hN']; exact E0.out
        have hk' : 0 + 1 ≤ m := hlt
        rw [hN]
        go_wp2
        go_roundw
        case rel => exact ⟨0 + 1, _, by go_num, hk', by rw [hN'], rfl⟩
        case measure => simp [intOf]; omega
      | 1, hlt =>
        have hlt' : (1 : Int) < m := by omega
        have c : w.cell? ⟨b, o + 1, none⟩ = some (.int .u8 x1) := H.out 1 hlt
        obtain ⟨N, hN⟩ : ∃ N, upN x0 x1 x2 x3 1 = N := ⟨_, rfl⟩
        obtain ⟨N', hN'⟩ : ∃ N', upN x0 x1 x2 x3 (1 + 1) = N' := ⟨_, rfl⟩
        have e1' : bits .or .i64 (N : Int) ((x1 : Int) * 256) = (N' : Int) := by rw [← hN, ← hN']; exact E1.out
        have hk' : 1 + 1 ≤ m := hlt
        rw [hN]
        go_wp2
        go_roundw
        case rel => exact ⟨1 + 1, _, by go_num, hk', by rw [hN'], rfl⟩
        case measure => simp [intOf]; omega
      | 2, hlt =>
        have hlt' : (2 : Int) < m := by omega
        have c : w.cell? ⟨b, o + 2, none⟩ = some (.int .u8 x2) := H.out 2 hlt
        obtain ⟨N, hN⟩ : ∃ N, upN x0 x1 x2 x3 2 = N := ⟨_, rfl⟩
        obtain ⟨N', hN'⟩ : ∃ N', upN x0 x1 x2 x3 (2 + 1) = N' := ⟨_, rfl⟩
        have e2' : bits .or .i64 (N : Int) ((x2 : Int) * 65536) = (N' : Int) := by rw [← hN, ← hN']; exact E2.out
        have hk' : 2 + 1 ≤ m := hlt
        rw [hN]
        go_wp2
        go_roundw
        case rel => exact ⟨2 + 1, _, by go_num, hk', by rw [hN'], rfl⟩
        case measure => simp [intOf]; omega
      | 3, hlt =>
        have hlt' : (3 : Int) < m := by omega
        have c : w.cell? ⟨b, o + 3, none⟩ = some (.int .u8 x3) := H.out 3 hlt
        obtain ⟨N, hN⟩ : ∃ N, upN x0 x1 x2 x3 3 = N := ⟨_, rfl⟩
        obtain ⟨N', hN'⟩ : ∃ N', upN x0 x1 x2 x3 (3 + 1) = N' := ⟨_, rfl⟩
        have e3' : bits .or .i64 (N : Int) ((x3 : Int) * 16777216) = (N' : Int) := by rw [← hN, ← hN']; exact E3.out
        have hk' : 3 + 1 ≤ m := hlt
        rw [hN]
        go_wp2
        go_roundw
        case rel => exact ⟨3 + 1, _, by go_num, hk', by rw [hN'], rfl⟩
        case measure => simp [intOf]; omega
      | k + 4, hlt => omega
    · obtain rfl : k = m := by omega
      have hge : (k : Int) ≤ k := by omega
      go_wp2
      go_ret
      exact ⟨rfl, _, rfl⟩
end Go.Proofs.Ytoeohbiofmcdeaa.Bk
