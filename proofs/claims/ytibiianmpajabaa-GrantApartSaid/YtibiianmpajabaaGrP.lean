/-
  Entries of grants as plain numbers: what the document says of them; bits. No walk here.
-/
import Derived.WalkKit
import Derived.Laws.BitsAllLaws
set_option linter.unusedSimpArgs false
set_option linter.unusedVariables false
namespace Go.Proofs.Ytibiianmpajabaa
open Go.RowKit

structure GV where
  k : Int
  ro : Bool
  sub : Bool
  dom : Int
  gpfn : Int
  off : Int
  len : Int
deriving DecidableEq
def GV.val (g : GV) : Value := .agg #[.int .i64 g.k, .bool g.ro, .bool g.sub, .int .i64 g.dom, .int .i64 g.gpfn, .int .i64 g.off, .int .i64 g.len]
def g0 : GV := ⟨0, false, false, 0, 0, 0, 0⟩
/-- eight bytes as an entry -/
def unG (b : Nat → Nat) : GV × Int :=
  if 16 ≤ b 0 ∨ b 1 ≠ 0 ∨ b 0 % 4 = 3 then (g0, 60) else
  if b 0 / 8 = 1 then (if 256 < b 6 + b 7 + 1 then (g0, 60) else (⟨(b 0 % 4 : Nat), decide (b 0 / 4 % 2 = 1), true, (b 2 + 256 * b 3 : Nat), (b 4 + 256 * b 5 : Nat), (b 6 : Nat), (b 7 + 1 : Nat)⟩, 0))
  else (⟨(b 0 % 4 : Nat), decide (b 0 / 4 % 2 = 1), false, (b 2 + 256 * b 3 : Nat), (b 4 + 256 * b 5 : Nat), 0, 256⟩, 0)
theorem ofInt_i64 (a : Nat) (ha : a < 9223372036854775808) : (BitVec.ofInt 64 (a : Int)).toNat = a := by
  rw [BitVec.ofInt_natCast, BitVec.toNat_ofNat]; exact Nat.mod_eq_of_lt (by omega)
theorem i64_and_nat (a b : Nat) (ha : a < 9223372036854775808) (hb : b < 9223372036854775808) : bits .and .i64 (a : Int) (b : Int) = ((a &&& b : Nat) : Int) := by
  have hx : a &&& b < 2 ^ 63 := Nat.and_lt_two_pow _ (by omega)
  show IntKind.i64.wrap ((BitVec.ofInt 64 (a : Int) &&& BitVec.ofInt 64 (b : Int)).toNat : Int) = _
  rw [BitVec.toNat_and, ofInt_i64 a ha, ofInt_i64 b hb, IntKind.wrap_i64]
  omega
theorem i64_or_nat (a b : Nat) (ha : a < 9223372036854775808) (hb : b < 9223372036854775808) : bits .or .i64 (a : Int) (b : Int) = ((a ||| b : Nat) : Int) := by
  have hx : a ||| b < 2 ^ 63 := Nat.or_lt_two_pow (by omega) (by omega)
  show IntKind.i64.wrap ((BitVec.ofInt 64 (a : Int) ||| BitVec.ofInt 64 (b : Int)).toNat : Int) = _
  rw [BitVec.toNat_or, ofInt_i64 a ha, ofInt_i64 b hb, IntKind.wrap_i64]
  omega
theorem grOrWord (x y : Nat) (hx : x < 256) (hy : y < 256) : bits .or .i64 (x : Int) ((y : Int) * 256) = ((x + 256 * y : Nat) : Int) := by
  have e : (y : Int) * 256 = ((y * 2 ^ 8 : Nat) : Int) := by rw [Int.natCast_mul]; rfl
  rw [e, i64_or_nat x (y * 2 ^ 8) (by omega) (by omega), Nat.mul_comm, Nat.or_comm, ← Nat.two_pow_add_eq_or_of_lt (show x < 2 ^ 8 by omega)]
  congr 1
  omega
theorem and3 (n : Nat) (h : n < 65536) : bits .and .i64 (n : Int) 3 = ((n % 4 : Nat) : Int) := by
  have := i64_and_nat n 3 (by omega) (by omega)
  rw [show ((3 : Nat) : Int) = 3 from rfl] at this
  rw [this, show (3 : Nat) = 2 ^ 2 - 1 from rfl, Nat.and_two_pow_sub_one_eq_mod]
theorem and4 (n : Nat) (h : n < 65536) : (bits .and .i64 (n : Int) 4 != 0) = decide (n / 4 % 2 = 1) := by
  have := i64_and_nat n 4 (by omega) (by omega)
  rw [show ((4 : Nat) : Int) = 4 from rfl] at this
  rw [this]
  have e : n &&& 4 = n / 4 % 2 * 4 := by
    have h1 : n &&& 4 = (n &&& 15) &&& 4 := by rw [Nat.and_assoc]; rfl
    rw [h1, show (15 : Nat) = 2 ^ 4 - 1 from rfl, Nat.and_two_pow_sub_one_eq_mod]
    have : ∀ m, m < 16 → m &&& 4 = m / 4 % 2 * 4 := by decide
    rw [this _ (Nat.mod_lt _ (by decide))]
    omega
  rw [e]
  by_cases g : n / 4 % 2 = 1
  · simp [g]
  · have : n / 4 % 2 = 0 := by omega
    simp [this]
theorem and8 (n : Nat) (h : n < 65536) : (bits .and .i64 (n : Int) 8 != 0) = decide (n / 8 % 2 = 1) := by
  have := i64_and_nat n 8 (by omega) (by omega)
  rw [show ((8 : Nat) : Int) = 8 from rfl] at this
  rw [this]
  have e : n &&& 8 = n / 8 % 2 * 8 := by
    have h1 : n &&& 8 = (n &&& 15) &&& 8 := by rw [Nat.and_assoc]; rfl
    rw [h1, show (15 : Nat) = 2 ^ 4 - 1 from rfl, Nat.and_two_pow_sub_one_eq_mod]
    have : ∀ m, m < 16 → m &&& 8 = m / 8 % 2 * 8 := by decide
    rw [this _ (Nat.mod_lt _ (by decide))]
    omega
  rw [e]
  by_cases g : n / 8 % 2 = 1
  · simp [g]
  · have : n / 8 % 2 = 0 := by omega
    simp [this]
/-- eight bytes in memory -/
structure B8 (w : World) (g o : Nat) (b : Nat → Nat) : Prop where
  c : ∀ k, k < 8 → w.cell? ⟨g, o + k, none⟩ = some (.int .u8 (b k : Nat))
  lt : ∀ k, k < 8 → b k < 256
theorem B8.grown {w w' : World} {g o : Nat} {b : Nat → Nat} (h : B8 w g o b) (hg : w.grownBy w' none) : B8 w' g o b := ⟨fun k hk => hg.cell (h.c k hk) (by simp), h.lt⟩
end Go.Proofs.Ytibiianmpajabaa
