/-
  Entries and addresses as plain numbers: what the document says of them. No walk here.
-/
import Derived.WalkKit
import Derived.Laws.BitsAllLaws
namespace Go.Proofs.Ytdjhkacjgdnglaa
open Go.RowKit

structure Ent where
  p : Bool
  w : Bool
  mfn : Int
deriving DecidableEq
def Ent.val (e : Ent) : Value := .agg #[.bool e.p, .bool e.w, .int .i64 e.mfn]
def ent0 : Ent := ⟨false, false, 0⟩
def b2i (b : Bool) : Int := if b then 1 else 0
def packV (e : Ent) : Int × Int :=
  if e.mfn < 0 ∨ 16777216 ≤ e.mfn ∨ (e.p = false ∧ (e.w = true ∨ e.mfn ≠ 0)) then (0, 1) else (e.mfn * 256 + b2i e.p + 2 * b2i e.w, 0)
def unpackV (n : Nat) : Ent × Int :=
  if n % 2 = 0 then (ent0, 0) else if 3 < n % 256 then (ent0, 4) else (⟨true, decide (n % 4 = 3), (n / 256 : Nat)⟩, 0)
def splitV (va : Nat) : Nat × Nat × Nat × Int := if 1048576 ≤ va then (0, 0, 0, 1) else (va / 16384, va / 256 % 64, va % 256, 0)
def joinOk (a b c : Int) : Prop := 0 ≤ a ∧ a ≤ 63 ∧ 0 ≤ b ∧ b ≤ 63 ∧ 0 ≤ c ∧ c ≤ 255
instance (a b c : Int) : Decidable (joinOk a b c) := by unfold joinOk; infer_instance
def joinV (a b c : Int) : Int × Int := if joinOk a b c then ((a * 64 + b) * 256 + c, 0) else (0, 1)

theorem or_low (i a b : Nat) (h : b < 2 ^ i) : b ||| a * 2 ^ i = a * 2 ^ i + b := by
  rw [Nat.mul_comm, Nat.or_comm, ← Nat.two_pow_add_eq_or_of_lt h]
theorem u32_or_low (i a b : Nat) (h : b < 2 ^ i) (ha : a * 2 ^ i < 4294967296) (hb : b < 4294967296) : bits .or .u32 (b : Int) ((a * 2 ^ i : Nat) : Int) = ((a * 2 ^ i + b : Nat) : Int) := by
  rw [u32_or_nat b (a * 2 ^ i) hb ha, or_low i a b h]
theorem u32_or_high (i a b : Nat) (h : b < 2 ^ i) (ha : a * 2 ^ i < 4294967296) (hb : b < 4294967296) : bits .or .u32 ((a * 2 ^ i : Nat) : Int) (b : Int) = ((a * 2 ^ i + b : Nat) : Int) := by
  rw [u32_or_nat (a * 2 ^ i) b ha hb, Nat.or_comm, or_low i a b h]

theorem and_one (n : Nat) (h : n < 4294967296) : (bits .and .u32 (n : Int) 1 != 0) = decide (n % 2 = 1) := by
  have := u32_and_nat n 1 h (by omega)
  rw [show ((1 : Nat) : Int) = 1 from rfl] at this
  rw [this, nat_mask1]
  have := Nat.mod_two_eq_zero_or_one n
  rcases this with e | e <;> rw [e] <;> rfl
theorem and_252 (n : Nat) (h : n < 4294967296) : (bits .and .u32 (n : Int) 252 != 0) = decide (3 < n % 256) := by
  have := u32_and_nat n 252 h (by omega)
  rw [show ((252 : Nat) : Int) = 252 from rfl] at this
  rw [this]
  have e : n &&& 252 = (n % 256) / 4 * 4 := by
    have h1 : n &&& 252 = (n &&& 255) &&& 252 := by rw [Nat.and_assoc]; rfl
    rw [h1, nat_mask8]
    have : ∀ m, m < 256 → m &&& 252 = m / 4 * 4 := by decide +kernel
    exact this _ (Nat.mod_lt _ (by omega))
  rw [e]
  by_cases g : 3 < n % 256
  · simp [g]; omega
  · have : n % 256 / 4 = 0 := by omega
    simp [g, this]
theorem pack_bits (p w : Bool) (m : Nat) (hm : m < 16777216) : bits .or .u32 (bits .or .u32 (b2i p % 4294967296) (b2i w * 2 % 4294967296)) ((m : Int) * 256) = (m : Int) * 256 + b2i p + 2 * b2i w := by
  have h1 : bits .or .u32 (b2i p % 4294967296) (b2i w * 2 % 4294967296) = (((if p then 1 else 0) + 2 * (if w then 1 else 0) : Nat) : Int) := by cases p <;> cases w <;> decide +kernel
  rw [h1]
  have e : ((m * 2 ^ 8 : Nat) : Int) = (m : Int) * 256 := by rw [Int.natCast_mul]; rfl
  rw [← e, u32_or_low 8 m _ (by cases p <;> cases w <;> decide) (by omega) (by cases p <;> cases w <;> decide)]
  clear e h1
  cases p <;> cases w <;> simp only [b2i, Bool.false_eq_true, if_true, if_false] <;> omega
theorem u32_or_mul (i k a b : Nat) (hk : 2 ^ i = k) (h : b < k) (ha : a * k < 4294967296) (hb : b < 4294967296) : bits .or .u32 ((a : Int) * (k : Int)) (b : Int) = (a : Int) * k + b := by
  subst hk
  have := u32_or_high i a b h ha hb
  rw [Int.natCast_mul] at this
  rw [this, Int.natCast_add, Int.natCast_mul]
theorem join_bits (a b c : Nat) (ha : a ≤ 63) (hb : b ≤ 63) (hc : c ≤ 255) : bits .or .u32 (bits .or .u32 ((a : Int) * 16384) ((b : Int) * 256)) (c : Int) = ((a : Int) * 64 + b) * 256 + c := by
  have h1 := u32_or_mul 14 16384 a (b * 256) (by decide +kernel) (by omega) (by omega) (by omega)
  have h2 := u32_or_mul 8 256 (a * 64 + b) c (by decide +kernel) (by omega) (by omega) (by omega)
  have e2 : ((b * 256 : Nat) : Int) = (b : Int) * 256 := by rw [Int.natCast_mul]; rfl
  have e3 : ((a * 64 + b : Nat) : Int) = (a : Int) * 64 + b := by rw [Int.natCast_add, Int.natCast_mul]; rfl
  rw [e2] at h1
  rw [e3] at h2
  have e4 : (a : Int) * 16384 + (b : Int) * 256 = ((a : Int) * 64 + b) * 256 := by omega
  exact (congrArg (fun x => bits .or .u32 x (c : Int)) (h1.trans e4)).trans h2

end Go.Proofs.Ytdjhkacjgdnglaa
