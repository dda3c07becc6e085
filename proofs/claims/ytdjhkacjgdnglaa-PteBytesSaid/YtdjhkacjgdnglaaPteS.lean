/-
  Tables, addresses, walks as plain functions on the machine. No walk of code here.
-/
import Derived.Test.YtdjhkacjgdnglaaPteP
import Derived.Test.YtdjhkacjgdnglaaSpec
namespace Go.Proofs.Ytdjhkacjgdnglaa
open Go.RowKit

def word4 (bs : Nat → UInt8) (o : Nat) : Nat := (bs o).toNat + 256 * (bs (o + 1)).toNat + 65536 * (bs (o + 2)).toNat + 16777216 * (bs (o + 3)).toNat
theorem word4_lt (bs : Nat → UInt8) (o : Nat) : word4 bs o < 4294967296 := by
  have h0 := (bs o).toNat_lt; have h1 := (bs (o + 1)).toNat_lt; have h2 := (bs (o + 2)).toNat_lt; have h3 := (bs (o + 3)).toNat_lt
  unfold word4; omega
def idx (k : Int) : Bool := decide (0 ≤ k) && decide (k < 64)
def Mach.pat (M : Mach) (t i : Int) : Nat × Int := if idx i = false then (0, 1) else if M.is t = false then (0, 1) else (word4 (M.fr t.toNat).bs (4 * i.toNat), 0)
theorem Mach.pat_lt (M : Mach) (t i : Int) : (M.pat t i).1 < 4294967296 := by
  unfold Mach.pat
  split
  · decide
  split
  · decide
  exact word4_lt _ _
theorem Mach.pat_err (M : Mach) (t i : Int) : (M.pat t i).2 = 0 ∨ ((M.pat t i).2 = 1 ∧ (M.pat t i).1 = 0) := by
  unfold Mach.pat
  split
  · exact .inr ⟨rfl, rfl⟩
  split
  · exact .inr ⟨rfl, rfl⟩
  exact .inl rfl
def entV (r : Nat × Int) : Ent × Int := if r.2 ≠ 0 then (ent0, r.2) else if r.1 % 2 = 0 then (ent0, 40) else unpackV r.1
def Mach.pent (M : Mach) (t i : Int) : Ent × Int := entV (M.pat t i)
theorem unpackV_err (n : Nat) : (unpackV n).2 = 0 ∨ (unpackV n).2 = 4 := by
  unfold unpackV
  split
  · exact .inl rfl
  split
  · exact .inr rfl
  exact .inl rfl
theorem ent0_mfn : 0 ≤ ent0.mfn ∧ ent0.mfn < 16777216 := by decide
theorem Mach.pent_mfn (M : Mach) (t i : Int) : 0 ≤ (M.pent t i).1.mfn ∧ (M.pent t i).1.mfn < 16777216 := by
  have h := M.pat_lt t i
  unfold Mach.pent entV
  split
  · exact ent0_mfn
  split
  · exact ent0_mfn
  unfold unpackV
  split
  · exact ent0_mfn
  split
  · exact ent0_mfn
  simp only; omega
def Mach.walk2 (M : Mach) (y : Ent × Int) (va : Nat) (wr : Bool) : Int × Int × Int :=
  if y.2 ≠ 0 then (0, 0, y.2) else if (wr && !y.1.w) = true then (0, 0, 41) else if M.is y.1.mfn = false then (0, 0, 1) else (y.1.mfn, ((va % 256 : Nat) : Int), 0)
def Mach.walk1 (M : Mach) (x : Ent × Int) (va : Nat) (wr : Bool) : Int × Int × Int :=
  if x.2 ≠ 0 then (0, 0, x.2) else M.walk2 (M.pent x.1.mfn ((va / 256 % 64 : Nat) : Int)) va wr
def Mach.walkV (M : Mach) (root : Int) (va : Nat) (wr : Bool) : Int × Int × Int :=
  if 1048576 ≤ va then (0, 0, 1) else M.walk1 (M.pent root ((va / 16384 : Nat) : Int)) va wr
def walk3 (r : Int × Int × Int) : Value := .tuple #[.int .i64 r.1, .int .i64 r.2.1, .int .i64 r.2.2]

/-- the bytes of a word put together, one by one -/
def accU (x0 x1 x2 x3 : Nat) : Nat → Nat
  | 0 => 0
  | 1 => x0
  | 2 => x0 + 256 * x1
  | 3 => x0 + 256 * x1 + 65536 * x2
  | _ => x0 + 256 * x1 + 65536 * x2 + 16777216 * x3
theorem u32_or_mul' (i k a b : Nat) (hk : 2 ^ i = k) (h : b < k) (ha : a * k < 4294967296) (hb : b < 4294967296) : bits .or .u32 (b : Int) ((a : Int) * (k : Int)) = (b : Int) + k * a := by
  subst hk
  have := u32_or_low i a b h ha hb
  rw [Int.natCast_mul] at this
  rw [this, Int.natCast_add, Int.natCast_mul, Int.add_comm, Int.mul_comm]
theorem int_eq {k : IntKind} {a b : Int} (h : a = b) : Value.int k a = Value.int k b := by rw [h]
theorem or_zero (x : Nat) (h : x < 4294967296) : bits .or .u32 0 (x : Int) = x := by
  have := u32_or_nat 0 x (by omega) h
  rw [Nat.zero_or] at this
  exact this
theorem or_two (x0 x1 : Nat) (h0 : x0 < 256) (h1 : x1 < 256) : bits .or .u32 (x0 : Int) ((x1 : Int) * 256) = (x0 : Int) + 256 * x1 := u32_or_mul' 8 256 x1 x0 (by decide +kernel) h0 (by omega) (by omega)
theorem or_three (x0 x1 x2 : Nat) (h0 : x0 < 256) (h1 : x1 < 256) (h2 : x2 < 256) : bits .or .u32 ((x0 : Int) + 256 * x1) ((x2 : Int) * 65536) = (x0 : Int) + 256 * x1 + 65536 * x2 := by
  have := u32_or_mul' 16 65536 x2 (x0 + 256 * x1) (by decide +kernel) (by omega) (by omega) (by omega)
  rw [Int.natCast_add, Int.natCast_mul] at this
  exact this
theorem or_four (x0 x1 x2 x3 : Nat) (h0 : x0 < 256) (h1 : x1 < 256) (h2 : x2 < 256) (h3 : x3 < 256) : bits .or .u32 ((x0 : Int) + 256 * x1 + 65536 * x2) ((x3 : Int) * 16777216) = (x0 : Int) + 256 * x1 + 65536 * x2 + 16777216 * x3 := by
  have := u32_or_mul' 24 16777216 x3 (x0 + 256 * x1 + 65536 * x2) (by decide +kernel) (by omega) (by omega) (by omega)
  rw [Int.natCast_add, Int.natCast_add, Int.natCast_mul, Int.natCast_mul] at this
  exact this
end Go.Proofs.Ytdjhkacjgdnglaa
