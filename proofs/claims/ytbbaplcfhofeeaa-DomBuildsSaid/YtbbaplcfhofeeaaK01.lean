/-
  Entries and addresses as plain numbers: what the document says of them. No walk here.
-/
import Derived.WalkKit
import Derived.Laws.BitsAllLaws
import Derived.Maps.AppendAt
set_option linter.unusedSimpArgs false
set_option linter.unusedVariables false
namespace Go.Proofs.Ytbbaplcfhofeeaa
open Go.RowKit

structure Ent where
  p : Bool
  w : Bool
  mfn : Int
deriving DecidableEq
def Ent.val (e : Ent) : Value := .agg #[.bool e.p, .bool e.w, .int .i64 e.mfn]
def ent0 : Ent := ⟨false, false, 0⟩
def b2i (b : Bool) : Int := if b then 1 else 0
def ptPackV (e : Ent) : Int × Int :=
  if e.mfn < 0 ∨ 16777216 ≤ e.mfn ∨ (e.p = false ∧ (e.w = true ∨ e.mfn ≠ 0)) then (0, 1) else (e.mfn * 256 + b2i e.p + 2 * b2i e.w, 0)
def unpackV (n : Nat) : Ent × Int :=
  if n % 2 = 0 then (ent0, 0) else if 3 < n % 256 then (ent0, 4) else (⟨true, decide (n % 4 = 3), (n / 256 : Nat)⟩, 0)
def splitV (va : Nat) : Nat × Nat × Nat × Int := if 1048576 ≤ va then (0, 0, 0, 1) else (va / 16384, va / 256 % 64, va % 256, 0)
def joinOk (a b c : Int) : Prop := 0 ≤ a ∧ a ≤ 63 ∧ 0 ≤ b ∧ b ≤ 63 ∧ 0 ≤ c ∧ c ≤ 255
instance (a b c : Int) : Decidable (joinOk a b c) := by unfold joinOk; infer_instance
def joinV (a b c : Int) : Int × Int := if joinOk a b c then ((a * 64 + b) * 256 + c, 0) else (0, 1)

theorem or_low (i a b : Nat) (h : b < 2 ^ i) : b ||| a * 2 ^ i = a * 2 ^ i + b := by
  rw [Nat.mul_comm, Nat.or_comm, ← Nat.two_pow_add_eq_or_of_lt h]
theorem u32_or_low (i a b : Nat) (h : b < 2 ^ i) (ha : a * 2 ^ i < 4294967296) (hb : b < 4294967296) : bits .or .u32 (b : Int) ((a * 2 ^ i : Nat) : Int) = ((a * 2 ^ i + b : Nat) : Int) := by
  rw [u32_or_nat b (a * 2 ^ i) hb ha, or_low i a b h]
theorem u32_or_high (i a b : Nat) (h : b < 2 ^ i) (ha : a * 2 ^ i < 4294967296) (hb : b < 4294967296) : bits .or .u32 ((a * 2 ^ i : Nat) : Int) (b : Int) = ((a * 2 ^ i + b : Nat) : Int) := by
  rw [u32_or_nat (a * 2 ^ i) b ha hb, Nat.or_comm, or_low i a b h]

theorem and_one (n : Nat) (h : n < 4294967296) : (bits .and .u32 (n : Int) 1 != 0) = decide (n % 2 = 1) := by
  have := u32_and_nat n 1 h (by omega)
  rw [show ((1 : Nat) : Int) = 1 from rfl] at this
  rw [this, nat_mask1]
  have := Nat.mod_two_eq_zero_or_one n
  rcases this with e | e <;> rw [e] <;> rfl
theorem and_252 (n : Nat) (h : n < 4294967296) : (bits .and .u32 (n : Int) 252 != 0) = decide (3 < n % 256) := by
  have := u32_and_nat n 252 h (by omega)
  rw [show ((252 : Nat) : Int) = 252 from rfl] at this
  rw [this]
  have e : n &&& 252 = (n % 256) / 4 * 4 := by
    have h1 : n &&& 252 = (n &&& 255) &&& 252 := by rw [Nat.and_assoc]; rfl
    rw [h1, nat_mask8]
    have : ∀ m, m < 256 → m &&& 252 = m / 4 * 4 := by decide +kernel
    exact this _ (Nat.mod_lt _ (by omega))
  rw [e]
  by_cases g : 3 < n % 256
  · simp [g]; omega
  · have : n % 256 / 4 = 0 := by omega
    simp [g, this]
theorem pack_bits (p w : Bool) (m : Nat) (hm : m < 16777216) : bits .or .u32 (bits .or .u32 (b2i p % 4294967296) (b2i w * 2 % 4294967296)) ((m : Int) * 256) = (m : Int) * 256 + b2i p + 2 * b2i w := by
  have h1 : bits .or .u32 (b2i p % 4294967296) (b2i w * 2 % 4294967296) = (((if p then 1 else 0) + 2 * (if w then 1 else 0) : Nat) : Int) := by cases p <;> cases w <;> decide +kernel
  rw [h1]
  have e : ((m * 2 ^ 8 : Nat) : Int) = (m : Int) * 256 := by rw [Int.natCast_mul]; rfl
  rw [← e, u32_or_low 8 m _ (by cases p <;> cases w <;> decide) (by omega) (by cases p <;> cases w <;> decide)]
  clear e h1
  cases p <;> cases w <;> simp only [b2i, Bool.false_eq_true, if_true, if_false] <;> omega
theorem u32_or_mul (i k a b : Nat) (hk : 2 ^ i = k) (h : b < k) (ha : a * k < 4294967296) (hb : b < 4294967296) : bits .or .u32 ((a : Int) * (k : Int)) (b : Int) = (a : Int) * k + b := by
  subst hk
  have := u32_or_high i a b h ha hb
  rw [Int.natCast_mul] at this
  rw [this, Int.natCast_add, Int.natCast_mul]
theorem join_bits (a b c : Nat) (ha : a ≤ 63) (hb : b ≤ 63) (hc : c ≤ 255) : bits .or .u32 (bits .or .u32 ((a : Int) * 16384) ((b : Int) * 256)) (c : Int) = ((a : Int) * 64 + b) * 256 + c := by
  have h1 := u32_or_mul 14 16384 a (b * 256) (by decide +kernel) (by omega) (by omega) (by omega)
  have h2 := u32_or_mul 8 256 (a * 64 + b) c (by decide +kernel) (by omega) (by omega) (by omega)
  have e2 : ((b * 256 : Nat) : Int) = (b : Int) * 256 := by rw [Int.natCast_mul]; rfl
  have e3 : ((a * 64 + b : Nat) : Int) = (a : Int) * 64 + b := by rw [Int.natCast_add, Int.natCast_mul]; rfl
  rw [e2] at h1
  rw [e3] at h2
  have e4 : (a : Int) * 16384 + (b : Int) * 256 = ((a : Int) * 64 + b) * 256 := by omega
  exact (congrArg (fun x => bits .or .u32 x (c : Int)) (h1.trans e4)).trans h2

end Go.Proofs.Ytbbaplcfhofeeaa

/-
  Plain facts on memory: the machine of package phys as one block of cells. No walk here.
-/
set_option linter.unusedSimpArgs false
set_option linter.unusedVariables false
namespace Go.Proofs.Ytbbaplcfhofeeaa
open Go.RowKit

/-- One frame: owner, type, count, total, its bytes. -/
structure Fr where
  owner : Int
  ty : Int
  cnt : Int
  tot : Int
  bs : Nat → UInt8

/-- The machine: its size, its 256 frames. -/
structure Mach where
  n : Int
  fr : Nat → Fr

def Fr.cell (f : Fr) : Nat → Value
  | 0 => .int .i64 f.owner
  | 1 => .int .i64 f.ty
  | 2 => .int .i64 f.cnt
  | 3 => .int .i64 f.tot
  | k + 4 => .int .u8 (f.bs k).toNat

def Mach.cell (M : Mach) : Nat → Value
  | 0 => .int .i64 M.n
  | k + 1 => (M.fr (k / 260)).cell (k % 260)

def cellsN : Nat := 1 + 256 * 260
def Mach.cells (M : Mach) : Array Value := ⟨(List.range cellsN).map M.cell⟩
theorem cellsN_eq : cellsN = 66561 := rfl
def Mach.upd (M : Mach) (i : Nat) (f : Fr) : Mach := { M with fr := fun j => if j = i then f else M.fr j }

theorem Mach.size_cells (M : Mach) : M.cells.size = cellsN := by simp [Mach.cells]
theorem Mach.get_cells (M : Mach) (k : Nat) (h : k < cellsN) : M.cells[k]? = some (M.cell k) := by simp [Mach.cells, h]
theorem Mach.cells_ext {M : Mach} {cs : Array Value} (hs : cs.size = cellsN) (h : ∀ k, k < cellsN → cs[k]? = some (M.cell k)) : cs = M.cells := by
  apply Array.ext_getElem?
  intro k
  by_cases hk : k < cellsN
  · rw [h k hk, M.get_cells k hk]
  · rw [Array.getElem?_eq_none (by omega), Array.getElem?_eq_none (by rw [M.size_cells]; omega)]
theorem Mach.cell_at (M : Mach) (i r : Nat) (hr : r < 260) : M.cell (1 + i * 260 + r) = (M.fr i).cell r := by
  rw [show 1 + i * 260 + r = (i * 260 + r) + 1 by omega]
  show (M.fr ((i * 260 + r) / 260)).cell ((i * 260 + r) % 260) = _
  rw [show (i * 260 + r) / 260 = i by omega, show (i * 260 + r) % 260 = r by omega]
theorem at_lt {i r : Nat} (hi : i < 256) (hr : r < 260) : 1 + i * 260 + r < cellsN := by unfold cellsN; omega
attribute [irreducible] Mach.cells cellsN
theorem Mach.upd_same (M : Mach) (i : Nat) (f : Fr) : (M.upd i f).fr i = f := by simp [Mach.upd]
theorem Mach.upd_other (M : Mach) (i j : Nat) (f : Fr) (h : j ≠ i) : (M.upd i f).fr j = M.fr j := by simp [Mach.upd, h]
theorem Mach.cell_other (M : Mach) (i k : Nat) (f : Fr) (h : k < 1 + i * 260 ∨ 1 + i * 260 + 260 ≤ k) : (M.upd i f).cell k = M.cell k := by
  cases k with
  | zero => rfl
  | succ k =>
    show ((M.upd i f).fr (k / 260)).cell (k % 260) = _
    rw [Mach.upd_other _ _ _ _ (by omega)]
    rfl
/-- every cell is an index into a frame, or the size -/
theorem split_at {k : Nat} (h : k < cellsN) : k = 0 ∨ ∃ i r, i < 256 ∧ r < 260 ∧ k = 1 + i * 260 + r := by
  rw [cellsN_eq] at h
  cases k with
  | zero => exact .inl rfl
  | succ k => exact .inr ⟨k / 260, k % 260, by omega, by omega, by omega⟩

/-- Block b is the machine M. -/
def PM (w : World) (b : Nat) (M : Mach) : Prop := w.heap[b]? = some (.cells M.cells 68 (0, 0))

theorem PM.lt {w : World} {b : Nat} {M : Mach} (h : PM w b M) : b < w.heap.size := (Array.getElem?_eq_some_iff.1 h).1
theorem PM.cell {w : World} {b : Nat} {M : Mach} (h : PM w b M) (k : Nat) (hk : k < cellsN) : w.cell? ⟨b, k, none⟩ = some (M.cell k) := by
  rw [cell_of_row w b k _ _ _ h, M.get_cells k hk]
theorem PM.size {w : World} {b : Nat} {M : Mach} (h : PM w b M) : w.cell? ⟨b, 0, none⟩ = some (.int .i64 M.n) := h.cell 0 (by rw [cellsN_eq]; omega)
theorem PM.at {w : World} {b : Nat} {M : Mach} (h : PM w b M) {i r : Nat} (hi : i < 256) (hr : r < 260) : w.cell? ⟨b, 1 + i * 260 + r, none⟩ = some ((M.fr i).cell r) := by
  rw [h.cell _ (at_lt hi hr), M.cell_at i r hr]
theorem PM.owner {w : World} {b : Nat} {M : Mach} (h : PM w b M) {i : Nat} (hi : i < 256) : w.cell? ⟨b, 1 + i * 260, none⟩ = some (.int .i64 (M.fr i).owner) := h.at (r := 0) hi (by omega)
theorem PM.ty {w : World} {b : Nat} {M : Mach} (h : PM w b M) {i : Nat} (hi : i < 256) : w.cell? ⟨b, 1 + i * 260 + 1, none⟩ = some (.int .i64 (M.fr i).ty) := h.at (r := 1) hi (by omega)
theorem PM.cnt {w : World} {b : Nat} {M : Mach} (h : PM w b M) {i : Nat} (hi : i < 256) : w.cell? ⟨b, 1 + i * 260 + 2, none⟩ = some (.int .i64 (M.fr i).cnt) := h.at (r := 2) hi (by omega)
theorem PM.tot {w : World} {b : Nat} {M : Mach} (h : PM w b M) {i : Nat} (hi : i < 256) : w.cell? ⟨b, 1 + i * 260 + 3, none⟩ = some (.int .i64 (M.fr i).tot) := h.at (r := 3) hi (by omega)
theorem PM.byte {w : World} {b : Nat} {M : Mach} (h : PM w b M) {i k : Nat} (hi : i < 256) (hk : k < 256) : w.cell? ⟨b, 1 + i * 260 + 4 + k, none⟩ = some (.int .u8 ((M.fr i).bs k).toNat) := by
  rw [show 1 + i * 260 + 4 + k = 1 + i * 260 + (k + 4) by omega]
  exact h.at (r := k + 4) hi (by omega)
theorem PM.frozen {w : World} {b : Nat} {M : Mach} (h : PM w b M) (k : Nat) : w.frozen? ⟨b, k, none⟩ = false := frozen_of_row w b k _ _ h
theorem PM.grown {w w' : World} {b : Nat} {M : Mach} {row : Option Nat} (h : PM w b M) (hg : w.grownBy w' row) (hr : some b ≠ row) : PM w' b M := (hg.block b h.lt hr).trans h
theorem PM.alloc {w : World} {b : Nat} {M : Mach} (h : PM w b M) (o : Obj) : PM (w.alloc o) b M := h.grown (World.grownBy_alloc w o none) (by simp)
theorem PM.drew {w : World} {b : Nat} {M : Mach} (h : PM w b M) : PM w.drew b M := h
theorem PM.setOther {w : World} {b : Nat} {M : Mach} (h : PM w b M) (a : Addr) (hne : b ≠ a.block) (v : Value) : PM (w.setCell a v) b M := (heap_setCell_other w a b v hne).trans h

/-- One cell is written. -/
theorem PM.set {w : World} {b : Nat} {M : Mach} (h : PM w b M) {k : Nat} (hk : k < cellsN) {v : Value} {M' : Mach} (hv : M'.cell k = v)
    (ho : ∀ j, j < cellsN → j ≠ k → M'.cell j = M.cell j) : PM (w.setCell ⟨b, k, none⟩ v) b M' := by
  have e := heap_setCell_same w b k M.cells _ v h
  unfold PM
  rw [e]
  refine congrArg (fun c => some (Obj.cells c 68 (0, 0))) ?_
  refine Mach.cells_ext (by simp [M.size_cells]) fun j hj => ?_
  rw [Array.getElem?_setIfInBounds]
  by_cases hjk : k = j
  · subst hjk; simp [M.size_cells, hk, hv]
  · rw [if_neg hjk, M.get_cells j hj, ho j hj (fun e => hjk e.symm)]
theorem PM.setFr {w : World} {b : Nat} {M : Mach} (h : PM w b M) {i r : Nat} (hi : i < 256) (hr : r < 260) {v : Value} {f : Fr} (hv : f.cell r = v)
    (ho : ∀ q, q < 260 → q ≠ r → f.cell q = (M.fr i).cell q) : PM (w.setCell ⟨b, 1 + i * 260 + r, none⟩ v) b (M.upd i f) := by
  refine h.set (at_lt hi hr) (by rw [Mach.cell_at _ _ _ hr, Mach.upd_same, hv]) fun j hj hjk => ?_
  rcases split_at hj with rfl | ⟨i', r', hi', hr', rfl⟩
  · rfl
  · rw [Mach.cell_at _ _ _ hr', Mach.cell_at _ _ _ hr']
    by_cases he : i' = i
    · subst he; rw [Mach.upd_same, ho r' hr' (by omega)]
    · rw [Mach.upd_other _ _ _ _ he]
theorem fr_ext0 {f g : Fr} (h1 : f.owner = g.owner) (h2 : f.ty = g.ty) (h3 : f.cnt = g.cnt) (h4 : f.tot = g.tot) (h5 : ∀ k, k < 256 → f.bs k = g.bs k) (q : Nat) (hq : q < 260) : f.cell q = g.cell q := by
  match q, hq with
  | 0, _ => simp [Fr.cell, h1]
  | 1, _ => simp [Fr.cell, h2]
  | 2, _ => simp [Fr.cell, h3]
  | 3, _ => simp [Fr.cell, h4]
  | k + 4, hq => simp [Fr.cell, h5 k (by omega)]
theorem PM.setOwner {w : World} {b : Nat} {M : Mach} (h : PM w b M) {i : Nat} (hi : i < 256) (x : Int) : PM (w.setCell ⟨b, 1 + i * 260, none⟩ (.int .i64 x)) b (M.upd i { M.fr i with owner := x }) :=
  h.setFr (r := 0) hi (by omega) rfl fun q _ hq => by match q, hq with | 0, h => exact absurd rfl h | 1, _ => rfl | 2, _ => rfl | 3, _ => rfl | k + 4, _ => rfl
theorem PM.setTy {w : World} {b : Nat} {M : Mach} (h : PM w b M) {i : Nat} (hi : i < 256) (x : Int) : PM (w.setCell ⟨b, 1 + i * 260 + 1, none⟩ (.int .i64 x)) b (M.upd i { M.fr i with ty := x }) :=
  h.setFr (r := 1) hi (by omega) rfl fun q _ hq => by match q, hq with | 0, _ => rfl | 1, h => exact absurd rfl h | 2, _ => rfl | 3, _ => rfl | k + 4, _ => rfl
theorem PM.setCnt {w : World} {b : Nat} {M : Mach} (h : PM w b M) {i : Nat} (hi : i < 256) (x : Int) : PM (w.setCell ⟨b, 1 + i * 260 + 2, none⟩ (.int .i64 x)) b (M.upd i { M.fr i with cnt := x }) :=
  h.setFr (r := 2) hi (by omega) rfl fun q _ hq => by match q, hq with | 0, _ => rfl | 1, _ => rfl | 2, h => exact absurd rfl h | 3, _ => rfl | k + 4, _ => rfl
theorem PM.setTot {w : World} {b : Nat} {M : Mach} (h : PM w b M) {i : Nat} (hi : i < 256) (x : Int) : PM (w.setCell ⟨b, 1 + i * 260 + 3, none⟩ (.int .i64 x)) b (M.upd i { M.fr i with tot := x }) :=
  h.setFr (r := 3) hi (by omega) rfl fun q _ hq => by match q, hq with | 0, _ => rfl | 1, _ => rfl | 2, _ => rfl | 3, h => exact absurd rfl h | k + 4, _ => rfl
theorem Mach.upd_upd (M : Mach) (i : Nat) (f g : Fr) : (M.upd i f).upd i g = M.upd i g := by
  simp only [Mach.upd, Mach.mk.injEq, true_and]
  funext j
  by_cases h : j = i <;> simp [h]

/-- A whole run of cells is written. -/
theorem PM.setRow {w : World} {b : Nat} {M : Mach} (h : PM w b M) {o : Nat} {vs : List Value} (hfit : o + vs.length ≤ cellsN) {M' : Mach} (hv : ∀ j, j < vs.length → vs[j]? = some (M'.cell (o + j)))
    (ho : ∀ j, j < cellsN → j < o ∨ o + vs.length ≤ j → M'.cell j = M.cell j) : PM (w.setRow b (M.cells.toList.take o ++ vs ++ M.cells.toList.drop (o + vs.length)).toArray) b M' := by
  have e := setRow_heap w b M.cells (M.cells.toList.take o ++ vs ++ M.cells.toList.drop (o + vs.length)).toArray _ _ h
  unfold PM
  rw [e]
  congr 2
  have hs := M.size_cells
  have hl : M.cells.toList.length = cellsN := by simpa using hs
  refine Mach.cells_ext (by simp [hs]; omega) fun j hj => ?_
  simp only [List.getElem?_toArray, List.append_assoc]
  by_cases h1 : j < o
  · rw [List.getElem?_append_left (by simp; omega), List.getElem?_take, if_pos h1, ho j hj (.inl h1)]
    simpa using M.get_cells j hj
  · rw [List.getElem?_append_right (by simp; omega)]
    have hmin : (M.cells.toList.take o).length = o := by simp; omega
    rw [hmin]
    by_cases h2 : j < o + vs.length
    · rw [List.getElem?_append_left (by omega), hv (j - o) (by omega)]
      congr 2; omega
    · rw [List.getElem?_append_right (by omega), List.getElem?_drop, ho j hj (.inr (by omega)), show o + vs.length + (j - o - vs.length) = j by omega]
      simpa using M.get_cells j hj

theorem grownBy_setCell (w : World) (b o : Nat) (s : Option Nat) (v : Value) : w.grownBy (w.setCell ⟨b, o, s⟩ v) (some b) :=
  ⟨rfl, rfl, rfl, by simp, fun k _ hk => heap_setCell_other w ⟨b, o, s⟩ k v (fun e => hk (by rw [e]))⟩
theorem hid {p : Prop} (h : p) : Hid p := h
theorem grownBy_setRow (w : World) (b : Nat) (cs : Array Value) : w.grownBy (w.setRow b cs) (some b) :=
  ⟨rfl, rfl, rfl, by simp, fun k _ hk => setRow_other w b k cs (fun e => hk (by rw [e]))⟩
theorem grownBy_drew (w : World) (row : Option Nat) : w.grownBy w.drew row := ⟨rfl, rfl, rfl, Nat.le_refl _, fun _ _ _ => rfl⟩

end Go.Proofs.Ytbbaplcfhofeeaa

/-
  The machine's calls as plain functions. No walk here.
-/
set_option linter.unusedSimpArgs false
set_option linter.unusedVariables false
namespace Go.Proofs.Ytbbaplcfhofeeaa

def blankFr : Fr := ⟨-1, 0, 0, 0, fun _ => 0⟩

structure Fr.ok (f : Fr) : Prop where
  c0 : 0 ≤ f.cnt
  ct : f.cnt ≤ f.tot
  ty0 : 0 ≤ f.ty
  ty3 : f.ty ≤ 3
  z : f.cnt = 0 ↔ f.ty = 0
  lo : -2 ≤ f.owner
  hi : f.owner < 8
  free : f.owner = -1 → f.tot = 0 ∧ ∀ k, k < 256 → f.bs k = 0

/-- the machine is sound, and no frame has more than T references -/
structure Mach.ok (M : Mach) (T : Int) : Prop where
  n1 : 1 ≤ M.n
  n2 : M.n ≤ 256
  fr : ∀ i : Nat, (i : Int) < M.n → (M.fr i).ok ∧ (M.fr i).tot ≤ T

def Mach.is (M : Mach) (i : Int) : Bool := decide (0 ≤ i) && decide (i < M.n)
theorem Mach.is_yes {M : Mach} {i : Int} (h0 : 0 ≤ i) (h : i < M.n) : M.is i = true := by simp [Mach.is, h0, h]
theorem Mach.is_no {M : Mach} {i : Int} (h : i < 0 ∨ M.n ≤ i) : M.is i = false := by
  simp only [Mach.is, Bool.and_eq_false_iff, decide_eq_false_iff_not]; omega
theorem Mach.is_iff {M : Mach} {i : Int} : M.is i = true ↔ 0 ≤ i ∧ i < M.n := by simp [Mach.is]

def Mach.ownedL (M : Mach) (o : Int) : List Nat := (List.range M.n.toNat).filter fun k => (M.fr k).owner == o
def Mach.leftN (M : Mach) : Int := (M.ownedL (-1)).length

/-- what a call answers, and the machine behind it -/
def Mach.alloc (M : Mach) (o : Int) : Int × Int × Mach :=
  if o ≠ -2 ∧ (o < 0 ∨ 8 ≤ o) then (0, 1, M) else
  match M.ownedL (-1) with
  | [] => (0, 10, M)
  | k :: _ => (k, 0, M.upd k { M.fr k with owner := o })
def Mach.free (M : Mach) (i : Int) : Int × Mach :=
  if M.is i = false then (1, M) else
  if (M.fr i.toNat).owner = -1 then (11, M) else
  if (M.fr i.toNat).tot ≠ 0 then (9, M) else (0, M.upd i.toNat blankFr)
def Mach.give (M : Mach) (i to : Int) : Int × Mach :=
  if M.is i = false then (1, M) else
  if to < 0 ∨ 8 ≤ to then (1, M) else
  if (M.fr i.toNat).owner = -1 then (11, M) else
  if (M.fr i.toNat).tot ≠ 0 then (9, M) else (0, M.upd i.toNat { M.fr i.toNat with owner := to })
def Fr.taken (f : Fr) (k : Int) : Fr := if k = 0 then { f with tot := f.tot + 1 } else { f with ty := k, cnt := f.cnt + 1, tot := f.tot + 1 }
def Fr.dropped (f : Fr) (k : Int) : Fr :=
  if k = 0 then { f with tot := f.tot - 1 } else if f.cnt = 1 then { f with ty := 0, cnt := 0, tot := f.tot - 1 } else { f with cnt := f.cnt - 1, tot := f.tot - 1 }
def Mach.take (M : Mach) (i : Nat) (k : Int) : Int × Mach :=
  if k ≠ 0 ∧ (M.fr i).cnt ≠ 0 ∧ (M.fr i).ty ≠ k then (13, M) else (0, M.upd i ((M.fr i).taken k))
def Mach.drop (M : Mach) (i : Nat) (k : Int) : Int × Mach :=
  if (k = 0 ∧ (M.fr i).tot = (M.fr i).cnt) ∨ (k ≠ 0 ∧ (M.fr i).ty ≠ k) then (14, M) else (0, M.upd i ((M.fr i).dropped k))
def Mach.get (M : Mach) (i o k : Int) : Int × Mach :=
  if M.is i = false then (1, M) else
  if k < 0 ∨ 3 < k then (1, M) else
  if (M.fr i.toNat).owner = -1 then (11, M) else
  if (M.fr i.toNat).owner ≠ o then (12, M) else
  M.take i.toNat k
def Mach.put (M : Mach) (i k : Int) : Int × Mach :=
  if M.is i = false then (1, M) else
  if k < 0 ∨ 3 < k then (1, M) else
  M.drop i.toNat k
def inP (off n : Int) : Bool := decide (0 ≤ off) && decide (0 ≤ n) && decide (n ≤ 256 - off)
theorem inP_yes {o n : Int} (h0 : 0 ≤ o) (h1 : 0 ≤ n) (h2 : n ≤ 256 - o) : inP o n = true := by simp [inP, h0, h1, h2]
theorem inP_no {o n : Int} (h : o < 0 ∨ n < 0 ∨ 256 - o < n) : inP o n = false := by
  simp only [inP, Bool.and_eq_false_iff, decide_eq_false_iff_not]; omega
theorem inP_iff {o n : Int} : inP o n = true ↔ 0 ≤ o ∧ 0 ≤ n ∧ n ≤ 256 - o := by simp [inP, and_assoc]
/-- the bytes from off on -/
def Fr.part (f : Fr) (off n : Nat) : List UInt8 := (List.range n).map fun j => f.bs (off + j)
def Mach.read (M : Mach) (i off n : Int) : List UInt8 × Int :=
  if M.is i = false then ([], 1) else if inP off n = false then ([], 1) else ((M.fr i.toNat).part off.toNat n.toNat, 0)
def Fr.laid (f : Fr) (off : Nat) (b : List UInt8) : Fr := { f with bs := fun k => if off ≤ k ∧ k < off + b.length then b.getD (k - off) 0 else f.bs k }
def Mach.write (M : Mach) (i off : Int) (b : List UInt8) : Int × Mach :=
  if M.is i = false then (1, M) else if inP off b.length = false then (1, M) else
  if (M.fr i.toNat).owner = -1 then (11, M) else (0, M.upd i.toNat ((M.fr i.toNat).laid off.toNat b))

theorem blankFr_ok : blankFr.ok := ⟨by decide, by decide, by decide, by decide, by decide, by decide, by decide, fun _ => ⟨rfl, fun _ _ => rfl⟩⟩
theorem Mach.ok.upd {M : Mach} {T : Int} (h : M.ok T) {i : Nat} {f : Fr} (hf : f.ok) (ht : f.tot ≤ T) : (M.upd i f).ok T :=
  ⟨h.n1, h.n2, fun j hj => by
    by_cases e : j = i
    · subst e; rw [Mach.upd_same]; exact ⟨hf, ht⟩
    · rw [Mach.upd_other _ _ _ _ e]; exact h.fr j hj⟩
theorem Mach.ok.mono {M : Mach} {T T' : Int} (h : M.ok T) (ht : T ≤ T') : M.ok T' := ⟨h.n1, h.n2, fun j hj => ⟨(h.fr j hj).1, by have := (h.fr j hj).2; omega⟩⟩
theorem Mach.ok.t0 {M : Mach} {T : Int} (h : M.ok T) : 0 ≤ T := by
  have h0 := h.fr 0 (by have := h.n1; omega)
  have := h0.1.c0; have := h0.1.ct; have := h0.2; omega

theorem mem_ownedL {M : Mach} {o : Int} {k : Nat} : k ∈ M.ownedL o ↔ (k : Int) < M.n ∧ (M.fr k).owner = o := by
  simp [Mach.ownedL]
theorem Mach.alloc_ok {M : Mach} {T : Int} (h : M.ok T) (o : Int) : (M.alloc o).2.2.ok T := by
  unfold Mach.alloc
  split
  · exact h
  · rename_i ho
    split
    · exact h
    · rename_i k r hl
      have hk : k ∈ M.ownedL (-1) := by rw [hl]; simp
      obtain ⟨hk1, hk2⟩ := mem_ownedL.1 hk
      obtain ⟨g, gt⟩ := h.fr k hk1
      exact h.upd ⟨g.c0, g.ct, g.ty0, g.ty3, g.z, by show -2 ≤ o; omega, by show o < 8; omega, fun e => by
        exact g.free hk2⟩ gt
theorem Mach.free_ok {M : Mach} {T : Int} (h : M.ok T) (i : Int) : (M.free i).2.ok T := by
  unfold Mach.free
  split
  · exact h
  split
  · exact h
  split
  · exact h
  exact h.upd blankFr_ok h.t0
theorem Mach.give_ok {M : Mach} {T : Int} (h : M.ok T) (i to : Int) : (M.give i to).2.ok T := by
  unfold Mach.give
  split
  · exact h
  rename_i hi
  split
  · exact h
  split
  · exact h
  split
  · exact h
  have hi' := Mach.is_iff.1 (by simpa using hi)
  obtain ⟨g, gt⟩ := h.fr i.toNat (by omega)
  exact h.upd ⟨g.c0, g.ct, g.ty0, g.ty3, g.z, by show -2 ≤ to; omega, by show to < 8; omega, fun (e : to = -1) => by omega⟩ gt
theorem Mach.get_ok {M : Mach} {T : Int} (h : M.ok T) (i o k : Int) : (M.get i o k).2.ok (T + 1) := by
  have h1 := h.mono (T' := T + 1) (by omega)
  unfold Mach.get Mach.take
  split
  · exact h1
  rename_i hi
  split
  · exact h1
  rename_i hk
  split
  · exact h1
  rename_i hf
  split
  · exact h1
  split
  · exact h1
  rename_i ht
  have hi' := Mach.is_iff.1 (by simpa using hi)
  obtain ⟨g, gt⟩ := h.fr i.toNat (by omega)
  have := g.c0; have := g.ct; have := g.z
  refine h1.upd ?_ ?_
  · unfold Fr.taken
    split
    · exact ⟨g.c0, by show (M.fr i.toNat).cnt ≤ _ + 1; omega, g.ty0, g.ty3, g.z, g.lo, g.hi, fun e => absurd e hf⟩
    · exact ⟨by show 0 ≤ _ + 1; omega, by show _ + 1 ≤ _ + 1; omega, by show 0 ≤ k; omega, by show k ≤ 3; omega, by show _ + 1 = 0 ↔ k = 0; omega, g.lo, g.hi, fun e => absurd e hf⟩
  · unfold Fr.taken
    split <;> (show _ + 1 ≤ _; omega)
theorem Mach.put_ok {M : Mach} {T : Int} (h : M.ok T) (i k : Int) : (M.put i k).2.ok T := by
  unfold Mach.put Mach.drop
  split
  · exact h
  rename_i hi
  split
  · exact h
  rename_i hk
  split
  · exact h
  rename_i hn
  have hi' := Mach.is_iff.1 (by simpa using hi)
  obtain ⟨g, gt⟩ := h.fr i.toNat (by omega)
  have := g.c0; have := g.ct; have := g.z
  have hf : (M.fr i.toNat).owner = -1 → False := fun e => by have := (g.free e).1; omega
  refine h.upd ?_ ?_
  · unfold Fr.dropped
    split
    · exact ⟨g.c0, by show (M.fr i.toNat).cnt ≤ _ - 1; omega, g.ty0, g.ty3, g.z, g.lo, g.hi, fun e => (hf e).elim⟩
    · split
      · exact ⟨by show (0 : Int) ≤ 0; omega, by show 0 ≤ _ - 1; omega, by show (0 : Int) ≤ 0; omega, by show (0 : Int) ≤ 3; omega, by show (0 : Int) = 0 ↔ (0 : Int) = 0; omega, g.lo, g.hi, fun e => (hf e).elim⟩
      · exact ⟨by show 0 ≤ _ - 1; omega, by show _ - 1 ≤ _ - 1; omega, g.ty0, g.ty3, by show (M.fr i.toNat).cnt - 1 = 0 ↔ (M.fr i.toNat).ty = 0; omega, g.lo, g.hi, fun e => (hf e).elim⟩
  · unfold Fr.dropped
    split
    · show _ - 1 ≤ _; omega
    · split <;> (show _ - 1 ≤ _; omega)
theorem Mach.write_ok {M : Mach} {T : Int} (h : M.ok T) (i off : Int) (b : List UInt8) : (M.write i off b).2.ok T := by
  unfold Mach.write
  split
  · exact h
  rename_i hi
  split
  · exact h
  split
  · exact h
  rename_i hf
  have hi' := Mach.is_iff.1 (by simpa using hi)
  obtain ⟨g, gt⟩ := h.fr i.toNat (by omega)
  exact h.upd ⟨g.c0, g.ct, g.ty0, g.ty3, g.z, g.lo, g.hi, fun e => absurd e hf⟩ gt

end Go.Proofs.Ytbbaplcfhofeeaa

/-
  Tables, addresses, walks as plain functions on the machine. No walk of code here.
-/
set_option linter.unusedSimpArgs false
set_option linter.unusedVariables false
namespace Go.Proofs.Ytbbaplcfhofeeaa
open Go.RowKit

def word4 (bs : Nat → UInt8) (o : Nat) : Nat := (bs o).toNat + 256 * (bs (o + 1)).toNat + 65536 * (bs (o + 2)).toNat + 16777216 * (bs (o + 3)).toNat
theorem word4_lt (bs : Nat → UInt8) (o : Nat) : word4 bs o < 4294967296 := by
  have h0 := (bs o).toNat_lt; have h1 := (bs (o + 1)).toNat_lt; have h2 := (bs (o + 2)).toNat_lt; have h3 := (bs (o + 3)).toNat_lt
  unfold word4; omega
def idx (k : Int) : Bool := decide (0 ≤ k) && decide (k < 64)
def Mach.pat (M : Mach) (t i : Int) : Nat × Int := if idx i = false then (0, 1) else if M.is t = false then (0, 1) else (word4 (M.fr t.toNat).bs (4 * i.toNat), 0)
theorem Mach.pat_lt (M : Mach) (t i : Int) : (M.pat t i).1 < 4294967296 := by
  unfold Mach.pat
  split
  · decide
  split
  · decide
  exact word4_lt _ _
theorem Mach.pat_err (M : Mach) (t i : Int) : (M.pat t i).2 = 0 ∨ ((M.pat t i).2 = 1 ∧ (M.pat t i).1 = 0) := by
  unfold Mach.pat
  split
  · exact .inr ⟨rfl, rfl⟩
  split
  · exact .inr ⟨rfl, rfl⟩
  exact .inl rfl
def ptEntV (r : Nat × Int) : Ent × Int := if r.2 ≠ 0 then (ent0, r.2) else if r.1 % 2 = 0 then (ent0, 40) else unpackV r.1
def Mach.pent (M : Mach) (t i : Int) : Ent × Int := ptEntV (M.pat t i)
theorem unpackV_err (n : Nat) : (unpackV n).2 = 0 ∨ (unpackV n).2 = 4 := by
  unfold unpackV
  split
  · exact .inl rfl
  split
  · exact .inr rfl
  exact .inl rfl
theorem ent0_mfn : 0 ≤ ent0.mfn ∧ ent0.mfn < 16777216 := by decide
theorem Mach.pent_mfn (M : Mach) (t i : Int) : 0 ≤ (M.pent t i).1.mfn ∧ (M.pent t i).1.mfn < 16777216 := by
  have h := M.pat_lt t i
  unfold Mach.pent ptEntV
  split
  · exact ent0_mfn
  split
  · exact ent0_mfn
  unfold unpackV
  split
  · exact ent0_mfn
  split
  · exact ent0_mfn
  simp only; omega
def Mach.walk2 (M : Mach) (y : Ent × Int) (va : Nat) (wr : Bool) : Int × Int × Int :=
  if y.2 ≠ 0 then (0, 0, y.2) else if (wr && !y.1.w) = true then (0, 0, 41) else if M.is y.1.mfn = false then (0, 0, 1) else (y.1.mfn, ((va % 256 : Nat) : Int), 0)
def Mach.walk1 (M : Mach) (x : Ent × Int) (va : Nat) (wr : Bool) : Int × Int × Int :=
  if x.2 ≠ 0 then (0, 0, x.2) else M.walk2 (M.pent x.1.mfn ((va / 256 % 64 : Nat) : Int)) va wr
def Mach.walkV (M : Mach) (root : Int) (va : Nat) (wr : Bool) : Int × Int × Int :=
  if 1048576 ≤ va then (0, 0, 1) else M.walk1 (M.pent root ((va / 16384 : Nat) : Int)) va wr
def walk3 (r : Int × Int × Int) : Value := .tuple #[.int .i64 r.1, .int .i64 r.2.1, .int .i64 r.2.2]

/-- the bytes of a word put together, one by one -/
def accU (x0 x1 x2 x3 : Nat) : Nat → Nat
  | 0 => 0
  | 1 => x0
  | 2 => x0 + 256 * x1
  | 3 => x0 + 256 * x1 + 65536 * x2
  | _ => x0 + 256 * x1 + 65536 * x2 + 16777216 * x3
theorem u32_or_mul' (i k a b : Nat) (hk : 2 ^ i = k) (h : b < k) (ha : a * k < 4294967296) (hb : b < 4294967296) : bits .or .u32 (b : Int) ((a : Int) * (k : Int)) = (b : Int) + k * a := by
  subst hk
  have := u32_or_low i a b h ha hb
  rw [Int.natCast_mul] at this
  rw [this, Int.natCast_add, Int.natCast_mul, Int.add_comm, Int.mul_comm]
theorem int_eq {k : IntKind} {a b : Int} (h : a = b) : Value.int k a = Value.int k b := by rw [h]
theorem or_zero (x : Nat) (h : x < 4294967296) : bits .or .u32 0 (x : Int) = x := by
  have := u32_or_nat 0 x (by omega) h
  rw [Nat.zero_or] at this
  exact this
theorem or_two (x0 x1 : Nat) (h0 : x0 < 256) (h1 : x1 < 256) : bits .or .u32 (x0 : Int) ((x1 : Int) * 256) = (x0 : Int) + 256 * x1 := u32_or_mul' 8 256 x1 x0 (by decide +kernel) h0 (by omega) (by omega)
theorem or_three (x0 x1 x2 : Nat) (h0 : x0 < 256) (h1 : x1 < 256) (h2 : x2 < 256) : bits .or .u32 ((x0 : Int) + 256 * x1) ((x2 : Int) * 65536) = (x0 : Int) + 256 * x1 + 65536 * x2 := by
  have := u32_or_mul' 16 65536 x2 (x0 + 256 * x1) (by decide +kernel) (by omega) (by omega) (by omega)
  rw [Int.natCast_add, Int.natCast_mul] at this
  exact this
theorem or_four (x0 x1 x2 x3 : Nat) (h0 : x0 < 256) (h1 : x1 < 256) (h2 : x2 < 256) (h3 : x3 < 256) : bits .or .u32 ((x0 : Int) + 256 * x1 + 65536 * x2) ((x3 : Int) * 16777216) = (x0 : Int) + 256 * x1 + 65536 * x2 + 16777216 * x3 := by
  have := u32_or_mul' 24 16777216 x3 (x0 + 256 * x1 + 65536 * x2) (by decide +kernel) (by omega) (by omega) (by omega)
  rw [Int.natCast_add, Int.natCast_add, Int.natCast_mul, Int.natCast_mul] at this
  exact this
end Go.Proofs.Ytbbaplcfhofeeaa
