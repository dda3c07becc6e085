/-
  Plain facts on memory: the machine of package phys as one block of cells. No walk here.
-/
import Derived.WalkKit
import Derived.Maps.AppendAt
set_option linter.unusedSimpArgs false
set_option linter.unusedVariables false
namespace Go.Proofs.YtnplkifohocekaaDoor
open Go.RowKit

/-- One frame: owner, type, count, total, its bytes. -/
structure Fr where
  owner : Int
  ty : Int
  cnt : Int
  tot : Int
  bs : Nat → UInt8

/-- The machine: its size, its 256 frames. -/
structure Mach where
  n : Int
  fr : Nat → Fr

def Fr.cell (f : Fr) : Nat → Value
  | 0 => .int .i64 f.owner
  | 1 => .int .i64 f.ty
  | 2 => .int .i64 f.cnt
  | 3 => .int .i64 f.tot
  | k + 4 => .int .u8 (f.bs k).toNat

def Mach.cell (M : Mach) : Nat → Value
  | 0 => .int .i64 M.n
  | k + 1 => (M.fr (k / 260)).cell (k % 260)

def cellsN : Nat := 1 + 256 * 260
def Mach.cells (M : Mach) : Array Value := ⟨(List.range cellsN).map M.cell⟩
theorem cellsN_eq : cellsN = 66561 := rfl
def Mach.upd (M : Mach) (i : Nat) (f : Fr) : Mach := { M with fr := fun j => if j = i then f else M.fr j }

theorem Mach.size_cells (M : Mach) : M.cells.size = cellsN := by simp [Mach.cells]
theorem Mach.get_cells (M : Mach) (k : Nat) (h : k < cellsN) : M.cells[k]? = some (M.cell k) := by simp [Mach.cells, h]
theorem Mach.cells_ext {M : Mach} {cs : Array Value} (hs : cs.size = cellsN) (h : ∀ k, k < cellsN → cs[k]? = some (M.cell k)) : cs = M.cells := by
  apply Array.ext_getElem?
  intro k
  by_cases hk : k < cellsN
  · rw [h k hk, M.get_cells k hk]
  · rw [Array.getElem?_eq_none (by omega), Array.getElem?_eq_none (by rw [M.size_cells]; omega)]
theorem Mach.cell_at (M : Mach) (i r : Nat) (hr : r < 260) : M.cell (1 + i * 260 + r) = (M.fr i).cell r := by
  rw [show 1 + i * 260 + r = (i * 260 + r) + 1 by omega]
  show (M.fr ((i * 260 + r) / 260)).cell ((i * 260 + r) % 260) = _
  rw [show (i * 260 + r) / 260 = i by omega, show (i * 260 + r) % 260 = r by omega]
theorem at_lt {i r : Nat} (hi : i < 256) (hr : r < 260) : 1 + i * 260 + r < cellsN := by unfold cellsN; omega
attribute [irreducible] Mach.cells cellsN
theorem Mach.upd_same (M : Mach) (i : Nat) (f : Fr) : (M.upd i f).fr i = f := by simp [Mach.upd]
theorem Mach.upd_other (M : Mach) (i j : Nat) (f : Fr) (h : j ≠ i) : (M.upd i f).fr j = M.fr j := by simp [Mach.upd, h]
theorem Mach.cell_other (M : Mach) (i k : Nat) (f : Fr) (h : k < 1 + i * 260 ∨ 1 + i * 260 + 260 ≤ k) : (M.upd i f).cell k = M.cell k := by
  cases k with
  | zero => rfl
  | succ k =>
    show ((M.upd i f).fr (k / 260)).cell (k % 260) = _
    rw [Mach.upd_other _ _ _ _ (by omega)]
    rfl
/-- every cell is an index into a frame, or the size -/
theorem split_at {k : Nat} (h : k < cellsN) : k = 0 ∨ ∃ i r, i < 256 ∧ r < 260 ∧ k = 1 + i * 260 + r := by
  rw [cellsN_eq] at h
  cases k with
  | zero => exact .inl rfl
  | succ k => exact .inr ⟨k / 260, k % 260, by omega, by omega, by omega⟩

/-- Block b is the machine M. -/
def PM (w : World) (b : Nat) (M : Mach) : Prop := w.heap[b]? = some (.cells M.cells 128 (0, 0))

theorem PM.lt {w : World} {b : Nat} {M : Mach} (h : PM w b M) : b < w.heap.size := (Array.getElem?_eq_some_iff.1 h).1
theorem PM.cell {w : World} {b : Nat} {M : Mach} (h : PM w b M) (k : Nat) (hk : k < cellsN) : w.cell? ⟨b, k, none⟩ = some (M.cell k) := by
  rw [cell_of_row w b k _ _ _ h, M.get_cells k hk]
theorem PM.size {w : World} {b : Nat} {M : Mach} (h : PM w b M) : w.cell? ⟨b, 0, none⟩ = some (.int .i64 M.n) := h.cell 0 (by rw [cellsN_eq]; omega)
theorem PM.at {w : World} {b : Nat} {M : Mach} (h : PM w b M) {i r : Nat} (hi : i < 256) (hr : r < 260) : w.cell? ⟨b, 1 + i * 260 + r, none⟩ = some ((M.fr i).cell r) := by
  rw [h.cell _ (at_lt hi hr), M.cell_at i r hr]
theorem PM.owner {w : World} {b : Nat} {M : Mach} (h : PM w b M) {i : Nat} (hi : i < 256) : w.cell? ⟨b, 1 + i * 260, none⟩ = some (.int .i64 (M.fr i).owner) := h.at (r := 0) hi (by omega)
theorem PM.ty {w : World} {b : Nat} {M : Mach} (h : PM w b M) {i : Nat} (hi : i < 256) : w.cell? ⟨b, 1 + i * 260 + 1, none⟩ = some (.int .i64 (M.fr i).ty) := h.at (r := 1) hi (by omega)
theorem PM.cnt {w : World} {b : Nat} {M : Mach} (h : PM w b M) {i : Nat} (hi : i < 256) : w.cell? ⟨b, 1 + i * 260 + 2, none⟩ = some (.int .i64 (M.fr i).cnt) := h.at (r := 2) hi (by omega)
theorem PM.tot {w : World} {b : Nat} {M : Mach} (h : PM w b M) {i : Nat} (hi : i < 256) : w.cell? ⟨b, 1 + i * 260 + 3, none⟩ = some (.int .i64 (M.fr i).tot) := h.at (r := 3) hi (by omega)
theorem PM.byte {w : World} {b : Nat} {M : Mach} (h : PM w b M) {i k : Nat} (hi : i < 256) (hk : k < 256) : w.cell? ⟨b, 1 + i * 260 + 4 + k, none⟩ = some (.int .u8 ((M.fr i).bs k).toNat) := by
  rw [show 1 + i * 260 + 4 + k = 1 + i * 260 + (k + 4) by omega]
  exact h.at (r := k + 4) hi (by omega)
theorem PM.frozen {w : World} {b : Nat} {M : Mach} (h : PM w b M) (k : Nat) : w.frozen? ⟨b, k, none⟩ = false := frozen_of_row w b k _ _ h
theorem PM.grown {w w' : World} {b : Nat} {M : Mach} {row : Option Nat} (h : PM w b M) (hg : w.grownBy w' row) (hr : some b ≠ row) : PM w' b M := (hg.block b h.lt hr).trans h
theorem PM.alloc {w : World} {b : Nat} {M : Mach} (h : PM w b M) (o : Obj) : PM (w.alloc o) b M := h.grown (World.grownBy_alloc w o none) (by simp)
theorem PM.drew {w : World} {b : Nat} {M : Mach} (h : PM w b M) : PM w.drew b M := h
theorem PM.setOther {w : World} {b : Nat} {M : Mach} (h : PM w b M) (a : Addr) (hne : b ≠ a.block) (v : Value) : PM (w.setCell a v) b M := (heap_setCell_other w a b v hne).trans h

/-- One cell is written. -/
theorem PM.set {w : World} {b : Nat} {M : Mach} (h : PM w b M) {k : Nat} (hk : k < cellsN) {v : Value} {M' : Mach} (hv : M'.cell k = v)
    (ho : ∀ j, j < cellsN → j ≠ k → M'.cell j = M.cell j) : PM (w.setCell ⟨b, k, none⟩ v) b M' := by
  have e := heap_setCell_same w b k M.cells _ v h
  unfold PM
  rw [e]
  refine congrArg (fun c => some (Obj.cells c 128 (0, 0))) ?_
  refine Mach.cells_ext (by simp [M.size_cells]) fun j hj => ?_
  rw [Array.getElem?_setIfInBounds]
  by_cases hjk : k = j
  · subst hjk; simp [M.size_cells, hk, hv]
  · rw [if_neg hjk, M.get_cells j hj, ho j hj (fun e => hjk e.symm)]
theorem PM.setFr {w : World} {b : Nat} {M : Mach} (h : PM w b M) {i r : Nat} (hi : i < 256) (hr : r < 260) {v : Value} {f : Fr} (hv : f.cell r = v)
    (ho : ∀ q, q < 260 → q ≠ r → f.cell q = (M.fr i).cell q) : PM (w.setCell ⟨b, 1 + i * 260 + r, none⟩ v) b (M.upd i f) := by
  refine h.set (at_lt hi hr) (by rw [Mach.cell_at _ _ _ hr, Mach.upd_same, hv]) fun j hj hjk => ?_
  rcases split_at hj with rfl | ⟨i', r', hi', hr', rfl⟩
  · rfl
  · rw [Mach.cell_at _ _ _ hr', Mach.cell_at _ _ _ hr']
    by_cases he : i' = i
    · subst he; rw [Mach.upd_same, ho r' hr' (by omega)]
    · rw [Mach.upd_other _ _ _ _ he]
theorem fr_ext0 {f g : Fr} (h1 : f.owner = g.owner) (h2 : f.ty = g.ty) (h3 : f.cnt = g.cnt) (h4 : f.tot = g.tot) (h5 : ∀ k, k < 256 → f.bs k = g.bs k) (q : Nat) (hq : q < 260) : f.cell q = g.cell q := by
  match q, hq with
  | 0, _ => simp [Fr.cell, h1]
  | 1, _ => simp [Fr.cell, h2]
  | 2, _ => simp [Fr.cell, h3]
  | 3, _ => simp [Fr.cell, h4]
  | k + 4, hq => simp [Fr.cell, h5 k (by omega)]
theorem PM.setOwner {w : World} {b : Nat} {M : Mach} (h : PM w b M) {i : Nat} (hi : i < 256) (x : Int) : PM (w.setCell ⟨b, 1 + i * 260, none⟩ (.int .i64 x)) b (M.upd i { M.fr i with owner := x }) :=
  h.setFr (r := 0) hi (by omega) rfl fun q _ hq => by match q, hq with | 0, h => exact absurd rfl h | 1, _ => rfl | 2, _ => rfl | 3, _ => rfl | k + 4, _ => rfl
theorem PM.setTy {w : World} {b : Nat} {M : Mach} (h : PM w b M) {i : Nat} (hi : i < 256) (x : Int) : PM (w.setCell ⟨b, 1 + i * 260 + 1, none⟩ (.int .i64 x)) b (M.upd i { M.fr i with ty := x }) :=
  h.setFr (r := 1) hi (by omega) rfl fun q _ hq => by match q, hq with | 0, _ => rfl | 1, h => exact absurd rfl h | 2, _ => rfl | 3, _ => rfl | k + 4, _ => rfl
theorem PM.setCnt {w : World} {b : Nat} {M : Mach} (h : PM w b M) {i : Nat} (hi : i < 256) (x : Int) : PM (w.setCell ⟨b, 1 + i * 260 + 2, none⟩ (.int .i64 x)) b (M.upd i { M.fr i with cnt := x }) :=
  h.setFr (r := 2) hi (by omega) rfl fun q _ hq => by match q, hq with | 0, _ => rfl | 1, _ => rfl | 2, h => exact absurd rfl h | 3, _ => rfl | k + 4, _ => rfl
theorem PM.setTot {w : World} {b : Nat} {M : Mach} (h : PM w b M) {i : Nat} (hi : i < 256) (x : Int) : PM (w.setCell ⟨b, 1 + i * 260 + 3, none⟩ (.int .i64 x)) b (M.upd i { M.fr i with tot := x }) :=
  h.setFr (r := 3) hi (by omega) rfl fun q _ hq => by match q, hq with | 0, _ => rfl | 1, _ => rfl | 2, _ => rfl | 3, h => exact absurd rfl h | k + 4, _ => rfl
theorem Mach.upd_upd (M : Mach) (i : Nat) (f g : Fr) : (M.upd i f).upd i g = M.upd i g := by
  simp only [Mach.upd, Mach.mk.injEq, true_and]
  funext j
  by_cases h : j = i <;> simp [h]

/-- A whole run of cells is written. -/
theorem PM.setRow {w : World} {b : Nat} {M : Mach} (h : PM w b M) {o : Nat} {vs : List Value} (hfit : o + vs.length ≤ cellsN) {M' : Mach} (hv : ∀ j, j < vs.length → vs[j]? = some (M'.cell (o + j)))
    (ho : ∀ j, j < cellsN → j < o ∨ o + vs.length ≤ j → M'.cell j = M.cell j) : PM (w.setRow b (M.cells.toList.take o ++ vs ++ M.cells.toList.drop (o + vs.length)).toArray) b M' := by
  have e := setRow_heap w b M.cells (M.cells.toList.take o ++ vs ++ M.cells.toList.drop (o + vs.length)).toArray _ _ h
  unfold PM
  rw [e]
  congr 2
  have hs := M.size_cells
  have hl : M.cells.toList.length = cellsN := by simpa using hs
  refine Mach.cells_ext (by simp [hs]; omega) fun j hj => ?_
  simp only [List.getElem?_toArray, List.append_assoc]
  by_cases h1 : j < o
  · rw [List.getElem?_append_left (by simp; omega), List.getElem?_take, if_pos h1, ho j hj (.inl h1)]
    simpa using M.get_cells j hj
  · rw [List.getElem?_append_right (by simp; omega)]
    have hmin : (M.cells.toList.take o).length = o := by simp; omega
    rw [hmin]
    by_cases h2 : j < o + vs.length
    · rw [List.getElem?_append_left (by omega), hv (j - o) (by omega)]
      congr 2; omega
    · rw [List.getElem?_append_right (by omega), List.getElem?_drop, ho j hj (.inr (by omega)), show o + vs.length + (j - o - vs.length) = j by omega]
      simpa using M.get_cells j hj

theorem grownBy_setCell (w : World) (b o : Nat) (s : Option Nat) (v : Value) : w.grownBy (w.setCell ⟨b, o, s⟩ v) (some b) :=
  ⟨rfl, rfl, rfl, by simp, fun k _ hk => heap_setCell_other w ⟨b, o, s⟩ k v (fun e => hk (by rw [e]))⟩
theorem hid {p : Prop} (h : p) : Hid p := h
theorem grownBy_setRow (w : World) (b : Nat) (cs : Array Value) : w.grownBy (w.setRow b cs) (some b) :=
  ⟨rfl, rfl, rfl, by simp, fun k _ hk => setRow_other w b k cs (fun e => hk (by rw [e]))⟩
theorem grownBy_drew (w : World) (row : Option Nat) : w.grownBy w.drew row := ⟨rfl, rfl, rfl, Nat.le_refl _, fun _ _ _ => rfl⟩

end Go.Proofs.YtnplkifohocekaaDoor
