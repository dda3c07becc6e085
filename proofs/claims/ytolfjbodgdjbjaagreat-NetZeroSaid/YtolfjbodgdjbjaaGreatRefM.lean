/-
  Plain facts on memory: the machine of package tenementref01 as blocks of cells. No walk here.
-/
import Derived.Test.YtolfjbodgdjbjaaGreatPhysK
set_option linter.unusedSimpArgs false
set_option linter.unusedVariables false
namespace Go.Proofs.YtolfjbodgdjbjaaGreat
open Go.RowKit

/-- between w and w' only blocks of S changed; there may be new ones -/
structure Chg (S : Nat → Prop) (w w' : World) : Prop where
  os : w'.os = w.os
  tape : w'.tape = w.tape
  output : w'.output = w.output
  size : w.heap.size ≤ w'.heap.size
  block : ∀ k, k < w.heap.size → ¬ S k → w'.heap[k]? = w.heap[k]?
theorem Chg.refl (S : Nat → Prop) (w : World) : Chg S w w := ⟨rfl, rfl, rfl, Nat.le_refl _, fun _ _ _ => rfl⟩
theorem Chg.trans {S S' : Nat → Prop} {w w1 w2 : World} (h : Chg S w w1) (k : Chg S' w1 w2) (hs : ∀ k, S' k → S k ∨ w.heap.size ≤ k) : Chg S w w2 :=
  ⟨k.os.trans h.os, k.tape.trans h.tape, k.output.trans h.output, Nat.le_trans h.size k.size, fun q hq hS =>
    (k.block q (Nat.lt_of_lt_of_le hq h.size) (fun h' => (hs q h').elim hS (by omega))).trans (h.block q hq hS)⟩
theorem Chg.of {S : Nat → Prop} {w w' : World} {row : Option Nat} (h : w.grownBy w' row) (hs : ∀ j, row = some j → S j ∨ w.heap.size ≤ j) : Chg S w w' :=
  ⟨h.os, h.tape, h.output, h.size, fun q hq hS => h.block q hq fun e => (hs q e.symm).elim hS (by omega)⟩
theorem Chg.of0 {S : Nat → Prop} {w w' : World} (h : w.grownBy w' none) : Chg S w w' := Chg.of h (by simp)
theorem Chg.grown {S : Nat → Prop} {w0 w w' : World} (h : Chg S w w') (hg : w0.grownBy w none) (hs : ∀ k, S k → w0.heap.size ≤ k) : w0.grownBy w' none :=
  ⟨h.os.trans hg.os, h.tape.trans hg.tape, h.output.trans hg.output, Nat.le_trans hg.size h.size, fun k hk _ =>
    (h.block k (Nat.lt_of_lt_of_le hk hg.size) (fun h' => by have := hs k h'; omega)).trans (hg.block k hk (by simp))⟩
theorem Chg.cell {S : Nat → Prop} {w w' : World} (h : Chg S w w') {a : Addr} {v : Value} (hc : w.cell? a = some v) (hb : ¬ S a.block) : w'.cell? a = some v :=
  (World.cell?_of_block (h.block a.block (World.block_lt_of_cell? w a hc) hb)).trans hc
theorem Chg.mono {S S' : Nat → Prop} {w w' : World} (h : Chg S w w') (hs : ∀ k, S k → S' k) : Chg S' w w' := ⟨h.os, h.tape, h.output, h.size, fun k hk hS => h.block k hk fun h' => hS (hs k h')⟩
theorem PM.chg {S : Nat → Prop} {w w' : World} {b : Nat} {M : Mach} (h : PM w b M) (hc : Chg S w w') (hb : ¬ S b) : PM w' b M := (hc.block b h.lt hb).trans h

/-- block g begins with the cells X 0 .. X (N - 1) -/
def Row (w : World) (g : Nat) (t : TypeId) (N : Nat) (X : Nat → Value) : Prop := ∃ cur, w.heap[g]? = some (.cells cur t (0, 0)) ∧ N ≤ cur.size ∧ ∀ k, k < N → cur[k]? = some (X k)
theorem Row.lt {w : World} {g : Nat} {t : TypeId} {N : Nat} {X : Nat → Value} (h : Row w g t N X) : g < w.heap.size := by
  obtain ⟨cur, h, _⟩ := h; exact (Array.getElem?_eq_some_iff.1 h).1
theorem Row.cell {w : World} {g : Nat} {t : TypeId} {N : Nat} {X : Nat → Value} (h : Row w g t N X) {k : Nat} (hk : k < N) : w.cell? ⟨g, k, none⟩ = some (X k) := by
  obtain ⟨cur, h, _, hc⟩ := h
  rw [cell_of_row w g k _ _ _ h, hc k hk]
theorem Row.frozen {w : World} {g : Nat} {t : TypeId} {N : Nat} {X : Nat → Value} (h : Row w g t N X) (k : Nat) : w.frozen? ⟨g, k, none⟩ = false := by
  obtain ⟨cur, h, _⟩ := h; exact frozen_of_row w g k _ _ h
theorem Row.same {w w' : World} {g : Nat} {t : TypeId} {N : Nat} {X : Nat → Value} (h : Row w g t N X) (hb : w'.heap[g]? = w.heap[g]?) : Row w' g t N X := by
  obtain ⟨cur, h, r⟩ := h; exact ⟨cur, hb.trans h, r⟩
theorem Row.chg {S : Nat → Prop} {w w' : World} {g : Nat} {t : TypeId} {N : Nat} {X : Nat → Value} (h : Row w g t N X) (hc : Chg S w w') (hb : ¬ S g) : Row w' g t N X := h.same (hc.block g h.lt hb)
theorem Row.grown {w w' : World} {g : Nat} {t : TypeId} {N : Nat} {X : Nat → Value} {row : Option Nat} (h : Row w g t N X) (hg : w.grownBy w' row) (hr : some g ≠ row) : Row w' g t N X := h.same (hg.block g h.lt hr)
theorem Row.alloc {w : World} {g : Nat} {t : TypeId} {N : Nat} {X : Nat → Value} (h : Row w g t N X) (o : Obj) : Row (w.alloc o) g t N X := h.grown (World.grownBy_alloc w o none) (by simp)
theorem Row.setOther {w : World} {g : Nat} {t : TypeId} {N : Nat} {X : Nat → Value} (h : Row w g t N X) (a : Addr) (hne : g ≠ a.block) (v : Value) : Row (w.setCell a v) g t N X := h.same (heap_setCell_other w a g v hne)
theorem Row.set {w : World} {g : Nat} {t : TypeId} {N : Nat} {X : Nat → Value} (h : Row w g t N X) {k : Nat} {v : Value} {X' : Nat → Value} (hv : X' k = v) (ho : ∀ j, j < N → j ≠ k → X' j = X j) : Row (w.setCell ⟨g, k, none⟩ v) g t N X' := by
  obtain ⟨cur, h, hn, hc⟩ := h
  refine ⟨_, heap_setCell_same w g k cur _ v h, by simpa using hn, fun j hj => ?_⟩
  rw [Array.getElem?_setIfInBounds]
  by_cases hjk : k = j
  · subst hjk
    rw [if_pos rfl, if_pos (by omega), hv]
  · rw [if_neg hjk, hc j hj, ho j hj (fun e => hjk e.symm)]
theorem Row.congr {w : World} {g : Nat} {t : TypeId} {N : Nat} {X X' : Nat → Value} (h : Row w g t N X) (he : ∀ k, k < N → X' k = X k) : Row w g t N X' := by
  obtain ⟨cur, h, hn, hc⟩ := h
  exact ⟨cur, h, hn, fun k hk => by rw [hc k hk, he k hk]⟩
theorem Row.type_ne {w : World} {g g' : Nat} {t t' : TypeId} {N N' : Nat} {X X' : Nat → Value} (h : Row w g t N X) (h' : Row w g' t' N' X') (ht : t ≠ t') : g ≠ g' := by
  rintro rfl
  obtain ⟨c, h, _⟩ := h
  obtain ⟨c', h', _⟩ := h'
  rw [h] at h'; cases h'; exact ht rfl
theorem Row.pm_ne {w : World} {g b : Nat} {t : TypeId} {N : Nat} {X : Nat → Value} {M : Mach} (h : Row w g t N X) (h' : PM w b M) (ht : t ≠ 53) : b ≠ g := by
  rintro rfl
  obtain ⟨c, h, _⟩ := h
  rw [show w.heap[b]? = _ from h'] at h; cases h; exact ht rfl

/-- where the ref machine's rows lie -/
structure Lay where
  n : Nat
  fF : Nat
  cF : Nat
  fB : Nat
  cB : Nat
  g : Nat → Nat
  cg : Nat → Nat
def Lay.top (L : Lay) : Nat → Value
  | 0 => .slice (some ⟨L.fF, 0, none⟩) L.n L.cF
  | _ => .slice (some ⟨L.fB, 0, none⟩) L.n L.cB
def hd (M : Mach) (q : Nat) : Value := (M.fr (q / 4)).cell (q % 4)
def bslice (L : Lay) (i : Nat) : Value := .slice (some ⟨L.g i, 0, none⟩) 256 (L.cg i)
def byt (f : Fr) (k : Nat) : Value := .int .u8 (f.bs k).toNat
def Lay.foot (L : Lay) (b : Nat) (k : Nat) : Prop := k = b ∨ k = L.fF ∨ k = L.fB ∨ ∃ i, i < L.n ∧ k = L.g i
theorem hd_upd (M : Mach) (i : Nat) (f : Fr) (q : Nat) : hd (M.upd i f) q = if q / 4 = i then f.cell (q % 4) else hd M q := by
  unfold hd Mach.upd
  simp only
  split <;> rfl
end Go.Proofs.YtolfjbodgdjbjaaGreat
