/-
  Contracts of package phys: Left, Owned, Alloc.
-/
import Derived.Test.YtnplkifohocekaaDoorPhysG
import Derived.RangeFuncBox
import Derived.Maps.AppendAt
set_option linter.unusedSimpArgs false
set_option linter.unusedVariables false
namespace Go.Proofs.YtnplkifohocekaaDoor
open Go.RowKit Go.Shelf
attribute [local go_sem] Oper.semAt_some
set_option maxHeartbeats 1000000

theorem ownFrom_grown {β : Type} {B : Nat} {w₀ : World} {row : Option Nat} (hB : w₀.heap.size ≤ B) : OwnFrom B (fun (_ : β) W => w₀.grownBy W row) :=
  fun _ X Y r hs hg hr => hs.andThen hg (fun j e => .inl (by have := (hr j e).1; omega))
theorem Kp3.set {b B1 B2 : Nat} (W : World) (B0 o : Nat) (v : Value) (h0 : b ≠ B0) (h1 : B1 ≠ B0) (h2 : B2 ≠ B0) : Kp3 b B1 B2 W (W.setCell ⟨B0, o, none⟩ v) :=
  ⟨heap_setCell_other W _ _ v h0, heap_setCell_other W _ _ v h1, heap_setCell_other W _ _ v h2⟩
theorem Kp3.put {b B1 B2 : Nat} {w : World} (h0 : b < w.heap.size) (h1 : B1 < w.heap.size) (h2 : B2 < w.heap.size) (W : World) (l : Nat) (o o' : Obj) (hl : w.heap.size ≤ l) (_ : W.heap[l]? = some o) (_ : o.isCells = false) (_ : o.isWalk = false) : Kp3 b B1 B2 W (W.putObj l o') :=
  ⟨World.putObj_heap_other (by omega), World.putObj_heap_other (by omega), World.putObj_heap_other (by omega)⟩

/-- a machine's pointer p over which the iterator goes, as over M -/
def Stops (p : Option Addr) (M : Mach) (w : World) : Prop := ∀ (n B1 B2 : Nat) (o : Int) (w1 : World), 3 ≤ n → w.heap.size ≤ B1 → w.grownBy w1 none →
  w1.heap[B1]? = some (.cells #[.pointer p] 27 (0, 0)) → w1.heap[B2]? = some (.cells #[.int .i64 o] 3 (0, 0)) →
  ∃ b, (b < w.heap.size ∨ b = B1) ∧ SeqStopsK Fence.wide n Tryd.prog 80 #[.pointer (some ⟨B1, 0, none⟩), .pointer (some ⟨B2, 0, none⟩)] (fun x : OwnFr M o => #[.int .i64 x.1]) (Kp3 b B1 B2)
      (fun xs => ownVals xs = M.ownedL o) (fun pre => ownVals pre <+: M.ownedL o) (M.ownedL o).length w1
theorem PM.stops {w : World} {b : Nat} {M : Mach} (hM : PM w b M) (hn1 : 1 ≤ M.n) (hn2 : M.n ≤ 256) : Stops (some ⟨b, 0, none⟩) M w :=
  fun n B1 B2 o w1 hn _ hg h1 h2 => ⟨b, .inl hM.lt, owned_stops n hn b B1 B2 M o w1 (hM.grown hg (by simp)) hn1 hn2 h1 h2⟩
theorem ownedL_len (M : Mach) (o : Int) (h2 : M.n ≤ 256) : (M.ownedL o).length ≤ 256 := by
  have := List.length_filter_le (fun k => (M.fr k).owner == o) (List.range M.n.toNat)
  simp only [List.length_range] at this
  unfold Mach.ownedL
  omega

theorem below_grown {w W : World} (h : w.grownBy W none) : Below w.heap.size w W := ⟨h.os, h.tape, h.output, h.size, fun k hk => h.block k hk (by simp)⟩
theorem grown_below {w W : World} (h : Below w.heap.size w W) : w.grownBy W none := ⟨h.os, h.tape, h.output, h.size, fun k hk _ => h.block k hk⟩
/-- below base, but for block B0, the world is as it was -/
structure SameBut (base B0 : Nat) (W W' : World) : Prop where
  os : W'.os = W.os
  tape : W'.tape = W.tape
  output : W'.output = W.output
  size : W.heap.size ≤ W'.heap.size
  block : ∀ k, k < W.heap.size → k < base → k ≠ B0 → W'.heap[k]? = W.heap[k]?
theorem appended3 {W w1 : World} {base B0 : Nat} {t e : TypeId} {size : Nat} {v v' : Value} {k m : Nat} {xs ys : List Value} {tmp : Obj}
    (hv : Boxed W B0 t v) (hte : t ≠ e) (hrow : W.ownsRow base e size v k xs) (hown' : w1.ownsRow base e size v' m ys) (hgrow : (W.alloc tmp).grownBy w1 v.ownBlock) :
    Boxed w1 B0 t v ∧ Boxed (w1.setCell ⟨B0, 0, none⟩ v') B0 t v' ∧ (w1.setCell ⟨B0, 0, none⟩ v').ownsRow base e size v' m ys ∧ KeepsOthers W (w1.setCell ⟨B0, 0, none⟩ v') ∧ SameBut base B0 W (w1.setCell ⟨B0, 0, none⟩ v') := by
  have hv1 : Boxed w1 B0 t v := (hv.alloc tmp).kept hgrow (hv.not_row hte hrow)
  have hob : ∀ j, some j = v.ownBlock → base ≤ j := by
    intro j ej
    rcases hrow.2 with ⟨rfl, _⟩ | ⟨g, cap, cur, rfl, hb, _, _⟩
    · simp [Value.ownBlock] at ej
    · obtain rfl : j = g := by simpa [Value.ownBlock] using ej
      exact hb
  refine ⟨hv1, hv1.set v', hown'.kept (grownBy_setCell' w1 B0 v') (.inr (hv1.not_row hte hown').symm), ?_, ?_⟩
  · refine ((KeepsOthers.alloc W tmp).trans (KeepsOthers.of_grownBy hgrow fun j o ej hj => ?_)).trans (KeepsOthers.setCell _ _ _)
    rcases (hrow.alloc tmp).2 with ⟨rfl, _⟩ | ⟨g, cap, cur, rfl, _, hgb, _⟩
    · simp [Value.ownBlock] at ej
    · obtain rfl : g = j := by simpa [Value.ownBlock] using ej
      rw [hgb] at hj; cases hj; rfl
  · refine ⟨hgrow.os, hgrow.tape, hgrow.output, ?_, fun q hq hqb hq0 => ?_⟩
    · have := hgrow.size; simp at this ⊢; omega
    · rw [heap_setCell_other _ _ _ _ hq0, hgrow.block q (by simp; omega) (fun e => by have := hob q e; omega)]
      exact Below.heap_alloc W tmp q hq
theorem SameBut.kp3 {base B0 b B1 B2 : Nat} {W W' : World} (h : SameBut base B0 W W') (h0 : b < W.heap.size) (h1 : B1 < W.heap.size) (h2 : B2 < W.heap.size) (g0 : b < base) (g1 : B1 < base) (g2 : B2 < base) (n0 : b ≠ B0) (n1 : B1 ≠ B0) (n2 : B2 ≠ B0) : Kp3 b B1 B2 W W' :=
  ⟨h.block b h0 g0 n0, h.block B1 h1 g1 n1, h.block B2 h2 g2 n2⟩
theorem SameBut.grown {base B0 : Nat} {w W W' : World} (h : SameBut base B0 W W') (hg : w.grownBy W none) (hb : w.heap.size ≤ base) (h0 : w.heap.size ≤ B0) : w.grownBy W' none :=
  ⟨h.os.trans hg.os, h.tape.trans hg.tape, h.output.trans hg.output, Nat.le_trans hg.size h.size, fun k hk _ => (h.block k (Nat.lt_of_lt_of_le hk hg.size) (by omega) (by omega)).trans (hg.block k hk (by simp))⟩
theorem ownsRow_base {W : World} {base base' : Nat} {e : TypeId} {size : Nat} {v : Value} {k : Nat} {xs : List Value} (h : W.ownsRow base e size v k xs) (hb : base' ≤ base) : W.ownsRow base' e size v k xs := by
  refine ⟨h.1, ?_⟩
  rcases h.2 with h2 | ⟨g, cap, cur, hv, hg, r⟩
  · exact .inl h2
  · exact .inr ⟨g, cap, cur, hv, by omega, r⟩
theorem info_int : (Tryd.prog.info? 3).map (fun i => (i.zero, i.size, i.bytes)) = some (some (.int .i64 0), 1, 8) := by kernel_rfl
/-- numbers as cells -/
def icells (l : List Nat) : List Value := l.map fun (k : Nat) => .int .i64 k
theorem icells_snoc (l : List Nat) (k : Nat) : icells (l ++ [k]) = icells l ++ [.int .i64 k] := by simp [icells]
theorem icells_len (l : List Nat) : (icells l).length = l.length := by simp [icells]
/-- a slice of numbers in a row of its own; nil just where there is none -/
def NewInts (w : World) (l : List Nat) (v : Value) (w' : World) : Prop := w'.ownsRow w.heap.size 3 1 v l.length (icells l) ∧ (v = .slice none 0 0 ↔ l = []) ∧ w.grownBy w' none
end Go.Proofs.YtnplkifohocekaaDoor
