/-
  Package blk: the program's Segments.
-/
import Derived.Test.YtfpemajbgnfflaaBkF
import Derived.RangeFuncBox
set_option linter.unusedSimpArgs false
set_option linter.unusedVariables false
namespace Go.Proofs.Ytfpemajbgnfflaa.Bk
open Go.RowKit Gen Go.Shelf
attribute [local go_sem] Oper.semAt_some
set_option maxHeartbeats 2000000

theorem ownFrom_grown {β : Type} {B : Nat} {w₀ : World} {row : Option Nat} (hB : w₀.heap.size ≤ B) : OwnFrom B (fun (_ : β) W => w₀.grownBy W row) :=
  fun _ X Y r hs hg hr => hs.andThen hg (fun j e => .inl (by have := (hr j e).1; omega))
/-- below base, but for block B0, the world is as it was -/
structure SameBut (base B0 : Nat) (W W' : World) : Prop where
  os : W'.os = W.os
  tape : W'.tape = W.tape
  output : W'.output = W.output
  size : W.heap.size ≤ W'.heap.size
  block : ∀ k, k < W.heap.size → k < base → k ≠ B0 → W'.heap[k]? = W.heap[k]?
theorem appended3 {W w1 : World} {base B0 : Nat} {t e : TypeId} {size : Nat} {v v' : Value} {k m : Nat} {xs ys : List Value} {tmp : Obj}
    (hv : Boxed W B0 t v) (hte : t ≠ e) (hrow : W.ownsRow base e size v k xs) (hown' : w1.ownsRow base e size v' m ys) (hgrow : (W.alloc tmp).grownBy w1 v.ownBlock) :
    Boxed w1 B0 t v ∧ Boxed (w1.setCell ⟨B0, 0, none⟩ v') B0 t v' ∧ (w1.setCell ⟨B0, 0, none⟩ v').ownsRow base e size v' m ys ∧ KeepsOthers W (w1.setCell ⟨B0, 0, none⟩ v') ∧ SameBut base B0 W (w1.setCell ⟨B0, 0, none⟩ v') := by
  have hv1 : Boxed w1 B0 t v := (hv.alloc tmp).kept hgrow (hv.not_row hte hrow)
  have hob : ∀ j, some j = v.ownBlock → base ≤ j := by
    intro j ej
    rcases hrow.2 with ⟨rfl, _⟩ | ⟨g, cap, cur, rfl, hb, _, _⟩
    · simp [Value.ownBlock] at ej
    · obtain rfl : j = g := by simpa [Value.ownBlock] using ej
      exact hb
  refine ⟨hv1, hv1.set v', hown'.kept (grownBy_setCell' w1 B0 v') (.inr (hv1.not_row hte hown').symm), ?_, ?_⟩
  · refine ((KeepsOthers.alloc W tmp).trans (KeepsOthers.of_grownBy hgrow fun j o ej hj => ?_)).trans (KeepsOthers.setCell _ _ _)
    rcases (hrow.alloc tmp).2 with ⟨rfl, _⟩ | ⟨g, cap, cur, rfl, _, hgb, _⟩
    · simp [Value.ownBlock] at ej
    · obtain rfl : g = j := by simpa [Value.ownBlock] using ej
      rw [hgb] at hj; cases hj; rfl
  · refine ⟨hgrow.os, hgrow.tape, hgrow.output, ?_, fun q hq hqb hq0 => ?_⟩
    · have := hgrow.size; simp at this ⊢; omega
    · rw [heap_setCell_other _ _ _ _ hq0, hgrow.block q (by simp; omega) (fun e => by have := hob q e; omega)]
      exact Below.heap_alloc W tmp q hq
theorem SameBut.grown {base B0 : Nat} {w W W' : World} (h : SameBut base B0 W W') (hg : w.grownBy W none) (hb : w.heap.size ≤ base) (h0 : w.heap.size ≤ B0) : w.grownBy W' none :=
  ⟨h.os.trans hg.os, h.tape.trans hg.tape, h.output.trans hg.output, Nat.le_trans hg.size h.size, fun k hk _ => (h.block k (Nat.lt_of_lt_of_le hk hg.size) (by omega) (by omega)).trans (hg.block k hk (by simp))⟩
theorem SameBut.box {base B0 B : Nat} {W W' : World} {t : TypeId} {v : Value} (h : SameBut base B0 W W') (hb : B < base) (h0 : B ≠ B0) (hx : Boxed W B t v) : Boxed W' B t v :=
  (h.block B (Array.getElem?_eq_some_iff.1 hx).1 hb h0).trans hx
theorem SameBut.kp2 {base B0 B1 B2 : Nat} {W W' : World} (h : SameBut base B0 W W') (h1 : B1 < W.heap.size) (h2 : B2 < W.heap.size) (g1 : B1 < base) (g2 : B2 < base) (n1 : B1 ≠ B0) (n2 : B2 ≠ B0) : Kp2 B1 B2 W W' :=
  ⟨h.block B1 h1 g1 n1, h.block B2 h2 g2 n2⟩
theorem ko_grown {W W' : World} (h : W.grownBy W' none) : KeepsOthers W W' := KeepsOthers.of_grownBy h fun j o ej _ => by cases ej
theorem kp2_grown {B1 B2 : Nat} {W W' : World} (h : W.grownBy W' none) (h1 : B1 < W.heap.size) (h2 : B2 < W.heap.size) : Kp2 B1 B2 W W' := ⟨h.block B1 h1 (by simp), h.block B2 h2 (by simp)⟩
theorem box_kept {X Y : World} {row : Option Nat} {B : Nat} {t : TypeId} {v : Value} (hs : Boxed X B t v) (hg : X.grownBy Y row) (hrow : ∀ r, row = some r → ∃ o : Obj, X.heap[r]? = some o ∧ o.isCells = false) : Boxed Y B t v :=
  hs.kept hg (fun e' => by obtain ⟨o, ho, hc⟩ := hrow B e'.symm; rw [show X.heap[B]? = _ from hs] at ho; cases ho; cases hc)
theorem own_kept {X Y : World} {row : Option Nat} {base : Nat} {e : TypeId} {sz n : Nat} {v : Value} {xs : List Value} (hs : X.ownsRow base e sz v n xs) (hg : X.grownBy Y row) (hrow : ∀ r, row = some r → ∃ o : Obj, X.heap[r]? = some o ∧ o.isCells = false) : Y.ownsRow base e sz v n xs := by
  refine ⟨hs.1, ?_⟩
  rcases hs.2 with h2 | ⟨g, cap, cur, rfl, hb, hgb, r⟩
  · exact .inl h2
  · refine .inr ⟨g, cap, cur, rfl, hb, (hg.block g (Array.getElem?_eq_some_iff.1 hgb).1 fun e' => ?_).trans hgb, r⟩
    obtain ⟨o, ho, hc⟩ := hrow g e'.symm
    rw [hgb] at ho; cases ho; cases hc
theorem boxes5 (w : World) {W0 : World} (v0 v1 v2 v3 v4 : Value) {t0 t1 t2 t3 t4 : TypeId} (h : ((((w.alloc (.cells #[v0] t0)).alloc (.cells #[v1] t1)).alloc (.cells #[v2] t2)).alloc (.cells #[v3] t3)).alloc (.cells #[v4] t4) = W0) :
    W0.heap.size = w.heap.size + 5 ∧ Boxed W0 w.heap.size t0 v0 ∧ Boxed W0 (w.heap.size + 1) t1 v1 ∧ Boxed W0 (w.heap.size + 1 + 1) t2 v2 ∧ Boxed W0 (w.heap.size + 1 + 1 + 1) t3 v3 ∧ Boxed W0 (w.heap.size + 1 + 1 + 1 + 1) t4 v4 ∧ w.grownBy W0 none := by
  subst h
  obtain ⟨w1, h1⟩ : ∃ w1, w.alloc (.cells #[v0] t0) = w1 := ⟨_, rfl⟩
  have s1 : w1.heap.size = w.heap.size + 1 := by rw [← h1]; simp
  have c0 : Boxed w1 w.heap.size t0 v0 := by rw [← h1]; exact Boxed.new w _ _
  have g1 : w.grownBy w1 none := by rw [← h1]; exact World.grownBy_alloc _ _ _
  rw [h1]
  obtain ⟨w2, h2⟩ : ∃ w2, w1.alloc (.cells #[v1] t1) = w2 := ⟨_, rfl⟩
  have s2 : w2.heap.size = w.heap.size + 1 + 1 := by rw [← h2]; simp [s1]
  have c1 : Boxed w2 (w.heap.size + 1) t1 v1 := by rw [← h2, ← s1]; exact Boxed.new w1 _ _
  have g2 : w1.grownBy w2 none := by rw [← h2]; exact World.grownBy_alloc _ _ _
  rw [h2]
  obtain ⟨w3, h3⟩ : ∃ w3, w2.alloc (.cells #[v2] t2) = w3 := ⟨_, rfl⟩
  have s3 : w3.heap.size = w.heap.size + 1 + 1 + 1 := by rw [← h3]; simp [s2]
  have c2 : Boxed w3 (w.heap.size + 1 + 1) t2 v2 := by rw [← h3, ← s2]; exact Boxed.new w2 _ _
  have g3 : w2.grownBy w3 none := by rw [← h3]; exact World.grownBy_alloc _ _ _
  rw [h3]
  obtain ⟨w4, h4⟩ : ∃ w4, w3.alloc (.cells #[v3] t3) = w4 := ⟨_, rfl⟩
  have s4 : w4.heap.size = w.heap.size + 1 + 1 + 1 + 1 := by rw [← h4]; simp [s3]
  have c3 : Boxed w4 (w.heap.size + 1 + 1 + 1) t3 v3 := by rw [← h4, ← s3]; exact Boxed.new w3 _ _
  have g4 : w3.grownBy w4 none := by rw [← h4]; exact World.grownBy_alloc _ _ _
  rw [h4]
  have c4 : Boxed (w4.alloc (.cells #[v4] t4)) (w.heap.size + 1 + 1 + 1 + 1) t4 v4 := by rw [← s4]; exact Boxed.new w4 _ _
  have g5 : w4.grownBy (w4.alloc (.cells #[v4] t4)) none := World.grownBy_alloc _ _ _
  have k4 := g5; have k3 := g4.trans k4; have k2 := g3.trans k3; have k1 := g2.trans k2
  exact ⟨by simp [s4], c0.kept k1 (by simp), c1.kept k2 (by simp), c2.kept k3 (by simp), c3.kept k4 (by simp), c4, g1.trans k1⟩
/-- the segment of a chunk -/
def segAt (l : List UInt8) (k : Nat) : Seg := segOf (l.getD (2 * k) 0) (l.getD (2 * k + 1) 0)
def segsOf {m : Nat} (l : List UInt8) (pre : List (Ck m)) : List Seg := pre.map fun x => segAt l x.1
theorem segsOf_snoc {m : Nat} (l : List UInt8) (pre : List (Ck m)) (x : Ck m) : segsOf l (pre ++ [x]) = segsOf l pre ++ [segAt l x.1] := by simp [segsOf]
theorem segsOf_len {m : Nat} (l : List UInt8) (pre : List (Ck m)) : (segsOf l pre).length = pre.length := by simp [segsOf]
theorem segsOf_all {l : List UInt8} {m : Nat} (hm : m = l.length / 2) {xs : List (Ck m)} (h : ckVals xs = List.range m) : segsOf l xs = segsV l := by
  have e : segsOf l xs = (ckVals xs).map (segAt l) := by simp [segsOf, ckVals]
  rw [e, h]
  apply List.ext_getElem?
  intro k
  rw [List.getElem?_map]
  by_cases hk : k < m
  · rw [List.getElem?_range hk, segsV_get l k (by omega)]
    rfl
  · rw [List.getElem?_eq_none (by simp; omega), List.getElem?_eq_none (by rw [segsV_len]; omega)]
    rfl
/-- between two rounds -/
def SgI (w : World) (l : List UInt8) {m : Nat} (pre : List (Ck m)) (W : World) : Prop :=
  ((∃ v, Boxed W (w.heap.size + 1 + 1) 23 v ∧ W.ownsRow (w.heap.size + 5) 37 3 v pre.length (scells (segsOf l pre))) ∧ Boxed W w.heap.size 23 (.slice none 0 0) ∧ Boxed W (w.heap.size + 1) 24 (.int .i64 0)) ∧ (segsOf l pre).all segGood = true ∧ w.grownBy W none ∧ w.heap.size + 5 ≤ W.heap.size
/-- the round has left -/
def SgX (w : World) (l : List UInt8) {m : Nat} (c : Code) (pre : List (Ck m)) (W : World) : Prop :=
  c = .ret ∧ (∃ x ∈ pre, segGood (segAt l x.1) = false) ∧ Boxed W w.heap.size 23 (.slice none 0 0) ∧ Boxed W (w.heap.size + 1) 24 (.int .i64 4) ∧ w.grownBy W none
theorem sgI_own (w : World) (l : List UInt8) {m : Nat} (B : Nat) (hB : w.heap.size ≤ B) : OwnFrom B (SgI w l (m := m)) := by
  rintro pre X Y row ⟨⟨⟨v, x0, x1⟩, x2, x3⟩, h0, hg, hs⟩ hg' hr
  have hr' := fun r e => (hr r e).2
  exact ⟨⟨⟨v, box_kept x0 hg' hr', own_kept x1 hg' hr'⟩, box_kept x2 hg' hr', box_kept x3 hg' hr'⟩, h0, hg.andThen hg' (fun j e => .inl (by have := (hr j e).1; omega)), Nat.le_trans hs hg'.size⟩
theorem sgX_own (w : World) (l : List UInt8) {m : Nat} (c : Code) (B : Nat) (hB : w.heap.size ≤ B) : OwnFrom B (SgX w l (m := m) c) := by
  rintro pre X Y row ⟨h0, h1, x2, x3, hg⟩ hg' hr
  have hr' := fun r e => (hr r e).2
  exact ⟨h0, h1, box_kept x2 hg' hr', box_kept x3 hg' hr', hg.andThen hg' (fun j e => .inl (by have := (hr j e).1; omega))⟩
end Go.Proofs.Ytfpemajbgnfflaa.Bk
