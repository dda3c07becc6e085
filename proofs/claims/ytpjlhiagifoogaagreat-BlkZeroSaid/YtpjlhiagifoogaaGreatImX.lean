/-
  The laws of image: what an Op writes, awake.
-/
import Derived.Test.YtpjlhiagifoogaaGreatImW
import Derived.Laws.OwnMore
import Derived.Laws.AppendOwnNone
set_option linter.unusedSimpArgs false
set_option linter.unusedVariables false
namespace Go.Proofs.YtpjlhiagifoogaaGreat.Imx
open Go.RowKit Gen CM
set_option maxHeartbeats 1000000

/-- a call that came in -/
structure OpV where
  what : Int
  a : Int
  b : Int
  fill : UInt8
  p : Option Addr
  l : List UInt8
  c : Nat
def OpV.val (o : OpV) : Value := .agg #[.int .i64 o.what, .int .i64 o.a, .int .i64 o.b, .int .u8 o.fill.toNat, .slice o.p o.l.length o.c]
def OpV.out (o : OpV) : List UInt8 := if o.l = [] then List.replicate 64 o.fill else o.l
structure OpV.fits (o : OpV) (w : World) : Prop where
  what : I64 o.what
  a : I64 o.a
  b : I64 o.b
  ba : BA w o.p o.l
  len : o.l.length ≤ 140737488351232
  nil : o.p = none → o.c = 0
  cap : o.l.length ≤ o.c
theorem OpV.fits.grown {o : OpV} {w w' : World} (h : o.fits w) (hg : w.grownBy w' none) : o.fits w' := ⟨h.what, h.a, h.b, h.ba.grown hg, h.len, h.nil, h.cap⟩
theorem OpV.out_len {o : OpV} (h : o.l.length ≤ 140737488351232) : o.out.length ≤ 140737488351232 := by
  unfold OpV.out
  split
  · simp
  · exact h
/-- the first k bytes are x, the others 0 -/
def fillC (x : UInt8) (k : Nat) : List Value := bcells (List.replicate k x ++ List.replicate (64 - k) 0)
theorem fillC_len (x : UInt8) (k : Nat) (hk : k ≤ 64) : (fillC x k).length = 64 := by unfold fillC; rw [bcells_len]; simp; omega
theorem fillC_set (x : UInt8) (k : Nat) (hk : k < 64) : (fillC x k).set k (.int .u8 x.toNat) = fillC x (k + 1) := by
  apply List.ext_getElem?
  intro j
  unfold fillC
  rw [List.getElem?_set, bcells_get, bcells_get, bcells_len]
  by_cases h : k = j
  · subst h
    rw [if_pos rfl, if_pos (by simp; omega), List.getElem?_append_left (by simp)]
    simp
  · rw [if_neg h]
    by_cases h2 : j < k
    · rw [List.getElem?_append_left (by simpa using h2), List.getElem?_append_left (by simp; omega)]
      simp [List.getElem?_replicate, h2, show j < k + 1 by omega]
    · rw [List.getElem?_append_right (by simp; omega), List.getElem?_append_right (by simp; omega)]
      simp only [List.length_replicate, List.getElem?_replicate]
      by_cases h3 : j < 64
      · rw [if_pos (by omega), if_pos (by omega)]
      · rw [if_neg (by omega), if_neg (by omega)]
theorem make_z (w : World) (n : Nat) (hn : n ≤ 16777216) : ∃ w', (Instr.makeSlice 30 (.int .i64 n) (.int .i64 n)).run Tryz.prog w = .ok (.slice (some ⟨w.heap.size, 0, none⟩) n n) w' ∧
    w'.ownsRow w.heap.size 5 1 (.slice (some ⟨w.heap.size, 0, none⟩) n n) n (bcells (List.replicate n 0)) ∧ w.grownBy w' none := by
  obtain ⟨i0, hi, hz0, hz1, hz2⟩ := info_parts info_u8
  obtain ⟨w', h1, h2, h3⟩ := run_makeSlice_full w w.heap.size 30 5 i0 (.int .u8 0) 1 Tryz.underlying30 hi hz0 hz1 .i64 .i64 n (by omega) (by rw [hz2]; omega) (by unfold maxLen; omega) (Nat.le_refl _)
  refine ⟨w', h1, ?_, h3⟩
  have e : (madeCells (Value.cells (.int .u8 0)) (n * 1)).toList = bcells (List.replicate n 0) := by
    apply List.ext_getElem?
    intro j
    rw [bcells_get, List.getElem?_replicate]
    simp only [madeCells, Value.cells]
    by_cases h : j < n <;> simp [h, Nat.mod_one]
  rw [e] at h2
  exact h2
/-- 'append([]byte{}, s...)' -/
theorem wpList_append_empty {ops : Array Oper} {rest : List Oper} {o : Oper} {a : Act} {w0 : World} {Q : Exit → Act → World → Prop} (hgd : o.guard = none) (x y : Operand)
    (hop : o.op = .call { callee := .builtin .append, args := #[x, y], argTypes := #[30, 30] })
    (hx : a.eval x = .slice (some ⟨w0.heap.size, 0, none⟩) 0 0) (p : Option Addr) (l : List UInt8) (c : Nat) (hy : a.eval y = .slice p l.length c) (hb : BA w0 p l) (hl : l.length ≤ 140737488351232) (hn : p = none → c = 0)
    (h : ∀ v w', NewB w0 l v w' → wpList Tryz.prog ops Q rest (a.put o.dst v) w') : wpList Tryz.prog ops Q (o :: rest) a (w0.alloc (.cells #[] 5)) := by
  obtain ⟨i0, hi, hz0, hz1, hz2⟩ := info_parts info_u8
  have HG0 := World.grownBy_alloc w0 (.cells #[] 5) none
  have HOn := World.ownsRow_made (base := w0.heap.size) (e := 5) (size := 1) w0 #[] 0 (Nat.le_refl _) (by unfold maxLen; omega) (by simp)
  cases p with
  | none =>
    have hz : l = [] := by
      cases l with
      | nil => rfl
      | cons x l => obtain ⟨_, _, e, _⟩ := hb 0 (by simp); cases e
    subst hz
    rw [hn rfl] at hy
    refine wpList_append_own_none hgd x y 30 hop w0.heap.size 5 i0 1 Tryz.underlying30 hi _ 0 [] hx HOn hy ?_
    exact h _ _ ⟨by simpa [bcells] using HOn, HG0⟩
  | some ad =>
    refine wpList_append_own _ hgd x y 30 hop w0.heap.size 5 i0 (.int .u8 0) 1 1 Tryz.underlying30 hi hz0 hz1 hz2 rfl (by decide) _ 0 [] hx HOn ad l.length c (bcells l) hy (by rw [bcells_len, Nat.mul_one]) (fun j u hu => ?_) (bcells_one l) (by unfold maxLen; omega) (by omega) (by simp) ?_
    · have hj := (List.getElem?_eq_some_iff.1 hu).1
      rw [bcells_len] at hj
      obtain ⟨b, oo, e, hc⟩ := hb j hj
      cases e
      have e : (⟨b, oo, none⟩ : Addr).add j = ⟨b, oo + j, none⟩ := by unfold Addr.add; split <;> simp_all
      rw [bcells_at hj] at hu
      cases hu
      rw [e]
      exact HG0.cell hc (by simp)
    · intro v' w1 hown' hgrow _
      simp only [Nat.zero_add, List.nil_append] at hown'
      exact h _ _ ⟨hown', HG0.andThen hgrow (fun j hj => .inl (HOn.lt j hj).1)⟩
set_option maxRecDepth 100000 in
theorem make_128 (w : World) : ∃ w', (Instr.makeSlice 30 (.int .i64 128) (.int .i64 128)).run Tryz.prog w = .ok (.slice (some ⟨w.heap.size, 0, none⟩) 128 128) w' ∧
    w'.ownsRow w.heap.size 5 1 (.slice (some ⟨w.heap.size, 0, none⟩) 128 128) 128 (bcells (List.replicate 128 0)) ∧ w.grownBy w' none := make_z w 128 (by omega)
end Go.Proofs.YtpjlhiagifoogaaGreat.Imx
