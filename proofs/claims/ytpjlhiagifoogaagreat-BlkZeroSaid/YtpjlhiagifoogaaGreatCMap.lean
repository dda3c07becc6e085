/-
  Maps from integers to values that are not looked into, as functions, with the number of their entries; for any program. No walk here.
-/
import Derived.WalkKit
import Derived.Maps.OwnSet
import Derived.Maps.RangeWalk
import Derived.RegionTactic
import Derived.Maps.OwnOps
set_option linter.unusedSimpArgs false
set_option linter.unusedVariables false
namespace Go.Proofs.YtpjlhiagifoogaaGreat.CM
open Go.RowKit

/-- an element as it is -/
def heldElem (v : Value) : Option (DataW Value × List MemPlace) := some (.held v, [])
/-- block b is a map from ints to values of c entries that is the function f; z is its elements' zero -/
def CMap (P : Program) (k : TypeId) (z : Value) (w : World) (b c : Nat) (f : Int → Option Value) : Prop :=
  ∃ D : DataW Value, w.ownsMap P k heldElem b c D ∧ Maps.size D = c ∧ Maps.Tidy D ∧ ∀ g : Int, Maps.has D (.int .i64 g) = (f g).isSome ∧ D.atKey (.int .i64 g) (.held z) = .held ((f g).getD z)
theorem tight {P : Program} {k : TypeId} {R : Value → Option (DataW Value × List MemPlace)} {w : World} {b n : Nat} {D : DataW Value} (h : w.ownsMap P k R b n D) : w.ownsMap P k R b (Maps.size D) D := by
  obtain ⟨es, c, hb, F, _, rfl⟩ := h
  refine ⟨es, c, hb, F, ?_, rfl⟩
  have := Go.length_read (P := P) (k := k) (R0 := R) es
  simp only [Maps.size]
  omega
section
variable {P : Program} {k : TypeId} {z : Value} {w w' : World} {b c : Nat} {f : Int → Option Value}
theorem CMap.lt (h : CMap P k z w b c f) : b < w.heap.size := by obtain ⟨D, h, _⟩ := h; exact h.lt
theorem CMap.same (h : CMap P k z w b c f) (hb : w'.heap[b]? = w.heap[b]?) : CMap P k z w' b c f := by
  obtain ⟨D, ⟨es, c, h0, r⟩, q⟩ := h
  exact ⟨D, ⟨es, c, hb.trans h0, r⟩, q⟩
theorem CMap.grown {row : Option Nat} (h : CMap P k z w b c f) (hg : w.grownBy w' row) (hr : some b ≠ row) : CMap P k z w' b c f := h.same (hg.block b h.lt hr)
theorem CMap.alloc (h : CMap P k z w b c f) (o : Obj) : CMap P k z (w.alloc o) b c f := h.grown (World.grownBy_alloc w o none) (by simp)
theorem CMap.drew (h : CMap P k z w b c f) : CMap P k z w.drew b c f := h
theorem CMap.congr (h : CMap P k z w b c f) {f' : Int → Option Value} (hf : ∀ g, f' g = f g) : CMap P k z w b c f' := by obtain ⟨D, h, m, t, r⟩ := h; exact ⟨D, h, m, t, fun g => by rw [hf g]; exact r g⟩
theorem CMap.made (w : World) (P : Program) (k : TypeId) (z : Value) : CMap P k z (w.alloc (.map #[] 0)) w.heap.size 0 (fun _ => none) :=
  ⟨.map [], World.ownsMap_made w P k _, rfl, Maps.tidy_empty, fun _ => ⟨rfl, rfl⟩⟩
/-- the block is a map's -/
theorem CMap.isMap (h : CMap P k z w b c f) : ∃ es c, w.heap[b]? = some (.map es c) := by obtain ⟨D, ⟨es, c, h0, _⟩, _⟩ := h; exact ⟨es, c, h0⟩
/-- a copy of the block is the same map -/
theorem CMap.copied (h : CMap P k z w b c f) {es : Array MapEntry} {cl : Nat} (hb : w.heap[b]? = some (.map es cl)) {b' : Nat} (hb' : w'.heap[b']? = some (.map es cl)) : CMap P k z w' b' c f := by
  obtain ⟨D, ⟨es0, c0, h0, r⟩, q⟩ := h
  rw [hb] at h0
  cases h0
  exact ⟨D, ⟨_, _, hb', r⟩, q⟩
theorem not_same {g x : Int} (h : g ≠ x) : (Lit.int .i64 g) ≠ (Lit.int .i64 x) := fun e => h (by injection e)
end

section
variable {P : Program} (w : World) {ops : Array Oper} {rest : List Oper} {o : Oper} {a : Act} {Q : Exit → Act → World → Prop}
open Go.Maps (Keyed)
/-- 'v, ok := m[k]' as an equation -/
theorem CMap.look_ok {t k e : TypeId} {z : Value} {b c : Nat} {f : Int → Option Value} (h : CMap P k z w b c f) (K : Keyed P k) (hk : P.underlying k = some (.int .i64)) (ht : P.underlying t = some (.map k e)) (hz : (zeroValue e).run P w = .ok z w) {g : Int} (hw : (Lit.int .i64 g).wf = true) :
    (Instr.lookup t (.map (some b)) (.int .i64 g) true).run P w = .ok (.tuple #[(f g).getD z, .bool (f g).isSome]) w := by
  obtain ⟨D, h, _, hD, hf⟩ := h
  obtain ⟨v, ps, hrun, hv⟩ := h.look_ok K ht hz (zd := .held z) (zp := []) rfl (Maps.keyOf_int_mk hk hw)
  obtain ⟨h1, h2⟩ := hf g
  rw [h2] at hv
  simp only [heldElem, Option.some.injEq, Prod.mk.injEq] at hv
  obtain ⟨e, _⟩ := hv
  injection e with e
  rw [hrun, e, h1]
theorem wpList_look_ok_cmap (hg : o.guard = none) (m x : Operand) (t : TypeId) (hop : o.op = Op.lookup t m x true)
    (k e : TypeId) (K : Keyed P k) (hk : P.underlying k = some (.int .i64)) (ht : P.underlying t = some (.map k e)) (z : Value) (hz : (zeroValue e).run P w = .ok z w) (b c : Nat) (f : Int → Option Value)
    (hm : a.eval m = .map (some b)) (hown : CMap P k z w b c f) (g : Int) (hx : a.eval x = .int .i64 g) (hw : (Lit.int .i64 g).wf = true)
    (hK : wpList P ops Q rest (a.put o.dst (.tuple #[(f g).getD z, .bool (f g).isSome])) w) :
    wpList P ops Q (o :: rest) a w := by
  refine wpList_plain hg fun K' hK' => ?_
  have hrun := hown.look_ok w K hk ht hz hw
  unfold Oper.wp
  simp [execOp, hop, hm, hx, hrun, Result.andThen]
  exact hK' _ _ hK
/-- 'len(m)' -/
theorem CMap.len {t k e : TypeId} {z : Value} {b c : Nat} {f : Int → Option Value} (h : CMap P k z w b c f) (ht : P.underlying t = some (.map k e)) (ty : TypeId) : (Builtin.len_ #[t] ty #[.map (some b)]).run P w = .ok (.int .i64 c) w := by
  obtain ⟨D, h, hs, _⟩ := h
  rw [h.len ht ty, hs]
theorem CMap.put {k e t : TypeId} {z : Value} {b c : Nat} {f : Int → Option Value} (h : CMap P k z w b c f) (K : Keyed P k) (hk : P.underlying k = some (.int .i64)) (ht : P.underlying t = some (.map k e)) (hn : c < maxLen) {g : Int} (hw : (Lit.int .i64 g).wf = true) (v : Value) :
    ∃ w', (Instr.mapUpdate t (.map (some b)) (.int .i64 g) v).run P w = .ok () w' ∧ CMap P k z w' b (if (f g).isSome = true then c else c + 1) (fun i => if i = g then some v else f i) ∧ w.grownBy w' (some b) := by
  obtain ⟨D, h, hs, hD, hf⟩ := h
  obtain ⟨w', hrun, h', hg'⟩ := h.update K ht hn (Maps.keyOf_int_mk hk hw) (val := v) (d := .held v) (ps := []) rfl
  have hkl : WideAt.IsKeyLit (Lit.int .i64 g) := trivial
  have hsz : Maps.size (D.put (Lit.int .i64 g) (.held v)) = if (f g).isSome = true then c else c + 1 := by
    have := Maps.size_put hD (k := Lit.int .i64 g) (.held v)
    rw [(hf g).1, hs] at this
    rw [this]
  have h2 := tight h'
  rw [hsz] at h2
  refine ⟨w', hrun, ⟨_, h2, hsz, hD.put hkl _, fun x => ?_⟩, hg'⟩
  show _ = ((if x = g then some v else f x) : Option Value).isSome ∧ _ = DataW.held (((if x = g then some v else f x) : Option Value).getD z)
  by_cases hx : x = g
  · subst hx
    rw [if_pos rfl, Maps.has_put_same hD.isMap hkl, Maps.atKey_put_same hD.isMap hkl]
    exact ⟨rfl, rfl⟩
  · rw [if_neg hx, Maps.has_put_other (not_same hx), Maps.atKey_put_other (not_same hx)]
    exact hf x
theorem wpList_delete_cmap (hg : o.guard = none) (m x : Operand) (t k : TypeId) (hop : o.op = Op.call { callee := Callee.builtin Builtin.delete, args := #[m, x], argTypes := #[t, k] })
    (e : TypeId) (K : Keyed P k) (hk : P.underlying k = some (.int .i64)) (ht : P.underlying t = some (.map k e)) (z : Value) (b c : Nat) (f : Int → Option Value)
    (hm : a.eval m = .map (some b)) (hown : CMap P k z w b c f) (g : Int) (hx : a.eval x = .int .i64 g) (hw : (Lit.int .i64 g).wf = true)
    (hK : ∀ w', CMap P k z w' b (if (f g).isSome = true then c - 1 else c) (fun i => if i = g then none else f i) → w.grownBy w' (some b) → wpList P ops Q rest (a.put o.dst (.tuple #[])) w') :
    wpList P ops Q (o :: rest) a w := by
  obtain ⟨D, h, hs, hD, hf⟩ := hown
  refine wpList_delete_own w hg m x t k hop e K ht heldElem b c D hm h (.int .i64 g) (.int .i64 g) hx (Maps.keyOf_int_mk hk hw)
    fun w' h' hg' => hK w' ?_ hg'.grown
  have hsz : Maps.size (D.del (Lit.int .i64 g)) = if (f g).isSome = true then c - 1 else c := by
    have := Maps.size_del hD (k := Lit.int .i64 g)
    rw [(hf g).1, hs] at this
    split <;> simp_all <;> omega
  have h2 := tight h'
  rw [hsz] at h2
  refine ⟨_, h2, hsz, hD.del _, fun x => ?_⟩
  show _ = ((if x = g then none else f x) : Option Value).isSome ∧ _ = DataW.held (((if x = g then none else f x) : Option Value).getD z)
  by_cases hx : x = g
  · subst hx
    rw [if_pos rfl, Maps.has_del_same, Maps.atKey_del_same]
    exact ⟨rfl, rfl⟩
  · rw [if_neg hx, Maps.has_del_other (not_same hx), Maps.atKey_del_other (not_same hx)]
    exact hf x
end
end Go.Proofs.YtpjlhiagifoogaaGreat.CM
