/-
  Maps from integers to values of one cell that are not looked into, as functions; for any program. No walk here.
-/
import Derived.WalkKit
import Derived.Maps.OwnSet
import Derived.Maps.RangeWalk
import Derived.RegionTactic
set_option linter.unusedSimpArgs false
set_option linter.unusedVariables false
namespace Go.Proofs.YtnplkifohocekaaDoor.VM
open Go.RowKit

/-- an element as it is -/
def heldElem (v : Value) : Option (DataW Value × List MemPlace) := some (.held v, [])
/-- block b is a map from ints to values of at most T entries that is the function f; z is its elements' zero -/
def VMap (P : Program) (k : TypeId) (z : Value) (w : World) (b T : Nat) (f : Int → Option Value) : Prop :=
  ∃ D : DataW Value, w.ownsMap P k heldElem b T D ∧ Maps.IsMap D ∧ ∀ g : Int, Maps.has D (.int .i64 g) = (f g).isSome ∧ D.atKey (.int .i64 g) (.held z) = .held ((f g).getD z)

section
variable {P : Program} {k : TypeId} {z : Value} {w w' : World} {b T : Nat} {f : Int → Option Value}
theorem VMap.lt (h : VMap P k z w b T f) : b < w.heap.size := by obtain ⟨D, h, _⟩ := h; exact h.lt
theorem VMap.same (h : VMap P k z w b T f) (hb : w'.heap[b]? = w.heap[b]?) : VMap P k z w' b T f := by
  obtain ⟨D, ⟨es, c, h0, r⟩, q⟩ := h
  exact ⟨D, ⟨es, c, hb.trans h0, r⟩, q⟩
theorem VMap.grown {row : Option Nat} (h : VMap P k z w b T f) (hg : w.grownBy w' row) (hr : some b ≠ row) : VMap P k z w' b T f := h.same (hg.block b h.lt hr)
theorem VMap.alloc (h : VMap P k z w b T f) (o : Obj) : VMap P k z (w.alloc o) b T f := h.grown (World.grownBy_alloc w o none) (by simp)
theorem VMap.drew (h : VMap P k z w b T f) : VMap P k z w.drew b T f := h
theorem VMap.mono (h : VMap P k z w b T f) {T' : Nat} (hT : T ≤ T') : VMap P k z w b T' f := by obtain ⟨D, h, r⟩ := h; exact ⟨D, h.mono hT, r⟩
theorem VMap.congr (h : VMap P k z w b T f) {f' : Int → Option Value} (hf : ∀ g, f' g = f g) : VMap P k z w b T f' := by obtain ⟨D, h, m, r⟩ := h; exact ⟨D, h, m, fun g => by rw [hf g]; exact r g⟩
theorem VMap.made (w : World) (P : Program) (k : TypeId) (z : Value) : VMap P k z (w.alloc (.map #[] 0)) w.heap.size 0 (fun _ => none) :=
  ⟨.map [], World.ownsMap_made w P k _, ⟨_, rfl⟩, fun _ => ⟨rfl, rfl⟩⟩
/-- the block is a map's -/
theorem VMap.isMap (h : VMap P k z w b T f) : ∃ es c, w.heap[b]? = some (.map es c) := by obtain ⟨D, ⟨es, c, h0, _⟩, _⟩ := h; exact ⟨es, c, h0⟩
theorem not_same {g x : Int} (h : g ≠ x) : (Lit.int .i64 g) ≠ (Lit.int .i64 x) := fun e => h (by injection e)
end

section
variable {P : Program} (w : World) {ops : Array Oper} {rest : List Oper} {o : Oper} {a : Act} {Q : Exit → Act → World → Prop}
open Go.Maps (Keyed)
/-- 'm[k]' as an equation -/
theorem VMap.look {t k e : TypeId} {z : Value} {b T : Nat} {f : Int → Option Value} (h : VMap P k z w b T f) (K : Keyed P k) (hk : P.underlying k = some (.int .i64)) (ht : P.underlying t = some (.map k e)) (hz : (zeroValue e).run P w = .ok z w) {g : Int} (hw : (Lit.int .i64 g).wf = true) :
    (Instr.lookup t (.map (some b)) (.int .i64 g) false).run P w = .ok ((f g).getD z) w := by
  obtain ⟨D, h, hD, hf⟩ := h
  obtain ⟨v, ps, hrun, hv⟩ := h.lookup K ht hz (zd := .held z) (zp := []) rfl (Maps.keyOf_int_mk hk hw)
  obtain ⟨h1, h2⟩ := hf g
  rw [h2] at hv
  simp only [heldElem, Option.some.injEq, Prod.mk.injEq] at hv
  obtain ⟨e, _⟩ := hv
  injection e with e
  rw [hrun, e]
theorem wpList_look_vmap (hg : o.guard = none) (m x : Operand) (t : TypeId) (hop : o.op = Op.lookup t m x false)
    (k e : TypeId) (K : Keyed P k) (hk : P.underlying k = some (.int .i64)) (ht : P.underlying t = some (.map k e)) (z : Value) (hz : (zeroValue e).run P w = .ok z w) (b T : Nat) (f : Int → Option Value)
    (hm : a.eval m = .map (some b)) (hown : VMap P k z w b T f) (g : Int) (hx : a.eval x = .int .i64 g) (hw : (Lit.int .i64 g).wf = true)
    (hK : wpList P ops Q rest (a.put o.dst ((f g).getD z)) w) :
    wpList P ops Q (o :: rest) a w := by
  refine wpList_plain hg fun K' hK' => ?_
  have hrun := hown.look w K hk ht hz hw
  unfold Oper.wp
  simp [execOp, hop, hm, hx, hrun, Result.andThen]
  exact hK' _ _ hK
/-- 'm[k] = v' as an equation -/
theorem VMap.store {t k e : TypeId} {z : Value} {b T : Nat} {f : Int → Option Value} (h : VMap P k z w b T f) (K : Keyed P k) (hk : P.underlying k = some (.int .i64)) (ht : P.underlying t = some (.map k e)) (hn : T < maxLen) {g : Int} (hw : (Lit.int .i64 g).wf = true) (v : Value) :
    ∃ w', (Instr.mapUpdate t (.map (some b)) (.int .i64 g) v).run P w = .ok () w' ∧ VMap P k z w' b (T + 1) (fun i => if i = g then some v else f i) ∧ w.grownBy w' (some b) := by
  obtain ⟨D, h, hD, hf⟩ := h
  obtain ⟨w', hrun, h', hg'⟩ := h.update K ht hn (Maps.keyOf_int_mk hk hw) (val := v) (d := .held v) (ps := []) rfl
  refine ⟨w', hrun, ⟨_, h', hD.put _ _, fun x => ?_⟩, hg'⟩
  show _ = ((if x = g then some v else f x) : Option Value).isSome ∧ _ = DataW.held (((if x = g then some v else f x) : Option Value).getD z)
  by_cases hx : x = g
  · subst hx
    have hkl : WideAt.IsKeyLit (Lit.int .i64 x) := trivial
    rw [if_pos rfl, Maps.has_put_same hD hkl, Maps.atKey_put_same hD hkl]
    exact ⟨rfl, rfl⟩
  · rw [if_neg hx, Maps.has_put_other (not_same hx), Maps.atKey_put_other (not_same hx)]
    exact hf x
/-- 'delete(m, k)' -/
theorem wpList_delete_vmap (hg : o.guard = none) (m x : Operand) (t k : TypeId) (hop : o.op = Op.call { callee := Callee.builtin Builtin.delete, args := #[m, x], argTypes := #[t, k] })
    (e : TypeId) (K : Keyed P k) (hk : P.underlying k = some (.int .i64)) (ht : P.underlying t = some (.map k e)) (z : Value) (b T : Nat) (f : Int → Option Value)
    (hm : a.eval m = .map (some b)) (hown : VMap P k z w b T f) (g : Int) (hx : a.eval x = .int .i64 g) (hw : (Lit.int .i64 g).wf = true)
    (hK : ∀ w', VMap P k z w' b T (fun i => if i = g then none else f i) → w.grownBy w' (some b) → wpList P ops Q rest (a.put o.dst (.tuple #[])) w') :
    wpList P ops Q (o :: rest) a w := by
  obtain ⟨D, h, hD, hf⟩ := hown
  refine wpList_delete_own w hg m x t k hop e K ht heldElem b T D hm h (.int .i64 g) (.int .i64 g) hx (Maps.keyOf_int_mk hk hw)
    fun w' h' hg' => hK w' ⟨_, h', hD.del _, fun x => ?_⟩ hg'.grown
  show _ = ((if x = g then none else f x) : Option Value).isSome ∧ _ = DataW.held (((if x = g then none else f x) : Option Value).getD z)
  by_cases hx : x = g
  · subst hx
    rw [if_pos rfl, Maps.has_del_same, Maps.atKey_del_same]
    exact ⟨rfl, rfl⟩
  · rw [if_neg hx, Maps.has_del_other (not_same hx), Maps.atKey_del_other (not_same hx)]
    exact hf x

/-- an iterator r over the map b; left g: is the entry at g still to come? -/
def VRange (P : Program) (k : TypeId) (z : Value) (w : World) (b r T : Nat) (f : Int → Option Value) (left : Int → Bool) : Prop :=
  ∃ (D : DataW Value) (lf : Lit → Bool) (cnt : Nat), w.ranges P k heldElem b r T D lf cnt ∧ (∀ g : Int, Maps.has D (.int .i64 g) = (f g).isSome ∧ D.atKey (.int .i64 g) (.held z) = .held ((f g).getD z)) ∧ (∀ g : Int, lf (.int .i64 g) = left g)
theorem wpList_range_vmap (hg : o.guard = none) (m : Operand) (t : TypeId) (hop : o.op = Op.range t m) (k e : TypeId) (K : Keyed P k) (ht : P.underlying t = some (.map k e)) (z : Value) (b T : Nat) (f : Int → Option Value)
    (hm : a.eval m = .map (some b)) (hown : VMap P k z w b T f)
    (hK : ∀ w', VRange P k z w' b w.heap.size T f (fun g => (f g).isSome) → w.grownBy w' none → w'.heap.size = w.heap.size + 1 → wpList P ops Q rest (a.put o.dst (.pointer (some ⟨w.heap.size, 0, none⟩))) w') :
    wpList P ops Q (o :: rest) a w := by
  obtain ⟨D, h, hD, hf⟩ := hown
  exact wpList_range_own w hg m t hop k e K ht heldElem b T D hm h fun w' hr hg' hs => hK w' ⟨D, _, _, hr, hf, fun g => (hf g).1⟩ hg' hs
theorem wpList_next_vmap (hg : o.guard = none) (it : Operand) (hop : o.op = Op.next it false) (k : TypeId) (K : Keyed P k) (hk : P.underlying k = some (.int .i64)) (z : Value) (b r T : Nat) (f : Int → Option Value) (left : Int → Bool)
    (hit : a.eval it = .pointer (some ⟨r, 0, none⟩)) (h : VRange P k z w b r T f left)
    (hDone : (∀ g : Int, left g = false) → wpList P ops Q rest (a.put o.dst (.tuple #[.bool false])) w)
    (hMore : ∀ (x : Int) (c : Value) (w' : World), (Lit.int .i64 x).wf = true → left x = true → f x = some c → VRange P k z w' b r T f (fun g => left g && decide (g ≠ x)) → w'.rangeLeft b r < w.rangeLeft b r →
      w.grownBy w' (some r) → w'.heap.size = w.heap.size → (Instr.entry (.pointer (some ⟨r, 0, none⟩))).run P w' = .ok (.tuple #[.int .i64 x, c]) w' → wpList P ops Q rest (a.put o.dst (.tuple #[.bool true, .int .i64 x, c])) w') :
    wpList P ops Q (o :: rest) a w := by
  obtain ⟨D, lf, cnt, hr, hf, hl⟩ := h
  have hr0 := hr
  refine wpList_next_ranges w hg it hop k K heldElem (Value.int .i64) (fun v : Value => v) (fun key kl hkey => by obtain ⟨x, rfl, _⟩ := Maps.keyOf_int_inv hk hkey; exact ⟨x, rfl⟩) (fun v y _ => ⟨v, rfl⟩) b r T D lf cnt hit hr
    (fun _ hl0 => hDone fun g => by rw [← hl g]; exact hl0 _)
    (fun x c kl y w' cnt' hkey hlk hv hat hrg hlt hgr hsz hen => ?_)
  obtain ⟨x', ex, rfl, hwx⟩ := Maps.keyOf_int_inv hk hkey
  cases ex
  simp only [heldElem, Option.some.injEq] at hv
  subst hv
  obtain ⟨h1, h2⟩ := hf x
  have hfx : f x = some c := by
    have e1 := hat (.held z)
    rw [h2] at e1
    injection e1 with e1
    have hz := Maps.has_true_of_atKey hat
    rw [h1] at hz
    obtain ⟨q, hq⟩ := Option.isSome_iff_exists.1 hz
    rw [hq] at e1 ⊢
    simp only [Option.getD_some] at e1
    rw [e1]
  refine hMore x c w' hwx (by rw [← hl x]; exact hlk) hfx ⟨D, _, cnt', hrg, hf, fun g => ?_⟩ (by rw [hrg.left_eq, hr0.left_eq]; exact hlt) hgr hsz hen
  rw [hl g]
  congr 1
  by_cases e : g = x
  · subst e; simp [WideAt.sameKey_self (a := Lit.int .i64 g) trivial]
  · rw [Maps.sameKey_ne (not_same e)]; simp [e]
end
/-! ### at a step of a region that draws its order -/
section
variable {P : Program} (w : World) {ops : Array Oper} {o : Oper} {a : Act} {K : Act → World → Prop} {Q : Exit → Act → World → Prop} {E : Prop}
open Go.Maps (Keyed)
theorem step_look_vmap (hg : o.guard = none) (m x : Operand) (t : TypeId) (hop : o.op = Op.lookup t m x false)
    (k e : TypeId) (K' : Keyed P k) (hk : P.underlying k = some (.int .i64)) (ht : P.underlying t = some (.map k e)) (z : Value) (hz : (zeroValue e).run P w = .ok z w) (b T : Nat) (f : Int → Option Value)
    (hm : a.eval m = .map (some b)) (hown : VMap P k z w b T f) (g : Int) (hx : a.eval x = .int .i64 g) (hw : (Lit.int .i64 g).wf = true)
    (h : K (a.put o.dst ((f g).getD z)) w) :
    if Region.wanted o (yielded ops a.tmps) = true then Oper.wp P o a w K Q else E := by
  have hw' : Region.wanted o (yielded ops a.tmps) = true := by simp [Region.wanted, hg]
  rw [if_pos hw']
  have hrun := hown.look w K' hk ht hz hw
  unfold Oper.wp
  simp [execOp, hop, hm, hx, hrun, Result.andThen]
  exact h
theorem step_store_vmap (hg : o.guard = none) (m x v : Operand) (t : TypeId) (hop : o.op = Op.mapUpdate t m x v)
    (k e : TypeId) (K' : Keyed P k) (hk : P.underlying k = some (.int .i64)) (ht : P.underlying t = some (.map k e)) (z : Value) (b T : Nat) (f : Int → Option Value)
    (hm : a.eval m = .map (some b)) (hown : VMap P k z w b T f) (hn : T < maxLen) (g : Int) (hx : a.eval x = .int .i64 g) (hw : (Lit.int .i64 g).wf = true) (y : Value) (hv : a.eval v = y)
    (h : ∀ w', VMap P k z w' b (T + 1) (fun i => if i = g then some y else f i) → w.grownBy w' (some b) → K (a.put o.dst undef) w') :
    if Region.wanted o (yielded ops a.tmps) = true then Oper.wp P o a w K Q else E := by
  have hw' : Region.wanted o (yielded ops a.tmps) = true := by simp [Region.wanted, hg]
  rw [if_pos hw']
  obtain ⟨w', hrun, h1, h2⟩ := hown.store w K' hk ht hn hw y
  unfold Oper.wp
  simp [execOp, hop, hm, hx, hv, hrun, Result.andThen]
  exact h w' h1 h2
theorem step_delete_vmap (hg : o.guard = none) (m x : Operand) (t k : TypeId) (hop : o.op = Op.call { callee := Callee.builtin Builtin.delete, args := #[m, x], argTypes := #[t, k] })
    (e : TypeId) (K' : Keyed P k) (hk : P.underlying k = some (.int .i64)) (ht : P.underlying t = some (.map k e)) (z : Value) (b T : Nat) (f : Int → Option Value)
    (hm : a.eval m = .map (some b)) (hown : VMap P k z w b T f) (g : Int) (hx : a.eval x = .int .i64 g) (hw : (Lit.int .i64 g).wf = true)
    (h : ∀ w', VMap P k z w' b T (fun i => if i = g then none else f i) → w.grownBy w' (some b) → K (a.put o.dst (.tuple #[])) w') :
    if Region.wanted o (yielded ops a.tmps) = true then Oper.wp P o a w K Q else E := by
  have hw' : Region.wanted o (yielded ops a.tmps) = true := by simp [Region.wanted, hg]
  rw [if_pos hw']
  obtain ⟨D, h0, hD, hf⟩ := hown
  obtain ⟨w', hrun, h1, h2⟩ := h0.drop K' ht (Maps.keyOf_int_mk hk hw) o.type
  unfold Oper.wp
  simp [execOp, hop, resolve, invoke, builtin, hm, hx, hrun, Result.andThen]
  refine h w' ⟨_, h1, hD.del _, fun y => ?_⟩ h2.grown
  show _ = ((if y = g then none else f y) : Option Value).isSome ∧ _ = DataW.held (((if y = g then none else f y) : Option Value).getD z)
  by_cases hy : y = g
  · subst hy
    rw [if_pos rfl, Maps.has_del_same, Maps.atKey_del_same]
    exact ⟨rfl, rfl⟩
  · rw [if_neg hy, Maps.has_del_other (not_same hy), Maps.atKey_del_other (not_same hy)]
    exact hf y
end
end Go.Proofs.YtnplkifohocekaaDoor.VM
