/-
  Maps whose keys have any readable shape, to values that are not looked into, as functions; for any program. No walk here.
-/
import Derived.WalkKit
import Derived.Maps.OwnSet
import Derived.Maps.RangeWalk
import Derived.RegionTactic
import Derived.DeepKeys4
set_option linter.unusedSimpArgs false
set_option linter.unusedVariables false
namespace Go.Proofs.Ytibiianmpajabaa.KM
open Go.RowKit

/-- the keys of type k are the values mk x, x being fit -/
structure KS (P : Program) (k : TypeId) {κ : Type} (mk : κ → Value) (fit : κ → Prop) : Prop where
  K : Maps.Keyed P k
  wf : ∀ x, fit x → ∃ kl, keyOf P k (mk x) = some kl
  inv : ∀ v kl, keyOf P k v = some kl → ∃ x, v = mk x ∧ fit x
  inj : ∀ x y, mk x = mk y → x = y
/-- an element as it is -/
def heldElem (v : Value) : Option (DataW Value × List MemPlace) := some (.held v, [])
/-- D, read, is the function f -/
def Reads {κ : Type} (P : Program) (k : TypeId) (mk : κ → Value) (z : Value) (D : DataW Value) (f : κ → Option Value) : Prop :=
  ∀ x kl, keyOf P k (mk x) = some kl → Maps.has D kl = (f x).isSome ∧ D.atKey kl (.held z) = .held ((f x).getD z)
/-- block b is a map of at most T entries that is the function f; z is its elements' zero -/
def KMap {κ : Type} (P : Program) (k : TypeId) (mk : κ → Value) (z : Value) (w : World) (b T : Nat) (f : κ → Option Value) : Prop :=
  ∃ D : DataW Value, w.ownsMap P k heldElem b T D ∧ Maps.IsMap D ∧ Reads P k mk z D f

section
variable {κ : Type} [DecidableEq κ] {P : Program} {k : TypeId} {mk : κ → Value} {fit : κ → Prop} {z : Value} {w w' : World} {b T : Nat} {f : κ → Option Value}
omit [DecidableEq κ]
theorem KMap.lt (h : KMap P k mk z w b T f) : b < w.heap.size := by obtain ⟨D, h, _⟩ := h; exact h.lt
theorem KMap.same (h : KMap P k mk z w b T f) (hb : w'.heap[b]? = w.heap[b]?) : KMap P k mk z w' b T f := by
  obtain ⟨D, ⟨es, c, h0, r⟩, q⟩ := h
  exact ⟨D, ⟨es, c, hb.trans h0, r⟩, q⟩
theorem KMap.grown {row : Option Nat} (h : KMap P k mk z w b T f) (hg : w.grownBy w' row) (hr : some b ≠ row) : KMap P k mk z w' b T f := h.same (hg.block b h.lt hr)
theorem KMap.alloc (h : KMap P k mk z w b T f) (o : Obj) : KMap P k mk z (w.alloc o) b T f := h.grown (World.grownBy_alloc w o none) (by simp)
theorem KMap.drew (h : KMap P k mk z w b T f) : KMap P k mk z w.drew b T f := h
theorem KMap.mono (h : KMap P k mk z w b T f) {T' : Nat} (hT : T ≤ T') : KMap P k mk z w b T' f := by obtain ⟨D, h, r⟩ := h; exact ⟨D, h.mono hT, r⟩
theorem KMap.congr (h : KMap P k mk z w b T f) {f' : κ → Option Value} (hf : ∀ g, f' g = f g) : KMap P k mk z w b T f' := by obtain ⟨D, h, m, r⟩ := h; exact ⟨D, h, m, fun g kl hk => by rw [hf g]; exact r g kl hk⟩
theorem KMap.made (w : World) (P : Program) (k : TypeId) (mk : κ → Value) (z : Value) : KMap P k mk z (w.alloc (.map #[] 0)) w.heap.size 0 (fun _ => none) :=
  ⟨.map [], World.ownsMap_made w P k _, ⟨_, rfl⟩, fun _ _ _ => ⟨rfl, rfl⟩⟩
/-- the block is a map's -/
theorem KMap.isMap (h : KMap P k mk z w b T f) : ∃ es c, w.heap[b]? = some (.map es c) := by obtain ⟨D, ⟨es, c, h0, _⟩, _⟩ := h; exact ⟨es, c, h0⟩
theorem KS.ne (S : KS P k mk fit) {x y : κ} (h : x ≠ y) {kx ky : Lit} (hx : keyOf P k (mk x) = some kx) (hy : keyOf P k (mk y) = some ky) : kx ≠ ky :=
  fun e => h (S.inj x y (S.K.inj hx (e ▸ hy)))
end

section
variable {κ : Type} [DecidableEq κ] {P : Program} (w : World) {k : TypeId} {mk : κ → Value} {fit : κ → Prop} {ops : Array Oper} {rest : List Oper} {o : Oper} {a : Act} {Q : Exit → Act → World → Prop}
open Go.Maps (Keyed)
theorem Reads.upd {z : Value} {D : DataW Value} {f : κ → Option Value} (S : KS P k mk fit) (hD : Maps.IsMap D) (hf : Reads P k mk z D f) {x : κ} {kl : Lit} (hx : keyOf P k (mk x) = some kl) (v : Value) :
    Reads P k mk z (D.put kl (.held v)) (fun i => if i = x then some v else f i) := fun y ky hy => by
  show _ = ((if y = x then some v else f y) : Option Value).isSome ∧ _ = DataW.held (((if y = x then some v else f y) : Option Value).getD z)
  by_cases e : y = x
  · subst e
    rw [hx] at hy
    cases hy
    rw [if_pos rfl, Maps.has_put_same hD (S.K.key hx), Maps.atKey_put_same hD (S.K.key hx)]
    exact ⟨rfl, rfl⟩
  · rw [if_neg e, Maps.has_put_other (S.ne e hy hx), Maps.atKey_put_other (S.ne e hy hx)]
    exact hf y ky hy
theorem Reads.del {z : Value} {D : DataW Value} {f : κ → Option Value} (S : KS P k mk fit) (hf : Reads P k mk z D f) {x : κ} {kl : Lit} (hx : keyOf P k (mk x) = some kl) :
    Reads P k mk z (D.del kl) (fun i => if i = x then none else f i) := fun y ky hy => by
  show _ = ((if y = x then none else f y) : Option Value).isSome ∧ _ = DataW.held (((if y = x then none else f y) : Option Value).getD z)
  by_cases e : y = x
  · subst e
    rw [hx] at hy
    cases hy
    rw [if_pos rfl, Maps.has_del_same, Maps.atKey_del_same]
    exact ⟨rfl, rfl⟩
  · rw [if_neg e, Maps.has_del_other (S.ne e hy hx), Maps.atKey_del_other (S.ne e hy hx)]
    exact hf y ky hy
omit [DecidableEq κ] in
/-- 'm[k]' as an equation -/
theorem KMap.look {t e : TypeId} {z : Value} {b T : Nat} {f : κ → Option Value} (h : KMap P k mk z w b T f) (S : KS P k mk fit) (ht : P.underlying t = some (.map k e)) (hz : (zeroValue e).run P w = .ok z w) {x : κ} (hx : fit x) :
    (Instr.lookup t (.map (some b)) (mk x) false).run P w = .ok ((f x).getD z) w := by
  obtain ⟨D, h, hD, hf⟩ := h
  obtain ⟨kl, hkl⟩ := S.wf x hx
  obtain ⟨v, ps, hrun, hv⟩ := h.lookup S.K ht hz (zd := .held z) (zp := []) rfl hkl
  obtain ⟨h1, h2⟩ := hf x kl hkl
  rw [h2] at hv
  simp only [heldElem, Option.some.injEq, Prod.mk.injEq] at hv
  obtain ⟨e, _⟩ := hv
  injection e with e
  rw [hrun, e]
omit [DecidableEq κ] in
/-- 'v, ok := m[k]' as an equation -/
theorem KMap.look_ok {t e : TypeId} {z : Value} {b T : Nat} {f : κ → Option Value} (h : KMap P k mk z w b T f) (S : KS P k mk fit) (ht : P.underlying t = some (.map k e)) (hz : (zeroValue e).run P w = .ok z w) {x : κ} (hx : fit x) :
    (Instr.lookup t (.map (some b)) (mk x) true).run P w = .ok (.tuple #[(f x).getD z, .bool (f x).isSome]) w := by
  obtain ⟨D, h, hD, hf⟩ := h
  obtain ⟨kl, hkl⟩ := S.wf x hx
  obtain ⟨v, ps, hrun, hv⟩ := h.look_ok S.K ht hz (zd := .held z) (zp := []) rfl hkl
  obtain ⟨h1, h2⟩ := hf x kl hkl
  rw [h2] at hv
  simp only [heldElem, Option.some.injEq, Prod.mk.injEq] at hv
  obtain ⟨e, _⟩ := hv
  injection e with e
  rw [hrun, e, h1]
/-- 'm[k] = v' as an equation -/
theorem KMap.store {t e : TypeId} {z : Value} {b T : Nat} {f : κ → Option Value} (h : KMap P k mk z w b T f) (S : KS P k mk fit) (ht : P.underlying t = some (.map k e)) (hn : T < maxLen) {x : κ} (hx : fit x) (v : Value) :
    ∃ w', (Instr.mapUpdate t (.map (some b)) (mk x) v).run P w = .ok () w' ∧ KMap P k mk z w' b (T + 1) (fun i => if i = x then some v else f i) ∧ w.grownBy w' (some b) := by
  obtain ⟨D, h, hD, hf⟩ := h
  obtain ⟨kl, hkl⟩ := S.wf x hx
  obtain ⟨w', hrun, h', hg'⟩ := h.update S.K ht hn hkl (val := v) (d := .held v) (ps := []) rfl
  exact ⟨w', hrun, ⟨_, h', hD.put _ _, hf.upd S hD hkl v⟩, hg'⟩
/-- 'delete(m, k)' as an equation -/
theorem KMap.drop {t e : TypeId} {z : Value} {b T : Nat} {f : κ → Option Value} (h : KMap P k mk z w b T f) (S : KS P k mk fit) (ht : P.underlying t = some (.map k e)) {x : κ} (hx : fit x) (ty : TypeId) :
    ∃ w', (Builtin.delete_ #[t, k] ty #[.map (some b), mk x]).run P w = .ok (.tuple #[]) w' ∧ KMap P k mk z w' b T (fun i => if i = x then none else f i) ∧ w.grownBy w' (some b) := by
  obtain ⟨D, h, hD, hf⟩ := h
  obtain ⟨kl, hkl⟩ := S.wf x hx
  obtain ⟨w', hrun, h1, h2⟩ := h.drop S.K ht hkl ty
  exact ⟨w', hrun, ⟨_, h1, hD.del _, hf.del S hkl⟩, h2.grown⟩
omit [DecidableEq κ] in
theorem wpList_look_kmap (hg : o.guard = none) (m x : Operand) (t : TypeId) (hop : o.op = Op.lookup t m x false)
    (e : TypeId) (S : KS P k mk fit) (ht : P.underlying t = some (.map k e)) (z : Value) (hz : (zeroValue e).run P w = .ok z w) (b T : Nat) (f : κ → Option Value)
    (hm : a.eval m = .map (some b)) (hown : KMap P k mk z w b T f) (g : κ) (hx : a.eval x = mk g) (hw : fit g)
    (hK : wpList P ops Q rest (a.put o.dst ((f g).getD z)) w) :
    wpList P ops Q (o :: rest) a w := by
  refine wpList_plain hg fun K' hK' => ?_
  have hrun := hown.look w S ht hz hw
  unfold Oper.wp
  simp [execOp, hop, hm, hx, hrun, Result.andThen]
  exact hK' _ _ hK
omit [DecidableEq κ] in
theorem wpList_look_ok_kmap (hg : o.guard = none) (m x : Operand) (t : TypeId) (hop : o.op = Op.lookup t m x true)
    (e : TypeId) (S : KS P k mk fit) (ht : P.underlying t = some (.map k e)) (z : Value) (hz : (zeroValue e).run P w = .ok z w) (b T : Nat) (f : κ → Option Value)
    (hm : a.eval m = .map (some b)) (hown : KMap P k mk z w b T f) (g : κ) (hx : a.eval x = mk g) (hw : fit g)
    (hK : wpList P ops Q rest (a.put o.dst (.tuple #[(f g).getD z, .bool (f g).isSome])) w) :
    wpList P ops Q (o :: rest) a w := by
  refine wpList_plain hg fun K' hK' => ?_
  have hrun := hown.look_ok w S ht hz hw
  unfold Oper.wp
  simp [execOp, hop, hm, hx, hrun, Result.andThen]
  exact hK' _ _ hK
theorem wpList_mapUpdate_kmap (hg : o.guard = none) (m x v : Operand) (t : TypeId) (hop : o.op = Op.mapUpdate t m x v)
    (e : TypeId) (S : KS P k mk fit) (ht : P.underlying t = some (.map k e)) (z : Value) (b T : Nat) (f : κ → Option Value)
    (hm : a.eval m = .map (some b)) (hown : KMap P k mk z w b T f) (hn : T < maxLen) (g : κ) (hx : a.eval x = mk g) (hw : fit g) (y : Value) (hv : a.eval v = y)
    (hK : ∀ w', KMap P k mk z w' b (T + 1) (fun i => if i = g then some y else f i) → w.grownBy w' (some b) → wpList P ops Q rest (a.put o.dst undef) w') :
    wpList P ops Q (o :: rest) a w := by
  refine wpList_plain hg fun K' hK' => ?_
  obtain ⟨w', hrun, h1, h2⟩ := hown.store w S ht hn hw y
  unfold Oper.wp
  simp [execOp, hop, hm, hx, hv, hrun, Result.andThen]
  exact hK' _ _ (hK w' h1 h2)
theorem wpList_delete_kmap (hg : o.guard = none) (m x : Operand) (t : TypeId) (hop : o.op = Op.call { callee := Callee.builtin Builtin.delete, args := #[m, x], argTypes := #[t, k] })
    (e : TypeId) (S : KS P k mk fit) (ht : P.underlying t = some (.map k e)) (z : Value) (b T : Nat) (f : κ → Option Value)
    (hm : a.eval m = .map (some b)) (hown : KMap P k mk z w b T f) (g : κ) (hx : a.eval x = mk g) (hw : fit g)
    (hK : ∀ w', KMap P k mk z w' b T (fun i => if i = g then none else f i) → w.grownBy w' (some b) → wpList P ops Q rest (a.put o.dst (.tuple #[])) w') :
    wpList P ops Q (o :: rest) a w := by
  obtain ⟨D, h, hD, hf⟩ := hown
  obtain ⟨kl, hkl⟩ := S.wf g hw
  exact wpList_delete_own w hg m x t k hop e S.K ht heldElem b T D hm h (mk g) kl hx hkl
    fun w' h' hg' => hK w' ⟨_, h', hD.del _, hf.del S hkl⟩ hg'.grown

/-- an iterator r over the map b; left x: is the entry at x still to come? -/
def KRange {κ : Type} (P : Program) (k : TypeId) (mk : κ → Value) (z : Value) (w : World) (b r T : Nat) (f : κ → Option Value) (left : κ → Bool) : Prop :=
  ∃ (D : DataW Value) (lf : Lit → Bool) (cnt : Nat), w.ranges P k heldElem b r T D lf cnt ∧ Reads P k mk z D f ∧ (∀ x kl, keyOf P k (mk x) = some kl → lf kl = left x)
omit [DecidableEq κ] in
theorem wpList_range_kmap (hg : o.guard = none) (m : Operand) (t : TypeId) (hop : o.op = Op.range t m) (e : TypeId) (S : KS P k mk fit) (ht : P.underlying t = some (.map k e)) (z : Value) (b T : Nat) (f : κ → Option Value)
    (hm : a.eval m = .map (some b)) (hown : KMap P k mk z w b T f)
    (hK : ∀ w', KRange P k mk z w' b w.heap.size T f (fun x => (f x).isSome) → w.grownBy w' none → w'.heap.size = w.heap.size + 1 → wpList P ops Q rest (a.put o.dst (.pointer (some ⟨w.heap.size, 0, none⟩))) w') :
    wpList P ops Q (o :: rest) a w := by
  obtain ⟨D, h, hD, hf⟩ := hown
  exact wpList_range_own w hg m t hop k e S.K ht heldElem b T D hm h fun w' hr hg' hs => hK w' ⟨D, _, _, hr, hf, fun x kl hx => (hf x kl hx).1⟩ hg' hs
theorem wpList_next_kmap (hg : o.guard = none) (it : Operand) (hop : o.op = Op.next it false) (S : KS P k mk fit) (z : Value) (b r T : Nat) (f : κ → Option Value) (left : κ → Bool)
    (hit : a.eval it = .pointer (some ⟨r, 0, none⟩)) (h : KRange P k mk z w b r T f left)
    (hDone : (∀ x, fit x → left x = false) → wpList P ops Q rest (a.put o.dst (.tuple #[.bool false])) w)
    (hMore : ∀ (x : κ) (c : Value) (w' : World), fit x → left x = true → f x = some c → KRange P k mk z w' b r T f (fun y => left y && decide (y ≠ x)) → w'.rangeLeft b r < w.rangeLeft b r →
      w.grownBy w' (some r) → w'.heap.size = w.heap.size → (Instr.entry (.pointer (some ⟨r, 0, none⟩))).run P w' = .ok (.tuple #[mk x, c]) w' → wpList P ops Q rest (a.put o.dst (.tuple #[.bool true, mk x, c])) w') :
    wpList P ops Q (o :: rest) a w := by
  obtain ⟨D, lf, cnt, hr, hf, hl⟩ := h
  have hr0 := hr
  refine wpList_next_ranges w hg it hop k S.K heldElem mk (fun v : Value => v) (fun key kl hkey => by obtain ⟨x, rfl, _⟩ := S.inv key kl hkey; exact ⟨x, rfl⟩) (fun v y _ => ⟨v, rfl⟩) b r T D lf cnt hit hr
    (fun _ hl0 => hDone fun x hx => by obtain ⟨kl, hkl⟩ := S.wf x hx; rw [← hl x kl hkl]; exact hl0 _)
    (fun x c kl y w' cnt' hkey hlk hv hat hrg hlt hgr hsz hen => ?_)
  obtain ⟨x', ex, hwx⟩ := S.inv _ kl hkey
  obtain rfl := S.inj _ _ ex
  simp only [heldElem, Option.some.injEq] at hv
  subst hv
  obtain ⟨h1, h2⟩ := hf x kl hkey
  have hfx : f x = some c := by
    have e1 := hat (.held z)
    rw [h2] at e1
    injection e1 with e1
    have hz := Maps.has_true_of_atKey hat
    rw [h1] at hz
    obtain ⟨q, hq⟩ := Option.isSome_iff_exists.1 hz
    rw [hq] at e1 ⊢
    simp only [Option.getD_some] at e1
    rw [e1]
  refine hMore x c w' hwx (by rw [← hl x kl hkey]; exact hlk) hfx ⟨D, _, cnt', hrg, hf, fun g kg hg' => ?_⟩ (by rw [hrg.left_eq, hr0.left_eq]; exact hlt) hgr hsz hen
  rw [hl g kg hg']
  congr 1
  by_cases e : g = x
  · subst e
    rw [hkey] at hg'
    cases hg'
    simp [WideAt.sameKey_self (S.K.key hkey)]
  · rw [Maps.sameKey_ne (S.ne e hg' hkey)]; simp [e]
end
/-! ### at a step of a region that draws its order -/
section
variable {κ : Type} [DecidableEq κ] {P : Program} (w : World) {kt : TypeId} {mk : κ → Value} {fit : κ → Prop} {ops : Array Oper} {o : Oper} {a : Act} {K : Act → World → Prop} {Q : Exit → Act → World → Prop} {E : Prop}
theorem step_store_kmap (hg : o.guard = none) (m x v : Operand) (t : TypeId) (hop : o.op = Op.mapUpdate t m x v)
    (e : TypeId) (S : KS P kt mk fit) (ht : P.underlying t = some (.map kt e)) (z : Value) (b T : Nat) (f : κ → Option Value)
    (hm : a.eval m = .map (some b)) (hown : KMap P kt mk z w b T f) (hn : T < maxLen) (g : κ) (hx : a.eval x = mk g) (hw : fit g) (y : Value) (hv : a.eval v = y)
    (h : ∀ w', KMap P kt mk z w' b (T + 1) (fun i => if i = g then some y else f i) → w.grownBy w' (some b) → K (a.put o.dst undef) w') :
    if Region.wanted o (yielded ops a.tmps) = true then Oper.wp P o a w K Q else E := by
  have hw' : Region.wanted o (yielded ops a.tmps) = true := by simp [Region.wanted, hg]
  rw [if_pos hw']
  obtain ⟨w', hrun, h1, h2⟩ := hown.store w S ht hn hw y
  unfold Oper.wp
  simp [execOp, hop, hm, hx, hv, hrun, Result.andThen]
  exact h w' h1 h2
theorem step_delete_kmap (hg : o.guard = none) (m x : Operand) (t : TypeId) (hop : o.op = Op.call { callee := Callee.builtin Builtin.delete, args := #[m, x], argTypes := #[t, kt] })
    (e : TypeId) (S : KS P kt mk fit) (ht : P.underlying t = some (.map kt e)) (z : Value) (b T : Nat) (f : κ → Option Value)
    (hm : a.eval m = .map (some b)) (hown : KMap P kt mk z w b T f) (g : κ) (hx : a.eval x = mk g) (hw : fit g)
    (h : ∀ w', KMap P kt mk z w' b T (fun i => if i = g then none else f i) → w.grownBy w' (some b) → K (a.put o.dst (.tuple #[])) w') :
    if Region.wanted o (yielded ops a.tmps) = true then Oper.wp P o a w K Q else E := by
  have hw' : Region.wanted o (yielded ops a.tmps) = true := by simp [Region.wanted, hg]
  rw [if_pos hw']
  obtain ⟨w', hrun, h1, h2⟩ := hown.drop w S ht hw o.type
  unfold Oper.wp
  simp [execOp, hop, resolve, invoke, builtin, hm, hx, hrun, Result.andThen]
  exact h w' h1 h2
end

/-! ### keys that are structs of two ints -/
section
variable {P : Program} {k t : TypeId}
def key2 (x : Int × Int) : Value := .agg #[.int .i64 x.1, .int .i64 x.2]
def fit2 (x : Int × Int) : Prop := (Lit.int .i64 x.1).wf = true ∧ (Lit.int .i64 x.2).wf = true
theorem keyLits_int {ti : TypeId} (hi : P.underlying ti = some (.int .i64)) (D : Nat) (v : Value) : P.keyLits (D + 1) ti [v] = (match v with | .int q n => if q = .i64 ∧ (Lit.int .i64 n).wf = true then some [.int .i64 n] else none | _ => none) := by
  unfold Program.keyLits
  rw [hi]
  cases v <;> simp
/-- a key type that is a struct of two ints: what is told of it ahead -/
structure IsKey2 (P : Program) (k : TypeId) : Prop where
  laid : laidOutB P = true
  row : k < P.types.size
  deep : P.keyTypeAt 2 k = true
  key : P.keyType k = true
  some1 : 1 ≤ P.types.size
  cells : P.cellsOf k = 2
  str : ∃ f0 f1 : Field, ∃ ti, P.underlying k = some (.struct #[f0, f1]) ∧ f0.type = ti ∧ f1.type = ti ∧ f0.offset = 0 ∧ f1.offset = 1 ∧ (f0.name != "_") = true ∧ (f1.name != "_") = true ∧ P.underlying ti = some (.int .i64) ∧ P.cellsOf ti = 1
theorem IsKey2.ks (h : IsKey2 P k) : KS P k key2 fit2 := by
  obtain ⟨f0, f1, ti, hk, h0, h1, o0, o1, n0, n1, hi, hc⟩ := h.str
  have hform : ∀ xs : Array Value, (Value.agg xs).formed P k = (xs.size == 2) := fun xs => by simp only [Value.formed, hk, h.cells]
  obtain ⟨m, hm⟩ : ∃ m, P.types.size = m + 1 := ⟨P.types.size - 1, by have := h.some1; omega⟩
  have hlits : ∀ a b : Value, P.keyLits (P.types.size + 1) k [a, b] = (do let x ← P.keyLits (m + 1) ti [a]; let y ← P.keyLits (m + 1) ti [b]; pure [x, y] : Option (List (List Lit))).map List.flatten := fun a b => by
    rw [hm]
    rw [show P.keyLits (m + 1 + 1) k [a, b] = (if [a, b].length = P.cellsOf k ∧ (#[f0, f1] : Array Field).all (·.name != "_") = true then ((#[f0, f1] : Array Field).toList.mapM fun f => P.keyLits (m + 1) f.type (([a, b].drop f.offset).take (P.cellsOf f.type))).map List.flatten else none) by
      conv => lhs; unfold Program.keyLits
      rw [hk]]
    rw [if_pos ⟨by rw [h.cells]; rfl, by simp only [Array.all_eq_true_iff_forall_mem]; intro f hf; simp at hf; rcases hf with rfl | rfl <;> assumption⟩]
    simp only [List.mapM_cons, List.mapM_nil, h0, h1, o0, o1, hc, List.drop_zero, List.drop_succ_cons, List.take_succ_cons, List.take_zero]
    cases P.keyLits (m + 1) ti [a] <;> cases P.keyLits (m + 1) ti [b] <;> rfl
  refine ⟨Maps.Keyed.of_law (deep_law_laid h.laid (m := 2) (by omega) h.row h.deep (by rw [hk])), fun x hx => ?_, fun v kl hv => ?_, fun x y e => ?_⟩
  · refine ⟨.string (keyBytes [.int .i64 x.1, .int .i64 x.2]), ?_⟩
    unfold keyOf
    rw [hk]
    simp only [h.key, key2, hform]
    rw [if_pos (by simp), show (Value.agg #[Value.int .i64 x.1, Value.int .i64 x.2]).cells.toList = [Value.int .i64 x.1, Value.int .i64 x.2] from rfl, hlits, keyLits_int hi, keyLits_int hi]
    simp only [hx.1, hx.2]
    rfl
  · unfold keyOf at hv
    rw [hk] at hv
    simp only [h.key, Bool.true_and] at hv
    split at hv
    · rename_i hf
      cases v with
      | agg xs =>
        rw [hform] at hf
        obtain ⟨a, b, rfl⟩ : ∃ a b, xs = #[a, b] := by
          obtain ⟨l⟩ := xs
          simp at hf
          match l, hf with
          | [a, b], _ => exact ⟨a, b, rfl⟩
        have hl : ∃ ls, P.keyLits (P.types.size + 1) k [a, b] = some ls := by
          cases e : P.keyLits (P.types.size + 1) k [a, b] with
          | none => rw [show (Value.agg #[a, b]).cells.toList = [a, b] from rfl, e] at hv; cases hv
          | some ls => exact ⟨ls, rfl⟩
        obtain ⟨ls, hl⟩ := hl
        rw [hlits, keyLits_int hi, keyLits_int hi] at hl
        cases a with
        | int q n =>
          cases b with
          | int q' n' =>
            simp only at hl
            split at hl
            · rename_i ha
              split at hl
              · rename_i hb
                exact ⟨(n, n'), by rw [ha.1, hb.1]; rfl, ha.2, hb.2⟩
              · simp at hl
            · simp at hl
          | _ => simp at hl
        | _ => simp at hl
      | _ => simp [Value.formed, hk] at hf
    · cases hv
  · simp only [key2, Value.agg.injEq, Array.mk.injEq, List.cons.injEq, Value.int.injEq, true_and, and_true] at e
    exact Prod.ext e.1 e.2
end
end Go.Proofs.Ytibiianmpajabaa.KM
