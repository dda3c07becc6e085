/-
  Plain facts on memory, for any program: worlds between which only blocks of a set changed; blocks that begin with given cells; maps from integers to integers as functions. No walk here.
-/
import Derived.WalkKit
import Derived.Maps.AppendAt
import Derived.Maps.OwnSet
set_option linter.unusedSimpArgs false
set_option linter.unusedVariables false
namespace Go.Proofs.Ytbbaplcfhofeeaa.Gen
open Go.RowKit

theorem hid {p : Prop} (h : p) : Hid p := h

/-- between w and w' only blocks of S changed; there may be new ones -/
structure Chg (S : Nat → Prop) (w w' : World) : Prop where
  os : w'.os = w.os
  tape : w'.tape = w.tape
  output : w'.output = w.output
  size : w.heap.size ≤ w'.heap.size
  block : ∀ k, k < w.heap.size → ¬ S k → w'.heap[k]? = w.heap[k]?
theorem Chg.refl (S : Nat → Prop) (w : World) : Chg S w w := ⟨rfl, rfl, rfl, Nat.le_refl _, fun _ _ _ => rfl⟩
theorem Chg.trans {S S' : Nat → Prop} {w w1 w2 : World} (h : Chg S w w1) (k : Chg S' w1 w2) (hs : ∀ k, S' k → S k ∨ w.heap.size ≤ k) : Chg S w w2 :=
  ⟨k.os.trans h.os, k.tape.trans h.tape, k.output.trans h.output, Nat.le_trans h.size k.size, fun q hq hS =>
    (k.block q (Nat.lt_of_lt_of_le hq h.size) (fun h' => (hs q h').elim hS (by omega))).trans (h.block q hq hS)⟩
theorem Chg.of {S : Nat → Prop} {w w' : World} {row : Option Nat} (h : w.grownBy w' row) (hs : ∀ j, row = some j → S j ∨ w.heap.size ≤ j) : Chg S w w' :=
  ⟨h.os, h.tape, h.output, h.size, fun q hq hS => h.block q hq fun e => (hs q e.symm).elim hS (by omega)⟩
theorem Chg.of0 {S : Nat → Prop} {w w' : World} (h : w.grownBy w' none) : Chg S w w' := Chg.of h (by simp)
theorem Chg.one {S : Nat → Prop} {w w' : World} {b : Nat} (h : w.grownBy w' (some b)) (hb : S b) : Chg S w w' := Chg.of h fun _ e => .inl (Option.some.inj e ▸ hb)
theorem Chg.grown {S : Nat → Prop} {w0 w w' : World} (h : Chg S w w') (hg : w0.grownBy w none) (hs : ∀ k, S k → w0.heap.size ≤ k) : w0.grownBy w' none :=
  ⟨h.os.trans hg.os, h.tape.trans hg.tape, h.output.trans hg.output, Nat.le_trans hg.size h.size, fun k hk _ =>
    (h.block k (Nat.lt_of_lt_of_le hk hg.size) (fun h' => by have := hs k h'; omega)).trans (hg.block k hk (by simp))⟩
theorem Chg.cell {S : Nat → Prop} {w w' : World} (h : Chg S w w') {a : Addr} {v : Value} (hc : w.cell? a = some v) (hb : ¬ S a.block) : w'.cell? a = some v :=
  (World.cell?_of_block (h.block a.block (World.block_lt_of_cell? w a hc) hb)).trans hc
theorem Chg.mono {S S' : Nat → Prop} {w w' : World} (h : Chg S w w') (hs : ∀ k, S k → S' k) : Chg S' w w' := ⟨h.os, h.tape, h.output, h.size, fun k hk hS => h.block k hk fun h' => hS (hs k h')⟩
theorem grownBy_setCell (w : World) (b o : Nat) (s : Option Nat) (v : Value) : w.grownBy (w.setCell ⟨b, o, s⟩ v) (some b) :=
  ⟨rfl, rfl, rfl, by simp, fun k _ hk => heap_setCell_other w ⟨b, o, s⟩ k v (fun e => hk (by rw [e]))⟩
theorem grownBy_drew (w : World) (row : Option Nat) : w.grownBy w.drew row := ⟨rfl, rfl, rfl, Nat.le_refl _, fun _ _ _ => rfl⟩
theorem grownBy_refl (w : World) (row : Option Nat) : w.grownBy w row := ⟨rfl, rfl, rfl, Nat.le_refl _, fun _ _ _ => rfl⟩
theorem grown_any {w w' : World} (h : w.grownBy w' none) (row : Option Nat) : w.grownBy w' row := ⟨h.os, h.tape, h.output, h.size, fun k hk _ => h.block k hk (by simp)⟩

theorem below_grown {w W : World} (h : w.grownBy W none) : Below w.heap.size w W := ⟨h.os, h.tape, h.output, h.size, fun k hk => h.block k hk (by simp)⟩

/-- block g begins with the cells X 0 .. X (N - 1) -/
def Row (w : World) (g : Nat) (t : TypeId) (N : Nat) (X : Nat → Value) : Prop := ∃ cur, w.heap[g]? = some (.cells cur t (0, 0)) ∧ N ≤ cur.size ∧ ∀ k, k < N → cur[k]? = some (X k)
theorem Row.lt {w : World} {g : Nat} {t : TypeId} {N : Nat} {X : Nat → Value} (h : Row w g t N X) : g < w.heap.size := by
  obtain ⟨cur, h, _⟩ := h; exact (Array.getElem?_eq_some_iff.1 h).1
theorem Row.cell {w : World} {g : Nat} {t : TypeId} {N : Nat} {X : Nat → Value} (h : Row w g t N X) {k : Nat} (hk : k < N) : w.cell? ⟨g, k, none⟩ = some (X k) := by
  obtain ⟨cur, h, _, hc⟩ := h
  rw [cell_of_row w g k _ _ _ h, hc k hk]
theorem Row.frozen {w : World} {g : Nat} {t : TypeId} {N : Nat} {X : Nat → Value} (h : Row w g t N X) (k : Nat) : w.frozen? ⟨g, k, none⟩ = false := by
  obtain ⟨cur, h, _⟩ := h; exact frozen_of_row w g k _ _ h
theorem Row.same {w w' : World} {g : Nat} {t : TypeId} {N : Nat} {X : Nat → Value} (h : Row w g t N X) (hb : w'.heap[g]? = w.heap[g]?) : Row w' g t N X := by
  obtain ⟨cur, h, r⟩ := h; exact ⟨cur, hb.trans h, r⟩
theorem Row.chg {S : Nat → Prop} {w w' : World} {g : Nat} {t : TypeId} {N : Nat} {X : Nat → Value} (h : Row w g t N X) (hc : Chg S w w') (hb : ¬ S g) : Row w' g t N X := h.same (hc.block g h.lt hb)
theorem Row.grown {w w' : World} {g : Nat} {t : TypeId} {N : Nat} {X : Nat → Value} {row : Option Nat} (h : Row w g t N X) (hg : w.grownBy w' row) (hr : some g ≠ row) : Row w' g t N X := h.same (hg.block g h.lt hr)
theorem Row.alloc {w : World} {g : Nat} {t : TypeId} {N : Nat} {X : Nat → Value} (h : Row w g t N X) (o : Obj) : Row (w.alloc o) g t N X := h.grown (World.grownBy_alloc w o none) (by simp)
theorem Row.setOther {w : World} {g : Nat} {t : TypeId} {N : Nat} {X : Nat → Value} (h : Row w g t N X) (a : Addr) (hne : g ≠ a.block) (v : Value) : Row (w.setCell a v) g t N X := h.same (heap_setCell_other w a g v hne)
theorem Row.set {w : World} {g : Nat} {t : TypeId} {N : Nat} {X : Nat → Value} (h : Row w g t N X) {k : Nat} {v : Value} {X' : Nat → Value} (hv : X' k = v) (ho : ∀ j, j < N → j ≠ k → X' j = X j) : Row (w.setCell ⟨g, k, none⟩ v) g t N X' := by
  obtain ⟨cur, h, hn, hc⟩ := h
  refine ⟨_, heap_setCell_same w g k cur _ v h, by simpa using hn, fun j hj => ?_⟩
  rw [Array.getElem?_setIfInBounds]
  by_cases hjk : k = j
  · subst hjk
    rw [if_pos rfl, if_pos (by omega), hv]
  · rw [if_neg hjk, hc j hj, ho j hj (fun e => hjk e.symm)]
theorem Row.congr {w : World} {g : Nat} {t : TypeId} {N : Nat} {X X' : Nat → Value} (h : Row w g t N X) (he : ∀ k, k < N → X' k = X k) : Row w g t N X' := by
  obtain ⟨cur, h, hn, hc⟩ := h
  exact ⟨cur, h, hn, fun k hk => by rw [hc k hk, he k hk]⟩
theorem Row.type_ne {w : World} {g g' : Nat} {t t' : TypeId} {N N' : Nat} {X X' : Nat → Value} (h : Row w g t N X) (h' : Row w g' t' N' X') (ht : t ≠ t') : g ≠ g' := by
  rintro rfl
  obtain ⟨c, h, _⟩ := h
  obtain ⟨c', h', _⟩ := h'
  rw [h] at h'; cases h'; exact ht rfl
theorem Row.new (w : World) (cs : Array Value) (t : TypeId) (N : Nat) (X : Nat → Value) (hN : N ≤ cs.size) (hX : ∀ k, k < N → cs[k]? = some (X k)) : Row (w.alloc (.cells cs t)) w.heap.size t N X := ⟨cs, (MapKept.heap_alloc w _).1, hN, hX⟩


/-! ### rows that a call owns -/
theorem heap_alloc_new (w : World) (o : Obj) : (w.alloc o).heap[w.heap.size]? = some o := (MapKept.heap_alloc w o).1
theorem ownsRow_slice {base : Nat} {W : World} {e : TypeId} {size n : Nat} {v : Value} {xs : List Value} (h : W.ownsRow base e size v n xs) : ∃ p c, v = .slice p n c := by
  rcases h.2 with ⟨rfl, rfl⟩ | ⟨g, cap, cur, rfl, _⟩
  · exact ⟨_, _, rfl⟩
  · exact ⟨_, _, rfl⟩
theorem ownsRow_row {W : World} {base : Nat} {e : TypeId} {size n : Nat} {v : Value} {xs : List Value} (h : W.ownsRow base e size v (n + 1) xs) :
    ∃ g c, v = .slice (some ⟨g, 0, none⟩) (n + 1) c ∧ base ≤ g ∧ Row W g e ((n + 1) * size) (fun k => xs.getD k undef) := by
  rcases h.2 with ⟨_, h0⟩ | ⟨g, cap, cur, rfl, hb, hg, hn, hcap, hsz, htake⟩
  · omega
  · refine ⟨g, cap, rfl, hb, cur, hg, ?_, fun k hk => ?_⟩
    · rw [hsz]; exact Nat.mul_le_mul_right _ hn
    · have hl := h.1
      have h1 : (cur.toList.take ((n + 1) * size))[k]? = xs[k]? := by rw [htake]
      rw [List.getElem?_take, if_pos hk] at h1
      have hx : k < xs.length := by omega
      rw [List.getElem?_eq_getElem hx] at h1
      simpa [List.getD, List.getElem?_eq_getElem hx] using h1
theorem none_row' (v : Value) : v.ownBlock = none ∨ v.ownBlock ≠ none := by cases v.ownBlock <;> simp
theorem own_ne {base B : Nat} {W : World} {e : TypeId} {size n : Nat} {v : Value} {xs : List Value} (h : W.ownsRow base e size v n xs) (hB : B < base) : some B ≠ v.ownBlock := by
  intro e'
  have := (h.lt B e'.symm).1
  omega
theorem own_ne_row {W : World} {base : Nat} {e : TypeId} {size n : Nat} {v : Value} {xs : List Value} (h : W.ownsRow base e size v n xs) {x : Nat} {t : TypeId} {N : Nat} {X : Nat → Value} (hr : Row W x t N X) (ht : t ≠ e) : some x ≠ v.ownBlock := by
  intro e'
  rcases h.2 with ⟨rfl, _⟩ | ⟨g, cap, cur, rfl, _, hg, _⟩
  · simp [Value.ownBlock] at e'
  · obtain rfl : x = g := by simpa [Value.ownBlock] using e'
    obtain ⟨c, hc, _⟩ := hr
    rw [hc] at hg; cases hg; exact ht rfl
/-- a slice made of nothing but what it owns: the value is a slice, its cells are known -/
theorem own_cell {W : World} {base : Nat} {e : TypeId} {size n : Nat} {v : Value} {xs : List Value} (h : W.ownsRow base e size v n xs) {j : Nat} (hj : j < n * size) :
    ∃ g c u, v = .slice (some ⟨g, 0, none⟩) n c ∧ base ≤ g ∧ g < W.heap.size ∧ xs[j]? = some u ∧ W.cell? ⟨g, j, none⟩ = some u := by
  cases n with
  | zero => simp at hj
  | succ n =>
    have hl := h.1
    obtain ⟨g, c, rfl, hb, hr⟩ := ownsRow_row h
    exact ⟨g, c, xs[j]'(by omega), rfl, hb, hr.lt, List.getElem?_eq_getElem (by omega), by rw [hr.cell hj]; simp [List.getD, List.getElem?_eq_getElem (show j < xs.length by omega)]⟩

/-- block b is a map from ints to ints of at most T entries that is the function f -/
def IMap (P : Program) (k e : TypeId) (w : World) (b T : Nat) (f : Int → Option Int) : Prop :=
  ∃ D : DataW Unit, w.ownsMap P k (plainElem P e) b T D ∧ Maps.IsMap D ∧ ∀ g : Int, Maps.has D (.int .i64 g) = (f g).isSome ∧ D.atKey (.int .i64 g) (.lit (.int .i64 0)) = .lit (.int .i64 ((f g).getD 0))

section
variable {P : Program} {k e : TypeId} {w w' : World} {b T : Nat} {f : Int → Option Int}
theorem IMap.lt (h : IMap P k e w b T f) : b < w.heap.size := by obtain ⟨D, h, _⟩ := h; exact h.lt
theorem IMap.same (h : IMap P k e w b T f) (hb : w'.heap[b]? = w.heap[b]?) : IMap P k e w' b T f := by
  obtain ⟨D, ⟨es, c, h0, r⟩, q⟩ := h
  exact ⟨D, ⟨es, c, hb.trans h0, r⟩, q⟩
theorem IMap.chg {S : Nat → Prop} (h : IMap P k e w b T f) (hc : Chg S w w') (hb : ¬ S b) : IMap P k e w' b T f := h.same (hc.block b h.lt hb)
theorem IMap.grown {row : Option Nat} (h : IMap P k e w b T f) (hg : w.grownBy w' row) (hr : some b ≠ row) : IMap P k e w' b T f := h.same (hg.block b h.lt hr)
theorem IMap.alloc (h : IMap P k e w b T f) (o : Obj) : IMap P k e (w.alloc o) b T f := h.grown (World.grownBy_alloc w o none) (by simp)
theorem IMap.drew (h : IMap P k e w b T f) : IMap P k e w.drew b T f := h
theorem IMap.mono (h : IMap P k e w b T f) {T' : Nat} (hT : T ≤ T') : IMap P k e w b T' f := by obtain ⟨D, h, r⟩ := h; exact ⟨D, h.mono hT, r⟩
theorem IMap.congr (h : IMap P k e w b T f) {f' : Int → Option Int} (hf : ∀ g, f' g = f g) : IMap P k e w b T f' := by obtain ⟨D, h, m, r⟩ := h; exact ⟨D, h, m, fun g => by rw [hf g]; exact r g⟩
theorem IMap.made (w : World) (P : Program) (k e : TypeId) : IMap P k e (w.alloc (.map #[] 0)) w.heap.size 0 (fun _ => none) :=
  ⟨.map [], World.ownsMap_made w P k _, ⟨_, rfl⟩, fun _ => ⟨rfl, rfl⟩⟩
theorem IMap.row_ne {g : Nat} {t : TypeId} {N : Nat} {X : Nat → Value} (h : IMap P k e w b T f) (hr : Row w g t N X) : b ≠ g := by
  rintro rfl
  obtain ⟨D, ⟨es, c, h0, _⟩, _⟩ := h
  obtain ⟨cur, h1, _⟩ := hr
  rw [h0] at h1; cases h1
theorem not_sameInt {g x : Int} (h : g ≠ x) : (Lit.int .i64 g) ≠ (Lit.int .i64 x) := fun e => h (by injection e)
theorem IMap.upd (D : DataW Unit) (hD : Maps.IsMap D) (hf : ∀ g : Int, Maps.has D (.int .i64 g) = (f g).isSome ∧ D.atKey (.int .i64 g) (.lit (.int .i64 0)) = .lit (.int .i64 ((f g).getD 0))) (x v : Int) (g : Int) :
    Maps.has (D.put (.int .i64 x) (.lit (.int .i64 v))) (.int .i64 g) = ((if g = x then some v else f g) : Option Int).isSome ∧ (D.put (.int .i64 x) (.lit (.int .i64 v))).atKey (.int .i64 g) (.lit (.int .i64 0)) = .lit (.int .i64 (((if g = x then some v else f g) : Option Int).getD 0)) := by
  by_cases hg : g = x
  · subst hg
    have hk : WideAt.IsKeyLit (Lit.int .i64 g) := trivial
    rw [if_pos rfl, Maps.has_put_same hD hk, Maps.atKey_put_same hD hk]
    exact ⟨rfl, rfl⟩
  · rw [if_neg hg, Maps.has_put_other (not_sameInt hg), Maps.atKey_put_other (not_sameInt hg)]
    exact hf g
theorem IMap.del (D : DataW Unit) (hf : ∀ g : Int, Maps.has D (.int .i64 g) = (f g).isSome ∧ D.atKey (.int .i64 g) (.lit (.int .i64 0)) = .lit (.int .i64 ((f g).getD 0))) (x : Int) (g : Int) :
    Maps.has (D.del (.int .i64 x)) (.int .i64 g) = ((if g = x then none else f g) : Option Int).isSome ∧ (D.del (.int .i64 x)).atKey (.int .i64 g) (.lit (.int .i64 0)) = .lit (.int .i64 (((if g = x then none else f g) : Option Int).getD 0)) := by
  by_cases hg : g = x
  · subst hg
    rw [if_pos rfl, Maps.has_del_same, Maps.atKey_del_same]
    exact ⟨rfl, rfl⟩
  · rw [if_neg hg, Maps.has_del_other (not_sameInt hg), Maps.atKey_del_other (not_sameInt hg)]
    exact hf g
end

/-! ### at the operation, for the walk -/
section
variable {P : Program} (w : World) {ops : Array Oper} {rest : List Oper} {o : Oper} {a : Act} {Q : Exit → Act → World → Prop}
open Go.Maps (Keyed)
/-- 'v, ok := m[k]' -/
theorem wpList_lookup_imap (hg : o.guard = none) (m x : Operand) (t : TypeId) (hop : o.op = Op.lookup t m x true)
    (k e : TypeId) (K : Keyed P k) (hk : P.underlying k = some (.int .i64)) (ht : P.underlying t = some (.map k e)) (he : P.underlying e = some (.int .i64)) (hz : (zeroValue e).run P w = .ok (.int .i64 0) w) (b T : Nat) (f : Int → Option Int)
    (hm : a.eval m = .map (some b)) (hown : IMap P k e w b T f) (g : Int) (hx : a.eval x = .int .i64 g) (hw : (Lit.int .i64 g).wf = true)
    (hK : wpList P ops Q rest (a.put o.dst (.tuple #[.int .i64 ((f g).getD 0), .bool (f g).isSome])) w) :
    wpList P ops Q (o :: rest) a w := by
  obtain ⟨D, h, hD, hf⟩ := hown
  refine wpList_lookup_own_ok_int w hg m x t hop k e .i64 K ht he hz b T D hm h (.int .i64 g) (.int .i64 g) hx (Maps.keyOf_int_mk hk hw) fun c hc _ => ?_
  obtain ⟨h1, h2⟩ := hf g
  rw [h2] at hc
  injection hc with hc
  injection hc with _ hc
  rw [h1, ← hc]
  exact hK
/-- 'm[k]' -/
theorem wpList_look_imap (hg : o.guard = none) (m x : Operand) (t : TypeId) (hop : o.op = Op.lookup t m x false)
    (k e : TypeId) (K : Keyed P k) (hk : P.underlying k = some (.int .i64)) (ht : P.underlying t = some (.map k e)) (he : P.underlying e = some (.int .i64)) (hz : (zeroValue e).run P w = .ok (.int .i64 0) w) (b T : Nat) (f : Int → Option Int)
    (hm : a.eval m = .map (some b)) (hown : IMap P k e w b T f) (g : Int) (hx : a.eval x = .int .i64 g) (hw : (Lit.int .i64 g).wf = true)
    (hK : wpList P ops Q rest (a.put o.dst (.int .i64 ((f g).getD 0))) w) :
    wpList P ops Q (o :: rest) a w := by
  obtain ⟨D, h, hD, hf⟩ := hown
  refine wpList_plain hg fun K' hK' => ?_
  obtain ⟨c, hrun, hc, _⟩ := h.lookup_int K ht he hz (Maps.keyOf_int_mk hk hw)
  obtain ⟨h1, h2⟩ := hf g
  rw [h2] at hc
  injection hc with hc
  injection hc with _ hc
  subst hc
  unfold Oper.wp
  simp [execOp, hop, hm, hx, hrun, Result.andThen]
  exact hK' _ _ hK
/-- 'm[k] = v' -/
theorem wpList_mapUpdate_imap (hg : o.guard = none) (m x v : Operand) (t : TypeId) (hop : o.op = Op.mapUpdate t m x v)
    (k e : TypeId) (K : Keyed P k) (hk : P.underlying k = some (.int .i64)) (ht : P.underlying t = some (.map k e)) (he : P.underlying e = some (.int .i64)) (b T : Nat) (f : Int → Option Int)
    (hm : a.eval m = .map (some b)) (hown : IMap P k e w b T f) (hn : T < maxLen) (g z : Int) (hx : a.eval x = .int .i64 g) (hv : a.eval v = .int .i64 z) (hw : (Lit.int .i64 g).wf = true) (hz : (Lit.int .i64 z).wf = true)
    (hK : ∀ w', IMap P k e w' b (T + 1) (fun i => if i = g then some z else f i) → w.grownBy w' (some b) → wpList P ops Q rest (a.put o.dst undef) w') :
    wpList P ops Q (o :: rest) a w := by
  obtain ⟨D, h, hD, hf⟩ := hown
  exact wpList_mapUpdate_own w hg m x v t hop k e K ht (plainElem P e) b T D hm h hn (.int .i64 g) (.int .i64 z) (.int .i64 g) hx hv (Maps.keyOf_int_mk hk hw) (.lit (.int .i64 z)) [] (plainElem_int he hz)
    fun w' h' hg' => hK w' ⟨_, h', hD.put _ _, IMap.upd D hD hf g z⟩ hg'
/-- 'delete(m, k)' -/
theorem wpList_delete_imap (hg : o.guard = none) (m x : Operand) (t k : TypeId) (hop : o.op = Op.call { callee := Callee.builtin Builtin.delete, args := #[m, x], argTypes := #[t, k] })
    (e : TypeId) (K : Keyed P k) (hk : P.underlying k = some (.int .i64)) (ht : P.underlying t = some (.map k e)) (b T : Nat) (f : Int → Option Int)
    (hm : a.eval m = .map (some b)) (hown : IMap P k e w b T f) (g : Int) (hx : a.eval x = .int .i64 g) (hw : (Lit.int .i64 g).wf = true)
    (hK : ∀ w', IMap P k e w' b T (fun i => if i = g then none else f i) → w.grownBy w' (some b) → wpList P ops Q rest (a.put o.dst (.tuple #[])) w') :
    wpList P ops Q (o :: rest) a w := by
  obtain ⟨D, h, hD, hf⟩ := hown
  exact wpList_delete_own w hg m x t k hop e K ht (plainElem P e) b T D hm h (.int .i64 g) (.int .i64 g) hx (Maps.keyOf_int_mk hk hw)
    fun w' h' hg' => hK w' ⟨_, h', hD.del _, IMap.del D hf g⟩ hg'.grown
end
end Go.Proofs.Ytbbaplcfhofeeaa.Gen
