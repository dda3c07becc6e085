/-
  Contracts of package tenementref01: Write.
-/
import Derived.Test.YtbbaplcfhofeeaaK20
import Derived.Deep.AppendLies
import Derived.Deep.RegionLaw
import Derived.WalkKit
import Derived.Maps.OwnSet
import Derived.Maps.RangeWalk
import Derived.RegionTactic
import Derived.WalkSpells
import Derived.Lib.SliceRun
import Derived.Laws.AppendOwnNone
import Derived.Deep.RegionHeld3
import Derived.Maps.OwnOps
import Derived.Test.YtbbaplcfhofeeaaK08
set_option linter.unusedSimpArgs false
set_option linter.unusedVariables false
namespace Go.Proofs.Ytbbaplcfhofeeaa
open Go.RowKit
set_option maxHeartbeats 400000

theorem laid_at (f : Fr) (off : Nat) (l : List UInt8) (k : Nat) (hk : k < l.length) : (f.laid off (l.take (k + 1))).bs (off + k) = l.getD k 0 := by
  have h1 : (l.take (k + 1)).length = k + 1 := by simp; omega
  unfold Fr.laid
  simp only [h1]
  rw [if_pos (by omega), show off + k - off = k by omega]
  simp [List.getD, List.getElem?_take]
theorem laid_else (f : Fr) (off : Nat) (l : List UInt8) (k q : Nat) (hk : k < l.length) (hq : q ≠ off + k) : (f.laid off (l.take (k + 1))).bs q = (f.laid off (l.take k)).bs q := by
  have h1 : (l.take (k + 1)).length = k + 1 := by simp; omega
  have h2 : (l.take k).length = k := by simp; omega
  unfold Fr.laid
  simp only [h1, h2]
  by_cases h : off ≤ q ∧ q < off + k
  · rw [if_pos (by omega), if_pos h]
    have e1 : q - off < k + 1 := by omega
    have e2 : q - off < k := by omega
    simp [List.getD, List.getElem?_take, e1, e2]
  · rw [if_neg (by omega), if_neg h]
theorem laid_hd (f : Fr) (off : Nat) (l : List UInt8) (q : Nat) (hq : q < 4) : (f.laid off l).cell q = f.cell q := by
  match q, hq with
  | 0, _ => rfl
  | 1, _ => rfl
  | 2, _ => rfl
  | 3, _ => rfl
/-- bytes that lie apart from the ref machine -/
def Apart (w : World) (L : Lay) (b : Nat) (pa : Option Addr) (l : List UInt8) : Prop :=
  ∀ k, k < l.length → ∃ sb so, pa = some ⟨sb, so, none⟩ ∧ ¬ L.foot b sb ∧ w.cell? ⟨sb, so + k, none⟩ = some (.int .u8 (l.getD k 0).toNat)
theorem chgG {L : Lay} {b j : Nat} (hj : j < L.n) (w : World) (k : Nat) (v : Value) : Chg (L.foot b) w (w.setCell ⟨L.g j, k, none⟩ v) := Chg.of (grownBy_setCell w (L.g j) k none v) fun i e => .inl (.inr (.inr (.inr ⟨j, hj, (Option.some.inj e).symm⟩)))

end Go.Proofs.Ytbbaplcfhofeeaa

/-
  Contracts of package tenementref01: New.
-/
set_option linter.unusedSimpArgs false
set_option linter.unusedVariables false
namespace Go.Proofs.Ytbbaplcfhofeeaa
open Go.RowKit
set_option maxHeartbeats 400000

theorem info_frame : (Try.prog.info? 62).map (fun i => (i.zero, i.size, i.bytes)) = some (some (.agg #[.int .i64 0, .int .i64 0, .int .i64 0, .int .i64 0]), 4, 32) := by kernel_rfl
theorem info_bytes : (Try.prog.info? 103).map (fun i => (i.zero, i.size, i.bytes)) = some (some (.slice none 0 0), 1, 24) := by kernel_rfl
/-- k frames' numbers, all free -/
def frs (k : Nat) : List Value := (List.range (k * 4)).map fun q => blankFr.cell (q % 4)
theorem frs_succ (k : Nat) : frs (k + 1) = frs k ++ [.int .i64 (-1), .int .i64 0, .int .i64 0, .int .i64 0] := by
  unfold frs
  rw [show (k + 1) * 4 = k * 4 + 1 + 1 + 1 + 1 by omega]
  simp only [List.range_succ, List.map_append, List.map_cons, List.map_nil, List.append_assoc, List.cons_append, List.nil_append]
  rw [show (k * 4) % 4 = 0 by omega, show (k * 4 + 1) % 4 = 1 by omega, show (k * 4 + 1 + 1) % 4 = 2 by omega, show (k * 4 + 1 + 1 + 1) % 4 = 3 by omega]
  rfl
theorem frs_len (k : Nat) : (frs k).length = k * 4 := by simp [frs]
/-- k slices of bytes -/
def sls (g cg : Nat → Nat) (k : Nat) : List Value := (List.range k).map fun i => .slice (some ⟨g i, 0, none⟩) 256 (cg i)
theorem sls_succ (g cg : Nat → Nat) (k G c : Nat) : sls (fun j => if j = k then G else g j) (fun j => if j = k then c else cg j) (k + 1) = sls g cg k ++ [.slice (some ⟨G, 0, none⟩) 256 c] := by
  unfold sls
  rw [List.range_succ, List.map_append]
  congr 1
  · refine List.map_congr_left fun i hi => ?_
    have : i ≠ k := by have := List.mem_range.1 hi; omega
    simp [this]
  · simp
theorem sls_len (g cg : Nat → Nat) (k : Nat) : (sls g cg k).length = k := by simp [sls]
def top2 (vF vB : Value) : Nat → Value
  | 0 => vF
  | _ => vB
/-- a slice that owns a row is one head of a block -/
theorem ownsRow_row {W : World} {base : Nat} {e : TypeId} {size n : Nat} {v : Value} {xs : List Value} (h : W.ownsRow base e size v (n + 1) xs) :
    ∃ g c, v = .slice (some ⟨g, 0, none⟩) (n + 1) c ∧ base ≤ g ∧ Row W g e ((n + 1) * size) (fun k => xs.getD k undef) := by
  rcases h.2 with ⟨_, h0⟩ | ⟨g, cap, cur, rfl, hb, hg, hn, hcap, hsz, htake⟩
  · omega
  · refine ⟨g, cap, rfl, hb, cur, hg, ?_, fun k hk => ?_⟩
    · rw [hsz]; exact Nat.mul_le_mul_right _ hn
    · have hl := h.1
      have h1 : (cur.toList.take ((n + 1) * size))[k]? = xs[k]? := by rw [htake]
      rw [List.getElem?_take, if_pos hk] at h1
      have hx : k < xs.length := by omega
      rw [List.getElem?_eq_getElem hx] at h1
      simpa [List.getD, List.getElem?_eq_getElem hx] using h1

theorem none_row' (v : Value) : v.ownBlock = none ∨ v.ownBlock ≠ none := by cases v.ownBlock <;> simp
theorem own_ne_row {W : World} {base : Nat} {e : TypeId} {size n : Nat} {v : Value} {xs : List Value} (h : W.ownsRow base e size v n xs) {x : Nat} {t : TypeId} {N : Nat} {X : Nat → Value} (hr : Row W x t N X) (ht : t ≠ e) : some x ≠ v.ownBlock := by
  intro e'
  rcases h.2 with ⟨rfl, _⟩ | ⟨g, cap, cur, rfl, _, hg, _⟩
  · simp [Value.ownBlock] at e'
  · obtain rfl : x = g := by simpa [Value.ownBlock] using e'
    obtain ⟨c, hc, _⟩ := hr
    rw [hc] at hg; cases hg; exact ht rfl
theorem own_ne_own {W : World} {base base' : Nat} {e e' : TypeId} {size size' n n' : Nat} {v v' : Value} {xs xs' : List Value} (h : W.ownsRow base e size v n xs) (h' : W.ownsRow base' e' size' v' n' xs') (ht : e ≠ e') : v.ownBlock = none ∨ v.ownBlock ≠ v'.ownBlock := by
  rcases h.2 with ⟨rfl, _⟩ | ⟨g, cap, cur, rfl, _, hg, _⟩
  · exact .inl rfl
  · refine .inr fun e0 => ?_
    rcases h'.2 with ⟨rfl, _⟩ | ⟨g', cap', cur', rfl, _, hg', _⟩
    · simp [Value.ownBlock] at e0
    · obtain rfl : g = g' := by simpa [Value.ownBlock] using e0
      rw [hg] at hg'; cases hg'; exact ht rfl
end Go.Proofs.Ytbbaplcfhofeeaa

/-
  Contracts of package tenementref01: New.
-/
set_option linter.unusedSimpArgs false
set_option linter.unusedVariables false
namespace Go.Proofs.Ytbbaplcfhofeeaa
open Go.RowKit
set_option maxHeartbeats 400000

end Go.Proofs.Ytbbaplcfhofeeaa

/-
  A guest's rewrites as plain functions on the machine. No walk here.
-/
set_option linter.unusedSimpArgs false
set_option linter.unusedVariables false
namespace Go.Proofs.Ytbbaplcfhofeeaa
open Go.RowKit

/-- a rewrite: ahead of which read, where, what -/
structure PokeV where
  t : Int
  i : Int
  off : Int
  l : List UInt8
/-- may a guest write the frame? -/
def Fr.may (f : Fr) : Bool := decide (0 ≤ f.owner) && (f.ty != 2) && (f.ty != 3)
def Mach.may (M : Mach) (i : Int) : Bool := M.is i && (M.fr i.toNat).may
def Mach.rew (M : Mach) (p : PokeV) : Mach := if M.may p.i = true then (M.write p.i p.off p.l).2 else M
def Mach.rews (M : Mach) (ps : List PokeV) : Mach := ps.foldl Mach.rew M
def due (l : List PokeV) (t : Int) : List PokeV := l.filter fun p => p.t == t
theorem Mach.rew_ok {M : Mach} {T : Int} (h : M.ok T) (p : PokeV) : (M.rew p).ok T := by
  unfold Mach.rew; split
  · exact Mach.write_ok h _ _ _
  · exact h
theorem Mach.vwrite_n (M : Mach) (i o : Int) (l : List UInt8) : (M.write i o l).2.n = M.n := by unfold Mach.write; (repeat' split) <;> rfl
theorem Mach.rew_n (M : Mach) (p : PokeV) : (M.rew p).n = M.n := by
  unfold Mach.rew; split
  · exact Mach.vwrite_n _ _ _ _
  · rfl
theorem Mach.rews_ok {T : Int} : ∀ (ps : List PokeV) {M : Mach}, M.ok T → (M.rews ps).ok T
  | [], _, h => h
  | p :: ps, _, h => Mach.rews_ok ps (Mach.rew_ok h p)
theorem Mach.rews_n : ∀ (ps : List PokeV) (M : Mach), (M.rews ps).n = M.n
  | [], _ => rfl
  | p :: ps, M => (Mach.rews_n ps (M.rew p)).trans (M.rew_n p)
theorem Mach.rews_snoc (M : Mach) (ps : List PokeV) (p : PokeV) : M.rews (ps ++ [p]) = (M.rews ps).rew p := by simp [Mach.rews, List.foldl_append]
theorem due_snoc_yes {l : List PokeV} {p : PokeV} {t : Int} (h : p.t = t) : due (l ++ [p]) t = due l t ++ [p] := by simp [due, h]
theorem due_snoc_no {l : List PokeV} {p : PokeV} {t : Int} (h : p.t ≠ t) : due (l ++ [p]) t = due l t := by simp [due, h]
theorem due_app (l l' : List PokeV) (t : Int) : due (l ++ l') t = due l t ++ due l' t := by simp [due]
/-- what a rewrite leaves of a frame -/
theorem Mach.rew_fr (M : Mach) (p : PokeV) (j : Nat) : ((M.rew p).fr j).owner = (M.fr j).owner ∧ ((M.rew p).fr j).ty = (M.fr j).ty ∧ ((M.fr j).may = false → (M.rew p).fr j = M.fr j) := by
  unfold Mach.rew
  split
  · rename_i hm
    unfold Mach.write
    split
    · exact ⟨rfl, rfl, fun _ => rfl⟩
    split
    · exact ⟨rfl, rfl, fun _ => rfl⟩
    split
    · exact ⟨rfl, rfl, fun _ => rfl⟩
    by_cases e : j = p.i.toNat
    · subst e
      simp only [Mach.upd_same]
      refine ⟨rfl, rfl, fun h => ?_⟩
      simp only [Mach.may, Bool.and_eq_true] at hm
      rw [hm.2] at h; cases h
    · simp only [Mach.upd_other _ _ _ _ e]
      exact ⟨trivial, trivial, fun _ => trivial⟩
  · exact ⟨rfl, rfl, fun _ => rfl⟩
theorem Mach.rews_fr : ∀ (ps : List PokeV) (M : Mach) (j : Nat), ((M.rews ps).fr j).owner = (M.fr j).owner ∧ ((M.rews ps).fr j).ty = (M.fr j).ty ∧ ((M.fr j).may = false → (M.rews ps).fr j = M.fr j)
  | [], _, _ => ⟨rfl, rfl, fun _ => rfl⟩
  | p :: ps, M, j => by
    obtain ⟨h1, h2, h3⟩ := M.rew_fr p j
    obtain ⟨g1, g2, g3⟩ := Mach.rews_fr ps (M.rew p) j
    refine ⟨g1.trans h1, g2.trans h2, fun h => (g3 ?_).trans (h3 h)⟩
    unfold Fr.may at h ⊢
    rw [h1, h2]; exact h
end Go.Proofs.Ytbbaplcfhofeeaa

/-
  Maps from integers to values of one cell that are not looked into, as functions; for any program. No walk here.
-/
set_option linter.unusedSimpArgs false
set_option linter.unusedVariables false
namespace Go.Proofs.Ytbbaplcfhofeeaa.VM
open Go.RowKit

/-- an element as it is -/
def heldElem (v : Value) : Option (DataW Value × List MemPlace) := some (.held v, [])
/-- block b is a map from ints to values of at most T entries that is the function f; z is its elements' zero -/
def VMap (P : Program) (k : TypeId) (z : Value) (w : World) (b T : Nat) (f : Int → Option Value) : Prop :=
  ∃ D : DataW Value, w.ownsMap P k heldElem b T D ∧ Maps.IsMap D ∧ ∀ g : Int, Maps.has D (.int .i64 g) = (f g).isSome ∧ D.atKey (.int .i64 g) (.held z) = .held ((f g).getD z)

section
variable {P : Program} {k : TypeId} {z : Value} {w w' : World} {b T : Nat} {f : Int → Option Value}
theorem VMap.lt (h : VMap P k z w b T f) : b < w.heap.size := by obtain ⟨D, h, _⟩ := h; exact h.lt
theorem VMap.same (h : VMap P k z w b T f) (hb : w'.heap[b]? = w.heap[b]?) : VMap P k z w' b T f := by
  obtain ⟨D, ⟨es, c, h0, r⟩, q⟩ := h
  exact ⟨D, ⟨es, c, hb.trans h0, r⟩, q⟩
theorem VMap.grown {row : Option Nat} (h : VMap P k z w b T f) (hg : w.grownBy w' row) (hr : some b ≠ row) : VMap P k z w' b T f := h.same (hg.block b h.lt hr)
theorem VMap.alloc (h : VMap P k z w b T f) (o : Obj) : VMap P k z (w.alloc o) b T f := h.grown (World.grownBy_alloc w o none) (by simp)
theorem VMap.drew (h : VMap P k z w b T f) : VMap P k z w.drew b T f := h
theorem VMap.mono (h : VMap P k z w b T f) {T' : Nat} (hT : T ≤ T') : VMap P k z w b T' f := by obtain ⟨D, h, r⟩ := h; exact ⟨D, h.mono hT, r⟩
theorem VMap.congr (h : VMap P k z w b T f) {f' : Int → Option Value} (hf : ∀ g, f' g = f g) : VMap P k z w b T f' := by obtain ⟨D, h, m, r⟩ := h; exact ⟨D, h, m, fun g => by rw [hf g]; exact r g⟩
theorem VMap.made (w : World) (P : Program) (k : TypeId) (z : Value) : VMap P k z (w.alloc (.map #[] 0)) w.heap.size 0 (fun _ => none) :=
  ⟨.map [], World.ownsMap_made w P k _, ⟨_, rfl⟩, fun _ => ⟨rfl, rfl⟩⟩
/-- the block is a map's -/
theorem VMap.isMap (h : VMap P k z w b T f) : ∃ es c, w.heap[b]? = some (.map es c) := by obtain ⟨D, ⟨es, c, h0, _⟩, _⟩ := h; exact ⟨es, c, h0⟩
theorem not_same {g x : Int} (h : g ≠ x) : (Lit.int .i64 g) ≠ (Lit.int .i64 x) := fun e => h (by injection e)
end

section
variable {P : Program} (w : World) {ops : Array Oper} {rest : List Oper} {o : Oper} {a : Act} {Q : Exit → Act → World → Prop}
open Go.Maps (Keyed)
/-- 'm[k]' as an equation -/
theorem VMap.look {t k e : TypeId} {z : Value} {b T : Nat} {f : Int → Option Value} (h : VMap P k z w b T f) (K : Keyed P k) (hk : P.underlying k = some (.int .i64)) (ht : P.underlying t = some (.map k e)) (hz : (zeroValue e).run P w = .ok z w) {g : Int} (hw : (Lit.int .i64 g).wf = true) :
    (Instr.lookup t (.map (some b)) (.int .i64 g) false).run P w = .ok ((f g).getD z) w := by
  obtain ⟨D, h, hD, hf⟩ := h
  obtain ⟨v, ps, hrun, hv⟩ := h.lookup K ht hz (zd := .held z) (zp := []) rfl (Maps.keyOf_int_mk hk hw)
  obtain ⟨h1, h2⟩ := hf g
  rw [h2] at hv
  simp only [heldElem, Option.some.injEq, Prod.mk.injEq] at hv
  obtain ⟨e, _⟩ := hv
  injection e with e
  rw [hrun, e]
theorem wpList_look_vmap (hg : o.guard = none) (m x : Operand) (t : TypeId) (hop : o.op = Op.lookup t m x false)
    (k e : TypeId) (K : Keyed P k) (hk : P.underlying k = some (.int .i64)) (ht : P.underlying t = some (.map k e)) (z : Value) (hz : (zeroValue e).run P w = .ok z w) (b T : Nat) (f : Int → Option Value)
    (hm : a.eval m = .map (some b)) (hown : VMap P k z w b T f) (g : Int) (hx : a.eval x = .int .i64 g) (hw : (Lit.int .i64 g).wf = true)
    (hK : wpList P ops Q rest (a.put o.dst ((f g).getD z)) w) :
    wpList P ops Q (o :: rest) a w := by
  refine wpList_plain hg fun K' hK' => ?_
  have hrun := hown.look w K hk ht hz hw
  unfold Oper.wp
  simp [execOp, hop, hm, hx, hrun, Result.andThen]
  exact hK' _ _ hK
/-- 'm[k] = v' as an equation -/
theorem VMap.store {t k e : TypeId} {z : Value} {b T : Nat} {f : Int → Option Value} (h : VMap P k z w b T f) (K : Keyed P k) (hk : P.underlying k = some (.int .i64)) (ht : P.underlying t = some (.map k e)) (hn : T < maxLen) {g : Int} (hw : (Lit.int .i64 g).wf = true) (v : Value) :
    ∃ w', (Instr.mapUpdate t (.map (some b)) (.int .i64 g) v).run P w = .ok () w' ∧ VMap P k z w' b (T + 1) (fun i => if i = g then some v else f i) ∧ w.grownBy w' (some b) := by
  obtain ⟨D, h, hD, hf⟩ := h
  obtain ⟨w', hrun, h', hg'⟩ := h.update K ht hn (Maps.keyOf_int_mk hk hw) (val := v) (d := .held v) (ps := []) rfl
  refine ⟨w', hrun, ⟨_, h', hD.put _ _, fun x => ?_⟩, hg'⟩
  show _ = ((if x = g then some v else f x) : Option Value).isSome ∧ _ = DataW.held (((if x = g then some v else f x) : Option Value).getD z)
  by_cases hx : x = g
  · subst hx
    have hkl : WideAt.IsKeyLit (Lit.int .i64 x) := trivial
    rw [if_pos rfl, Maps.has_put_same hD hkl, Maps.atKey_put_same hD hkl]
    exact ⟨rfl, rfl⟩
  · rw [if_neg hx, Maps.has_put_other (not_same hx), Maps.atKey_put_other (not_same hx)]
    exact hf x
/-- 'delete(m, k)' -/
theorem wpList_delete_vmap (hg : o.guard = none) (m x : Operand) (t k : TypeId) (hop : o.op = Op.call { callee := Callee.builtin Builtin.delete, args := #[m, x], argTypes := #[t, k] })
    (e : TypeId) (K : Keyed P k) (hk : P.underlying k = some (.int .i64)) (ht : P.underlying t = some (.map k e)) (z : Value) (b T : Nat) (f : Int → Option Value)
    (hm : a.eval m = .map (some b)) (hown : VMap P k z w b T f) (g : Int) (hx : a.eval x = .int .i64 g) (hw : (Lit.int .i64 g).wf = true)
    (hK : ∀ w', VMap P k z w' b T (fun i => if i = g then none else f i) → w.grownBy w' (some b) → wpList P ops Q rest (a.put o.dst (.tuple #[])) w') :
    wpList P ops Q (o :: rest) a w := by
  obtain ⟨D, h, hD, hf⟩ := hown
  refine wpList_delete_own w hg m x t k hop e K ht heldElem b T D hm h (.int .i64 g) (.int .i64 g) hx (Maps.keyOf_int_mk hk hw)
    fun w' h' hg' => hK w' ⟨_, h', hD.del _, fun x => ?_⟩ hg'.grown
  show _ = ((if x = g then none else f x) : Option Value).isSome ∧ _ = DataW.held (((if x = g then none else f x) : Option Value).getD z)
  by_cases hx : x = g
  · subst hx
    rw [if_pos rfl, Maps.has_del_same, Maps.atKey_del_same]
    exact ⟨rfl, rfl⟩
  · rw [if_neg hx, Maps.has_del_other (not_same hx), Maps.atKey_del_other (not_same hx)]
    exact hf x

/-- an iterator r over the map b; left g: is the entry at g still to come? -/
def VRange (P : Program) (k : TypeId) (z : Value) (w : World) (b r T : Nat) (f : Int → Option Value) (left : Int → Bool) : Prop :=
  ∃ (D : DataW Value) (lf : Lit → Bool) (cnt : Nat), w.ranges P k heldElem b r T D lf cnt ∧ (∀ g : Int, Maps.has D (.int .i64 g) = (f g).isSome ∧ D.atKey (.int .i64 g) (.held z) = .held ((f g).getD z)) ∧ (∀ g : Int, lf (.int .i64 g) = left g)
theorem wpList_range_vmap (hg : o.guard = none) (m : Operand) (t : TypeId) (hop : o.op = Op.range t m) (k e : TypeId) (K : Keyed P k) (ht : P.underlying t = some (.map k e)) (z : Value) (b T : Nat) (f : Int → Option Value)
    (hm : a.eval m = .map (some b)) (hown : VMap P k z w b T f)
    (hK : ∀ w', VRange P k z w' b w.heap.size T f (fun g => (f g).isSome) → w.grownBy w' none → w'.heap.size = w.heap.size + 1 → wpList P ops Q rest (a.put o.dst (.pointer (some ⟨w.heap.size, 0, none⟩))) w') :
    wpList P ops Q (o :: rest) a w := by
  obtain ⟨D, h, hD, hf⟩ := hown
  exact wpList_range_own w hg m t hop k e K ht heldElem b T D hm h fun w' hr hg' hs => hK w' ⟨D, _, _, hr, hf, fun g => (hf g).1⟩ hg' hs
theorem wpList_next_vmap (hg : o.guard = none) (it : Operand) (hop : o.op = Op.next it false) (k : TypeId) (K : Keyed P k) (hk : P.underlying k = some (.int .i64)) (z : Value) (b r T : Nat) (f : Int → Option Value) (left : Int → Bool)
    (hit : a.eval it = .pointer (some ⟨r, 0, none⟩)) (h : VRange P k z w b r T f left)
    (hDone : (∀ g : Int, left g = false) → wpList P ops Q rest (a.put o.dst (.tuple #[.bool false])) w)
    (hMore : ∀ (x : Int) (c : Value) (w' : World), (Lit.int .i64 x).wf = true → left x = true → f x = some c → VRange P k z w' b r T f (fun g => left g && decide (g ≠ x)) → w'.rangeLeft b r < w.rangeLeft b r →
      w.grownBy w' (some r) → w'.heap.size = w.heap.size → (Instr.entry (.pointer (some ⟨r, 0, none⟩))).run P w' = .ok (.tuple #[.int .i64 x, c]) w' → wpList P ops Q rest (a.put o.dst (.tuple #[.bool true, .int .i64 x, c])) w') :
    wpList P ops Q (o :: rest) a w := by
  obtain ⟨D, lf, cnt, hr, hf, hl⟩ := h
  have hr0 := hr
  refine wpList_next_ranges w hg it hop k K heldElem (Value.int .i64) (fun v : Value => v) (fun key kl hkey => by obtain ⟨x, rfl, _⟩ := Maps.keyOf_int_inv hk hkey; exact ⟨x, rfl⟩) (fun v y _ => ⟨v, rfl⟩) b r T D lf cnt hit hr
    (fun _ hl0 => hDone fun g => by rw [← hl g]; exact hl0 _)
    (fun x c kl y w' cnt' hkey hlk hv hat hrg hlt hgr hsz hen => ?_)
  obtain ⟨x', ex, rfl, hwx⟩ := Maps.keyOf_int_inv hk hkey
  cases ex
  simp only [heldElem, Option.some.injEq] at hv
  subst hv
  obtain ⟨h1, h2⟩ := hf x
  have hfx : f x = some c := by
    have e1 := hat (.held z)
    rw [h2] at e1
    injection e1 with e1
    have hz := Maps.has_true_of_atKey hat
    rw [h1] at hz
    obtain ⟨q, hq⟩ := Option.isSome_iff_exists.1 hz
    rw [hq] at e1 ⊢
    simp only [Option.getD_some] at e1
    rw [e1]
  refine hMore x c w' hwx (by rw [← hl x]; exact hlk) hfx ⟨D, _, cnt', hrg, hf, fun g => ?_⟩ (by rw [hrg.left_eq, hr0.left_eq]; exact hlt) hgr hsz hen
  rw [hl g]
  congr 1
  by_cases e : g = x
  · subst e; simp [WideAt.sameKey_self (a := Lit.int .i64 g) trivial]
  · rw [Maps.sameKey_ne (not_same e)]; simp [e]
end
/-! ### at a step of a region that draws its order -/
section
variable {P : Program} (w : World) {ops : Array Oper} {o : Oper} {a : Act} {K : Act → World → Prop} {Q : Exit → Act → World → Prop} {E : Prop}
open Go.Maps (Keyed)
theorem step_look_vmap (hg : o.guard = none) (m x : Operand) (t : TypeId) (hop : o.op = Op.lookup t m x false)
    (k e : TypeId) (K' : Keyed P k) (hk : P.underlying k = some (.int .i64)) (ht : P.underlying t = some (.map k e)) (z : Value) (hz : (zeroValue e).run P w = .ok z w) (b T : Nat) (f : Int → Option Value)
    (hm : a.eval m = .map (some b)) (hown : VMap P k z w b T f) (g : Int) (hx : a.eval x = .int .i64 g) (hw : (Lit.int .i64 g).wf = true)
    (h : K (a.put o.dst ((f g).getD z)) w) :
    if Region.wanted o (yielded ops a.tmps) = true then Oper.wp P o a w K Q else E := by
  have hw' : Region.wanted o (yielded ops a.tmps) = true := by simp [Region.wanted, hg]
  rw [if_pos hw']
  have hrun := hown.look w K' hk ht hz hw
  unfold Oper.wp
  simp [execOp, hop, hm, hx, hrun, Result.andThen]
  exact h
theorem step_store_vmap (hg : o.guard = none) (m x v : Operand) (t : TypeId) (hop : o.op = Op.mapUpdate t m x v)
    (k e : TypeId) (K' : Keyed P k) (hk : P.underlying k = some (.int .i64)) (ht : P.underlying t = some (.map k e)) (z : Value) (b T : Nat) (f : Int → Option Value)
    (hm : a.eval m = .map (some b)) (hown : VMap P k z w b T f) (hn : T < maxLen) (g : Int) (hx : a.eval x = .int .i64 g) (hw : (Lit.int .i64 g).wf = true) (y : Value) (hv : a.eval v = y)
    (h : ∀ w', VMap P k z w' b (T + 1) (fun i => if i = g then some y else f i) → w.grownBy w' (some b) → K (a.put o.dst undef) w') :
    if Region.wanted o (yielded ops a.tmps) = true then Oper.wp P o a w K Q else E := by
  have hw' : Region.wanted o (yielded ops a.tmps) = true := by simp [Region.wanted, hg]
  rw [if_pos hw']
  obtain ⟨w', hrun, h1, h2⟩ := hown.store w K' hk ht hn hw y
  unfold Oper.wp
  simp [execOp, hop, hm, hx, hv, hrun, Result.andThen]
  exact h w' h1 h2
theorem step_delete_vmap (hg : o.guard = none) (m x : Operand) (t k : TypeId) (hop : o.op = Op.call { callee := Callee.builtin Builtin.delete, args := #[m, x], argTypes := #[t, k] })
    (e : TypeId) (K' : Keyed P k) (hk : P.underlying k = some (.int .i64)) (ht : P.underlying t = some (.map k e)) (z : Value) (b T : Nat) (f : Int → Option Value)
    (hm : a.eval m = .map (some b)) (hown : VMap P k z w b T f) (g : Int) (hx : a.eval x = .int .i64 g) (hw : (Lit.int .i64 g).wf = true)
    (h : ∀ w', VMap P k z w' b T (fun i => if i = g then none else f i) → w.grownBy w' (some b) → K (a.put o.dst (.tuple #[])) w') :
    if Region.wanted o (yielded ops a.tmps) = true then Oper.wp P o a w K Q else E := by
  have hw' : Region.wanted o (yielded ops a.tmps) = true := by simp [Region.wanted, hg]
  rw [if_pos hw']
  obtain ⟨D, h0, hD, hf⟩ := hown
  obtain ⟨w', hrun, h1, h2⟩ := h0.drop K' ht (Maps.keyOf_int_mk hk hw) o.type
  unfold Oper.wp
  simp [execOp, hop, resolve, invoke, builtin, hm, hx, hrun, Result.andThen]
  refine h w' ⟨_, h1, hD.del _, fun y => ?_⟩ h2.grown
  show _ = ((if y = g then none else f y) : Option Value).isSome ∧ _ = DataW.held (((if y = g then none else f y) : Option Value).getD z)
  by_cases hy : y = g
  · subst hy
    rw [if_pos rfl, Maps.has_del_same, Maps.atKey_del_same]
    exact ⟨rfl, rfl⟩
  · rw [if_neg hy, Maps.has_del_other (not_same hy), Maps.atKey_del_other (not_same hy)]
    exact hf y
end
end Go.Proofs.Ytbbaplcfhofeeaa.VM

/-
  Package view: a rewrite as a closure, and what its call does.
-/
set_option linter.unusedSimpArgs false
set_option linter.unusedVariables false
namespace Go.Proofs.Ytbbaplcfhofeeaa
open Go.RowKit
set_option maxHeartbeats 1000000

theorem grow_any {w w' : World} (h : w.grownBy w' none) (row : Option Nat) : w.grownBy w' row := ⟨h.os, h.tape, h.output, h.size, fun k hk _ => h.block k hk (by simp)⟩
theorem grow_then {w w1 w2 : World} {row : Option Nat} (h : w.grownBy w1 none) (g : w1.grownBy w2 row) : w.grownBy w2 row :=
  ⟨g.os.trans h.os, g.tape.trans h.tape, g.output.trans h.output, Nat.le_trans h.size g.size, fun k hk hr => (g.block k (Nat.lt_of_lt_of_le hk h.size) hr).trans (h.block k hk (by simp))⟩
/-- bytes in a row that lies in S -/
def KeptBytes (w : World) (S : Nat → Prop) (q : Option Addr) (l : List UInt8) : Prop := l = [] ∨ ∃ g, q = some ⟨g, 0, none⟩ ∧ S g ∧ ∀ k, k < l.length → w.cell? ⟨g, k, none⟩ = some (.int .u8 (l.getD k 0).toNat)
theorem KeptBytes.chg {S S' : Nat → Prop} {w w' : World} {q : Option Addr} {l : List UInt8} (h : KeptBytes w S q l) (hc : Chg S' w w') (hS : ∀ k, S k → ¬ S' k) : KeptBytes w' S q l := by
  rcases h with h | ⟨g, e, hg, hb⟩
  · exact .inl h
  · exact .inr ⟨g, e, hg, fun k hk => hc.cell (hb k hk) (hS _ hg)⟩
theorem KeptBytes.is {w : World} {S : Nat → Prop} {q : Option Addr} {l : List UInt8} (h : KeptBytes w S q l) (c B : Nat) (hB : ¬ S B) : IsBytes w B (.slice q l.length c) l := by
  rcases h with rfl | ⟨g, rfl, hg, hb⟩
  · exact .inl ⟨⟨_, _, rfl⟩, rfl⟩
  · refine .inr ⟨_, _, rfl, fun e => hB (e ▸ hg), fun k x hx => ?_⟩
    obtain ⟨hk, rfl⟩ := List.getElem?_eq_some_iff.1 hx
    have e : (⟨g, 0, none⟩ : Addr).add k = ⟨g, k, none⟩ := by unfold Addr.add; split <;> simp_all
    rw [e, hb k hk]
    simp [List.getD, List.getElem?_eq_getElem hk]
/-- numbers of a rewrite that a program can hold -/
def PokeV.fits (p : PokeV) : Prop := (Lit.int .i64 p.t).wf = true ∧ (Lit.int .i64 p.i).wf = true ∧ (Lit.int .i64 p.off).wf = true ∧ p.l.length ≤ 140737488351232
/-- what the call of a rewrite leaves -/
def Rewr (w : World) (B : Nat) (M' : Mach) (e : Ending) (w' : World) : Prop := (∃ v, e = .returned v) ∧ PM w' B M' ∧ w.grownBy w' (some B)
end Go.Proofs.Ytbbaplcfhofeeaa

/-
  Package view: a view in blocks; contracts of Reads, Machine, Write, Read.
-/
set_option linter.unusedSimpArgs false
set_option linter.unusedVariables false
namespace Go.Proofs.Ytbbaplcfhofeeaa
open Go.RowKit
set_option maxHeartbeats 1000000

theorem vint_key : Maps.Keyed Try.prog 3 := Maps.int_keyed Try.underlying3
abbrev VMapV (w : World) (G T : Nat) (f : Int → Option Value) : Prop := VM.VMap Try.prog 3 (.slice none 0 0) w G T f
def vtop (B G n : Nat) : Nat → Value
  | 0 => .pointer (some ⟨B, 0, none⟩)
  | 1 => .map (some G)
  | _ => .int .i64 n
def vfoot (V G : Nat) (S : Nat → Prop) (k : Nat) : Prop := k = V ∨ k = G ∨ S k
section
variable {w w' : World} {V G B : Nat} {S : Nat → Prop} {l : List PokeV} {n T : Nat} {f : Int → Option Value}
end
/-- bytes that a call has laid anew -/
def FreshB (w : World) (b : List UInt8) (v : Value) (w' : World) : Prop := ∃ q c, v = .slice q b.length c ∧ KeptBytes w' (fun k => w.heap.size ≤ k ∧ k < w'.heap.size) q b
theorem newBytes_fresh {w w' : World} {l : List UInt8} {v : Value} (h : NewBytes w l v w') : FreshB w l v w' ∧ w.grownBy w' none := by
  rcases h with ⟨rfl, rfl, hg⟩ | ⟨b, rfl, hb, hr, hg⟩
  · exact ⟨⟨none, 0, rfl, .inl rfl⟩, hg⟩
  · exact ⟨⟨_, _, rfl, .inr ⟨b, rfl, ⟨hb, (Array.getElem?_eq_some_iff.1 hr).1⟩, fun k hk => bcells_at hr k hk⟩⟩, hg⟩
theorem Read_all (B : Nat) (i off k : Int) (w : World) (M : Mach) (X : Int) (hM : PM w B M) (hok : M.ok X) (ho : off ≤ 9223372036854775807) :
    Calls Try.prog 73 #[.pointer (some ⟨B, 0, none⟩), .int .i64 i, .int .i64 off, .int .i64 k] w fun e w' => ∃ v, e = .returned (.tuple #[v, .int .i64 (M.read i off k).2]) ∧ FreshB w (M.read i off k).1 v w' ∧ w.grownBy w' none := by
  cases hi : M.is i with
  | false =>
    have e : M.read i off k = ([], 1) := by unfold Mach.read; rw [if_pos hi]
    rw [e]
    exact (Read_no B i off k w M X hM hok ho (.inl hi)).mono fun e w' ⟨he, hw⟩ => ⟨_, he, ⟨none, 0, rfl, .inl rfl⟩, hw ▸ World.grownBy.refl _ _⟩
  | true =>
    cases hp : inP off k with
    | false =>
      have e : M.read i off k = ([], 1) := by unfold Mach.read; rw [if_neg (by rw [hi]; simp), if_pos hp]
      rw [e]
      exact (Read_no B i off k w M X hM hok ho (.inr hp)).mono fun e w' ⟨he, hw⟩ => ⟨_, he, ⟨none, 0, rfl, .inl rfl⟩, hw ▸ World.grownBy.refl _ _⟩
    | true =>
      obtain ⟨h0, h1⟩ := Mach.is_iff.1 hi
      obtain ⟨g0, g1, g2⟩ := inP_iff.1 hp
      obtain ⟨j, rfl⟩ := Int.eq_ofNat_of_zero_le h0
      obtain ⟨o, rfl⟩ := Int.eq_ofNat_of_zero_le g0
      obtain ⟨q, rfl⟩ := Int.eq_ofNat_of_zero_le g1
      have e : M.read j o q = ((M.fr j).part o q, 0) := by unfold Mach.read; rw [if_neg (by rw [hi]; simp), if_neg (by rw [hp]; simp)]; simp
      rw [e]
      exact (Read_yes B j o q w M X hM hok h1 (by omega)).mono fun e w' ⟨v, he, hn⟩ => ⟨v, he, newBytes_fresh hn⟩

end Go.Proofs.Ytbbaplcfhofeeaa

/-
  Package grant in memory: its block, its map of maps, the machine, the maps of places, a view. No walk here.
-/
set_option linter.unusedSimpArgs false
set_option linter.unusedVariables false
namespace Go.Proofs.Ytbbaplcfhofeeaa
open Go.RowKit KM

def tblV : Option (Int × Nat) → Int | some (t, _) => t | none => 0
def plcV (pb : Nat → Nat) : Option (Int × Nat) → Value | some (_, i) => .pointer (some ⟨pb i, 0, none⟩) | none => .pointer none
def gtop (B G : Nat) (pb : Nat → Nat) (g : Gst) (k : Nat) : Value :=
  if k = 0 then .pointer (some ⟨B, 0, none⟩) else if k = 17 then .map (some G) else if k % 2 = 1 then .int .i64 (tblV (g.mem (k / 2))) else plcV pb (g.mem (k / 2 - 1))
theorem key_is : IsKey2 Try.prog 156 :=
  ⟨by kernel_rfl, of_decide_eq_true (by kernel_rfl), by kernel_rfl, by kernel_rfl, of_decide_eq_true (by kernel_rfl), by kernel_rfl,
    ⟨_, _, 3, Try.underlying156, rfl, rfl, rfl, rfl, rfl, rfl, Try.underlying3, by kernel_rfl⟩⟩
theorem key_ks : KS Try.prog 156 key2 fit2 := key_is.ks
theorem mapped_zero (w : World) : (zeroValue 158).run Try.prog w = .ok mpd0.val w := by kernel_rfl
abbrev GMap (w : World) (G T : Nat) (g : Gst) : Prop := KMap Try.prog 156 key2 mpd0.val w G T (fun k => (g.mp k).map Mpd.val)
def pft (pm : Nat → Nat × Nat × Nat) (i k : Nat) : Prop := pfoot (pm i).1 (pm i).2.1 (pm i).2.2 k
def gfoot (X B G : Nat) (pm : Nat → Nat × Nat × Nat) (np k : Nat) : Prop := k = X ∨ k = B ∨ k = G ∨ ∃ i, i < np ∧ pft pm i k
theorem Chg.gen {S : Nat → Prop} {w w' : World} (h : Chg S w w') : Gen.Chg S w w' := ⟨h.os, h.tape, h.output, h.size, h.block⟩
theorem Chg.ofGen {S : Nat → Prop} {w w' : World} (h : Gen.Chg S w w') : Chg S w w' := ⟨h.os, h.tape, h.output, h.size, h.block⟩
def upP (P : Nat → Mp) (i : Nat) (Q : Mp) : Nat → Mp := fun j => if j = i then Q else P j
theorem upP_same (P : Nat → Mp) (i : Nat) (Q : Mp) : upP P i Q i = Q := by simp [upP]
theorem upP_other (P : Nat → Mp) (i j : Nat) (Q : Mp) (h : j ≠ i) : upP P i Q j = P j := by simp [upP, h]

/-- block X holds the grants: the machine in block B, the live maps in block G, maps of places in the blocks pm i -/
structure GA (w : World) (X B G : Nat) (pm : Nat → Nat × Nat × Nat) (np : Nat) (s : Gs) (T : Nat) : Prop where
  top : Row w X 82 18 (gtop B G (fun i => (pm i).1) s.g)
  mp : GMap w G T s.g
  m : PM w B s.M
  p : ∀ i, i < np → PMap w (pm i).1 (pm i).2.1 (pm i).2.2 (s.P i) T
  sep : ∀ i j, i < np → j < np → i ≠ j → ∀ k, pft pm i k → ¬ pft pm j k
  gp : ∀ i, i < np → ¬ pft pm i G
section
variable {w w' : World} {X B G : Nat} {pm : Nat → Nat × Nat × Nat} {np : Nat} {s : Gs} {T : Nat}
theorem GA.c0 (h : GA w X B G pm np s T) : w.cell? ⟨X, 0, none⟩ = some (.pointer (some ⟨B, 0, none⟩)) := h.top.cell (k := 0) (by omega)
theorem GA.c17 (h : GA w X B G pm np s T) : w.cell? ⟨X, 17, none⟩ = some (.map (some G)) := h.top.cell (k := 17) (by omega)
theorem gtop_tbl (B G : Nat) (pb : Nat → Nat) (g : Gst) {d : Nat} (hd : d < 8) : gtop B G pb g (1 + d * 2) = .int .i64 (tblV (g.mem d)) := by
  unfold gtop
  rw [if_neg (by omega), if_neg (by omega), if_pos (by omega), show (1 + d * 2) / 2 = d by omega]
theorem gtop_plc (B G : Nat) (pb : Nat → Nat) (g : Gst) {d : Nat} (hd : d < 8) : gtop B G pb g (1 + d * 2 + 1) = plcV pb (g.mem d) := by
  unfold gtop
  rw [if_neg (by omega), if_neg (by omega), if_neg (by omega), show (1 + d * 2 + 1) / 2 - 1 = d by omega]
theorem GA.tbl (h : GA w X B G pm np s T) {d : Nat} (hd : d < 8) : w.cell? ⟨X, 1 + d * 2, none⟩ = some (.int .i64 (tblV (s.g.mem d))) := by
  rw [h.top.cell (k := 1 + d * 2) (by omega), gtop_tbl _ _ _ _ hd]
theorem GA.plc (h : GA w X B G pm np s T) {d : Nat} (hd : d < 8) : w.cell? ⟨X, 1 + d * 2 + 1, none⟩ = some (plcV (fun i => (pm i).1) (s.g.mem d)) := by
  rw [h.top.cell (k := 1 + d * 2 + 1) (by omega), gtop_plc _ _ _ _ hd]
theorem GA.XB (h : GA w X B G pm np s T) : B ≠ X := h.top.pm_ne h.m (by decide)
theorem GA.XG (h : GA w X B G pm np s T) : G ≠ X := by
  rintro rfl
  obtain ⟨es, c, h0⟩ := h.mp.isMap
  obtain ⟨cur, h1, _⟩ := h.top
  rw [h0] at h1; cases h1
theorem GA.BG (h : GA w X B G pm np s T) : G ≠ B := by
  rintro rfl
  obtain ⟨es, c, h0⟩ := h.mp.isMap
  have h1 := h.m
  unfold PM at h1
  rw [h0] at h1; cases h1
theorem pft_row {pm : Nat → Nat × Nat × Nat} {i : Nat} {P : Mp} (h : PMap w (pm i).1 (pm i).2.1 (pm i).2.2 P T) {k : Nat} (hk : pft pm i k) : (∃ cur, w.heap[k]? = some (.cells cur 117 (0, 0))) ∨ ∃ es c, w.heap[k]? = some (.map es c) := by
  rcases hk with rfl | rfl | rfl
  · obtain ⟨cur, h1, _⟩ := h.top
    exact .inl ⟨cur, h1⟩
  · obtain ⟨D, ⟨es, c, h0, _⟩, _⟩ := h.fr
    exact .inr ⟨es, c, h0⟩
  · obtain ⟨D, ⟨es, c, h0, _⟩, _⟩ := h.pl
    exact .inr ⟨es, c, h0⟩
theorem GA.pX (h : GA w X B G pm np s T) {i : Nat} (hi : i < np) : ¬ pft pm i X := fun hk => by
  obtain ⟨cur, h1, _⟩ := h.top
  rcases pft_row (h.p i hi) hk with ⟨cur', h2⟩ | ⟨es, c, h2⟩
  · rw [h1] at h2
    simp only [Option.some.injEq, Obj.cells.injEq] at h2
    exact absurd h2.2.1 (by decide)
  · rw [h1] at h2; cases h2
theorem GA.pB (h : GA w X B G pm np s T) {i : Nat} (hi : i < np) : ¬ pft pm i B := fun hk => by
  have h1 := h.m
  unfold PM at h1
  rcases pft_row (h.p i hi) hk with ⟨cur', h2⟩ | ⟨es, c, h2⟩
  · rw [h1] at h2
    simp only [Option.some.injEq, Obj.cells.injEq] at h2
    exact absurd h2.2.1 (by decide)
  · rw [h1] at h2; cases h2
theorem GA.lt (h : GA w X B G pm np s T) {k : Nat} (hk : gfoot X B G pm np k) : k < w.heap.size := by
  rcases hk with rfl | rfl | rfl | ⟨i, hi, hk⟩
  · exact h.top.lt
  · exact h.m.lt
  · exact h.mp.lt
  · exact (h.p i hi).lt hk
theorem GA.chg {S : Nat → Prop} (h : GA w X B G pm np s T) (hc : Chg S w w') (hS : ∀ k, gfoot X B G pm np k → ¬ S k) : GA w' X B G pm np s T :=
  ⟨h.top.chg hc (hS _ (.inl rfl)), h.mp.same (hc.block _ h.mp.lt (hS _ (.inr (.inr (.inl rfl))))), h.m.chg hc (hS _ (.inr (.inl rfl))), fun i hi => (h.p i hi).chg hc.gen fun k hk => hS k (.inr (.inr (.inr ⟨i, hi, hk⟩))), h.sep, h.gp⟩
theorem GA.grown (h : GA w X B G pm np s T) (hg : w.grownBy w' none) : GA w' X B G pm np s T := h.chg (S := fun _ => False) (Chg.of0 hg) fun _ _ e => e
theorem GA.mono (h : GA w X B G pm np s T) {T' : Nat} (hT : T ≤ T') : GA w X B G pm np s T' := ⟨h.top, h.mp.mono hT, h.m, fun i hi => (h.p i hi).mono hT, h.sep, h.gp⟩
/-- the machine turns -/
theorem GA.mach {M' : Mach} (h : GA w X B G pm np s T) (hm : PM w' B M') (hg : w.grownBy w' (some B)) : GA w' X B G pm np (s.setM M') T :=
  ⟨h.top.grown hg (by have := h.XB; simp; omega), h.mp.grown hg (by have := h.BG; simpa using this), hm, fun i hi => (h.p i hi).chg (Gen.Chg.of hg (S := fun k => k = B) fun j e => .inl (Option.some.inj e).symm) fun k hk e => h.pB hi (e ▸ hk), h.sep, h.gp⟩
/-- a map of places turns -/
theorem GA.place {i : Nat} {Q : Mp} {T' : Nat} (h : GA w X B G pm np s T) (hi : i < np) (hT : T ≤ T') (hl : PLeft (pm i).1 (pm i).2.1 (pm i).2.2 w Q T' w') : GA w' X B G pm np ⟨s.M, upP s.P i Q, s.g⟩ T' := by
  have hc := Chg.ofGen hl.chg
  refine ⟨h.top.chg hc (h.pX hi), (h.mp.same (hc.block _ h.mp.lt (h.gp i hi))).mono hT, h.m.chg hc (h.pB hi), fun j hj => ?_, h.sep, h.gp⟩
  by_cases e : j = i
  · subst e; simp only [upP_same]; exact hl.map
  · simp only [upP_other _ _ _ _ e]
    exact ((h.p j hj).chg hl.chg fun k hk => h.sep j i hj hi e k hk).mono hT
/-- a live map comes or goes -/
theorem GA.live {g' : Gst} {T' : Nat} (h : GA w X B G pm np s T) (hT : T ≤ T') (hm : GMap w' G T' g') (hmem : g'.mem = s.g.mem) (hg : w.grownBy w' (some G)) : GA w' X B G pm np ⟨s.M, s.P, g'⟩ T' :=
  ⟨(h.top.grown hg (by have := h.XG; simp; omega)).congr fun k _ => by unfold gtop; rw [hmem], hm, h.m.grown hg (by have := h.BG; simp; omega), fun i hi => ((h.p i hi).chg (Gen.Chg.of hg (S := fun k => k = G) fun j e => .inl (Option.some.inj e).symm) fun k hk e => h.gp i hi (e ▸ hk)).mono hT, h.sep, h.gp⟩
/-- a member is set: its two cells -/
theorem GA.member (h : GA w X B G pm np s T) {d : Nat} (hd : d < 8) (x : Option (Int × Nat)) :
    GA ((w.setCell ⟨X, 1 + d * 2, none⟩ (.int .i64 (tblV x))).setCell ⟨X, 1 + d * 2 + 1, none⟩ (plcV (fun i => (pm i).1) x)) X B G pm np ⟨s.M, s.P, s.g.setMem d x⟩ T := by
  have g1 := (grownBy_setCell w X (1 + d * 2) none (.int .i64 (tblV x))).trans (grownBy_setCell _ X (1 + d * 2 + 1) none (plcV (fun i => (pm i).1) x))
  have hXB := h.XB
  have hXG := h.XG
  refine ⟨?_, h.mp.grown g1 (by simpa using hXG), h.m.grown g1 (by simp; omega), fun i hi => (h.p i hi).chg (Gen.Chg.of g1 (S := fun k => k = X) fun j e => .inl (Option.some.inj e).symm) fun k hk e => h.pX hi (e ▸ hk), h.sep, h.gp⟩
  have hoth : ∀ e : Nat, e ≠ d → (s.g.setMem d x).mem e = s.g.mem e := fun e he => by simp [Gst.setMem, he]
  have hsame : (s.g.setMem d x).mem d = x := by simp [Gst.setMem]
  refine Row.set (X := fun j => if j = 1 + d * 2 then .int .i64 (tblV x) else gtop B G (fun i => (pm i).1) s.g j) (k := 1 + d * 2 + 1) (Row.set (k := 1 + d * 2) h.top (by simp) fun j _ hne => by simp [hne]) (by rw [gtop_plc _ _ _ _ hd, hsame]) fun j hj hne => ?_
  by_cases e : j = 1 + d * 2
  · subst e; rw [gtop_tbl _ _ _ _ hd, hsame]; simp
  · simp only [e, if_false]
    unfold gtop
    by_cases h0 : j = 0
    · simp [h0]
    rw [if_neg h0, if_neg h0]
    by_cases h7 : j = 17
    · simp [h7]
    rw [if_neg h7, if_neg h7]
    by_cases h1 : j % 2 = 1
    · rw [if_pos h1, if_pos h1, hoth _ (by omega)]
    · rw [if_neg h1, if_neg h1, hoth _ (by omega)]
end
/-- what holds of members and maps -/
structure Gs.ok (s : Gs) (np : Nat) (T : Int) : Prop where
  m : s.M.ok T
  p : ∀ i, i < np → (s.P i).ok
  mem : ∀ d t i, s.g.mem d = some (t, i) → d < 8 ∧ 0 ≤ t ∧ t < s.M.n ∧ i < np
  mp : ∀ c h a, s.g.mp (c, h) = some a → 0 ≤ c ∧ c < 8 ∧ 0 ≤ h ∧ h < 16 ∧ a.h = h ∧ a.c = c ∧ 0 ≤ a.m ∧ a.m < s.M.n

section
variable {w w' : World} {X B G : Nat} {pm : Nat → Nat × Nat × Nat} {np : Nat} {s s' : Gs} {T T' : Nat} {V Gv : Nat} {S : Nat → Prop} {l : List PokeV} {n : Nat}
def avfoot (X B G : Nat) (pm : Nat → Nat × Nat × Nat) (np V Gv k : Nat) : Prop := gfoot X B G pm np k ∨ k = V ∨ k = Gv
end
end Go.Proofs.Ytbbaplcfhofeeaa

/-
  Contracts of package view where nobody made the view.
-/
set_option linter.unusedSimpArgs false
set_option linter.unusedVariables false
namespace Go.Proofs.Ytbbaplcfhofeeaa
open Go.RowKit
set_option maxHeartbeats 400000

theorem build_mach0 (w : World) : (Instr.build 68 #[]).run Try.prog w = .ok (.agg (flatMach 0 zeroFr).cells) w := by
  have hz := (flatMach 0 zeroFr).size_cells
  have hpos : 1 ≤ (flatMach 0 zeroFr).cells.size := by rw [hz, cellsN_eq]; omega
  have hne : (flatMach 0 zeroFr).cells ≠ #[] := fun hh => by rw [hh] at hpos; simp at hpos
  have i3 : (Try.prog.info? 3).map (·.size) = some 1 := by kernel_rfl
  have i56 : (Try.prog.info? 66).map (·.size) = some 66560 := by kernel_rfl
  cases h3 : Try.prog.info? 3 with
  | none => rw [h3] at i3; cases i3
  | some x =>
  cases h56 : Try.prog.info? 66 with
  | none => rw [h56] at i56; cases i56
  | some y =>
  simp [Instr.build, zcMach, zero58w, run_underlying Try.underlying68, sizeOf, typeInfo, h3, h56, Instr.fill, Value.cells, hne]
theorem wpList_build_mach0 {ops : Array Oper} {rest : List Oper} {o : Oper} {a : Act} {w : World} {Q : Exit → Act → World → Prop} (hgd : o.guard = none) (ho : o.op = .build 68 #[])
    (h : wpList Try.prog ops Q rest (a.put o.dst (.agg (flatMach 0 zeroFr).cells)) w) : wpList Try.prog ops Q (o :: rest) a w :=
  wpList_exec hgd (by unfold execOp; simp [ho, build_mach0]) h
end Go.Proofs.Ytbbaplcfhofeeaa
