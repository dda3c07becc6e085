/-
  ImageBase: a list of rows of bytes beside an image.
-/
import Derived.Test.YtcogchalfdeagaaImY
import Derived.Deep.RegionHeld3
import Derived.StillTailTactics
set_option linter.unusedSimpArgs false
set_option linter.unusedVariables false
namespace Go.Proofs.Ytcogchalfdeagaa
open Go.RowKit Gen CM
set_option maxHeartbeats 1000000

theorem info_bs : (Try.prog.info? 22).map (fun i => (i.zero, i.size, i.bytes)) = some (some (.slice none 0 0), 1, 24) := by kernel_rfl
theorem make_rows (W : World) (n : Nat) (hn : n ≤ 256) : ∃ W', (Instr.makeSlice 38 (.int .i64 n) (.int .i64 n)).run Try.prog W = .ok (.slice (some ⟨W.heap.size, 0, none⟩) n n) W' ∧ Row W' W.heap.size 22 n (fun _ => .slice none 0 0) ∧ W.grownBy W' none := by
  obtain ⟨i0, hi, hz0, hz1, hz2⟩ := info_parts info_bs
  have hr := run_make W 38 22 i0 (.slice none 0 0) Try.underlying38 hi hz0 .i64 .i64 n n (by omega) (by omega) (by rw [hz2]; omega) (by omega)
  rw [hz1] at hr
  simp only [Int.toNat_natCast] at hr
  refine ⟨_, hr, ⟨_, heap_alloc_new W _, by rw [size_madeCells]; omega, fun k hk => ?_⟩, World.grownBy_alloc _ _ _⟩
  simp [madeCells, hk, Nat.mod_one, Value.cells]
/-- the i-th part of 64 bytes of a slice -/
def partV (p : Option Addr) (c i : Nat) : Value := match p with
  | some ⟨q, o, s⟩ => .slice (some ⟨q, o + i * 64, s⟩) 64 (c - i * 64)
  | none => .slice none 0 0
def partX (p : Option Addr) (c k : Nat) (i : Nat) : Value := if i < k then partV p c i else .slice none 0 0
/-- block NB holds n rows of 64 bytes, the i-th reads as f i; none of them lies in NB -/
def Now (w : World) (NB n : Nat) (f : Nat → List UInt8) : Prop :=
  ∃ nv : Nat → Value, Row w NB 22 n nv ∧ ∀ i, i < n → ∃ p c, nv i = .slice p 64 c ∧ BA w p (f i) ∧ (f i).length = 64 ∧ ∀ a, p = some a → a.block ≠ NB
section
variable {w0 w : World} {b g m NB n : Nat} {I : Im} {f : Nat → List UInt8}
theorem Now.chg (h : Now w NB n f) (hi : IW w0 w b g m I) {w' : World} (hc : CM1 m w w') : Now w' NB n f := by
  obtain ⟨nv, hr, hn⟩ := h
  refine ⟨nv, hi.row hc hr, fun i hi' => ?_⟩
  obtain ⟨p, c, e, hb, hl, hne⟩ := hn i hi'
  exact ⟨p, c, e, hi.ba hc hb, hl, hne⟩
theorem Now.grown (h : Now w NB n f) {w' : World} (hg : w.grownBy w' none) : Now w' NB n f := by
  obtain ⟨nv, hr, hn⟩ := h
  refine ⟨nv, hr.grown hg (by simp), fun i hi' => ?_⟩
  obtain ⟨p, c, e, hb, hl, hne⟩ := hn i hi'
  exact ⟨p, c, e, hb.grown hg, hl, hne⟩
theorem Now.congr (h : Now w NB n f) {f' : Nat → List UInt8} (hf : ∀ i, i < n → f' i = f i) : Now w NB n f' := by
  obtain ⟨nv, hr, hn⟩ := h
  refine ⟨nv, hr, fun i hi' => ?_⟩
  rw [hf i hi']
  exact hn i hi'
theorem Now.lt (h : Now w NB n f) : NB < w.heap.size := by obtain ⟨nv, hr, _⟩ := h; exact hr.lt
/-- what a store needs -/
theorem Now.cell (h : Now w NB n f) {i : Nat} (hi : i < n) : ∃ p c, w.cell? ⟨NB, i, none⟩ = some (.slice p 64 c) ∧ BA w p (f i) ∧ (f i).length = 64 := by
  obtain ⟨nv, hr, hn⟩ := h
  obtain ⟨p, c, e, hb, hl, _⟩ := hn i hi
  exact ⟨p, c, by rw [hr.cell hi, e], hb, hl⟩
theorem Now.frozen (h : Now w NB n f) (i : Nat) : w.frozen? ⟨NB, i, none⟩ = false := by obtain ⟨nv, hr, _⟩ := h; exact hr.frozen i
theorem BA.set {p : Option Addr} {l : List UInt8} (h : BA w p l) (hne : ∀ a, p = some a → a.block ≠ NB) (k : Nat) (v : Value) : BA (w.setCell ⟨NB, k, none⟩ v) p l := fun j hj => by
  obtain ⟨q, o, e, hc⟩ := h j hj
  exact ⟨q, o, e, (grownBy_setCell w NB k none v).cell hc (by have := hne _ e; simpa using this)⟩
theorem Now.set (h : Now w NB n f) {k : Nat} (hk : k < n) {p : Option Addr} {c : Nat} {l : List UInt8} (hb : BA w p l) (hl : l.length = 64) (hne : ∀ a, p = some a → a.block ≠ NB) :
    Now (w.setCell ⟨NB, k, none⟩ (.slice p 64 c)) NB n (fun i => if i = k then l else f i) := by
  obtain ⟨nv, hr, hn⟩ := h
  refine ⟨fun i => if i = k then .slice p 64 c else nv i, hr.set (by simp) (fun j _ hj => by simp [hj]), fun i hi => ?_⟩
  by_cases e : i = k
  · simp only [e, if_true]
    exact ⟨p, c, rfl, hb.set hne k _, hl, hne⟩
  · simp only [e, if_false]
    obtain ⟨p', c', e', hb', hl', hne'⟩ := hn i hi
    exact ⟨p', c', e', hb'.set hne' k _, hl', hne'⟩
theorem Row_setOther {x NB : Nat} {t : TypeId} {N : Nat} {X : Nat → Value} (h : Row w x t N X) (hne : x ≠ NB) (k : Nat) (v : Value) : Row (w.setCell ⟨NB, k, none⟩ v) x t N X := h.setOther _ hne v
theorem IW.store (h : IW w0 w b g m I) {X : Nat → Value} (hr : Row w NB 22 n X) (hlo : w0.heap.size ≤ NB) (k : Nat) (v : Value) : IW w0 (w.setCell ⟨NB, k, none⟩ v) b g m I := by
  have hg := grownBy_setCell w NB k none v
  refine ⟨⟨h.i.top.setOther _ (h.i.top.type_ne hr (by decide)) v, h.i.base.setOther _ (h.i.base.type_ne hr (by decide)) v, h.i.map.grown hg ?_⟩, h.ok, h.lo, h.g.andThen hg fun j hj => by cases hj; exact .inl hlo⟩
  have := CMap_row_ne h.i.map hr
  simpa using this
theorem Now.row (h : Now w NB n f) : ∃ X, Row w NB 22 n X := by obtain ⟨nv, hr, _⟩ := h; exact ⟨nv, hr⟩
/-- after the first loop -/
theorem Now.of_parts {p : Option Addr} {c : Nat} {l : List UInt8} (hr : Row w NB 22 n (partX p c n)) (hb0 : BA w0 p l) (hb : BA w p l) (hlo : w0.heap.size ≤ NB) (hl : l.length = n * 64) : Now w NB n (fun i => (l.drop (i * 64)).take 64) := by
  refine ⟨_, hr, fun i hi => ?_⟩
  obtain ⟨q, o, rfl, hc0⟩ := hb0 0 (by omega)
  have hq := World.block_lt_of_cell? w0 _ hc0
  refine ⟨some ⟨q, o + i * 64, none⟩, c - i * 64, by unfold partX partV; rw [if_pos hi], hb.part (by omega), by rw [List.length_take, List.length_drop]; omega, fun a e => ?_⟩
  cases e
  simp only at hq ⊢
  omega
theorem partX_next (p : Option Addr) (c k j : Nat) (h : j ≠ k) : partX p c (k + 1) j = partX p c k j := by
  unfold partX
  by_cases h2 : j < k
  · rw [if_pos h2, if_pos (by omega)]
  · rw [if_neg h2, if_neg (by omega)]
end
theorem Im.at_set (I : Im) (a : Int) (b : List UInt8) (i : Nat) : (I.set a b).at i = if (i : Int) = a then b else I.at i := by
  unfold Im.at Im.set Im.base
  by_cases e : (i : Int) = a <;> simp [e]
theorem Im.at_clr (I : Im) (a : Int) (i : Nat) : (I.clr a).at i = if (i : Int) = a then I.base i else I.at i := by
  unfold Im.at Im.clr Im.base
  by_cases e : (i : Int) = a <;> simp [e]
theorem write_split (I : Im) (a : Int) (b : List UInt8) : ((I.writeE a b).1 = I ∧ ((I.writeE a b).2 == 0) = false) ∨ (I.is a = true ∧ b.length = 64 ∧ I.writeE a b = (I.set a b, 0)) := by
  rcases I.write_cases a b with ⟨_, e⟩ | ⟨_, _, e⟩ | ⟨_, _, _, _, e⟩ | ⟨h1, h2, _, e⟩ | ⟨h1, h2, _, _, e⟩
  · rw [e]; exact .inl ⟨rfl, rfl⟩
  · rw [e]; exact .inl ⟨rfl, rfl⟩
  · rw [e]; exact .inl ⟨rfl, rfl⟩
  · exact .inr ⟨h1, h2, e⟩
  · exact .inr ⟨h1, h2, e⟩
theorem cFD {w0 w : World} {b g m K : Nat} {I : Im} (h : IW w0 w b g m I) (hK : I.most = K) : ∃ F U : Nat, (F : Int) + U = K ∧ (∀ w', IW w0 w' b g m I → Calls Try.prog 14 #[.pointer (some ⟨b, 0, none⟩)] w' fun e w'' => e = .returned (.int .i64 F) ∧ IW w0 w'' b g m I ∧ CM1 m w' w'') ∧
    (∀ w', IW w0 w' b g m I → Calls Try.prog 17 #[.pointer (some ⟨b, 0, none⟩)] w' fun e w'' => ∃ p c, e = .returned (.slice p U c) ∧ NewI w' I.dirty (.slice p U c) w'' ∧ IW w0 w'' b g m I ∧ CM1 m w' w'') := by
  have hle := h.ok.le
  refine ⟨I.most - I.used, I.used, by omega, fun w' h' => ?_, fun w' h' => cDirty h'⟩
  have := cFree h'
  rwa [show (I.most : Int) - I.used = ((I.most - I.used : Nat) : Int) by omega] at this
theorem lBytes64 (o : OpV) (w : World) (h : o.fits w) (hl : o.out.length = 64) : Calls Try.prog 12 #[o.val] w fun e w' => ∃ q c, e = .returned (.slice q 64 c) ∧ BA w' q o.out ∧ (∀ a, q = some a → w.heap.size ≤ a.block) ∧ w.grownBy w' none :=
  (lBytes o w h).mono fun e w' ⟨v, he, hv⟩ => by
    obtain ⟨q, c, rfl, hb, hlo, _⟩ := hv.ba
    rw [hl] at he
    exact ⟨q, c, he, hb, hlo, hv.2⟩
theorem lBytesQ (o : OpV) (w : World) (h : o.fits w) : Calls Try.prog 12 #[o.val] w fun e w' => ∃ q c, e = .returned (.slice q o.out.length c) ∧ BA w' q o.out ∧ w.grownBy w' none :=
  (lBytes o w h).mono fun e w' ⟨v, he, hv⟩ => by
    obtain ⟨q, c, rfl, hb, _⟩ := hv.ba
    exact ⟨q, c, he, hb, hv.2⟩
theorem conv64 {w : World} {q : Option Addr} {l : List UInt8} (h : BA w q l) (hl : l.length = 64) (c : Nat) : (convert 22 9 (.slice q 64 c)).run Try.prog w = .ok (.string ⟨l.toArray⟩) w := by
  have := h.string c
  rwa [hl] at this
end Go.Proofs.Ytcogchalfdeagaa
