/-
  Package bridge: plain facts on memory for any program: blocks with labels (who may change them), slices that are parts of blocks, maps from bytes to integers as functions. No walk here.
-/
import Derived.Test.YtolfjbodgdjbjaaGreatGen
import Derived.WalkKit
import Derived.Maps.OwnSet
import Derived.Maps.RangeWalk
import Derived.Maps.OwnOps
import Derived.Maps.AppendAt
import Derived.RegionTactic
import Derived.ArgAppend
import Derived.Laws.Append
import Derived.Laws.IdiomCopy
import Derived.Lib.SliceRun
import Derived.Lib.SlMapFilter
set_option linter.unusedSimpArgs false
set_option linter.unusedVariables false
namespace Go.Proofs.YtolfjbodgdjbjaaGreat.Br
open Go.RowKit Gen

/-! ### labels -/
/-- the labels of old blocks stay, and only old blocks whose label is in C changed -/
structure St (C : Nat → Prop) (lab : Nat → Nat) (w : World) (lab' : Nat → Nat) (w' : World) : Prop where
  keep : ∀ k, k < w.heap.size → lab' k = lab k
  chg : Chg (fun k => C (lab k)) w w'
def upd (lab : Nat → Nat) (k l : Nat) : Nat → Nat := fun j => if j = k then l else lab j
theorem upd_same (lab : Nat → Nat) (k l : Nat) : upd lab k l k = l := if_pos rfl
theorem upd_other (lab : Nat → Nat) {k l j : Nat} (h : j ≠ k) : upd lab k l j = lab j := if_neg h
section
variable {C C' : Nat → Prop} {lab lab' lab1 : Nat → Nat} {w w1 w' : World}
theorem St.refl (C : Nat → Prop) (lab : Nat → Nat) (w : World) : St C lab w lab w := ⟨fun _ _ => rfl, Chg.refl _ _⟩
theorem St.trans (h : St C lab w lab1 w1) (k : St C' lab1 w1 lab' w') (hC : ∀ l, C' l → C l) : St C lab w lab' w' :=
  ⟨fun j hj => (k.keep j (Nat.lt_of_lt_of_le hj h.chg.size)).trans (h.keep j hj), h.chg.trans k.chg fun j hj => by
    rcases Nat.lt_or_ge j w.heap.size with h1 | h1
    · exact .inl (by rw [← h.keep j h1]; exact hC _ hj)
    · exact .inr h1⟩
theorem St.tr (h : St C lab w lab1 w1) (k : St C lab1 w1 lab' w') : St C lab w lab' w' := h.trans k fun _ e => e
theorem St.mono (h : St C lab w lab' w') (hC : ∀ l, C l → C' l) : St C' lab w lab' w' := ⟨h.keep, h.chg.mono fun k hk => hC _ hk⟩
theorem St.grown (hg : w.grownBy w' none) : St C lab w lab w' := ⟨fun _ _ => rfl, Chg.of0 hg⟩
theorem St.upd (hg : w.grownBy w' none) {k : Nat} (hk : w.heap.size ≤ k) (l : Nat) : St C lab w (Br.upd lab k l) w' := ⟨fun j hj => upd_other _ (by omega), Chg.of0 hg⟩
theorem St.one {b : Nat} (hg : w.grownBy w' (some b)) (hb : C (lab b)) : St C lab w lab w' := ⟨fun _ _ => rfl, Chg.one hg hb⟩
theorem St.size (h : St C lab w lab' w') : w.heap.size ≤ w'.heap.size := h.chg.size
theorem St.block (h : St C lab w lab' w') {k : Nat} (hk : k < w.heap.size) (hC : ¬ C (lab k)) : w'.heap[k]? = w.heap[k]? := h.chg.block k hk hC
theorem St.cell (h : St C lab w lab' w') {a : Addr} {v : Value} (hc : w.cell? a = some v) (hC : ¬ C (lab a.block)) : w'.cell? a = some v := h.chg.cell hc hC
theorem St.row (h : St C lab w lab' w') {g : Nat} {t : TypeId} {N : Nat} {X : Nat → Value} (hr : Row w g t N X) (hC : ¬ C (lab g)) : Row w' g t N X := hr.same (h.block hr.lt hC)
theorem St.labk (h : St C lab w lab' w') {k : Nat} (hk : k < w.heap.size) : lab' k = lab k := h.keep k hk
end
theorem frozen_same {w w' : World} {a : Addr} (h : w'.heap[a.block]? = w.heap[a.block]?) : w'.frozen? a = w.frozen? a := by simp only [World.frozen?, h]

/-! ### parts of blocks -/
/-- the slice of c cells from p on, which begins with xs, in a block of label L -/
def QSl (lab : Nat → Nat) (w : World) (L : Nat) (p : Option Addr) (c : Nat) (xs : List Value) : Prop :=
  xs.length ≤ c ∧ ((p = none ∧ c = 0) ∨ ∃ k o, p = some ⟨k, o, none⟩ ∧ lab k = L ∧ k < w.heap.size ∧ (∀ j, j < c → (w.cell? ⟨k, o + j, none⟩).isSome = true ∧ w.frozen? ⟨k, o + j, none⟩ = false) ∧ ∀ j v, xs[j]? = some v → w.cell? ⟨k, o + j, none⟩ = some v)
section
variable {C : Nat → Prop} {lab lab' : Nat → Nat} {w w' : World} {L : Nat} {p : Option Addr} {c : Nat} {xs : List Value}
theorem QSl.nil (lab : Nat → Nat) (w : World) (L : Nat) : QSl lab w L none 0 [] := ⟨Nat.le_refl _, .inl ⟨rfl, rfl⟩⟩
theorem QSl.st (h : QSl lab w L p c xs) (s : St C lab w lab' w') (hC : ¬ C L) : QSl lab' w' L p c xs := by
  obtain ⟨h1, h2⟩ := h
  refine ⟨h1, ?_⟩
  rcases h2 with h2 | ⟨k, o, rfl, hl, hk, h3, h4⟩
  · exact .inl h2
  · have hb := s.block hk (by rw [hl]; exact hC)
    refine .inr ⟨k, o, rfl, (s.keep k hk).trans hl, Nat.lt_of_lt_of_le hk s.size, fun j hj => ?_, fun j v hv => ?_⟩
    · rw [World.cell?_of_block (a := ⟨k, o + j, none⟩) hb, frozen_same (a := ⟨k, o + j, none⟩) hb]; exact h3 j hj
    · rw [World.cell?_of_block (a := ⟨k, o + j, none⟩) hb]; exact h4 j v hv
theorem QSl.grown (h : QSl lab w L p c xs) (hg : w.grownBy w' none) : QSl lab w' L p c xs := h.st (C := fun _ => False) (St.grown hg) fun e => e
/-- the first cell -/
theorem QSl.head {x : Value} (h : QSl lab w L p c (x :: xs)) : ∃ k o, p = some ⟨k, o, none⟩ ∧ w.cell? ⟨k, o, none⟩ = some x := by
  obtain ⟨h1, h2⟩ := h
  rcases h2 with ⟨_, rfl⟩ | ⟨k, o, rfl, _, _, _, h4⟩
  · simp at h1
  · exact ⟨k, o, rfl, by have := h4 0 x (by simp); simpa using this⟩
theorem drew_cell (w : World) (a : Addr) : w.drew.cell? a = w.cell? a := rfl
theorem addr_add (k o j : Nat) : (⟨k, o, none⟩ : Addr).add j = ⟨k, o + j, none⟩ := by unfold Addr.add; split <;> simp_all
theorem there_new (w : World) (cs : Array Value) (t : TypeId) (n : Nat) (hn : n ≤ cs.size) : ∀ j, j < n → ((w.alloc (.cells cs t)).cell? ⟨w.heap.size, 0 + j, none⟩).isSome = true ∧ (w.alloc (.cells cs t)).frozen? ⟨w.heap.size, 0 + j, none⟩ = false := by
  intro j hj
  have hb := heap_alloc_new w (.cells cs t)
  refine ⟨?_, frozen_of_row _ _ _ cs t hb⟩
  rw [cell_of_row _ _ _ cs t _ hb, Nat.zero_add, Array.getElem?_eq_getElem (by omega)]
  rfl
variable {P : Program}
theorem QSl.newRow (lab : Nat → Nat) (w : World) (L : Nat) (xs : List Value) (x : Value) (e : TypeId) (z : Value) (hz1 : z.cells.size = 1) (cap : Nat) (hcap : xs.length + 1 ≤ cap) :
    QSl (upd lab w.heap.size L) (w.drew.alloc (.cells (xs.toArray ++ [x].toArray ++ Builtin.zeroCells z.cells (cap - (xs.length + 1))) e)) L (some ⟨w.heap.size, 0, none⟩) cap (xs ++ [x]) := by
  refine ⟨by simpa using hcap, .inr ⟨_, 0, rfl, upd_same _ _ _, by simp, fun j hj => ?_, fun j v hv => ?_⟩⟩
  · exact there_new w.drew _ e cap (by simp [size_zeroCells, hz1]; omega) j hj
  · have hj := (List.getElem?_eq_some_iff.1 hv).1
    rw [Nat.zero_add, show (w.drew.alloc (.cells (xs.toArray ++ [x].toArray ++ Builtin.zeroCells z.cells (cap - (xs.length + 1))) e)).cell? ⟨w.heap.size, j, none⟩ = _ from cell_of_row _ _ _ _ e _ (heap_alloc_new w.drew _), ← hv, Array.getElem?_append_left (by simp at hj ⊢; omega)]
    simp
theorem setCells_chg (w : World) (k o : Nat) (vs : List Value) : w.grownBy (w.setCells k o vs) (some k) := by
  induction vs generalizing o w with
  | nil => exact grownBy_refl _ _
  | cons v vs ih => exact (grownBy_setCell w k o none v).trans (ih _ _)
theorem setCells_one {w : World} {k o : Nat} (x : Value) (h : (w.cell? ⟨k, o, none⟩).isSome = true) : (w.setCells k o [x]).cell? ⟨k, o, none⟩ = some x := by
  have := World.cell?_setCells_in k [x] o w (fun j hj => by
    have hj : j < 1 := hj
    have e : j = 0 := by omega
    rw [e, Nat.add_zero]; exact h) 0 (by simp)
  rw [Nat.add_zero] at this
  exact this
theorem one_ix {x : Value} {j : Nat} (hj : j < [x].length) : j = 0 := by
  have hj : j < 1 := hj
  omega
/-- append of one -/
theorem QSl.app (h : QSl lab w L p c xs) (t e : TypeId) (i : TypeInfo) (z : Value) (ht : P.underlying t = some (.slice e)) (hi : P.info? e = some i) (hz : i.zero = some z) (hz1 : z.cells.size = 1) (h1 : i.size = 1) (hby : i.bytes ≤ 64) (ad : Addr) (x : Value) (hx : w.cell? ad = some x) (hx1 : x.oneCell' = true) (hsm : xs.length ≤ 1000) (C : Nat → Prop) (hC : C L) :
    ∃ p' c' lab' w', (∀ ty cc, (Builtin.append_ #[t, t] ty #[.slice p xs.length c, .slice (some ad) 1 cc]).run P w = .ok (.slice p' (xs.length + 1) c') w') ∧ QSl lab' w' L p' c' (xs ++ [x]) ∧ St C lab w lab' w' := by
  have hnews : ∀ j u, ([x] : List Value)[j]? = some u → w.cell? (ad.add j) = some u := fun j u hu => by
    match j, hu with
    | 0, hu => simp only [List.getElem?_cons_zero, Option.some.injEq] at hu; subst hu; simpa [Addr.add] using hx
  have hnl : ([x] : List Value).length = 1 * i.size := by rw [h1]; rfl
  obtain ⟨hle, h2⟩ := h
  have hst : ∀ cs : Array Value, St C lab w (upd lab w.heap.size L) (w.drew.alloc (.cells cs e)) := fun cs => St.upd ((grownBy_drew w none).trans (World.grownBy_alloc w.drew (.cells cs e) none)) (Nat.le_refl _) L
  rcases h2 with ⟨rfl, rfl⟩ | ⟨k, o, rfl, hl, hk, h3, h4⟩
  · have hx0 : xs = [] := List.eq_nil_of_length_eq_zero (by omega)
    subst hx0
    have hge := grownCap_ge w 1 0 e
    have hr := fun ty cc => run_append_nil (P := P) w t ty e i z ht hi hz ad 1 cc [x] hnl hnews (by omega) (by omega) (by omega)
    have hn := QSl.newRow lab w L [] x e z hz1 (grownCap w 1 0 e) hge
    simp only [List.length_nil, Nat.zero_add, List.nil_append, Array.empty_append] at hn ⊢
    exact ⟨_, _, _, _, hr, hn, hst _⟩
  · by_cases hroom : xs.length + 1 ≤ c
    · have q1 : ∀ j, j < [x].length → (w.cell? ⟨k, o + xs.length * i.size + j, none⟩).isSome = true := fun j hj => by
        rw [one_ix hj, h1, Nat.mul_one, Nat.add_zero]; exact (h3 xs.length (by omega)).1
      have q2 : ∀ j, j < [x].length → w.frozen? ⟨k, o + xs.length * i.size + j, none⟩ = false := fun j hj => by
        rw [one_ix hj, h1, Nat.mul_one, Nat.add_zero]; exact (h3 xs.length (by omega)).2
      have hr := fun ty cc => run_append_room_cells (P := P) w t ty e i ht hi k o xs.length c ad 1 cc [x] hnl hnews (by intro u hu; rw [List.mem_singleton.1 hu]; exact hx1) hroom
        q1
        q2
      rw [h1, Nat.mul_one] at hr
      have hg := setCells_chg w k (o + xs.length) [x]
      refine ⟨_, _, lab, _, hr, ⟨by simpa using hroom, .inr ⟨k, o, rfl, hl, Nat.lt_of_lt_of_le hk hg.size, fun j hj => ⟨?_, ?_⟩, fun j v hv => ?_⟩⟩, St.one hg (by rw [hl]; exact hC)⟩
      · by_cases e : j = xs.length
        · subst e
          have := setCells_one (w := w) (k := k) (o := o + xs.length) x (h3 xs.length (by omega)).1
          rw [this]; rfl
        · rw [World.cell?_setCells_out]
          · exact (h3 j hj).1
          · intro _ _
            simp
            omega
      · rw [World.frozen?_setCells]; exact (h3 j hj).2
      · have hj := (List.getElem?_eq_some_iff.1 hv).1
        by_cases e : j = xs.length
        · subst e
          have := setCells_one (w := w) (k := k) (o := o + xs.length) x (h3 xs.length (by omega)).1
          rw [this]
          rw [List.getElem?_append_right (Nat.le_refl _), Nat.sub_self] at hv
          simpa using hv
        · have hj2 : j < xs.length := by simp at hj; omega
          rw [World.cell?_setCells_out]
          · rw [List.getElem?_append_left hj2] at hv
            exact h4 j v hv
          · intro _ _
            simp
            omega
    · have holds : ∀ j u, xs[j]? = some u → w.cell? ((⟨k, o, none⟩ : Addr).add j) = some u := fun j u hu => by rw [addr_add]; exact h4 j u hu
      have hge := grownCap_ge w (xs.length + 1) c e
      have hr := fun ty cc => run_append_grow (P := P) w t ty e i z ht hi hz ⟨k, o, none⟩ xs.length c xs (by rw [h1, Nat.mul_one]) holds ad 1 cc [x] hnl hnews (by omega) (by omega) (growslice_fits (by omega) (by
        have : (xs.length + 1) * i.bytes ≤ 1001 * 64 := Nat.mul_le_mul (by omega) hby
        omega))
      exact ⟨_, _, _, _, hr, QSl.newRow lab w L xs x e z hz1 _ hge, hst _⟩
/-- s[1:] -/
theorem QSl.tail {x : Value} (h : QSl lab w L p c (x :: xs)) (t e : TypeId) (i : TypeInfo) (ht : P.underlying t = some (.slice e)) (hi : P.info? e = some i) (h1 : i.size = 1) :
    ∃ p', (∀ W : World, (Instr.slice t (.slice p (xs.length + 1) c) (some (.int .i64 1)) none none).run P W = .ok (.slice p' xs.length (c - 1)) W) ∧ QSl lab w L p' (c - 1) xs ∧ ∃ a, p' = some a := by
  obtain ⟨hle, h2⟩ := h
  simp only [List.length_cons] at hle
  rcases h2 with ⟨_, rfl⟩ | ⟨k, o, rfl, hl, hk, h3, h4⟩
  · omega
  · have hle1 : (1 : Int) ≤ (xs.length : Int) + 1 := by omega
    refine ⟨if c = 1 then some ⟨k, o, none⟩ else some ⟨k, o + 1, none⟩, fun W => ?_, ⟨by omega, .inr ?_⟩, ?_⟩
    · by_cases hc : c = 1
      · subst hc
        have hx0 : xs.length = 0 := by omega
        simp [Instr.slice, run_underlying ht, Instr.sliceBounds, Instr.sliceBound, asIntOf, sizeOf, typeInfo, hi, h1, hle1, hx0]
      · simp [Instr.slice, run_underlying ht, Instr.sliceBounds, Instr.sliceBound, asIntOf, sizeOf, typeInfo, hi, h1, hle1, hc, addr_add]
        try omega
    · by_cases hc : c = 1
      · have hx0 : xs = [] := List.eq_nil_of_length_eq_zero (by omega)
        subst hx0
        exact ⟨k, o, if_pos hc, hl, hk, fun j hj => by omega, fun j v hv => by simp at hv⟩
      · refine ⟨k, o + 1, if_neg hc, hl, hk, fun j hj => ?_, fun j v hv => ?_⟩
        · rw [Nat.add_assoc, Nat.add_comm 1 j]; exact h3 (j + 1) (by omega)
        · rw [Nat.add_assoc, Nat.add_comm 1 j]; exact h4 (j + 1) v (by simpa using hv)
    · split <;> exact ⟨_, rfl⟩
/-- slices.Delete(s, 0, 1), step by step -/
theorem QSl.del {x : Value} (h : QSl lab w L p c (x :: xs)) (h1x : ∀ v ∈ xs, v.oneCell' = true) (t e : TypeId) (i : TypeInfo) (z : Value) (ht : P.underlying t = some (.slice e)) (hi : P.info? e = some i) (h1 : i.size = 1) (hz : ∀ w, (zeroValue e).run P w = .ok z w) (hzc : z.cells = #[z]) (hz1 : z.oneCell' = true) (he : P.underlying e ≠ none) :
    ∃ k o p', p = some ⟨k, o, none⟩ ∧ (∀ W : World, (Instr.slice t (.slice p (xs.length + 1) c) (some (.int .i64 0)) (some (.int .i64 1)) (some (.int .i64 ((xs.length + 1 : Nat) : Int)))).run P W = .ok (.slice p 1 (xs.length + 1)) W) ∧
      (∀ W : World, (Instr.slice t (.slice p (xs.length + 1) c) none (some (.int .i64 0)) none).run P W = .ok (.slice p 0 c) W) ∧
      (∀ W : World, (Instr.slice t (.slice p (xs.length + 1) c) (some (.int .i64 1)) none none).run P W = .ok (.slice p' xs.length (c - 1)) W) ∧
      (∀ ty, (Builtin.append_ #[t, t] ty #[.slice p 0 c, .slice p' xs.length (c - 1)]).run P w = .ok (.slice p xs.length c) (w.setCells k o xs)) ∧
      (∀ W : World, (Instr.slice t (.slice p xs.length c) (some (.int .i64 (xs.length : Nat))) (some (.int .i64 ((xs.length + 1 : Nat) : Int))) none).run P W = .ok (.slice (some ⟨k, o + xs.length, none⟩) 1 (c - xs.length)) W) ∧
      (∀ ty, (Builtin.clear_ #[t] ty #[.slice (some ⟨k, o + xs.length, none⟩) 1 (c - xs.length)]).run P (w.setCells k o xs) = .ok (.tuple #[]) ((w.setCells k o xs).setCells k (o + xs.length) [z])) ∧
      QSl lab ((w.setCells k o xs).setCells k (o + xs.length) [z]) L p c xs ∧ w.grownBy ((w.setCells k o xs).setCells k (o + xs.length) [z]) (some k) ∧ lab k = L := by
  obtain ⟨p', hs, hq', ap, rfl⟩ := h.tail t e i ht hi h1
  have hle := h.1
  have h2 := h.2
  simp only [List.length_cons] at hle
  rcases h2 with ⟨_, rfl⟩ | ⟨k, o, rfl, hl, hk, h3, h4⟩
  · omega
  have hg1 := setCells_chg w k o xs
  have hg2 := setCells_chg (w.setCells k o xs) k (o + xs.length) [z]
  have hc1 : ∀ j, j < c → ((w.setCells k o xs).cell? ⟨k, o + j, none⟩).isSome = true := fun j hj => by
    by_cases e : j < xs.length
    · rw [World.cell?_setCells_in k xs o w (fun j hj => (h3 j (by omega)).1) j e]; rfl
    · rw [World.cell?_setCells_out k xs o w]
      · exact (h3 j hj).1
      · intro _ _; simp; omega
  refine ⟨k, o, some ap, rfl, fun W => ?_, fun W => ?_, hs, fun ty => ?_, fun W => ?_, fun ty => ?_, ⟨by omega, .inr ⟨k, o, rfl, hl, ?_, fun j hj => ⟨?_, ?_⟩, fun j v hv => ?_⟩⟩, hg1.trans hg2, hl⟩
  · have e1 : (1 : Int) ≤ (xs.length : Int) + 1 := by omega
    have e2 : (xs.length : Int) + 1 ≤ c := by omega
    have e3 : ((xs.length : Int) + 1).toNat = xs.length + 1 := by omega
    have e4 : (0 : Int) ≤ (xs.length : Int) + 1 := by omega
    simp [Instr.slice, run_underlying ht, Instr.sliceBounds, Instr.sliceBound, asIntOf, sizeOf, typeInfo, hi, h1, e1, e2, e3, e4, addr_add]
  · have e5 : ¬ c = 0 := by omega
    simp [Instr.slice, run_underlying ht, Instr.sliceBounds, Instr.sliceBound, asIntOf, sizeOf, typeInfo, hi, h1, e5, addr_add]
  · have hsrc : ∀ j u, xs[j]? = some u → w.cell? (ap.add j) = some u := fun j u hu => by
      have hj := (List.getElem?_eq_some_iff.1 hu).1
      rcases hq'.2 with ⟨e, _⟩ | ⟨k', o', e, _, _, _, h7⟩
      · cases e
      · cases e; rw [addr_add]; exact h7 j u hu
    have hr := run_append_room_cells (P := P) w t ty e i ht hi k o 0 c ap xs.length (c - 1) xs (by rw [h1, Nat.mul_one]) hsrc h1x (by omega)
      (fun j hj => by rw [Nat.zero_mul, Nat.add_zero]; exact (h3 j (by omega)).1) (fun j hj => by rw [Nat.zero_mul, Nat.add_zero]; exact (h3 j (by omega)).2)
    rw [Nat.zero_mul, Nat.add_zero, Nat.zero_add] at hr
    exact hr
  · have e1 : (xs.length : Int) ≤ (xs.length : Int) + 1 := by omega
    have e2 : (xs.length : Int) + 1 ≤ c := by omega
    have e3 : ((xs.length : Int) + 1).toNat = xs.length + 1 := by omega
    have e4 : (0 : Int) ≤ (xs.length : Int) + 1 := by omega
    have e5 : ¬ c = xs.length := by omega
    have e6 : ¬ (c - xs.length = 0) := by omega
    simp [Instr.slice, run_underlying ht, Instr.sliceBounds, Instr.sliceBound, asIntOf, sizeOf, typeInfo, hi, h1, e1, e2, e3, e4, e5, e6, addr_add]
  · exact Lib.run_clear_slice (w.setCells k o xs) t e ty z ht hz hzc hz1 k (o + xs.length) 1 (c - xs.length) (by omega) (fun j hj => by
      rw [Nat.add_assoc]; exact hc1 _ (by omega)) (fun j hj => by rw [World.frozen?_setCells, Nat.add_assoc]; exact (h3 _ (by omega)).2)
  · exact Nat.lt_of_lt_of_le hk (hg1.trans hg2).size
  · by_cases e : j = xs.length
    · subst e
      rw [setCells_one z (hc1 _ hj)]; rfl
    · rw [World.cell?_setCells_out]
      · exact hc1 j hj
      · intro _ _; simp; omega
  · rw [World.frozen?_setCells, World.frozen?_setCells]; exact (h3 j hj).2
  · have hj := (List.getElem?_eq_some_iff.1 hv).1
    rw [World.cell?_setCells_out]
    · rw [World.cell?_setCells_in k xs o w (fun j hj => (h3 j (by omega)).1) j hj]
      rw [← hv, List.getElem?_eq_getElem hj]
    · intro _ _; simp; omega
end
end Go.Proofs.YtolfjbodgdjbjaaGreat.Br
