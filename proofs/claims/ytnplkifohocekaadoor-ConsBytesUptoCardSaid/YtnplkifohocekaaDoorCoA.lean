/-
  Package cons: the builder's two writers, with what they leave of a row of bytes that a conversion has made.
-/
import Derived.Test.YtnplkifohocekaaDoorBkL
import Derived.Test.YtnplkifohocekaaDoorCoQ
import Derived.Test.YtnplkifohocekaaDoorCoShelf
import Derived.Lib.OthersKept
import Derived.Lib.FrozenHead2
import Derived.BigCall
set_option linter.unusedSimpArgs false
set_option linter.unusedVariables false
namespace Go.Proofs.YtnplkifohocekaaDoor.Co
open Go.RowKit Go.Lib Go.Shelf
set_option maxHeartbeats 2000000

/-- rows of bytes that conversions have made stay as they are -/
def OddKept (w w' : World) : Prop := ∀ (k : Nat) (cr : Array Value), w.heap[k]? = some (Obj.cells cr 5 (cr.size, cr.size + 1)) → w'.heap[k]? = some (Obj.cells cr 5 (cr.size, cr.size + 1))
theorem OddKept.refl (w : World) : OddKept w w := fun _ _ h => h
theorem OddKept.trans {a b c : World} (h : OddKept a b) (k : OddKept b c) : OddKept a c := fun i o hi => k i o (h i o hi)
theorem OddKept.drew {a w : World} (h : OddKept a w) : OddKept a w.drew := h
theorem OddKept.alloc {a w : World} (h : OddKept a w) (o : Obj) : OddKept a (w.alloc o) := fun k x hk => by
  have h1 := h k x hk
  exact (alloc_old w o k (Array.getElem?_eq_some_iff.1 h1).1).trans h1
theorem own_odd {w : World} {B R n : Nat} {v : Value} {xs : List Value} {cr : Array Value} (h : w.ownsRowF B 5 1 v n xs) (hR : w.heap[R]? = some (.cells cr 5 (cr.size, cr.size + 1))) : v.ownBlock ≠ some R := by
  intro e
  rcases h.2 with ⟨rfl, _⟩ | ⟨g, cap, cur, fz, rfl, _, hg, hfz, hn, _, hcs, _⟩
  · simp [Value.ownBlock] at e
  · simp only [Value.ownBlock, Option.some.injEq] at e
    subst e
    rw [hg] at hR
    simp only [Option.some.injEq, Obj.cells.injEq] at hR
    obtain ⟨rfl, _, rfl⟩ := hR
    simp only [Nat.mul_one] at hfz hcs
    omega
theorem OddKept.grown {a w w' : World} {B n : Nat} {v : Value} {xs : List Value} (h : OddKept a w) (hown : w.ownsRowF B 5 1 v n xs) (hg : w.grownBy w' v.ownBlock) : OddKept a w' := fun k x hk => by
  have h1 := h k x hk
  rw [hg.block k (Array.getElem?_eq_some_iff.1 h1).1 (fun e => own_odd hown h1 e.symm)]
  exact h1
theorem OddKept.set {a w : World} {b : Nat} {cs : Array Value} {fr : Nat × Nat} (h : OddKept a w) (hb : w.heap[b]? = some (.cells cs 80 fr)) (i : Nat) (v : Value) : OddKept a (w.setCell ⟨b, i, none⟩ v) := fun k x hk => by
  have h1 := h k x hk
  rw [Below.heap_setCell _ _ _ _ (fun e => ?_)]
  · exact h1
  · simp only at e
    subst e
    rw [hb] at h1
    simp only [Option.some.injEq, Obj.cells.injEq] at h1
    exact absurd h1.2.1 (by decide)
abbrev IsB (B b : Nat) (bs : List UInt8) (w : World) : Prop := Lib.IsBuilderF 80 5 B b (Lib.byteCells bs) w
theorem bCheck (B b : Nat) (bs : List Value) (w : World) (h : Lib.IsBuilderF 80 5 B b bs w) :
    Calls Tryd.prog 54 #[.pointer (some ⟨b, 0, none⟩)] w fun e w' => e = .returned (.tuple #[]) ∧ Lib.BuilderAtF 80 5 B b (.pointer (some ⟨b, 0, none⟩)) bs w' ∧ Below B w w' ∧ Lib.OthersKept 5 (some b) w w' ∧ OddKept w w' := by
  rcases h with h | h
  · refine (Any.Builder_copyCheck_fresh (P := Tryd.prog) (ρ := Tryd.lays166_ren) { Tryd.lays166 with } Tryd.Builder_Extra_166.toX72 b w h.cell0 h.shape h.frozen0).mono ?_
    rintro e w' ⟨rfl, rfl⟩
    obtain ⟨_, v, hb, _⟩ := id h
    exact ⟨rfl, h.used _, (Below.refl B w).setCell (p := ⟨b, 0, none⟩) h.1 _, (Lib.OthersKept.refl _ _ w).setCell ⟨b, 0, none⟩ rfl _, (OddKept.refl w).set hb 0 _⟩
  · refine (Any.Builder_copyCheck_used (P := Tryd.prog) (ρ := Tryd.lays166_ren) { Tryd.lays166 with } Tryd.Builder_Extra_166.toX72 b w h.cell0).mono ?_
    rintro e w' ⟨rfl, rfl⟩
    exact ⟨rfl, h, Below.refl B _, Lib.OthersKept.refl _ _ _, OddKept.refl _⟩
/-- what a writer leaves -/
structure Wrote (B b : Nat) (bs : List UInt8) (w w' : World) : Prop where
  isb : IsB B b bs w'
  be : Below B w w'
  oth : Lib.OthersKept 5 (some b) w w'
  odd : OddKept w w'
theorem info8 : (Tryd.prog.info? 5).map (fun i => (i.zero, i.size, i.bytes)) = some (some (.int .u8 0), 1, 1) := by kernel_rfl
theorem bWS (B b : Nat) (bs : List UInt8) (s : ByteArray) (w : World) (h : IsB B b bs w) (hlen : bs.length + s.size ≤ 140737488355328) (hBw : B ≤ w.heap.size) :
    Calls Tryd.prog 29 #[.pointer (some ⟨b, 0, none⟩), .string s] w fun e w' => e = .returned (.tuple #[.int .i64 s.size, .nilIface]) ∧ Wrote B b (bs ++ s.data.toList) w w' := by
  obtain ⟨i0, hi, hz0, hz1, hz2⟩ := info_parts info8
  go_enter Tryd.func29, Tryd.ntmps29
  go_wp2_with (go_at_call 54; refine (bCheck B b (Lib.byteCells bs) _ h).mono ?_)
  rintro e w1 ⟨rfl, h1, hb1, hk1, ho1⟩
  obtain ⟨hB, v, hbk, hown, hne⟩ := h1
  have c0 : w1.cell? ⟨b, 0, none⟩ = some (.pointer (some ⟨b, 0, none⟩)) := by rw [Lib.cell_of_heap hbk]; rfl
  have c1 : w1.cell? ⟨b, 1, none⟩ = some v := by rw [Lib.cell_of_heap hbk]; rfl
  go_wp2_with (at_builtin; refine Lib.wpList_append_own_stringF _ rfl _ _ 22 9 rfl B 5 i0 Tryd.underlying22 Tryd.underlying9 hi hz0 hz1 hz2 _ _ _ rfl hown s rfl ?c3 ?c4 ?c5 ?_)
  case c3 => unfold maxLen; rw [Lib.byteCells_length]; omega
  case c4 => rw [Lib.byteCells_length]; omega
  case c5 => have := hb1.size; omega
  intro v' w2 hown' hgrow _
  have hlt : b < w1.heap.size := (Array.getElem?_eq_some_iff.1 hbk).1
  have hb2 : w2.heap[b]? = some (.cells #[.pointer (some ⟨b, 0, none⟩), v] 80 (0, 0)) := by
    rw [hgrow.block b hlt (fun e => hne e.symm)]
    exact hbk
  have d0 : w2.cell? ⟨b, 0, none⟩ = some (.pointer (some ⟨b, 0, none⟩)) := by rw [Lib.cell_of_heap hb2]; rfl
  have d1 : w2.cell? ⟨b, 1, none⟩ = some v := by rw [Lib.cell_of_heap hb2]; rfl
  have f1 : w2.frozen? ⟨b, 1, none⟩ = false := Lib.frozen_of_heap hb2 1
  obtain ⟨ao, n', cap, rfl⟩ : ∃ ao n' cap, v' = .slice ao n' cap := by
    rcases hown'.2 with ⟨hv, _⟩ | ⟨g, cap, cur, fz, hv, _⟩
    · exact ⟨_, _, _, hv⟩
    · exact ⟨_, _, _, hv⟩
  go_wp2
  go_ret2
  refine ⟨rfl, .inr ?_, ?_, (hk1.grown hgrow (Lib.ownsRowF_kind hown)).setCell ⟨b, 1, none⟩ rfl _, (ho1.grown hown hgrow).set hb2 1 _⟩
  · refine Lib.BuilderAtF.put (T := 80) (e := 5) hB hb2 (bs' := Lib.byteCells (bs ++ s.data.toList)) ?_ (by decide)
    rw [Lib.byteCells_append, ← Lib.strCells_eq, List.length_append, Lib.strCells_length]
    exact hown'
  · exact (hb1.grown hgrow (by have := hb1.size; omega) (fun k hk => (hown.lt k hk).1)).setCell (p := ⟨b, 1, none⟩) hB _
theorem bWB (B b : Nat) (bs : List UInt8) (c : UInt8) (w : World) (h : IsB B b bs w) (hlen : bs.length + 1 ≤ 140737488355328) (hBw : B ≤ w.heap.size) :
    Calls Tryd.prog 53 #[.pointer (some ⟨b, 0, none⟩), .int .u8 c.toNat] w fun e w' => e = .returned .nilIface ∧ Wrote B b (bs ++ [c]) w w' := by
  obtain ⟨i0, hi, hz0, hz1, hz2⟩ := info_parts info8
  have hcn := UInt8.toNat_lt c
  generalize hq : (c.toNat : Int) = q
  go_enter Tryd.func53, Tryd.ntmps53
  go_wp2_with (go_at_call 54; refine (bCheck B b (Lib.byteCells bs) _ h).mono ?_)
  rintro e w1 ⟨rfl, h1, hb1, hk1, ho1⟩
  obtain ⟨hB, v, hbk, hown, hne⟩ := h1
  have c0 : w1.cell? ⟨b, 0, none⟩ = some (.pointer (some ⟨b, 0, none⟩)) := by rw [Lib.cell_of_heap hbk]; rfl
  have c1 : w1.cell? ⟨b, 1, none⟩ = some v := by rw [Lib.cell_of_heap hbk]; rfl
  go_wp2_with (at_builtin; refine wpList_append_ownF _ rfl _ _ 22 rfl B 5 i0 (.int .u8 0) 1 1 Tryd.underlying22 hi hz0 hz1 hz2 rfl (by decide) _ _ _ rfl (hown.alloc _) ⟨w1.heap.size, 0, none⟩ 1 1 [.int .u8 q] rfl rfl ?c1 ?c2 ?c3 ?c4 ?c5 ?_)
  case c1 =>
    intro j u hj
    match j, hj with
    | 0, hj => simp at hj; subst hj; simp [Addr.add]
  case c2 => intro u hu; simp at hu; subst hu; rfl
  case c3 => unfold maxLen; rw [Lib.byteCells_length]; omega
  case c4 => rw [Lib.byteCells_length]; omega
  case c5 => have := hb1.size; simp; omega
  intro v' w2 hown' hgrow _
  have hlt : b < w1.heap.size := (Array.getElem?_eq_some_iff.1 hbk).1
  have hb2 : w2.heap[b]? = some (.cells #[.pointer (some ⟨b, 0, none⟩), v] 80 (0, 0)) := by
    rw [hgrow.block b (by simp; omega) (fun e => hne e.symm), Lib.alloc_old w1 _ b hlt]
    exact hbk
  have d0 : w2.cell? ⟨b, 0, none⟩ = some (.pointer (some ⟨b, 0, none⟩)) := by rw [Lib.cell_of_heap hb2]; rfl
  have d1 : w2.cell? ⟨b, 1, none⟩ = some v := by rw [Lib.cell_of_heap hb2]; rfl
  have f1 : w2.frozen? ⟨b, 1, none⟩ = false := Lib.frozen_of_heap hb2 1
  obtain ⟨ao, n', cap, rfl⟩ : ∃ ao n' cap, v' = .slice ao n' cap := by
    rcases hown'.2 with ⟨hv, _⟩ | ⟨g, cap, cur, fz, hv, _⟩
    · exact ⟨_, _, _, hv⟩
    · exact ⟨_, _, _, hv⟩
  go_wp2
  go_ret
  refine ⟨rfl, .inr ?_, ?_, ((hk1.alloc _).grown hgrow (Lib.ownsRowF_kind (hown.alloc _))).setCell ⟨b, 1, none⟩ rfl _, ((ho1.alloc _).grown (hown.alloc _) hgrow).set hb2 1 _⟩
  · refine Lib.BuilderAtF.put (T := 80) (e := 5) hB hb2 (bs' := Lib.byteCells (bs ++ [c])) ?_ (by decide)
    rw [Lib.byteCells_append, List.length_append]
    have e : Lib.byteCells [c] = [.int .u8 q] := by rw [← hq]; rfl
    rw [e]
    exact hown'
  · exact ((hb1.alloc (by have := hb1.size; omega) _).grown hgrow (by have := hb1.size; simp; omega) (fun k hk => (hown.lt k hk).1)).setCell (p := ⟨b, 1, none⟩) hB _
theorem bWR (B b : Nat) (bs : List UInt8) (r : Nat) (w : World) (h : IsB B b bs w) (hr : r ≤ 2147483647) (hlen : bs.length + 4 ≤ 140737488355328) (hBw : B ≤ w.heap.size) :
    Calls Tryd.prog 30 #[.pointer (some ⟨b, 0, none⟩), .int .i32 r] w fun e w' => (∃ m, e = .returned (.tuple #[.int .i64 m, .nilIface])) ∧ IsB B b (bs ++ Lib.encodeRune (r : Int)) w' ∧ Below B w w' ∧ Lib.OthersKept 5 (some b) w w' :=
  (Tryd.Builder_WriteRune_k B b (Lib.byteCells bs) r (by omega) (by omega) w h (by rw [Lib.byteCells_length]; omega) hBw).mono fun e w' ⟨he, hb, hk, ho⟩ =>
    ⟨⟨_, he⟩, .inr (by rw [Lib.byteCells_append, Lib.byteCells_encodeRune]; exact hb), hk, ho⟩
theorem bVis (r : Nat) (w : World) (hr : r ≤ 2147483647) : Calls Tryd.prog 27 #[.int .i32 r] w fun e w' => e = .returned (.bool (goodV r)) ∧ w' = w := by
  have hg : goodV r = ((decide (32 ≤ (r : Int)) && decide ((r : Int) ≤ 126)) || decide (160 ≤ (r : Int))) := by
    unfold goodV
    rw [decide_eq_decide.2 (show 32 ≤ r ↔ 32 ≤ (r : Int) by omega), decide_eq_decide.2 (show r ≤ 126 ↔ (r : Int) ≤ 126 by omega), decide_eq_decide.2 (show 160 ≤ r ↔ 160 ≤ (r : Int) by omega)]
  rw [hg]
  clear hg
  go_enter Tryd.func27, Tryd.ntmps27
  by_cases h1 : (32 : Int) ≤ r
  · by_cases h2 : (r : Int) ≤ 126
    · go_wp2
      go_ret
      simp [h1, h2]
    · by_cases h3 : (160 : Int) ≤ r
      · go_wp2
        go_ret
        simp [h1, h2, h3]
      · go_wp2
        go_ret
        simp [h1, h2, h3]
  · by_cases h3 : (160 : Int) ≤ r
    · omega
    · go_wp2
      go_ret
      simp [h1, h3]
      omega
end Go.Proofs.YtnplkifohocekaaDoor.Co
