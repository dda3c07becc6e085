/-
  Contracts of package phys: the iterator owned.
-/
import Derived.Test.YtbbaplcfhofeeaaK05
import Derived.RangeFuncNested
import Derived.RangeFuncBound
import Derived.RangeFuncCalls
import Derived.RangeFuncLeaves
import Derived.Shelf.Abstract
import Derived.Shelf.RegionOpen
import Derived.OwnWalkIn
import Derived.TacticsInMore
import Derived.LoopNIn
import Derived.LoopIn
import Derived.RangeFuncBox
import Derived.Maps.AppendAt
set_option linter.unusedSimpArgs false
set_option linter.unusedVariables false
namespace Go.Proofs.Ytbbaplcfhofeeaa
open Go.RowKit Go.Shelf
attribute [local go_sem] Oper.semAt_some
set_option maxHeartbeats 1000000

/-- the blocks that the iterator reads lie as they lay -/
def Kp3 (b B1 B2 : Nat) (W W' : World) : Prop := W'.heap[b]? = W.heap[b]? ∧ W'.heap[B1]? = W.heap[B1]? ∧ W'.heap[B2]? = W.heap[B2]?
theorem Kp3.trans {b B1 B2 : Nat} {A B C : World} (h : Kp3 b B1 B2 A B) (k : Kp3 b B1 B2 B C) : Kp3 b B1 B2 A C := ⟨k.1.trans h.1, k.2.1.trans h.2.1, k.2.2.trans h.2.2⟩
theorem Kp3.refl (b B1 B2 : Nat) (W : World) : Kp3 b B1 B2 W W := ⟨rfl, rfl, rfl⟩
theorem Kp3.grown {b B1 B2 : Nat} {W W' : World} {row : Option Nat} (hg : W.grownBy W' row) (h0 : b < W.heap.size) (h1 : B1 < W.heap.size) (h2 : B2 < W.heap.size) (r0 : some b ≠ row) (r1 : some B1 ≠ row) (r2 : some B2 ≠ row) : Kp3 b B1 B2 W W' :=
  ⟨hg.block b h0 r0, hg.block B1 h1 r1, hg.block B2 h2 r2⟩

/-- the frames that are the owner's, below k -/
def ownTo (M : Mach) (o : Int) (k : Nat) : List Nat := (List.range k).filter fun j => (M.fr j).owner == o
theorem ownTo_yes {M : Mach} {o : Int} {k : Nat} (h : (M.fr k).owner = o) : ownTo M o (k + 1) = ownTo M o k ++ [k] := by
  simp [ownTo, List.range_succ, List.filter_append, h]
theorem ownTo_no {M : Mach} {o : Int} {k : Nat} (h : (M.fr k).owner ≠ o) : ownTo M o (k + 1) = ownTo M o k := by
  simp [ownTo, List.range_succ, List.filter_append, h]
theorem ownTo_all (M : Mach) (o : Int) : ownTo M o M.n.toNat = M.ownedL o := rfl
theorem ownTo_prefix (M : Mach) (o : Int) {k n : Nat} (h : k ≤ n) : ownTo M o k <+: ownTo M o n := by
  obtain ⟨d, rfl⟩ := Nat.exists_eq_add_of_le h
  unfold ownTo
  rw [List.range_add, List.filter_append]
  exact List.prefix_append _ _
/-- a frame of the owner's -/
abbrev OwnFr (M : Mach) (o : Int) := { k : Nat // (k : Int) < M.n ∧ (M.fr k).owner = o }
def ownVals {M : Mach} {o : Int} (l : List (OwnFr M o)) : List Nat := l.map (·.1)

theorem owned_any (w : World) (m : Option Addr) (o : Int) : Calls Try.prog 16 #[.pointer m, .int .i64 o] w fun e w' =>
    e = .returned (.func (.func 25) #[] #[.pointer (some ⟨w.heap.size, 0, none⟩), .pointer (some ⟨w.heap.size + 1, 0, none⟩)]) ∧ w' = (w.alloc (.cells #[.pointer m] 27)).alloc (.cells #[.int .i64 o] 3) := by
  go_enter Try.func16, Try.ntmps16
  go_wp2
  go_ret
  exact ⟨rfl, rfl⟩

set_option maxRecDepth 100000 in
theorem owned_stops (n : Nat) (hn : 3 ≤ n) (b B1 B2 : Nat) (M : Mach) (o : Int) (w : World) (hM : PM w b M) (hn1 : 1 ≤ M.n) (hn2 : M.n ≤ 256)
    (h1 : w.heap[B1]? = some (.cells #[.pointer (some ⟨b, 0, none⟩)] 27 (0, 0))) (h2 : w.heap[B2]? = some (.cells #[.int .i64 o] 3 (0, 0))) :
    SeqStopsK Fence.wide n Try.prog 25 #[.pointer (some ⟨B1, 0, none⟩), .pointer (some ⟨B2, 0, none⟩)] (fun x : OwnFr M o => #[.int .i64 x.1]) (Kp3 b B1 B2)
      (fun xs => ownVals xs = M.ownedL o) (fun pre => ownVals pre <+: M.ownedL o) (M.ownedL o).length w := fun l J Jx W hW hJ hJx hY h0 => by
  have hMW : PM W b M := (hW.block b hM.lt).trans hM
  have hB1 : W.heap[B1]? = some (.cells #[.pointer (some ⟨b, 0, none⟩)] 27 (0, 0)) := (hW.block B1 (Array.getElem?_eq_some_iff.1 h1).1).trans h1
  have hB2 : W.heap[B2]? = some (.cells #[.int .i64 o] 3 (0, 0)) := (hW.block B2 (Array.getElem?_eq_some_iff.1 h2).1).trans h2
  have c1 : W.cell? ⟨B1, 0, none⟩ = some (.pointer (some ⟨b, 0, none⟩)) := cell_of_row W B1 0 _ _ _ hB1
  have hsz := hMW.size
  have HM := hid hMW; have HB1 := hid hB1; have HB2 := hid hB2
  clear hMW hB1 hB2 hM h1 h2
  have hd : 1 ≤ n - 1 := by omega
  obtain ⟨N, hN⟩ : ∃ N : Nat, (N : Int) = M.n := ⟨M.n.toNat, by omega⟩
  have HN := hid hN
  rw [← hN] at hsz
  clear hN
  have hN1 : (1 : Int) ≤ N := by rw [HN.out]; exact hn1
  have hN2 : N ≤ 256 := by have := HN.out; omega
  clear hn1 hn2
  refine callsIn_of_wp Try.func25 rfl trivial ?_ rfl
  simp only [Try.ntmps25, List.size_toArray, List.length_cons, List.length_nil, Nat.reduceAdd, Nat.reduceSub, Array.replicate_succ, Array.replicate_zero, List.push_toArray, List.append_toArray, List.nil_append, List.cons_append]
  gi_wp2_with (refine ⟨trivial, fun _ => (by omega), ?_⟩; gi_at_call 24; refine (callsIn_wide.2 (Size_yes _ _ _ hN1 hsz)).mono ?_; rintro e w' ⟨rfl, rfl⟩)
  gi_loopw [7] (fun i wr => ∃ (k : Nat) (pre : List (OwnFr M o)), i = .int .i64 k ∧ k ≤ N ∧ ownVals pre = ownTo M o k ∧ J pre wr ∧ Kp3 b B1 B2 W wr) (fun i _ => N - (intOf i).toNat)
  case atStart => exact ⟨0, [], rfl, by omega, rfl, h0, Kp3.refl _ _ _ _⟩
  case round =>
    obtain ⟨k, pre, rfl, hk, hpre, hJp, hkp⟩ := hrel
    by_cases hlt : k < N
    · have hlt' : (k : Int) < N := by omega
      have hk256 : (k : Int) < 256 := by omega
      have hmx : Try.prog.follows .mixedOrders = true := by kernel_rfl
      have HKP := hid hkp
      have hMr : PM wr b M := hkp.1.trans HM.out
      have d1 : wr.cell? ⟨B1, 0, none⟩ = some (.pointer (some ⟨b, 0, none⟩)) := cell_of_row wr B1 0 _ _ _ (hkp.2.1.trans HB1.out)
      have d2 : wr.cell? ⟨B2, 0, none⟩ = some (.int .i64 o) := cell_of_row wr B2 0 _ _ _ (hkp.2.2.trans HB2.out)
      have d3 := hMr.owner (i := k) (by omega)
      clear hkp hMr
      have HPRE := hid hpre
      clear hpre
      by_cases ho : (M.fr k).owner = o
      · have HO := hid ho
        rw [ho] at d3
        clear ho
        have hkM : (k : Int) < M.n := by rw [← HN.out]; exact hlt'
        have hlen : pre.length < (M.ownedL o).length := by
          have e1 : pre.length = (ownTo M o k).length := by rw [← HPRE.out, ownVals, List.length_map]
          have e2 := (ownTo_prefix M o (k := k + 1) (n := M.n.toNat) (by omega)).length_le
          rw [ownTo_yes HO.out, ownTo_all] at e2
          simp at e2
          omega
        obtain ⟨fn, tmps, assign, body, hy, hR⟩ := hY pre ⟨k, hkM, HO.out⟩ wr.drew (hJ _ _ _ none hJp (grownBy_drew wr none) (fun r e => by cases e)) hlen
        have HR := hid (hR.mono (R' := fun e W' => ∃ bv : Bool, e = .returned (.bool bv) ∧ Hid ((bv = true ∧ J (pre ++ [⟨k, hkM, HO.out⟩]) W' ∧ Kp3 b B1 B2 wr.drew W') ∨ (bv = false ∧ Jx (pre ++ [⟨k, hkM, HO.out⟩]) W'))) (by
          rintro e W' (⟨rfl, h1, h2⟩ | ⟨rfl, h1⟩)
          · exact ⟨true, rfl, .inl ⟨rfl, h1, h2⟩⟩
          · exact ⟨false, rfl, .inr ⟨rfl, h1⟩⟩))
        dsimp only at hy
        clear hR hY
        have HJ := hid hJ; have HJx := hid hJx
        clear hJ hJx
        gi_wp2
        gi_region_with_o (refine ⟨fun _ => (by omega), ?_⟩; refine HR.out.mono ?_; rintro e W' ⟨bv, rfl, HX⟩)
        all_goals
          rcases HX.out with ⟨rfl, g1, g2⟩ | ⟨rfl, g1⟩
          · have G1 := hid g1; have G2 := hid g2
            clear g1 g2 HX
            gi_wp2
            exact ⟨⟨k + 1, pre ++ [⟨k, hkM, HO.out⟩], by go_num, by omega, by rw [ownTo_yes HO.out, ← HPRE.out]; simp [ownVals], G1.out, HKP.out.trans (Kp3.trans ⟨rfl, rfl, rfl⟩ G2.out)⟩, by simp [intOf]; omega⟩
          · have G1 := hid g1
            clear g1 HX
            gi_wp2
            refine bodyPost_ret (results_none rfl _ _ _) rfl ?_
            refine ⟨⟨_, rfl⟩, .inr ⟨pre ++ [⟨k, hkM, HO.out⟩], ?_, G1.out⟩⟩
            have e2 := ownTo_prefix M o (k := k + 1) (n := M.n.toNat) (by omega)
            rw [ownTo_yes HO.out, ownTo_all, ← HPRE.out] at e2
            simpa [ownVals] using e2
      · have hob : ((M.fr k).owner == o) = false := by simp [ho]
        have HJ := hid hJ; have HJx := hid hJx
        clear hY hJ hJx
        have HO := hid ho
        clear ho
        gi_wp2
        refine wpIn_region_quiet_lit rfl (by kernel_rfl) (by kernel_rfl) ?_
        repeat (gi_big_quiet_step (fail))
        refine BigFrame.wpQuietIn_skip (fun _ _ _ _ => trivial) rfl ?_
        simp only [Act.put, List.setIfInBounds_toArray, List.set_cons_succ, List.set_cons_zero]
        repeat (gi_big_quiet_step (fail))
        refine wpQuietIn_nil ?_
        rintro _ ⟨nq, rfl⟩
        gi_wp2
        exact ⟨⟨k + 1, pre, by go_num, by omega, by rw [ownTo_no HO.out]; exact HPRE.out, HJ.out _ _ _ none hJp (grownBy_drewN wr nq none) (fun r e => by cases e), HKP.out.trans ⟨rfl, rfl, rfl⟩⟩, by simp [intOf]; omega⟩
    · have hge : (N : Int) ≤ k := by omega
      gi_wp2
      obtain rfl : k = N := by omega
      go_end0
      exact ⟨⟨_, rfl⟩, .inl ⟨pre, by rw [hpre, ← ownTo_all]; congr 1; have := HN.out; omega, hJp⟩⟩

end Go.Proofs.Ytbbaplcfhofeeaa

/-
  Contracts of package phys: Left, Owned, Alloc.
-/
set_option linter.unusedSimpArgs false
set_option linter.unusedVariables false
namespace Go.Proofs.Ytbbaplcfhofeeaa
open Go.RowKit Go.Shelf
attribute [local go_sem] Oper.semAt_some
set_option maxHeartbeats 1000000

theorem ownFrom_grown {β : Type} {B : Nat} {w₀ : World} {row : Option Nat} (hB : w₀.heap.size ≤ B) : OwnFrom B (fun (_ : β) W => w₀.grownBy W row) :=
  fun _ X Y r hs hg hr => hs.andThen hg (fun j e => .inl (by have := (hr j e).1; omega))
theorem Kp3.set {b B1 B2 : Nat} (W : World) (B0 o : Nat) (v : Value) (h0 : b ≠ B0) (h1 : B1 ≠ B0) (h2 : B2 ≠ B0) : Kp3 b B1 B2 W (W.setCell ⟨B0, o, none⟩ v) :=
  ⟨heap_setCell_other W _ _ v h0, heap_setCell_other W _ _ v h1, heap_setCell_other W _ _ v h2⟩
theorem Kp3.put {b B1 B2 : Nat} {w : World} (h0 : b < w.heap.size) (h1 : B1 < w.heap.size) (h2 : B2 < w.heap.size) (W : World) (l : Nat) (o o' : Obj) (hl : w.heap.size ≤ l) (_ : W.heap[l]? = some o) (_ : o.isCells = false) (_ : o.isWalk = false) : Kp3 b B1 B2 W (W.putObj l o') :=
  ⟨World.putObj_heap_other (by omega), World.putObj_heap_other (by omega), World.putObj_heap_other (by omega)⟩

/-- a machine's pointer p over which the iterator goes, as over M -/
def Stops (p : Option Addr) (M : Mach) (w : World) : Prop := ∀ (n B1 B2 : Nat) (o : Int) (w1 : World), 3 ≤ n → w.heap.size ≤ B1 → w.grownBy w1 none →
  w1.heap[B1]? = some (.cells #[.pointer p] 27 (0, 0)) → w1.heap[B2]? = some (.cells #[.int .i64 o] 3 (0, 0)) →
  ∃ b, (b < w.heap.size ∨ b = B1) ∧ SeqStopsK Fence.wide n Try.prog 25 #[.pointer (some ⟨B1, 0, none⟩), .pointer (some ⟨B2, 0, none⟩)] (fun x : OwnFr M o => #[.int .i64 x.1]) (Kp3 b B1 B2)
      (fun xs => ownVals xs = M.ownedL o) (fun pre => ownVals pre <+: M.ownedL o) (M.ownedL o).length w1
theorem PM.stops {w : World} {b : Nat} {M : Mach} (hM : PM w b M) (hn1 : 1 ≤ M.n) (hn2 : M.n ≤ 256) : Stops (some ⟨b, 0, none⟩) M w :=
  fun n B1 B2 o w1 hn _ hg h1 h2 => ⟨b, .inl hM.lt, owned_stops n hn b B1 B2 M o w1 (hM.grown hg (by simp)) hn1 hn2 h1 h2⟩
theorem ownedL_len (M : Mach) (o : Int) (h2 : M.n ≤ 256) : (M.ownedL o).length ≤ 256 := by
  have := List.length_filter_le (fun k => (M.fr k).owner == o) (List.range M.n.toNat)
  simp only [List.length_range] at this
  unfold Mach.ownedL
  omega

set_option maxRecDepth 100000 in
theorem Left_any (p : Option Addr) (M : Mach) (w : World) (hst : Stops p M w) (hn2 : M.n ≤ 256) :
    Calls Try.prog 6 #[.pointer p] w fun e w' => e = .returned (.int .i64 M.leftN) ∧ w.grownBy w' none := by
  refine (callsIn_wide (n := 9)).1 ?_
  refine callsIn_of_wp_marks Try.func6 rfl trivial ?_ rfl
  simp only [Try.ntmps6, List.size_toArray, List.length_cons, List.length_nil, Nat.reduceAdd, Nat.reduceSub, Array.replicate_succ, Array.replicate_zero, List.push_toArray, List.append_toArray, List.nil_append, List.cons_append]
  gi_wp2_with (refine ⟨trivial, ?_⟩; gi_at_call 16; refine (callsIn_wide.2 (owned_any _ _ _)).mono ?_; rintro e w' ⟨rfl, rfl⟩)
  obtain ⟨W0, hW0⟩ : ∃ W0, ((w.alloc (.cells #[.int .i64 0] 3)).alloc (.cells #[.pointer p] 27)).alloc (.cells #[.int .i64 (-1)] 3) = W0 := ⟨_, rfl⟩
  have hs0 : W0.heap.size = w.heap.size + 3 := by rw [← hW0]; simp
  have b0 : Boxed W0 w.heap.size 3 (.int .i64 0) := by rw [← hW0]; exact ((Boxed.new w _ _).alloc _).alloc _
  have b1 : Boxed W0 (w.heap.size + 1) 27 (.pointer p) := by
    rw [← hW0]
    have := Boxed.new (w.alloc (.cells #[.int .i64 0] 3)) 27 (.pointer p)
    rw [World.size_alloc] at this
    exact this.alloc _
  have b2 : Boxed W0 (w.heap.size + 1 + 1) 3 (.int .i64 (-1)) := by
    rw [← hW0]
    have := Boxed.new ((w.alloc (.cells #[.int .i64 0] 3)).alloc (.cells #[.pointer p] 27)) 3 (.int .i64 (-1))
    rw [World.size_alloc, World.size_alloc] at this
    exact this
  have hg0 : w.grownBy W0 none := by rw [← hW0]; exact ((World.grownBy_alloc w _ none).trans (World.grownBy_alloc _ _ none)).trans (World.grownBy_alloc _ _ none)
  try simp only [World.size_alloc]
  rw [hW0]
  obtain ⟨b, hb, hseq⟩ := hst 8 (w.heap.size + 1) (w.heap.size + 1 + 1) (-1) W0 (by omega) (by omega) hg0 b1 b2
  have HL := ownedL_len M (-1) hn2
  have hbs : b < W0.heap.size ∧ b ≠ w.heap.size := by omega
  refine wpIn_rangeFunc_ownF rfl (by omega) (gf := 25) (lb := #[.pointer (some ⟨w.heap.size + 1, 0, none⟩), .pointer (some ⟨w.heap.size + 1 + 1, 0, none⟩)]) rfl trivial (enters_of Try.func25 (by kernel_rfl) rfl)
    hseq Kp3.trans (Kp3.put hbs.1 (by omega) (by omega)) (Below.refl _ _) (fun _ => rfl)
    (fun pre W => Boxed W w.heap.size 3 (.int .i64 pre.length) ∧ w.grownBy W none)
    (fun _ _ _ => False)
    (OwnFrom.and (Own.from (boxed_own w.heap.size 3 (fun pre => .int .i64 (List.length pre))) _) (ownFrom_grown (by omega)))
    (fun _ _ _ _ _ hs _ _ => hs)
    ⟨b0, hg0⟩
    (fun x => { tmps := #[.pointer p, undef, .int .i64 0, .pointer (some ⟨w.heap.size, 0, none⟩), .pointer p, .func (.func 25) #[] #[.pointer (some ⟨w.heap.size + 1, 0, none⟩), .pointer (some ⟨w.heap.size + 1 + 1, 0, none⟩)], .int .i64 x.1, undef, undef, undef], defers := [] }) ?assign ?body ?done ?stop
  case assign =>
    intro l x W K hK
    gi_wp2
    simpa using hK
  case body =>
    rintro l pre x W ⟨hbx, hg⟩ hlen
    have hc := hbx.cell
    have hf := hbx.frozen
    have hle : (pre.length : Int) < 256 := by omega
    have HB := hid hbx; have HG := hid hg
    clear hbx hg
    gi_wp2
    refine ⟨KeepsOthers.setCell _ _ _, Kp3.set _ _ _ _ hbs.2 (by omega) (by omega), ?_, HG.out.andThen (grownBy_setCell _ _ _ _ _) (fun j hj => by cases hj; exact .inl (Nat.le_refl _))⟩
    have := HB.out.set (.int .i64 ((pre.length : Int) + 1))
    simpa using this
  case done =>
    rintro D xs W hD hxs ⟨hbx, hg⟩ hK
    have hc := hbx.cell
    gi_wp2
    refine ⟨by simp, .inl ⟨_, _, rfl, run_takeDeferred hK, ?_⟩⟩
    refine ⟨_, results_tmp rfl _ _ _, ?_, ?_⟩
    · rw [Mach.leftN, ← hxs, ownVals, List.length_map]
      rfl
    · exact hg.andThen (grownBy_putObj' _ _ _) (fun j hj => by cases hj; exact .inl (by omega))
  case stop =>
    rintro D c pre W _ _ h _
    exact h.elim

theorem below_grown {w W : World} (h : w.grownBy W none) : Below w.heap.size w W := ⟨h.os, h.tape, h.output, h.size, fun k hk => h.block k hk (by simp)⟩
theorem grown_below {w W : World} (h : Below w.heap.size w W) : w.grownBy W none := ⟨h.os, h.tape, h.output, h.size, fun k hk _ => h.block k hk⟩
/-- below base, but for block B0, the world is as it was -/
structure SameBut (base B0 : Nat) (W W' : World) : Prop where
  os : W'.os = W.os
  tape : W'.tape = W.tape
  output : W'.output = W.output
  size : W.heap.size ≤ W'.heap.size
  block : ∀ k, k < W.heap.size → k < base → k ≠ B0 → W'.heap[k]? = W.heap[k]?
theorem appended3 {W w1 : World} {base B0 : Nat} {t e : TypeId} {size : Nat} {v v' : Value} {k m : Nat} {xs ys : List Value} {tmp : Obj}
    (hv : Boxed W B0 t v) (hte : t ≠ e) (hrow : W.ownsRow base e size v k xs) (hown' : w1.ownsRow base e size v' m ys) (hgrow : (W.alloc tmp).grownBy w1 v.ownBlock) :
    Boxed w1 B0 t v ∧ Boxed (w1.setCell ⟨B0, 0, none⟩ v') B0 t v' ∧ (w1.setCell ⟨B0, 0, none⟩ v').ownsRow base e size v' m ys ∧ KeepsOthers W (w1.setCell ⟨B0, 0, none⟩ v') ∧ SameBut base B0 W (w1.setCell ⟨B0, 0, none⟩ v') := by
  have hv1 : Boxed w1 B0 t v := (hv.alloc tmp).kept hgrow (hv.not_row hte hrow)
  have hob : ∀ j, some j = v.ownBlock → base ≤ j := by
    intro j ej
    rcases hrow.2 with ⟨rfl, _⟩ | ⟨g, cap, cur, rfl, hb, _, _⟩
    · simp [Value.ownBlock] at ej
    · obtain rfl : j = g := by simpa [Value.ownBlock] using ej
      exact hb
  refine ⟨hv1, hv1.set v', hown'.kept (grownBy_setCell' w1 B0 v') (.inr (hv1.not_row hte hown').symm), ?_, ?_⟩
  · refine ((KeepsOthers.alloc W tmp).trans (KeepsOthers.of_grownBy hgrow fun j o ej hj => ?_)).trans (KeepsOthers.setCell _ _ _)
    rcases (hrow.alloc tmp).2 with ⟨rfl, _⟩ | ⟨g, cap, cur, rfl, _, hgb, _⟩
    · simp [Value.ownBlock] at ej
    · obtain rfl : g = j := by simpa [Value.ownBlock] using ej
      rw [hgb] at hj; cases hj; rfl
  · refine ⟨hgrow.os, hgrow.tape, hgrow.output, ?_, fun q hq hqb hq0 => ?_⟩
    · have := hgrow.size; simp at this ⊢; omega
    · rw [heap_setCell_other _ _ _ _ hq0, hgrow.block q (by simp; omega) (fun e => by have := hob q e; omega)]
      exact Below.heap_alloc W tmp q hq
theorem SameBut.kp3 {base B0 b B1 B2 : Nat} {W W' : World} (h : SameBut base B0 W W') (h0 : b < W.heap.size) (h1 : B1 < W.heap.size) (h2 : B2 < W.heap.size) (g0 : b < base) (g1 : B1 < base) (g2 : B2 < base) (n0 : b ≠ B0) (n1 : B1 ≠ B0) (n2 : B2 ≠ B0) : Kp3 b B1 B2 W W' :=
  ⟨h.block b h0 g0 n0, h.block B1 h1 g1 n1, h.block B2 h2 g2 n2⟩
theorem SameBut.grown {base B0 : Nat} {w W W' : World} (h : SameBut base B0 W W') (hg : w.grownBy W none) (hb : w.heap.size ≤ base) (h0 : w.heap.size ≤ B0) : w.grownBy W' none :=
  ⟨h.os.trans hg.os, h.tape.trans hg.tape, h.output.trans hg.output, Nat.le_trans hg.size h.size, fun k hk _ => (h.block k (Nat.lt_of_lt_of_le hk hg.size) (by omega) (by omega)).trans (hg.block k hk (by simp))⟩
theorem ownsRow_base {W : World} {base base' : Nat} {e : TypeId} {size : Nat} {v : Value} {k : Nat} {xs : List Value} (h : W.ownsRow base e size v k xs) (hb : base' ≤ base) : W.ownsRow base' e size v k xs := by
  refine ⟨h.1, ?_⟩
  rcases h.2 with h2 | ⟨g, cap, cur, hv, hg, r⟩
  · exact .inl h2
  · exact .inr ⟨g, cap, cur, hv, by omega, r⟩
theorem info_int : (Try.prog.info? 3).map (fun i => (i.zero, i.size, i.bytes)) = some (some (.int .i64 0), 1, 8) := by kernel_rfl
/-- numbers as cells -/
def icells (l : List Nat) : List Value := l.map fun (k : Nat) => .int .i64 k
theorem icells_snoc (l : List Nat) (k : Nat) : icells (l ++ [k]) = icells l ++ [.int .i64 k] := by simp [icells]
theorem icells_len (l : List Nat) : (icells l).length = l.length := by simp [icells]
/-- a slice of numbers in a row of its own; nil just where there is none -/
def NewInts (w : World) (l : List Nat) (v : Value) (w' : World) : Prop := w'.ownsRow w.heap.size 3 1 v l.length (icells l) ∧ (v = .slice none 0 0 ↔ l = []) ∧ w.grownBy w' none
set_option maxRecDepth 100000 in
theorem Owned_any (p : Option Addr) (M : Mach) (o : Int) (w : World) (hst : Stops p M w) (hn2 : M.n ≤ 256) :
    Calls Try.prog 19 #[.pointer p, .int .i64 o] w fun e w' => ∃ v, e = .returned v ∧ NewInts w (M.ownedL o) v w' := by
  refine (callsIn_wide (n := 9)).1 ?_
  refine callsIn_of_wp_marks Try.func19 rfl trivial ?_ rfl
  simp only [Try.ntmps19, List.size_toArray, List.length_cons, List.length_nil, Nat.reduceAdd, Nat.reduceSub, Array.replicate_succ, Array.replicate_zero, List.push_toArray, List.append_toArray, List.nil_append, List.cons_append]
  gi_wp2_with (refine ⟨trivial, ?_⟩; gi_at_call 16; refine (callsIn_wide.2 (owned_any _ _ _)).mono ?_; rintro e w' ⟨rfl, rfl⟩)
  obtain ⟨W0, hW0⟩ : ∃ W0, ((w.alloc (.cells #[.slice none 0 0] 22)).alloc (.cells #[.pointer p] 27)).alloc (.cells #[.int .i64 o] 3) = W0 := ⟨_, rfl⟩
  have hs0 : W0.heap.size = w.heap.size + 3 := by rw [← hW0]; simp
  have b0 : Boxed W0 w.heap.size 22 (.slice none 0 0) := by rw [← hW0]; exact ((Boxed.new w _ _).alloc _).alloc _
  have b1 : Boxed W0 (w.heap.size + 1) 27 (.pointer p) := by
    rw [← hW0]
    have := Boxed.new (w.alloc (.cells #[.slice none 0 0] 22)) 27 (.pointer p)
    rw [World.size_alloc] at this
    exact this.alloc _
  have b2 : Boxed W0 (w.heap.size + 1 + 1) 3 (.int .i64 o) := by
    rw [← hW0]
    have := Boxed.new ((w.alloc (.cells #[.slice none 0 0] 22)).alloc (.cells #[.pointer p] 27)) 3 (.int .i64 o)
    rw [World.size_alloc, World.size_alloc] at this
    exact this
  have hg0 : w.grownBy W0 none := by rw [← hW0]; exact ((World.grownBy_alloc w _ none).trans (World.grownBy_alloc _ _ none)).trans (World.grownBy_alloc _ _ none)
  rw [hW0]
  obtain ⟨b, hb, hseq⟩ := hst 8 (w.heap.size + 1) (w.heap.size + 1 + 1) o W0 (by omega) (by omega) hg0 b1 b2
  have HL := ownedL_len M o hn2
  have hbs : b < W0.heap.size ∧ b ≠ w.heap.size := by omega
  obtain ⟨i0, hi, hz0, hz1, hz2⟩ := info_parts info_int
  refine wpIn_rangeFunc_ownF rfl (by omega) (gf := 25) (lb := #[.pointer (some ⟨w.heap.size + 1, 0, none⟩), .pointer (some ⟨w.heap.size + 1 + 1, 0, none⟩)]) rfl trivial (enters_of Try.func25 (by kernel_rfl) rfl)
    hseq Kp3.trans (Kp3.put hbs.1 (by omega) (by omega)) (Below.refl _ _) (fun _ => rfl)
    (fun pre W => (∃ v, Boxed W w.heap.size 22 v ∧ W.ownsRow (w.heap.size + 3) 3 1 v pre.length (icells (ownVals pre)) ∧ (v = .slice none 0 0 ↔ ownVals pre = [])) ∧ w.grownBy W none ∧ w.heap.size + 3 ≤ W.heap.size)
    (fun _ _ _ => False)
    (OwnFrom.and (Own.from (holdsRow_own (w.heap.size + 3) w.heap.size 22 3 1 (fun pre => List.length pre) (fun pre => icells (ownVals pre)) (fun pre v => v = .slice none 0 0 ↔ ownVals pre = [])) _) (OwnFrom.and (ownFrom_grown (by omega)) (fun _ _ _ _ hs hg _ => Nat.le_trans hs hg.size)))
    (fun _ _ _ _ _ hs _ _ => hs)
    ⟨⟨_, b0, World.ownsRow_nil _ _ _ _, by simp [ownVals]⟩, hg0, by omega⟩
    (fun x => { tmps := #[.pointer p, .int .i64 o, undef, undef, .slice none 0 0, .pointer (some ⟨w.heap.size, 0, none⟩), .int .i64 x.1, .pointer p, .int .i64 o, .func (.func 25) #[] #[.pointer (some ⟨w.heap.size + 1, 0, none⟩), .pointer (some ⟨w.heap.size + 1 + 1, 0, none⟩)], .int .i64 x.1, undef, undef, undef, undef, undef], defers := [] }) ?assign ?body ?done ?stop
  case assign =>
    intro l x W K hK
    gi_wp2
    exact hK
  case body =>
    rintro l pre x W ⟨⟨v, hv, hrow, hnil⟩, hg, hsW⟩ hlen
    have hc := hv.cell
    have hle : pre.length < 256 := by omega
    have HV := hid hv; have HR := hid hrow; have HN := hid hnil; have HG := hid hg; have Hi := hid hi; have Hz0 := hid hz0; have Hz1 := hid hz1; have Hz2 := hid hz2
    have Hsz : w.heap.size + 3 ≤ W.heap.size := hsW
    clear hv hrow hnil hg hi hz0 hz1 hz2 hsW
    gi_wp2_with (gi_at_builtin; refine wpListIn_append_own _ rfl _ _ 22 rfl (w.heap.size + 3) 3 i0 (.int .i64 0) 1 8 Try.underlying22 Hi.out Hz0.out Hz1.out Hz2.out rfl (by decide) _ _ _ rfl (HR.out.alloc _) ⟨W.heap.size, 0, none⟩ 1 1 [.int .i64 x.1] rfl rfl (cell_one_new _ _ _) (by simp [Value.oneCell']) (by unfold maxLen; omega) (by omega) (by simp; omega) ?_; intro v' w1 hown' hgrow _; obtain ⟨g', cap', rfl⟩ := ownsRow_succ hown'; obtain ⟨hv1, hv2, hr2, hk2, hs2⟩ := appended3 HV.out (by decide) HR.out hown' hgrow; have hc1 := hv1.cell; have hf1 := hv1.frozen; have HV2 := hid hv2; have HR2 := hid hr2; have HK2 := hid hk2; have HS2 := hid hs2; clear hv1 hv2 hr2 hk2 hs2 hown' hgrow)
    refine ⟨HK2.out, HS2.out.kp3 (by omega) (by omega) (by omega) (by omega) (by omega) (by omega) hbs.2 (by omega) (by omega), ⟨_, HV2.out, ?_, by simp [ownVals]⟩, HS2.out.grown HG.out (by omega) (Nat.le_refl _), Nat.le_trans Hsz HS2.out.size⟩
    have h := HR2.out
    rw [show icells (ownVals pre) ++ [Value.int .i64 (x.1 : Nat)] = icells (ownVals (pre ++ [x])) by simp [ownVals, icells]] at h
    simpa using h
  case done =>
    rintro D xs W hD hxs ⟨⟨v, hv, hrow, hnil⟩, hg, hsW⟩ hK
    have hc := hv.cell
    have HR := hid hrow; have HN := hid hnil
    clear hrow hnil
    gi_wp2
    refine ⟨by simp, .inl ⟨_, _, rfl, run_takeDeferred hK, ?_⟩⟩
    refine ⟨_, results_tmp rfl _ _ _, v, rfl, ?_, by rw [← hxs]; exact HN.out, hg.andThen (grownBy_putObj' _ _ _) (fun j hj => by cases hj; exact .inl (by omega))⟩
    have h := ownsRow_putObj (ownsRow_base HR.out (base' := w.heap.size) (by omega)) (.deferred none) hK rfl
    rw [← hxs, show (ownVals xs).length = xs.length by simp [ownVals]]
    exact h
  case stop =>
    rintro D c pre W _ _ h _
    exact h.elim

end Go.Proofs.Ytbbaplcfhofeeaa
