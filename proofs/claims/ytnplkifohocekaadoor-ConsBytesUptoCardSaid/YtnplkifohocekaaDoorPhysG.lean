/-
  Contracts of package phys: the iterator owned.
-/
import Derived.Test.YtnplkifohocekaaDoorPhysF
import Derived.RangeFuncNested
import Derived.RangeFuncBound
import Derived.RangeFuncCalls
import Derived.RangeFuncLeaves
import Derived.Shelf.Abstract
import Derived.Shelf.RegionOpen
import Derived.OwnWalkIn
import Derived.TacticsInMore
import Derived.LoopNIn
import Derived.LoopIn
set_option linter.unusedSimpArgs false
set_option linter.unusedVariables false
namespace Go.Proofs.YtnplkifohocekaaDoor
open Go.RowKit Go.Shelf
attribute [local go_sem] Oper.semAt_some
set_option maxHeartbeats 1000000

/-- the blocks that the iterator reads lie as they lay -/
def Kp3 (b B1 B2 : Nat) (W W' : World) : Prop := W'.heap[b]? = W.heap[b]? ∧ W'.heap[B1]? = W.heap[B1]? ∧ W'.heap[B2]? = W.heap[B2]?
theorem Kp3.trans {b B1 B2 : Nat} {A B C : World} (h : Kp3 b B1 B2 A B) (k : Kp3 b B1 B2 B C) : Kp3 b B1 B2 A C := ⟨k.1.trans h.1, k.2.1.trans h.2.1, k.2.2.trans h.2.2⟩
theorem Kp3.refl (b B1 B2 : Nat) (W : World) : Kp3 b B1 B2 W W := ⟨rfl, rfl, rfl⟩
theorem Kp3.grown {b B1 B2 : Nat} {W W' : World} {row : Option Nat} (hg : W.grownBy W' row) (h0 : b < W.heap.size) (h1 : B1 < W.heap.size) (h2 : B2 < W.heap.size) (r0 : some b ≠ row) (r1 : some B1 ≠ row) (r2 : some B2 ≠ row) : Kp3 b B1 B2 W W' :=
  ⟨hg.block b h0 r0, hg.block B1 h1 r1, hg.block B2 h2 r2⟩

/-- the frames that are the owner's, below k -/
def ownTo (M : Mach) (o : Int) (k : Nat) : List Nat := (List.range k).filter fun j => (M.fr j).owner == o
theorem ownTo_yes {M : Mach} {o : Int} {k : Nat} (h : (M.fr k).owner = o) : ownTo M o (k + 1) = ownTo M o k ++ [k] := by
  simp [ownTo, List.range_succ, List.filter_append, h]
theorem ownTo_no {M : Mach} {o : Int} {k : Nat} (h : (M.fr k).owner ≠ o) : ownTo M o (k + 1) = ownTo M o k := by
  simp [ownTo, List.range_succ, List.filter_append, h]
theorem ownTo_all (M : Mach) (o : Int) : ownTo M o M.n.toNat = M.ownedL o := rfl
theorem ownTo_prefix (M : Mach) (o : Int) {k n : Nat} (h : k ≤ n) : ownTo M o k <+: ownTo M o n := by
  obtain ⟨d, rfl⟩ := Nat.exists_eq_add_of_le h
  unfold ownTo
  rw [List.range_add, List.filter_append]
  exact List.prefix_append _ _
/-- a frame of the owner's -/
abbrev OwnFr (M : Mach) (o : Int) := { k : Nat // (k : Int) < M.n ∧ (M.fr k).owner = o }
def ownVals {M : Mach} {o : Int} (l : List (OwnFr M o)) : List Nat := l.map (·.1)

theorem owned_any (w : World) (m : Option Addr) (o : Int) : Calls Tryd.prog 58 #[.pointer m, .int .i64 o] w fun e w' =>
    e = .returned (.func (.func 80) #[] #[.pointer (some ⟨w.heap.size, 0, none⟩), .pointer (some ⟨w.heap.size + 1, 0, none⟩)]) ∧ w' = (w.alloc (.cells #[.pointer m] 27)).alloc (.cells #[.int .i64 o] 3) := by
  go_enter Tryd.func58, Tryd.ntmps58
  go_wp2
  go_ret
  exact ⟨rfl, rfl⟩

set_option maxRecDepth 100000 in
theorem owned_stops (n : Nat) (hn : 3 ≤ n) (b B1 B2 : Nat) (M : Mach) (o : Int) (w : World) (hM : PM w b M) (hn1 : 1 ≤ M.n) (hn2 : M.n ≤ 256)
    (h1 : w.heap[B1]? = some (.cells #[.pointer (some ⟨b, 0, none⟩)] 27 (0, 0))) (h2 : w.heap[B2]? = some (.cells #[.int .i64 o] 3 (0, 0))) :
    SeqStopsK Fence.wide n Tryd.prog 80 #[.pointer (some ⟨B1, 0, none⟩), .pointer (some ⟨B2, 0, none⟩)] (fun x : OwnFr M o => #[.int .i64 x.1]) (Kp3 b B1 B2)
      (fun xs => ownVals xs = M.ownedL o) (fun pre => ownVals pre <+: M.ownedL o) (M.ownedL o).length w := fun l J Jx W hW hJ hJx hY h0 => by
  have hMW : PM W b M := (hW.block b hM.lt).trans hM
  have hB1 : W.heap[B1]? = some (.cells #[.pointer (some ⟨b, 0, none⟩)] 27 (0, 0)) := (hW.block B1 (Array.getElem?_eq_some_iff.1 h1).1).trans h1
  have hB2 : W.heap[B2]? = some (.cells #[.int .i64 o] 3 (0, 0)) := (hW.block B2 (Array.getElem?_eq_some_iff.1 h2).1).trans h2
  have c1 : W.cell? ⟨B1, 0, none⟩ = some (.pointer (some ⟨b, 0, none⟩)) := cell_of_row W B1 0 _ _ _ hB1
  have hsz := hMW.size
  have HM := hid hMW; have HB1 := hid hB1; have HB2 := hid hB2
  clear hMW hB1 hB2 hM h1 h2
  have hd : 1 ≤ n - 1 := by omega
  obtain ⟨N, hN⟩ : ∃ N : Nat, (N : Int) = M.n := ⟨M.n.toNat, by omega⟩
  have HN := hid hN
  rw [← hN] at hsz
  clear hN
  have hN1 : (1 : Int) ≤ N := by rw [HN.out]; exact hn1
  have hN2 : N ≤ 256 := by have := HN.out; omega
  clear hn1 hn2
  refine callsIn_of_wp Tryd.func80 rfl trivial ?_ rfl
  simp only [Tryd.ntmps80, List.size_toArray, List.length_cons, List.length_nil, Nat.reduceAdd, Nat.reduceSub, Array.replicate_succ, Array.replicate_zero, List.push_toArray, List.append_toArray, List.nil_append, List.cons_append]
  gi_wp2_with (refine ⟨trivial, fun _ => (by omega), ?_⟩; gi_at_call 46; refine (callsIn_wide.2 (Size_yes _ _ _ hN1 hsz)).mono ?_; rintro e w' ⟨rfl, rfl⟩)
  gi_loopw [7] (fun i wr => ∃ (k : Nat) (pre : List (OwnFr M o)), i = .int .i64 k ∧ k ≤ N ∧ ownVals pre = ownTo M o k ∧ J pre wr ∧ Kp3 b B1 B2 W wr) (fun i _ => N - (intOf i).toNat)
  case atStart => exact ⟨0, [], rfl, by omega, rfl, h0, Kp3.refl _ _ _ _⟩
  case round =>
    obtain ⟨k, pre, rfl, hk, hpre, hJp, hkp⟩ := hrel
    by_cases hlt : k < N
    · have hlt' : (k : Int) < N := by omega
      have hk256 : (k : Int) < 256 := by omega
      have hmx : Tryd.prog.follows .mixedOrders = true := by kernel_rfl
      have HKP := hid hkp
      have hMr : PM wr b M := hkp.1.trans HM.out
      have d1 : wr.cell? ⟨B1, 0, none⟩ = some (.pointer (some ⟨b, 0, none⟩)) := cell_of_row wr B1 0 _ _ _ (hkp.2.1.trans HB1.out)
      have d2 : wr.cell? ⟨B2, 0, none⟩ = some (.int .i64 o) := cell_of_row wr B2 0 _ _ _ (hkp.2.2.trans HB2.out)
      have d3 := hMr.owner (i := k) (by omega)
      clear hkp hMr
      have HPRE := hid hpre
      clear hpre
      by_cases ho : (M.fr k).owner = o
      · have HO := hid ho
        rw [ho] at d3
        clear ho
        have hkM : (k : Int) < M.n := by rw [← HN.out]; exact hlt'
        have hlen : pre.length < (M.ownedL o).length := by
          have e1 : pre.length = (ownTo M o k).length := by rw [← HPRE.out, ownVals, List.length_map]
          have e2 := (ownTo_prefix M o (k := k + 1) (n := M.n.toNat) (by omega)).length_le
          rw [ownTo_yes HO.out, ownTo_all] at e2
          simp at e2
          omega
        obtain ⟨fn, tmps, assign, body, hy, hR⟩ := hY pre ⟨k, hkM, HO.out⟩ wr.drew (hJ _ _ _ none hJp (grownBy_drew wr none) (fun r e => by cases e)) hlen
        have HR := hid (hR.mono (R' := fun e W' => ∃ bv : Bool, e = .returned (.bool bv) ∧ Hid ((bv = true ∧ J (pre ++ [⟨k, hkM, HO.out⟩]) W' ∧ Kp3 b B1 B2 wr.drew W') ∨ (bv = false ∧ Jx (pre ++ [⟨k, hkM, HO.out⟩]) W'))) (by
          rintro e W' (⟨rfl, h1, h2⟩ | ⟨rfl, h1⟩)
          · exact ⟨true, rfl, .inl ⟨rfl, h1, h2⟩⟩
          · exact ⟨false, rfl, .inr ⟨rfl, h1⟩⟩))
        dsimp only at hy
        clear hR hY
        have HJ := hid hJ; have HJx := hid hJx
        clear hJ hJx
        gi_wp2
        gi_region_with_o (refine ⟨fun _ => (by omega), ?_⟩; refine HR.out.mono ?_; rintro e W' ⟨bv, rfl, HX⟩)
        all_goals
          rcases HX.out with ⟨rfl, g1, g2⟩ | ⟨rfl, g1⟩
          · have G1 := hid g1; have G2 := hid g2
            clear g1 g2 HX
            gi_wp2
            exact ⟨⟨k + 1, pre ++ [⟨k, hkM, HO.out⟩], by go_num, by omega, by rw [ownTo_yes HO.out, ← HPRE.out]; simp [ownVals], G1.out, HKP.out.trans (Kp3.trans ⟨rfl, rfl, rfl⟩ G2.out)⟩, by simp [intOf]; omega⟩
          · have G1 := hid g1
            clear g1 HX
            gi_wp2
            refine bodyPost_ret (results_none rfl _ _ _) rfl ?_
            refine ⟨⟨_, rfl⟩, .inr ⟨pre ++ [⟨k, hkM, HO.out⟩], ?_, G1.out⟩⟩
            have e2 := ownTo_prefix M o (k := k + 1) (n := M.n.toNat) (by omega)
            rw [ownTo_yes HO.out, ownTo_all, ← HPRE.out] at e2
            simpa [ownVals] using e2
      · have hob : ((M.fr k).owner == o) = false := by simp [ho]
        have HJ := hid hJ; have HJx := hid hJx
        clear hY hJ hJx
        have HO := hid ho
        clear ho
        gi_wp2
        refine wpIn_region_quiet_lit rfl (by kernel_rfl) (by kernel_rfl) ?_
        repeat (gi_big_quiet_step (fail))
        refine BigFrame.wpQuietIn_skip (fun _ _ _ _ => trivial) rfl ?_
        simp only [Act.put, List.setIfInBounds_toArray, List.set_cons_succ, List.set_cons_zero]
        repeat (gi_big_quiet_step (fail))
        refine wpQuietIn_nil ?_
        rintro _ ⟨nq, rfl⟩
        gi_wp2
        exact ⟨⟨k + 1, pre, by go_num, by omega, by rw [ownTo_no HO.out]; exact HPRE.out, HJ.out _ _ _ none hJp (grownBy_drewN wr nq none) (fun r e => by cases e), HKP.out.trans ⟨rfl, rfl, rfl⟩⟩, by simp [intOf]; omega⟩
    · have hge : (N : Int) ≤ k := by omega
      gi_wp2
      obtain rfl : k = N := by omega
      go_end0
      exact ⟨⟨_, rfl⟩, .inl ⟨pre, by rw [hpre, ← ownTo_all]; congr 1; have := HN.out; omega, hJp⟩⟩

end Go.Proofs.YtnplkifohocekaaDoor
