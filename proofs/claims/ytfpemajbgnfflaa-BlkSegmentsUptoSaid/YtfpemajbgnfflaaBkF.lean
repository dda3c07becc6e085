/-
  Package blk: slices.Chunk of bytes: the maker and the iterator.
-/
import Derived.Test.YtfpemajbgnfflaaBkE
import Derived.RangeFuncNested
import Derived.RangeFuncBound
import Derived.RangeFuncCalls
import Derived.RangeFuncLeaves
import Derived.Shelf.Abstract
import Derived.Shelf.RegionOpen
import Derived.OwnWalkIn
import Derived.TacticsInMore
import Derived.LoopNIn
import Derived.LoopIn
set_option linter.unusedSimpArgs false
set_option linter.unusedVariables false
namespace Go.Proofs.Ytfpemajbgnfflaa.Bk
open Go.RowKit Gen Go.Shelf
attribute [local go_sem] Oper.semAt_some
set_option maxHeartbeats 2000000

/-- the two boxes that the iterator reads lie as they lay -/
def Kp2 (B1 B2 : Nat) (W W' : World) : Prop := W'.heap[B1]? = W.heap[B1]? ∧ W'.heap[B2]? = W.heap[B2]?
theorem Kp2.trans {B1 B2 : Nat} {A B C : World} (h : Kp2 B1 B2 A B) (k : Kp2 B1 B2 B C) : Kp2 B1 B2 A C := ⟨k.1.trans h.1, k.2.trans h.2⟩
theorem Kp2.refl (B1 B2 : Nat) (W : World) : Kp2 B1 B2 W W := ⟨rfl, rfl⟩
theorem Kp2.put {B1 B2 : Nat} {w : World} (h1 : B1 < w.heap.size) (h2 : B2 < w.heap.size) (W : World) (l : Nat) (o o' : Obj) (hl : w.heap.size ≤ l) (_ : W.heap[l]? = some o) (_ : o.isCells = false) (_ : o.isWalk = false) : Kp2 B1 B2 W (W.putObj l o') :=
  ⟨World.putObj_heap_other (by omega), World.putObj_heap_other (by omega)⟩
/-- a chunk's number -/
abbrev Ck (m : Nat) := { k : Nat // k < m }
def ckVals {m : Nat} (l : List (Ck m)) : List Nat := l.map (·.1)
theorem bChunk (p : Option Addr) (nn cc : Nat) (z : Nat) (hz : 1 ≤ z) (w : World) : Calls Try.prog 8 #[.slice p nn cc, .int .i64 z] w fun e w' =>
    e = .returned (.func (.func 12) #[] #[.pointer (some ⟨w.heap.size, 0, none⟩), .pointer (some ⟨w.heap.size + 1, 0, none⟩)]) ∧ w' = (w.alloc (.cells #[.slice p nn cc] 22)).alloc (.cells #[.int .i64 z] 3) := by
  have h1 : ¬ ((z : Int) < 1) := by omega
  go_enter Try.func8, Try.ntmps8
  go_wp2
  go_ret
  exact ⟨rfl, rfl⟩
set_option maxRecDepth 100000 in
theorem chunk_stops (n : Nat) (hn : 3 ≤ n) (B1 B2 : Nat) (p : Option Addr) (b o z m c : Nat) (w : World) (hz : 1 ≤ z) (hz2 : z ≤ 65536) (hm : m ≤ 16777216) (hc : m * z ≤ c) (hcm : c ≤ 9223372036854775807) (hp : 0 < m → p = some ⟨b, o, none⟩)
    (h1 : w.heap[B1]? = some (.cells #[.slice p (m * z) c] 22 (0, 0))) (h2 : w.heap[B2]? = some (.cells #[.int .i64 z] 3 (0, 0))) :
    SeqStopsK Fence.wide n Try.prog 12 #[.pointer (some ⟨B1, 0, none⟩), .pointer (some ⟨B2, 0, none⟩)] (fun x : Ck m => #[.slice (some ⟨b, o + x.1 * z, none⟩) z z]) (Kp2 B1 B2)
      (fun xs => ckVals xs = List.range m) (fun pre => ckVals pre <+: List.range m) m w := fun l J Jx W hW hJ hJx hY h0 => by
  have hB1 : W.heap[B1]? = some (.cells #[.slice p (m * z) c] 22 (0, 0)) := (hW.block B1 (Array.getElem?_eq_some_iff.1 h1).1).trans h1
  have hB2 : W.heap[B2]? = some (.cells #[.int .i64 z] 3 (0, 0)) := (hW.block B2 (Array.getElem?_eq_some_iff.1 h2).1).trans h2
  have HB1 := hid hB1; have HB2 := hid hB2
  clear hB1 hB2 h1 h2
  have hd : 1 ≤ n - 1 := by omega
  have HP := hid hp
  clear hp
  obtain ⟨N, hN⟩ : ∃ N, m * z = N := ⟨_, rfl⟩
  have HN := hid hN
  have hN63 : N ≤ 9223372036854775807 := by omega
  rw [hN] at hc HB1
  clear hN
  refine callsIn_of_wp Try.func12 rfl trivial ?_ rfl
  simp only [Try.ntmps12, List.size_toArray, List.length_cons, List.length_nil, Nat.reduceAdd, Nat.reduceSub, Array.replicate_succ, Array.replicate_zero, List.push_toArray, List.append_toArray, List.nil_append, List.cons_append]
  gi_wp2
  gi_loopw [4] (fun i wr => ∃ (k : Nat) (pre : List (Ck m)), i = .int .i64 ((k * z : Nat) : Int) ∧ k ≤ m ∧ ckVals pre = List.range k ∧ J pre wr ∧ Kp2 B1 B2 W wr) (fun i _ => N - (intOf i).toNat)
  case atStart => exact ⟨0, [], by simp, by omega, rfl, h0, Kp2.refl _ _ _⟩
  case round =>
    obtain ⟨k, pre, rfl, hk, hpre, hJp, hkp⟩ := hrel
    have hmx : Try.prog.follows .mixedOrders = true := by kernel_rfl
    have d1 : wr.cell? ⟨B1, 0, none⟩ = some (.slice p N c) := cell_of_row wr B1 0 _ _ _ (hkp.1.trans HB1.out)
    have d2 : wr.cell? ⟨B2, 0, none⟩ = some (.int .i64 z) := cell_of_row wr B2 0 _ _ _ (hkp.2.trans HB2.out)
    have HKP := hid hkp
    have HPRE := hid hpre
    clear hkp hpre
    by_cases hlt : k < m
    · obtain rfl := HP.out (by omega)
      have hkz : k * z + z ≤ N := by
        rw [← HN.out]
        calc k * z + z = (k + 1) * z := by rw [Nat.add_mul, Nat.one_mul]
          _ ≤ m * z := Nat.mul_le_mul_right _ (by omega)
      have hnx : (k + 1) * z = k * z + z := by rw [Nat.add_mul, Nat.one_mul]
      have HNX := hid hnx
      clear hnx
      have hlen : pre.length < m := by
        have e1 : pre.length = (List.range k).length := by rw [← HPRE.out, ckVals, List.length_map]
        rw [List.length_range] at e1
        omega
      obtain ⟨i, hi⟩ : ∃ i, k * z = i := ⟨_, rfl⟩
      rw [hi] at hkz
      rw [hi]
      have HI := hid hi
      clear hi
      have hiN : (i : Int) < N := by omega
      have hiN2 : i ≤ N := by omega
      have hic : i ≤ c := by omega
      have hi0 : (0 : Int) ≤ i := by omega
      have hiNc : (i : Int) ≤ N := by omega
      gi_wp2
      refine wpIn_region_quiet_lit rfl (by kernel_rfl) (by kernel_rfl) ?_
      repeat (gi_big_quiet_step (fail))
      refine wpQuietIn_nil ?_
      rintro _ ⟨nq, rfl⟩
      obtain ⟨fn, tmps, assign, body, hy, hR⟩ := hY pre ⟨k, hlt⟩ (wr.drewN nq) (hJ _ _ _ none hJp (grownBy_drewN wr nq none) (fun r e => by cases e)) hlen
      have HR := hid (hR.mono (R' := fun e W' => (e = .returned (.bool true) ∧ Hid (W'.cell? ⟨B2, 0, none⟩ = some (.int .i64 z) ∧ J (pre ++ [⟨k, hlt⟩]) W' ∧ Kp2 B1 B2 wr W')) ∨ (e = .returned (.bool false) ∧ Hid (Jx (pre ++ [⟨k, hlt⟩]) W'))) (by
        rintro e W' (⟨rfl, h1, h2⟩ | ⟨rfl, h1⟩)
        · exact .inl ⟨rfl, hid ⟨cell_of_row W' B2 0 _ _ _ (h2.2.trans (HKP.out.2.trans HB2.out)), h1, h2⟩⟩
        · exact .inr ⟨rfl, hid h1⟩))
      dsimp only at hy
      rw [HI.out] at hy
      clear hR hY
      have HJ := hid hJ; have HJx := hid hJx
      clear hJ hJx
      have e1 : wrap64 ((i : Int) + z) = ((i + z : Nat) : Int) := by unfold wrap64; omega
      have e2 : ((i + z : Nat) : Int) ≤ N := by omega
      have e3 : ((i + z : Nat) : Int) ≤ c := by omega
      have e4 : i + z ≤ c := by omega
      gi_wp2_with (refine ⟨fun _ => (by omega), ?_⟩; refine HR.out.mono ?_; rintro e W' (⟨rfl, HX⟩ | ⟨rfl, HX⟩); all_goals (try have d3 := HX.out.1))
      · refine ⟨⟨k + 1, pre ++ [⟨k, hlt⟩], ?_, hlt, ?_, HX.out.2.1, HKP.out.trans HX.out.2.2⟩, ?_⟩
        · rw [HNX.out, HI.out, Int.natCast_add]
        · rw [List.range_succ, ← HPRE.out]; simp [ckVals]
        · simp [intOf]; omega
      · refine bodyPost_ret (results_none rfl _ _ _) rfl ?_
        refine ⟨⟨_, rfl⟩, .inr ⟨pre ++ [⟨k, hlt⟩], ?_, HX.out⟩⟩
        have e1 : ckVals (pre ++ [⟨k, hlt⟩]) = List.range (k + 1) := by rw [List.range_succ, ← HPRE.out]; simp [ckVals]
        rw [e1]
        obtain ⟨d, rfl⟩ := Nat.exists_eq_add_of_lt hlt
        have e2 : List.range (k + d + 1) = List.range (k + 1) ++ (List.range d).map (fun x => k + 1 + x) := by rw [show k + d + 1 = (k + 1) + d by omega]; exact List.range_add
        rw [e2]
        exact List.prefix_append _ _
    · obtain rfl : k = m := by omega
      have hge : ¬ (((k * z : Nat) : Int) < N) := by rw [HN.out]; omega
      rw [HN.out]
      clear hlt
      have hge' : ¬ ((N : Int) < N) := by omega
      gi_wp2
      go_end0
      exact ⟨⟨_, rfl⟩, .inl ⟨pre, HPRE.out, hJp⟩⟩
end Go.Proofs.Ytfpemajbgnfflaa.Bk
