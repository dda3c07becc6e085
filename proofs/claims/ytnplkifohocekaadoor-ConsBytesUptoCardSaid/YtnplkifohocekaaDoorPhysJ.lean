/-
  Contracts of package phys at a machine that nobody made.
-/
import Derived.Test.YtnplkifohocekaaDoorPhysI
set_option linter.unusedSimpArgs false
set_option linter.unusedVariables false
namespace Go.Proofs.YtnplkifohocekaaDoor
open Go.RowKit Go.Shelf
attribute [local go_sem] Oper.semAt_some
set_option maxHeartbeats 400000

theorem Frame_zero (b : Nat) (i : Int) (w : World) (h : w.cell? ⟨b, 0, none⟩ = some (.int .i64 0)) :
    Calls Tryd.prog 69 #[.pointer (some ⟨b, 0, none⟩), .int .i64 i] w fun e w' => e = .returned (.tuple #[.agg #[.int .i64 0, .int .i64 0, .int .i64 0, .int .i64 0], .int .i64 7]) ∧ w.grownBy w' none := by
  go_enter Tryd.func69, Tryd.ntmps69
  go_wp2_with (go_at_call 44; refine (at_zero _ _ _ ((World.grownBy_alloc w _ none).cell h (by simp))).mono ?_; rintro e w' ⟨rfl, rfl⟩)
  go_returns
  exact ⟨rfl, World.grownBy_alloc _ _ _⟩
theorem Read_nil (i off n : Int) (w : World) :
    Calls Tryd.prog 20 #[.pointer none, .int .i64 i, .int .i64 off, .int .i64 n] w fun e w' => e = .returned (.tuple #[.slice none 0 0, .int .i64 7]) ∧ w = w' := by
  go_enter Tryd.func20, Tryd.ntmps20
  go_wp2_with (go_at_call 44; refine (at_nil _ _).mono ?_; rintro e w' ⟨rfl, rfl⟩)
  go_ret2
  exact ⟨rfl, rfl⟩
theorem Write_zero (b : Nat) (i off : Int) (w : World) (h : w.cell? ⟨b, 0, none⟩ = some (.int .i64 0)) :
    Calls Tryd.prog 22 #[.pointer (some ⟨b, 0, none⟩), .int .i64 i, .int .i64 off, .slice none 0 0] w fun e w' => e = .returned (.int .i64 7) ∧ w = w' := by
  go_enter Tryd.func22, Tryd.ntmps22
  go_wp2_with (go_at_call 44; refine (at_zero _ _ _ h).mono ?_; rintro e w' ⟨rfl, rfl⟩)
  go_ret
  exact ⟨rfl, rfl⟩

/-- the iterator of no machine -/
theorem owned_stops0 (n : Nat) (hn : 3 ≤ n) (p : Option Addr) (B1 B2 : Nat) (fr : Nat → Fr) (o : Int) (w : World)
    (h1 : w.heap[B1]? = some (.cells #[.pointer p] 27 (0, 0))) (hS : ∀ W, Below w.heap.size w W → Calls Tryd.prog 46 #[.pointer p] W fun e w' => e = .returned (.int .i64 0) ∧ W = w') :
    SeqStopsK Fence.wide n Tryd.prog 80 #[.pointer (some ⟨B1, 0, none⟩), .pointer (some ⟨B2, 0, none⟩)] (fun x : OwnFr ⟨0, fr⟩ o => #[.int .i64 x.1]) (Kp3 B1 B1 B2)
      (fun xs => ownVals xs = Mach.ownedL ⟨0, fr⟩ o) (fun pre => ownVals pre <+: Mach.ownedL ⟨0, fr⟩ o) (Mach.ownedL ⟨0, fr⟩ o).length w := fun l J Jx W hW hJ hJx hY h0 => by
  have hB1 : W.heap[B1]? = some (.cells #[.pointer p] 27 (0, 0)) := (hW.block B1 (Array.getElem?_eq_some_iff.1 h1).1).trans h1
  have c1 : W.cell? ⟨B1, 0, none⟩ = some (.pointer p) := cell_of_row W B1 0 _ _ _ hB1
  have HS := hid (hS W hW)
  clear hS hY hJ hJx
  have hd : 1 ≤ n - 1 := by omega
  refine callsIn_of_wp Tryd.func80 rfl trivial ?_ rfl
  simp only [Tryd.ntmps80, List.size_toArray, List.length_cons, List.length_nil, Nat.reduceAdd, Nat.reduceSub, Array.replicate_succ, Array.replicate_zero, List.push_toArray, List.append_toArray, List.nil_append, List.cons_append]
  gi_wp2_with (refine ⟨trivial, fun _ => (by omega), ?_⟩; gi_at_call 46; refine (callsIn_wide.2 HS.out).mono ?_; rintro e w' ⟨rfl, rfl⟩)
  gi_loopw [7] (fun i wr => i = .int .i64 0 ∧ J [] wr) (fun _ _ => 0)
  case atStart => exact ⟨rfl, h0⟩
  case round =>
    obtain ⟨rfl, hJ⟩ := hrel
    gi_wp2
    go_end0
    exact ⟨⟨_, rfl⟩, .inl ⟨[], rfl, hJ⟩⟩
theorem nil_stops (fr : Nat → Fr) (w : World) : Stops none ⟨0, fr⟩ w := fun n B1 B2 o w1 hn _ _ h1 _ =>
  ⟨B1, .inr rfl, owned_stops0 n hn none B1 B2 fr o w1 h1 (fun W _ => Size_nil W)⟩
theorem zero_stops (b : Nat) (fr : Nat → Fr) (w : World) (h : w.cell? ⟨b, 0, none⟩ = some (.int .i64 0)) : Stops (some ⟨b, 0, none⟩) ⟨0, fr⟩ w := fun n B1 B2 o w1 hn _ hg h1 _ =>
  ⟨B1, .inr rfl, owned_stops0 n hn _ B1 B2 fr o w1 h1 (fun W hW => Size_zero b W (by
    have hb := World.block_lt_of_cell? w _ h
    rw [hW.cell (p := ⟨b, 0, none⟩) (Nat.lt_of_lt_of_le hb hg.size)]
    exact hg.cell h (by simp)))⟩

end Go.Proofs.YtnplkifohocekaaDoor
