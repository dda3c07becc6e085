/-
  Package cons: calls of a console that nobody made; New.
-/
import Derived.Test.YtnplkifohocekaaDoorCoL
import Derived.Test.YtnplkifohocekaaDoorViewZ
set_option linter.unusedSimpArgs false
set_option linter.unusedVariables false
namespace Go.Proofs.YtnplkifohocekaaDoor.Co
open Go.RowKit Go.Lib Go.Proofs.YtnplkifohocekaaDoor.Bk
set_option maxHeartbeats 2000000
/-- a console's cells -/
def cnCells (mfn : Int) (made : Bool) (taken : Int) (L R : Value) (put : Int) : Array Value := #[.int .i64 mfn, .bool made, .int .u16 taken, L, R, .int .u16 put]
theorem vMachine_nil (w : World) : Calls Tryd.prog 71 #[.pointer none] w fun e w' => e = .returned (.pointer none) ∧ w = w' := by
  go_enter Tryd.func71, Tryd.ntmps71
  go_wp2_with (go_at_call 65; refine (vmade_nil _).mono ?_; rintro e w' ⟨rfl, rfl⟩)
  go_ret
  exact ⟨rfl, rfl⟩
theorem cEx_nil (w : World) : Calls Tryd.prog 42 #[.pointer none] w fun e w' => e = .returned (.bool false) ∧ w' = w := by
  go_enter Tryd.func42, Tryd.ntmps42
  go_wp2
  go_ret
  exact ⟨rfl, rfl⟩
theorem cEx (c : Nat) (q : Bool) (w : World) (h : w.cell? ⟨c, 1, none⟩ = some (.bool q)) : Calls Tryd.prog 42 #[.pointer (some ⟨c, 0, none⟩)] w fun e w' => e = .returned (.bool q) ∧ w' = w := by
  go_enter Tryd.func42, Tryd.ntmps42
  cases q
  · go_wp2
    go_ret
    exact ⟨rfl, rfl⟩
  · go_wp2
    go_ret
    exact ⟨rfl, rfl⟩
theorem cSees_nil (v : Value) (w : World) : Calls Tryd.prog 48 #[.pointer none, v] w fun e w' => e = .returned (.bool false) ∧ w' = w := by
  go_enter Tryd.func48, Tryd.ntmps48
  go_wp2_with (go_at_call 42; refine (cEx_nil _).mono ?_; rintro e w' ⟨rfl, rfl⟩)
  go_ret
  exact ⟨rfl, rfl⟩
theorem cSees_no (c : Nat) (v : Value) (w : World) (h : w.cell? ⟨c, 1, none⟩ = some (.bool false)) : Calls Tryd.prog 48 #[.pointer (some ⟨c, 0, none⟩), v] w fun e w' => e = .returned (.bool false) ∧ w' = w := by
  go_enter Tryd.func48, Tryd.ntmps48
  go_wp2_with (go_at_call 42; refine (cEx c false _ h).mono ?_; rintro e w' ⟨rfl, rfl⟩)
  go_ret
  exact ⟨rfl, rfl⟩
theorem cSees_nov (c : Nat) (w : World) (h : w.cell? ⟨c, 1, none⟩ = some (.bool true)) : Calls Tryd.prog 48 #[.pointer (some ⟨c, 0, none⟩), .pointer none] w fun e w' => e = .returned (.bool false) ∧ w' = w := by
  go_enter Tryd.func48, Tryd.ntmps48
  go_wp2_with (first
    | (go_at_call 42; refine (cEx c true _ h).mono ?_; rintro e w' ⟨rfl, rfl⟩)
    | (go_at_call 71; refine (vMachine_nil _).mono ?_; rintro e w' ⟨rfl, rfl⟩))
  go_ret
  exact ⟨rfl, rfl⟩
theorem cDrain_nil (v : Value) (w : World) : Calls Tryd.prog 23 #[.pointer none, v] w fun e w' => e = .returned (.tuple #[.int .i64 0, .bool false, .int .i64 7]) ∧ w' = w := by
  go_enter Tryd.func23, Tryd.ntmps23
  go_wp2_with (go_at_call 48; refine (cSees_nil v _).mono ?_; rintro e w' ⟨rfl, rfl⟩)
  go_ret3
  exact ⟨rfl, rfl⟩
theorem cFeed_no (c : Nat) (v b : Value) (w : World) (h : w.cell? ⟨c, 1, none⟩ = some (.bool false)) : Calls Tryd.prog 24 #[.pointer (some ⟨c, 0, none⟩), v, b] w fun e w' => e = .returned (.tuple #[.int .i64 0, .int .i64 7]) ∧ w' = w := by
  go_enter Tryd.func24, Tryd.ntmps24
  go_wp2_with (go_at_call 48; refine (cSees_no c v _ h).mono ?_; rintro e w' ⟨rfl, rfl⟩)
  go_ret2
  exact ⟨rfl, rfl⟩
theorem cFeed_nov (c : Nat) (b : Value) (w : World) (h : w.cell? ⟨c, 1, none⟩ = some (.bool true)) : Calls Tryd.prog 24 #[.pointer (some ⟨c, 0, none⟩), .pointer none, b] w fun e w' => e = .returned (.tuple #[.int .i64 0, .int .i64 7]) ∧ w' = w := by
  go_enter Tryd.func24, Tryd.ntmps24
  go_wp2_with (go_at_call 48; refine (cSees_nov c _ h).mono ?_; rintro e w' ⟨rfl, rfl⟩)
  go_ret2
  exact ⟨rfl, rfl⟩
theorem cLines_nil (w : World) : Calls Tryd.prog 17 #[.pointer none] w fun e w' => e = .returned (.slice none 0 0) ∧ w' = w := by
  go_enter Tryd.func17, Tryd.ntmps17
  go_wp2_with (go_at_call 42; refine (cEx_nil _).mono ?_; rintro e w' ⟨rfl, rfl⟩)
  go_ret
  exact ⟨rfl, rfl⟩
theorem cRest_no (c : Nat) (w : World) (h : w.cell? ⟨c, 1, none⟩ = some (.bool false)) : Calls Tryd.prog 18 #[.pointer (some ⟨c, 0, none⟩)] w fun e w' => e = .returned (.string ⟨#[]⟩) ∧ w' = w := by
  go_enter Tryd.func18, Tryd.ntmps18
  go_wp2_with (go_at_call 42; refine (cEx c false _ h).mono ?_; rintro e w' ⟨rfl, rfl⟩)
  go_ret
  exact ⟨rfl, rfl⟩
theorem cMfn_nil (w : World) : Calls Tryd.prog 19 #[.pointer none] w fun e w' => e = .returned (.int .i64 (-1)) ∧ w' = w := by
  go_enter Tryd.func19, Tryd.ntmps19
  go_wp2_with (go_at_call 42; refine (cEx_nil _).mono ?_; rintro e w' ⟨rfl, rfl⟩)
  go_ret
  exact ⟨rfl, rfl⟩
theorem cMfn (c : Nat) (z : Int) (w : World) (h0 : w.cell? ⟨c, 0, none⟩ = some (.int .i64 z)) (h : w.cell? ⟨c, 1, none⟩ = some (.bool true)) : Calls Tryd.prog 19 #[.pointer (some ⟨c, 0, none⟩)] w fun e w' => e = .returned (.int .i64 z) ∧ w' = w := by
  go_enter Tryd.func19, Tryd.ntmps19
  go_wp2_with (go_at_call 42; refine (cEx c true _ h).mono ?_; rintro e w' ⟨rfl, rfl⟩)
  go_ret
  exact ⟨rfl, rfl⟩
theorem cNew_yes (z : Int) (w : World) (h1 : 0 ≤ z) (h2 : z ≤ 255) : Calls Tryd.prog 13 #[.int .i64 z] w fun e w' => e = .returned (.tuple #[.pointer (some ⟨w.heap.size, 0, none⟩), .int .i64 0]) ∧ w' = w.alloc (Obj.cells (cnCells z true 0 (.slice none 0 0) (.slice none 0 0) 0) 74) := by
  go_enter Tryd.func13, Tryd.ntmps13
  go_wp2
  go_ret2
  exact ⟨rfl, rfl⟩
theorem cNew_no (z : Int) (w : World) (h : z < 0 ∨ 256 ≤ z) : Calls Tryd.prog 13 #[.int .i64 z] w fun e w' => e = .returned (.tuple #[.pointer none, .int .i64 1]) ∧ w' = w := by
  go_enter Tryd.func13, Tryd.ntmps13
  by_cases hz : z < 0
  · go_wp2
    go_ret2
    exact ⟨rfl, rfl⟩
  · have h2 : 256 ≤ z := by omega
    go_wp2
    go_ret2
    exact ⟨rfl, rfl⟩
end Go.Proofs.YtnplkifohocekaaDoor.Co
