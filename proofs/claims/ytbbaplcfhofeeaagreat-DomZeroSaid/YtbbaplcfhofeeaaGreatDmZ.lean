/-
  Package dom: a hypervisor that nobody made.
-/
import Derived.Test.YtbbaplcfhofeeaaGreatLift
import Derived.Test.YtbbaplcfhofeeaaGreatOpen
import Derived.Test.YtbbaplcfhofeeaaGreatGen
import Derived.Test.YtbbaplcfhofeeaaGreatChecked
import Derived.ProofKit
import Derived.OpenShut
import Derived.Handy
set_option linter.unusedSimpArgs false
set_option linter.unusedVariables false
namespace Go.Proofs.YtbbaplcfhofeeaaGreat.Dm
open Go.RowKit Gen
set_option maxHeartbeats 2000000
/-- a hypervisor that nobody made -/
def NoHy (w : World) (p : Option Addr) : Prop := p = none ∨ ∃ b, p = some ⟨b, 0, none⟩ ∧ w.cell? ⟨b, 0, none⟩ = some (.pointer none)
theorem NoHy.nil (w : World) : NoHy w none := .inl rfl
theorem NoHy.grown {w w' : World} {p : Option Addr} (h : NoHy w p) (hg : w.grownBy w' none) : NoHy w' p := by
  rcases h with h | ⟨b, h, c⟩
  · exact .inl h
  · exact .inr ⟨b, h, hg.cell c (by simp)⟩
theorem hMade_no (p : Option Addr) (w : World) (h : NoHy w p) : Calls Tryz.prog 36 #[.pointer p] w fun e w' => e = .returned (.bool false) ∧ w = w' := by
  rcases h with rfl | ⟨b, rfl, c⟩
  · go_enter Tryz.func36, Tryz.ntmps36
    go_wp2
    go_ret
    exact ⟨rfl, rfl⟩
  · go_enter Tryz.func36, Tryz.ntmps36
    go_wp2
    go_ret
    exact ⟨rfl, rfl⟩
theorem hAt_no (p : Option Addr) (n : Int) (w : World) (h : NoHy w p) : Calls Tryz.prog 38 #[.pointer p, .int .i64 n] w fun e w' => e = .returned (.tuple #[.pointer none, .int .i64 7]) ∧ w = w' := by
  have H := hid (hMade_no p w h)
  clear h
  go_enter Tryz.func38, Tryz.ntmps38
  go_wp2_with (go_at_call 36; refine H.out.mono ?_; rintro e w' ⟨rfl, rfl⟩)
  go_ret2
  exact ⟨rfl, rfl⟩
theorem hBuild_no (p : Option Addr) (n : Int) (w : World) (h : NoHy w p) : Calls Tryz.prog 6 #[.pointer p, .int .i64 n] w fun e w' => e = .returned (.tuple #[.int .i64 0, .int .i64 7]) ∧ w = w' := by
  have H := hid (hMade_no p w h)
  clear h
  go_enter Tryz.func6, Tryz.ntmps6
  go_wp2_with (go_at_call 36; refine H.out.mono ?_; rintro e w' ⟨rfl, rfl⟩)
  go_ret2
  exact ⟨rfl, rfl⟩
theorem hDom_no (p : Option Addr) (n : Int) (w : World) (h : NoHy w p) : Calls Tryz.prog 18 #[.pointer p, .int .i64 n] w fun e w' => e = .returned (.tuple #[.agg #[.int .i64 0, .int .i64 0, .int .i64 0, .int .i64 0, .int .i64 0], .int .i64 7]) ∧ w.grownBy w' none := by
  have H := hid (hAt_no p n _ (h.grown (World.grownBy_alloc w (.cells #[.int .i64 0, .int .i64 0, .int .i64 0, .int .i64 0, .int .i64 0] 49) none)))
  clear h
  go_enter Tryz.func18, Tryz.ntmps18
  go_wp2_with (go_at_call 38; refine H.out.mono ?_; rintro e w' ⟨rfl, rfl⟩)
  go_returns
  exact ⟨rfl, World.grownBy_alloc _ _ none⟩
theorem hTurn_no (p : Option Addr) (n a b : Int) (w : World) (h : NoHy w p) : Calls Tryz.prog 52 #[.pointer p, .int .i64 n, .int .i64 a, .int .i64 b] w fun e w' => e = .returned (.int .i64 7) ∧ w = w' := by
  have H := hid (hAt_no p n w h)
  clear h
  go_enter Tryz.func52, Tryz.ntmps52
  go_wp2_with (go_at_call 38; refine H.out.mono ?_; rintro e w' ⟨rfl, rfl⟩)
  go_ret
  exact ⟨rfl, rfl⟩
theorem hPause_no (p : Option Addr) (n : Int) (w : World) (h : NoHy w p) : Calls Tryz.prog 23 #[.pointer p, .int .i64 n] w fun e w' => e = .returned (.int .i64 7) ∧ w = w' := by
  have H := hid (fun a b => hTurn_no p n a b w h)
  clear h
  go_enter Tryz.func23, Tryz.ntmps23
  go_wp2_with (go_at_call 52; refine (H.out _ _).mono ?_; rintro e w' ⟨rfl, rfl⟩)
  go_ret
  exact ⟨rfl, rfl⟩
theorem hUnpause_no (p : Option Addr) (n : Int) (w : World) (h : NoHy w p) : Calls Tryz.prog 24 #[.pointer p, .int .i64 n] w fun e w' => e = .returned (.int .i64 7) ∧ w = w' := by
  have H := hid (fun a b => hTurn_no p n a b w h)
  clear h
  go_enter Tryz.func24, Tryz.ntmps24
  go_wp2_with (go_at_call 52; refine (H.out _ _).mono ?_; rintro e w' ⟨rfl, rfl⟩)
  go_ret
  exact ⟨rfl, rfl⟩
theorem hLive_no (p : Option Addr) (n : Int) (w : World) (h : NoHy w p) : Calls Tryz.prog 25 #[.pointer p, .int .i64 n] w fun e w' => e = .returned (.int .i64 7) ∧ w = w' := by
  have H := hid (hAt_no p n w h)
  clear h
  go_enter Tryz.func25, Tryz.ntmps25
  go_wp2_with (go_at_call 38; refine H.out.mono ?_; rintro e w' ⟨rfl, rfl⟩)
  go_ret
  exact ⟨rfl, rfl⟩
theorem hDestroy_no (p : Option Addr) (n : Int) (w : World) (h : NoHy w p) : Calls Tryz.prog 15 #[.pointer p, .int .i64 n] w fun e w' => e = .returned (.int .i64 7) ∧ w = w' := by
  have H := hid (hLive_no p n w h)
  clear h
  go_enter Tryz.func15, Tryz.ntmps15
  go_wp2_with (go_at_call 25; refine H.out.mono ?_; rintro e w' ⟨rfl, rfl⟩)
  go_ret
  exact ⟨rfl, rfl⟩
theorem hGrant_no (p q : Option Addr) (a b c : Int) (o : Bool) (w : World) (h : NoHy w p) : Calls Tryz.prog 13 #[.pointer p, .pointer q, .int .i64 a, .int .i64 b, .int .i64 c, .bool o] w fun e w' => e = .returned (.tuple #[.int .i64 0, .int .i64 7]) ∧ w = w' := by
  have H := hid (hLive_no p a w h)
  clear h
  go_enter Tryz.func13, Tryz.ntmps13
  go_wp2_with (go_at_call 25; refine H.out.mono ?_; rintro e w' ⟨rfl, rfl⟩)
  go_ret2
  exact ⟨rfl, rfl⟩
theorem hGrants_no (p : Option Addr) (w : World) (h : NoHy w p) : Calls Tryz.prog 29 #[.pointer p] w fun e w' => e = .returned (.pointer none) ∧ w = w' := by
  have H := hid (hMade_no p w h)
  clear h
  go_enter Tryz.func29, Tryz.ntmps29
  go_wp2_with (go_at_call 36; refine H.out.mono ?_; rintro e w' ⟨rfl, rfl⟩)
  go_ret
  exact ⟨rfl, rfl⟩
theorem hMmu_no (p : Option Addr) (w : World) (h : NoHy w p) : Calls Tryz.prog 28 #[.pointer p] w fun e w' => e = .returned (.pointer none) ∧ w = w' := by
  have H := hid (hMade_no p w h)
  clear h
  go_enter Tryz.func28, Tryz.ntmps28
  go_wp2_with (go_at_call 36; refine H.out.mono ?_; rintro e w' ⟨rfl, rfl⟩)
  go_ret
  exact ⟨rfl, rfl⟩
theorem hMachine_no (p : Option Addr) (w : World) (h : NoHy w p) : Calls Tryz.prog 7 #[.pointer p] w fun e w' => e = .returned (.pointer none) ∧ w = w' := by
  have H := hid (hMade_no p w h)
  clear h
  go_enter Tryz.func7, Tryz.ntmps7
  go_wp2_with (go_at_call 36; refine H.out.mono ?_; rintro e w' ⟨rfl, rfl⟩)
  go_ret
  exact ⟨rfl, rfl⟩
theorem hEvents_no (p : Option Addr) (w : World) (h : NoHy w p) : Calls Tryz.prog 30 #[.pointer p] w fun e w' => e = .returned (.pointer none) ∧ w = w' := by
  have H := hid (hMade_no p w h)
  clear h
  go_enter Tryz.func30, Tryz.ntmps30
  go_wp2_with (go_at_call 36; refine H.out.mono ?_; rintro e w' ⟨rfl, rfl⟩)
  go_ret
  exact ⟨rfl, rfl⟩
theorem hMap_no (p : Option Addr) (n : Int) (w : World) (h : NoHy w p) : Calls Tryz.prog 8 #[.pointer p, .int .i64 n] w fun e w' => e = .returned (.pointer none) ∧ w = w' := by
  have H := hid (hAt_no p n w h)
  clear h
  go_enter Tryz.func8, Tryz.ntmps8
  go_wp2_with (go_at_call 38; refine H.out.mono ?_; rintro e w' ⟨rfl, rfl⟩)
  go_ret
  exact ⟨rfl, rfl⟩
theorem hSweep_no (p : Option Addr) (w : World) (h : NoHy w p) : Calls Tryz.prog 27 #[.pointer p] w fun e w' => e = .returned (.int .i64 0) ∧ w = w' := by
  have H := hid (hMade_no p w h)
  clear h
  go_enter Tryz.func27, Tryz.ntmps27
  go_wp2_with (go_at_call 36; refine H.out.mono ?_; rintro e w' ⟨rfl, rfl⟩)
  go_ret
  exact ⟨rfl, rfl⟩
theorem hSwept7 (p : Option Addr) (w : World) : Calls Tryz.prog 50 #[.pointer p, .int .i64 7] w fun e w' => e = .returned (.int .i64 7) ∧ w = w' := by
  go_enter Tryz.func50, Tryz.ntmps50
  go_wp2
  go_ret
  exact ⟨rfl, rfl⟩
theorem hLive0 (a b : Int) (w : World) : Calls Tryz.prog 81 #[.pointer none, .int .i64 a, .int .i64 b] w fun e w' => e = .returned (.tuple #[.agg #[.int .i64 0, .int .i64 0, .int .i64 0, .int .i64 0, .int .i64 0, .bool false], .int .i64 7]) ∧ w.grownBy w' none := by
  have HM : ∀ w, Calls Tryz.prog 67 #[.pointer none] w fun e w' => e = .returned (.bool false) ∧ w = w' := fun w => by
    go_enter Tryz.func67, Tryz.ntmps67
    go_wp2
    go_ret
    exact ⟨rfl, rfl⟩
  have H := hid HM
  go_enter Tryz.func81, Tryz.ntmps81
  go_wp2_with (go_at_call 67; refine (H.out _).mono ?_; rintro e w' ⟨rfl, rfl⟩)
  go_returns
  exact ⟨rfl, World.grownBy_alloc _ _ none⟩
theorem hUnmap0 (a b : Int) (w : World) : Calls Tryz.prog 51 #[.pointer none, .int .i64 a, .int .i64 b] w fun e w' => e = .returned (.int .i64 7) ∧ w.grownBy w' none := by
  have H := hid (hLive0 a b w)
  go_enter Tryz.func51, Tryz.ntmps51
  go_wp2_with (go_at_call 81; refine H.out.mono ?_; rintro e w1 ⟨rfl, g1⟩; have G1 := hid g1; clear g1)
  go_ret
  exact ⟨rfl, G1.out.trans (World.grownBy_alloc _ _ none)⟩
theorem hUngrant_no (p : Option Addr) (a b : Int) (w : World) (h : NoHy w p) : Calls Tryz.prog 19 #[.pointer p, .int .i64 a, .int .i64 b] w fun e w' => e = .returned (.int .i64 7) ∧ w.grownBy w' none := by
  have H := hid (hGrants_no p w h)
  clear h
  go_enter Tryz.func19, Tryz.ntmps19
  go_wp2_with (first
    | (go_at_call 29; refine H.out.mono ?_; rintro e w' ⟨rfl, rfl⟩)
    | (go_at_call 51; refine (hUnmap0 _ _ _).mono ?_; rintro e w1 ⟨rfl, g1⟩; have G1 := hid g1; clear g1)
    | (go_at_call 50; refine (hSwept7 _ _).mono ?_; rintro e w' ⟨rfl, rfl⟩))
  go_ret
  exact ⟨rfl, G1.out⟩
theorem hxUnpin0 (a b : Int) (w : World) : Calls Tryz.prog 53 #[.pointer none, .int .i64 a, .int .i64 b] w fun e w' => e = .returned (.int .i64 7) ∧ w = w' := by
  have HM : ∀ w, Calls Tryz.prog 79 #[.pointer none] w fun e w' => e = .returned (.bool false) ∧ w = w' := fun w => by
    go_enter Tryz.func79, Tryz.ntmps79
    go_wp2
    go_ret
    exact ⟨rfl, rfl⟩
  have H := hid HM
  go_enter Tryz.func53, Tryz.ntmps53
  go_wp2_with (go_at_call 79; refine (H.out _).mono ?_; rintro e w' ⟨rfl, rfl⟩)
  go_ret
  exact ⟨rfl, rfl⟩
theorem hUnpin_no (p : Option Addr) (a b : Int) (w : World) (h : NoHy w p) : Calls Tryz.prog 26 #[.pointer p, .int .i64 a, .int .i64 b] w fun e w' => e = .returned (.int .i64 7) ∧ w = w' := by
  have H := hid (hMmu_no p w h)
  clear h
  go_enter Tryz.func26, Tryz.ntmps26
  go_wp2_with (first
    | (go_at_call 28; refine H.out.mono ?_; rintro e w' ⟨rfl, rfl⟩)
    | (go_at_call 53; refine (hxUnpin0 _ _ _).mono ?_; rintro e w' ⟨rfl, rfl⟩)
    | (go_at_call 50; refine (hSwept7 _ _).mono ?_; rintro e w' ⟨rfl, rfl⟩))
  go_ret
  exact ⟨rfl, rfl⟩
end Go.Proofs.YtbbaplcfhofeeaaGreat.Dm
