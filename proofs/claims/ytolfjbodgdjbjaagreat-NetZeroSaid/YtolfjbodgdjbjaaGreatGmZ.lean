/-
  Package grant: its calls on grants, and with views, that nobody made.
-/
import Derived.Test.YtolfjbodgdjbjaaGreatViewZ
import Derived.Test.YtolfjbodgdjbjaaGreatViewB
import Derived.Test.YtolfjbodgdjbjaaGreatPhysA
import Derived.Handy
set_option linter.unusedSimpArgs false
set_option linter.unusedVariables false
namespace Go.Proofs.YtolfjbodgdjbjaaGreat
open Go.RowKit
set_option maxHeartbeats 1000000

/-- nobody made the grants that p points to -/
def NoGr (w : World) (p : Option Addr) : Prop := p = none ∨ ∃ b, p = some ⟨b, 0, none⟩ ∧ w.cell? ⟨b, 0, none⟩ = some (.pointer none)
theorem NoGr.nil (w : World) : NoGr w none := .inl rfl
theorem NoGr.grown {w w' : World} {p : Option Addr} (h : NoGr w p) (hg : w.grownBy w' none) : NoGr w' p := by
  rcases h with h | ⟨b, h, hc⟩
  · exact .inl h
  · exact .inr ⟨b, h, hg.cell hc (by simp)⟩
theorem gMade_no (p : Option Addr) (w : World) (h : NoGr w p) : Calls Tryz.prog 73 #[.pointer p] w fun e w' => e = .returned (.bool false) ∧ w = w' := by
  rcases h with rfl | ⟨b, rfl, hc⟩
  · go_enter Tryz.func73, Tryz.ntmps73
    go_wp2
    go_ret
    exact ⟨rfl, rfl⟩
  · go_enter Tryz.func73, Tryz.ntmps73
    go_wp2
    go_ret
    exact ⟨rfl, rfl⟩
theorem gMade_yes (X B : Nat) (w : World) (h : w.cell? ⟨X, 0, none⟩ = some (.pointer (some ⟨B, 0, none⟩))) : Calls Tryz.prog 73 #[.pointer (some ⟨X, 0, none⟩)] w fun e w' => e = .returned (.bool true) ∧ w = w' := by
  go_enter Tryz.func73, Tryz.ntmps73
  go_wp2
  go_ret
  exact ⟨rfl, rfl⟩
/-- nobody made the view that p points to: it has no machine -/
def NoVw (w : World) (p : Option Addr) : Prop := p = none ∨ ∃ b, p = some ⟨b, 0, none⟩ ∧ w.cell? ⟨b, 0, none⟩ = some (.pointer none)
theorem NoVw.grown {w w' : World} {p : Option Addr} (h : NoVw w p) (hg : w.grownBy w' none) : NoVw w' p := by
  rcases h with h | ⟨b, h, hc⟩
  · exact .inl h
  · exact .inr ⟨b, h, hg.cell hc (by simp)⟩
theorem gMachine_nil (w : World) : Calls Tryz.prog 35 #[.pointer none] w fun e w' => e = .returned (.pointer none) ∧ w = w' := by
  go_enter Tryz.func35, Tryz.ntmps35
  go_wp2_with (go_at_call 53; refine (vmade_nil _).mono ?_; rintro e w' ⟨rfl, rfl⟩)
  go_ret
  exact ⟨rfl, rfl⟩
theorem gIsView_no (p : Option Addr) (w : World) (h : NoVw w p) : Calls Tryz.prog 79 #[.pointer p] w fun e w' => e = .returned (.bool false) ∧ w = w' := by
  rcases h with rfl | ⟨b, rfl, hc⟩
  · go_enter Tryz.func79, Tryz.ntmps79
    go_wp2_with (go_at_call 35; refine (gMachine_nil _).mono ?_; rintro e w' ⟨rfl, rfl⟩)
    go_ret
    exact ⟨rfl, rfl⟩
  · have H := hid (vMachine_zero b w hc)
    clear hc
    go_enter Tryz.func79, Tryz.ntmps79
    go_wp2_with (go_at_call 35; refine H.out.mono ?_; rintro e w' ⟨rfl, rfl⟩)
    go_ret
    exact ⟨rfl, rfl⟩
theorem gIsView_yes (V G B : Nat) (S : Nat → Prop) (l : List PokeV) (n T : Nat) (f : Int → Option Value) (w : World) (h : VV w V G B S l n T f) : Calls Tryz.prog 79 #[.pointer (some ⟨V, 0, none⟩)] w fun e w' => e = .returned (.bool true) ∧ w = w' := by
  have H := hid (vMachine V G B S l n T f w h)
  clear h
  go_enter Tryz.func79, Tryz.ntmps79
  go_wp2_with (go_at_call 35; refine H.out.mono ?_; rintro e w' ⟨rfl, rfl⟩)
  go_ret
  exact ⟨rfl, rfl⟩
/-- New of no machine -/
theorem gNew_nil (w : World) : Calls Tryz.prog 10 #[.pointer none] w fun e w' => e = .returned (.pointer none) ∧ w = w' := by
  go_enter Tryz.func10, Tryz.ntmps10
  go_wp2_with (go_at_call 14; refine (Size_nil _).mono ?_; rintro e w' ⟨rfl, rfl⟩)
  go_ret
  exact ⟨rfl, rfl⟩
theorem gNew_zero (b : Nat) (w : World) (h : w.cell? ⟨b, 0, none⟩ = some (.int .i64 0)) : Calls Tryz.prog 10 #[.pointer (some ⟨b, 0, none⟩)] w fun e w' => e = .returned (.pointer none) ∧ w = w' := by
  have H := hid (Size_zero b w h)
  clear h
  go_enter Tryz.func10, Tryz.ntmps10
  go_wp2_with (go_at_call 14; refine H.out.mono ?_; rintro e w' ⟨rfl, rfl⟩)
  go_ret
  exact ⟨rfl, rfl⟩
section
variable (p : Option Addr) (w : World) (h : NoGr w p)
include h
theorem gzLeave (a : Int) : Calls Tryz.prog 49 #[.pointer p, .int .i64 a] w fun e w' => e = .returned (.int .i64 7) ∧ w = w' := by
  have H := hid (gMade_no p w h)
  clear h
  go_enter Tryz.func49, Tryz.ntmps49
  go_wp2_with (go_at_call 73; refine H.out.mono ?_; rintro e w' ⟨rfl, rfl⟩)
  go_ret
  exact ⟨rfl, rfl⟩
end
/-- grants or view that nobody made -/
def NoGV (w : World) (p q : Option Addr) : Prop := NoGr w p ∨ ((∃ X B, p = some ⟨X, 0, none⟩ ∧ w.cell? ⟨X, 0, none⟩ = some (.pointer (some ⟨B, 0, none⟩))) ∧ NoVw w q)
theorem NoGV.grown {w w' : World} {p q : Option Addr} (h : NoGV w p q) (hg : w.grownBy w' none) : NoGV w' p q := by
  rcases h with h | ⟨⟨X, B, h, hc⟩, hv⟩
  · exact .inl (h.grown hg)
  · exact .inr ⟨⟨X, B, h, hg.cell hc (by simp)⟩, hv.grown hg⟩
theorem NoGV.noG {w : World} {p q : Option Addr} (h : NoGr w p) : NoGV w p q := .inl h
theorem NoGV.noV {w : World} {X B : Nat} {q : Option Addr} (h : w.cell? ⟨X, 0, none⟩ = some (.pointer (some ⟨B, 0, none⟩))) (hv : NoVw w q) : NoGV w (some ⟨X, 0, none⟩) q := .inr ⟨⟨X, B, rfl, h⟩, hv⟩
theorem NoVw.nil (w : World) : NoVw w none := .inl rfl
/-- an end of a copy by value -/
def endV (g : Bool) (d r p o : Int) : Value := .agg #[.bool g, .int .i64 d, .int .i64 r, .int .i64 p, .int .i64 o]
theorem gzFind (p q : Option Addr) (a : Int) (g : Bool) (d r pp o n : Int) (w : World) (h : NoGV w p q) :
    Calls Tryz.prog 64 #[.pointer p, .pointer q, .int .i64 a, .agg #[.bool g, .int .i64 d, .int .i64 r, .int .i64 pp, .int .i64 o], .int .i64 n] w fun e w' => e = .returned (.tuple #[.nilIface, .int .i64 7]) ∧ w.grownBy w' none := by
  have hg := World.grownBy_alloc w (.cells #[.bool g, .int .i64 d, .int .i64 r, .int .i64 pp, .int .i64 o] 104) none
  rcases h with h | ⟨⟨X, B, rfl, hc⟩, hv⟩
  · have H := hid (gMade_no p _ (h.grown hg))
    clear h hg
    go_enter Tryz.func64, Tryz.ntmps64
    go_wp2_with (go_at_call 73; refine H.out.mono ?_; rintro e w' ⟨rfl, rfl⟩)
    go_ret2
    exact ⟨rfl, World.grownBy_alloc _ _ none⟩
  · have H := hid (gMade_yes X B _ (hg.cell hc (by simp)))
    have HV := hid (gIsView_no q _ (hv.grown hg))
    clear hc hv hg
    go_enter Tryz.func64, Tryz.ntmps64
    go_wp2_with (first
      | (go_at_call 73; refine H.out.mono ?_; rintro e w' ⟨rfl, rfl⟩)
      | (go_at_call 79; refine HV.out.mono ?_; rintro e w' ⟨rfl, rfl⟩))
    go_ret2
    exact ⟨rfl, World.grownBy_alloc _ _ none⟩
theorem gzPull (p q : Option Addr) (a : Int) (g : Bool) (d r pp o n : Int) (w : World) (h : NoGV w p q) :
    Calls Tryz.prog 42 #[.pointer p, .pointer q, .int .i64 a, .agg #[.bool g, .int .i64 d, .int .i64 r, .int .i64 pp, .int .i64 o], .int .i64 n] w fun e w' => e = .returned (.tuple #[.slice none 0 0, .int .i64 7]) ∧ w.grownBy w' none := by
  have hg := World.grownBy_alloc w (.cells #[.bool g, .int .i64 d, .int .i64 r, .int .i64 pp, .int .i64 o] 104) none
  have H := hid (gzFind p q a g d r pp o n _ (h.grown hg))
  have HG := hid hg
  clear h hg
  go_enter Tryz.func42, Tryz.ntmps42
  go_wp2_with (go_at_call 64; refine H.out.mono ?_; rintro e w1 ⟨rfl, g1⟩; have G1 := hid (HG.out.trans g1); clear g1)
  go_ret2
  exact ⟨rfl, G1.out⟩
theorem gzPush (p q : Option Addr) (a : Int) (g : Bool) (d r pp o : Int) (x : Option Addr) (n k : Nat) (w : World) (h : NoGV w p q) :
    Calls Tryz.prog 47 #[.pointer p, .pointer q, .int .i64 a, .agg #[.bool g, .int .i64 d, .int .i64 r, .int .i64 pp, .int .i64 o], .slice x n k] w fun e w' => e = .returned (.int .i64 7) ∧ w.grownBy w' none := by
  have hg := World.grownBy_alloc w (.cells #[.bool g, .int .i64 d, .int .i64 r, .int .i64 pp, .int .i64 o] 104) none
  have H := hid (gzFind p q a g d r pp o n _ (h.grown hg))
  have HG := hid hg
  clear h hg
  go_enter Tryz.func47, Tryz.ntmps47
  go_wp2_with (go_at_call 64; refine H.out.mono ?_; rintro e w1 ⟨rfl, g1⟩; have G1 := hid (HG.out.trans g1); clear g1)
  go_ret
  exact ⟨rfl, G1.out⟩
end Go.Proofs.YtolfjbodgdjbjaaGreat
