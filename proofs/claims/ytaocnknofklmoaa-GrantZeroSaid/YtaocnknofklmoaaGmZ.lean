/-
  Package grant: its calls on grants, and with views, that nobody made.
-/
import Derived.Test.YtaocnknofklmoaaViewZ
import Derived.Test.YtaocnknofklmoaaViewB
import Derived.Test.YtaocnknofklmoaaPhysA
import Derived.Handy
set_option linter.unusedSimpArgs false
set_option linter.unusedVariables false
namespace Go.Proofs.Ytaocnknofklmoaa
open Go.RowKit
set_option maxHeartbeats 1000000

/-- nobody made the grants that p points to -/
def NoGr (w : World) (p : Option Addr) : Prop := p = none ∨ ∃ b, p = some ⟨b, 0, none⟩ ∧ w.cell? ⟨b, 0, none⟩ = some (.pointer none)
theorem NoGr.nil (w : World) : NoGr w none := .inl rfl
theorem NoGr.grown {w w' : World} {p : Option Addr} (h : NoGr w p) (hg : w.grownBy w' none) : NoGr w' p := by
  rcases h with h | ⟨b, h, hc⟩
  · exact .inl h
  · exact .inr ⟨b, h, hg.cell hc (by simp)⟩
theorem gMade_no (p : Option Addr) (w : World) (h : NoGr w p) : Calls Try.prog 111 #[.pointer p] w fun e w' => e = .returned (.bool false) ∧ w = w' := by
  rcases h with rfl | ⟨b, rfl, hc⟩
  · go_enter Try.func111, Try.ntmps111
    go_wp2
    go_ret
    exact ⟨rfl, rfl⟩
  · go_enter Try.func111, Try.ntmps111
    go_wp2
    go_ret
    exact ⟨rfl, rfl⟩
theorem gMade_yes (X B : Nat) (w : World) (h : w.cell? ⟨X, 0, none⟩ = some (.pointer (some ⟨B, 0, none⟩))) : Calls Try.prog 111 #[.pointer (some ⟨X, 0, none⟩)] w fun e w' => e = .returned (.bool true) ∧ w = w' := by
  go_enter Try.func111, Try.ntmps111
  go_wp2
  go_ret
  exact ⟨rfl, rfl⟩
/-- nobody made the view that p points to: it has no machine -/
def NoVw (w : World) (p : Option Addr) : Prop := p = none ∨ ∃ b, p = some ⟨b, 0, none⟩ ∧ w.cell? ⟨b, 0, none⟩ = some (.pointer none)
theorem NoVw.grown {w w' : World} {p : Option Addr} (h : NoVw w p) (hg : w.grownBy w' none) : NoVw w' p := by
  rcases h with h | ⟨b, h, hc⟩
  · exact .inl h
  · exact .inr ⟨b, h, hg.cell hc (by simp)⟩
theorem gMachine_nil (w : World) : Calls Try.prog 29 #[.pointer none] w fun e w' => e = .returned (.pointer none) ∧ w = w' := by
  go_enter Try.func29, Try.ntmps29
  go_wp2_with (go_at_call 91; refine (vmade_nil _).mono ?_; rintro e w' ⟨rfl, rfl⟩)
  go_ret
  exact ⟨rfl, rfl⟩
theorem gIsView_no (p : Option Addr) (w : World) (h : NoVw w p) : Calls Try.prog 112 #[.pointer p] w fun e w' => e = .returned (.bool false) ∧ w = w' := by
  rcases h with rfl | ⟨b, rfl, hc⟩
  · go_enter Try.func112, Try.ntmps112
    go_wp2_with (go_at_call 29; refine (gMachine_nil _).mono ?_; rintro e w' ⟨rfl, rfl⟩)
    go_ret
    exact ⟨rfl, rfl⟩
  · have H := hid (vMachine_zero b w hc)
    clear hc
    go_enter Try.func112, Try.ntmps112
    go_wp2_with (go_at_call 29; refine H.out.mono ?_; rintro e w' ⟨rfl, rfl⟩)
    go_ret
    exact ⟨rfl, rfl⟩
theorem gIsView_yes (V G B : Nat) (S : Nat → Prop) (l : List PokeV) (n T : Nat) (f : Int → Option Value) (w : World) (h : VV w V G B S l n T f) : Calls Try.prog 112 #[.pointer (some ⟨V, 0, none⟩)] w fun e w' => e = .returned (.bool true) ∧ w = w' := by
  have H := hid (vMachine V G B S l n T f w h)
  clear h
  go_enter Try.func112, Try.ntmps112
  go_wp2_with (go_at_call 29; refine H.out.mono ?_; rintro e w' ⟨rfl, rfl⟩)
  go_ret
  exact ⟨rfl, rfl⟩
/-- New of no machine -/
theorem gNew_nil (w : World) : Calls Try.prog 57 #[.pointer none] w fun e w' => e = .returned (.pointer none) ∧ w = w' := by
  go_enter Try.func57, Try.ntmps57
  go_wp2_with (go_at_call 56; refine (Size_nil _).mono ?_; rintro e w' ⟨rfl, rfl⟩)
  go_ret
  exact ⟨rfl, rfl⟩
theorem gNew_zero (b : Nat) (w : World) (h : w.cell? ⟨b, 0, none⟩ = some (.int .i64 0)) : Calls Try.prog 57 #[.pointer (some ⟨b, 0, none⟩)] w fun e w' => e = .returned (.pointer none) ∧ w = w' := by
  have H := hid (Size_zero b w h)
  clear h
  go_enter Try.func57, Try.ntmps57
  go_wp2_with (go_at_call 56; refine H.out.mono ?_; rintro e w' ⟨rfl, rfl⟩)
  go_ret
  exact ⟨rfl, rfl⟩
section
variable (p : Option Addr) (w : World) (h : NoGr w p)
include h
theorem gzLive (a b : Int) : Calls Try.prog 120 #[.pointer p, .int .i64 a, .int .i64 b] w fun e w' => e = .returned (.tuple #[.agg #[.int .i64 0, .int .i64 0, .int .i64 0, .int .i64 0, .int .i64 0, .bool false], .int .i64 7]) ∧ w.grownBy w' none := by
  have H := hid (gMade_no p _ (h.grown (World.grownBy_alloc w (.cells #[.int .i64 0, .int .i64 0, .int .i64 0, .int .i64 0, .int .i64 0, .bool false] 198) none)))
  clear h
  go_enter Try.func120, Try.ntmps120
  go_wp2_with (go_at_call 111; refine H.out.mono ?_; rintro e w' ⟨rfl, rfl⟩)
  go_returns
  exact ⟨rfl, World.grownBy_alloc _ _ none⟩
theorem gzMap (v : Value) (a b c : Int) (wr : Bool) : Calls Try.prog 44 #[.pointer p, v, .int .i64 a, .int .i64 b, .int .i64 c, .bool wr] w fun e w' => e = .returned (.tuple #[.int .i64 0, .int .i64 7]) ∧ w = w' := by
  have H := hid (gMade_no p w h)
  clear h
  go_enter Try.func44, Try.ntmps44
  go_wp2_with (go_at_call 111; refine H.out.mono ?_; rintro e w' ⟨rfl, rfl⟩)
  go_ret2
  exact ⟨rfl, rfl⟩
theorem gzJoin (a b : Int) (v : Value) : Calls Try.prog 59 #[.pointer p, .int .i64 a, .int .i64 b, v] w fun e w' => e = .returned (.int .i64 7) ∧ w = w' := by
  have H := hid (gMade_no p w h)
  clear h
  go_enter Try.func59, Try.ntmps59
  go_wp2_with (go_at_call 111; refine H.out.mono ?_; rintro e w' ⟨rfl, rfl⟩)
  go_ret
  exact ⟨rfl, rfl⟩
theorem gzLeave (a : Int) : Calls Try.prog 46 #[.pointer p, .int .i64 a] w fun e w' => e = .returned (.int .i64 7) ∧ w = w' := by
  have H := hid (gMade_no p w h)
  clear h
  go_enter Try.func46, Try.ntmps46
  go_wp2_with (go_at_call 111; refine H.out.mono ?_; rintro e w' ⟨rfl, rfl⟩)
  go_ret
  exact ⟨rfl, rfl⟩
theorem gzUnmap (a b : Int) : Calls Try.prog 51 #[.pointer p, .int .i64 a, .int .i64 b] w fun e w' => e = .returned (.int .i64 7) ∧ w.grownBy w' none := by
  have H := hid (gzLive p w h a b)
  clear h
  go_enter Try.func51, Try.ntmps51
  go_wp2_with (go_at_call 120; refine H.out.mono ?_; rintro e w1 ⟨rfl, g1⟩; have G1 := hid g1; clear g1)
  go_ret
  exact ⟨rfl, G1.out.trans (World.grownBy_alloc _ _ none)⟩
theorem gzWrite (a b c : Int) (q : Option Addr) (n k : Nat) : Calls Try.prog 48 #[.pointer p, .int .i64 a, .int .i64 b, .int .i64 c, .slice q n k] w fun e w' => e = .returned (.int .i64 7) ∧ w.grownBy w' none := by
  have H := hid (gzLive p w h a b)
  clear h
  go_enter Try.func48, Try.ntmps48
  go_wp2_with (go_at_call 120; refine H.out.mono ?_; rintro e w1 ⟨rfl, g1⟩; have G1 := hid g1; clear g1)
  go_ret
  exact ⟨rfl, G1.out.trans (World.grownBy_alloc _ _ none)⟩
theorem gzRevoke (a b : Int) : Calls Try.prog 45 #[.pointer p, .int .i64 a, .int .i64 b] w fun e w' => e = .returned (.int .i64 7) ∧ w = w' := by
  have H := hid (gMade_no p w h)
  clear h
  go_enter Try.func45, Try.ntmps45
  go_wp2_with (go_at_call 111; refine H.out.mono ?_; rintro e w' ⟨rfl, rfl⟩)
  go_ret
  exact ⟨rfl, rfl⟩
theorem gzTransfer (v : Value) (a b c d : Int) : Calls Try.prog 61 #[.pointer p, v, .int .i64 a, .int .i64 b, .int .i64 c, .int .i64 d] w fun e w' => e = .returned (.int .i64 7) ∧ w = w' := by
  have H := hid (gMade_no p w h)
  clear h
  go_enter Try.func61, Try.ntmps61
  go_wp2_with (go_at_call 111; refine H.out.mono ?_; rintro e w' ⟨rfl, rfl⟩)
  go_ret
  exact ⟨rfl, rfl⟩
theorem gzMaps (a : Int) : Calls Try.prog 62 #[.pointer p, .int .i64 a] w fun e w' => e = .returned (.slice none 0 0) ∧ w = w' := by
  have H := hid (gMade_no p w h)
  clear h
  go_enter Try.func62, Try.ntmps62
  go_wp2_with (go_at_call 111; refine H.out.mono ?_; rintro e w' ⟨rfl, rfl⟩)
  go_ret
  exact ⟨rfl, rfl⟩
theorem gzForeign (a : Int) : Calls Try.prog 50 #[.pointer p, .int .i64 a] w fun e w' => e = .returned (.int .i64 0) ∧ w = w' := by
  have H := hid (gMade_no p w h)
  clear h
  go_enter Try.func50, Try.ntmps50
  go_wp2_with (go_at_call 111; refine H.out.mono ?_; rintro e w' ⟨rfl, rfl⟩)
  go_ret
  exact ⟨rfl, rfl⟩
end
/-- grants or view that nobody made -/
def NoGV (w : World) (p q : Option Addr) : Prop := NoGr w p ∨ ((∃ X B, p = some ⟨X, 0, none⟩ ∧ w.cell? ⟨X, 0, none⟩ = some (.pointer (some ⟨B, 0, none⟩))) ∧ NoVw w q)
theorem NoGV.grown {w w' : World} {p q : Option Addr} (h : NoGV w p q) (hg : w.grownBy w' none) : NoGV w' p q := by
  rcases h with h | ⟨⟨X, B, h, hc⟩, hv⟩
  · exact .inl (h.grown hg)
  · exact .inr ⟨⟨X, B, h, hg.cell hc (by simp)⟩, hv.grown hg⟩
theorem NoGV.noG {w : World} {p q : Option Addr} (h : NoGr w p) : NoGV w p q := .inl h
theorem NoGV.noV {w : World} {X B : Nat} {q : Option Addr} (h : w.cell? ⟨X, 0, none⟩ = some (.pointer (some ⟨B, 0, none⟩))) (hv : NoVw w q) : NoGV w (some ⟨X, 0, none⟩) q := .inr ⟨⟨X, B, rfl, h⟩, hv⟩
theorem NoVw.nil (w : World) : NoVw w none := .inl rfl
/-- an end of a copy by value -/
def endV (g : Bool) (d r p o : Int) : Value := .agg #[.bool g, .int .i64 d, .int .i64 r, .int .i64 p, .int .i64 o]
theorem gzMapV (X B : Nat) (q : Option Addr) (a b c : Int) (wr : Bool) (w : World) (h : w.cell? ⟨X, 0, none⟩ = some (.pointer (some ⟨B, 0, none⟩))) (hv : NoVw w q) : Calls Try.prog 44 #[.pointer (some ⟨X, 0, none⟩), .pointer q, .int .i64 a, .int .i64 b, .int .i64 c, .bool wr] w fun e w' => e = .returned (.tuple #[.int .i64 0, .int .i64 7]) ∧ w = w' := by
  have H := hid (gMade_yes X B w h)
  have HV := hid (gIsView_no q w hv)
  clear h hv
  go_enter Try.func44, Try.ntmps44
  go_wp2_with (first
    | (go_at_call 111; refine H.out.mono ?_; rintro e w' ⟨rfl, rfl⟩)
    | (go_at_call 112; refine HV.out.mono ?_; rintro e w' ⟨rfl, rfl⟩))
  go_ret2
  exact ⟨rfl, rfl⟩
theorem gzRead (X V G B : Nat) (S : Nat → Prop) (l : List PokeV) (n T : Nat) (f : Int → Option Value) (a b c d : Int) (w : World) (h : NoGr w (some ⟨X, 0, none⟩)) (hv : VV w V G B S l n T f) :
    Calls Try.prog 47 #[.pointer (some ⟨X, 0, none⟩), .pointer (some ⟨V, 0, none⟩), .int .i64 a, .int .i64 b, .int .i64 c, .int .i64 d] w fun e w' => e = .returned (.tuple #[.slice none 0 0, .int .i64 7]) ∧ w.grownBy w' none := by
  have H := hid (gzLive _ w h a b)
  have HV := hid (gIsView_yes V G B S l n T f w hv)
  clear h hv
  go_enter Try.func47, Try.ntmps47
  go_wp2_with (first
    | (go_at_call 112; refine HV.out.mono ?_; rintro e w' ⟨rfl, rfl⟩)
    | (go_at_call 120; refine H.out.mono ?_; rintro e w1 ⟨rfl, g1⟩; have G1 := hid g1; clear g1))
  go_ret2
  exact ⟨rfl, G1.out.trans (World.grownBy_alloc _ _ none)⟩
theorem gzFind (p q : Option Addr) (a : Int) (g : Bool) (d r pp o n : Int) (w : World) (h : NoGV w p q) :
    Calls Try.prog 124 #[.pointer p, .pointer q, .int .i64 a, .agg #[.bool g, .int .i64 d, .int .i64 r, .int .i64 pp, .int .i64 o], .int .i64 n] w fun e w' => e = .returned (.tuple #[.nilIface, .int .i64 7]) ∧ w.grownBy w' none := by
  have hg := World.grownBy_alloc w (.cells #[.bool g, .int .i64 d, .int .i64 r, .int .i64 pp, .int .i64 o] 104) none
  rcases h with h | ⟨⟨X, B, rfl, hc⟩, hv⟩
  · have H := hid (gMade_no p _ (h.grown hg))
    clear h hg
    go_enter Try.func124, Try.ntmps124
    go_wp2_with (go_at_call 111; refine H.out.mono ?_; rintro e w' ⟨rfl, rfl⟩)
    go_ret2
    exact ⟨rfl, World.grownBy_alloc _ _ none⟩
  · have H := hid (gMade_yes X B _ (hg.cell hc (by simp)))
    have HV := hid (gIsView_no q _ (hv.grown hg))
    clear hc hv hg
    go_enter Try.func124, Try.ntmps124
    go_wp2_with (first
      | (go_at_call 111; refine H.out.mono ?_; rintro e w' ⟨rfl, rfl⟩)
      | (go_at_call 112; refine HV.out.mono ?_; rintro e w' ⟨rfl, rfl⟩))
    go_ret2
    exact ⟨rfl, World.grownBy_alloc _ _ none⟩
theorem gzPull (p q : Option Addr) (a : Int) (g : Bool) (d r pp o n : Int) (w : World) (h : NoGV w p q) :
    Calls Try.prog 58 #[.pointer p, .pointer q, .int .i64 a, .agg #[.bool g, .int .i64 d, .int .i64 r, .int .i64 pp, .int .i64 o], .int .i64 n] w fun e w' => e = .returned (.tuple #[.slice none 0 0, .int .i64 7]) ∧ w.grownBy w' none := by
  have hg := World.grownBy_alloc w (.cells #[.bool g, .int .i64 d, .int .i64 r, .int .i64 pp, .int .i64 o] 104) none
  have H := hid (gzFind p q a g d r pp o n _ (h.grown hg))
  have HG := hid hg
  clear h hg
  go_enter Try.func58, Try.ntmps58
  go_wp2_with (go_at_call 124; refine H.out.mono ?_; rintro e w1 ⟨rfl, g1⟩; have G1 := hid (HG.out.trans g1); clear g1)
  go_ret2
  exact ⟨rfl, G1.out⟩
theorem gzPush (p q : Option Addr) (a : Int) (g : Bool) (d r pp o : Int) (x : Option Addr) (n k : Nat) (w : World) (h : NoGV w p q) :
    Calls Try.prog 60 #[.pointer p, .pointer q, .int .i64 a, .agg #[.bool g, .int .i64 d, .int .i64 r, .int .i64 pp, .int .i64 o], .slice x n k] w fun e w' => e = .returned (.int .i64 7) ∧ w.grownBy w' none := by
  have hg := World.grownBy_alloc w (.cells #[.bool g, .int .i64 d, .int .i64 r, .int .i64 pp, .int .i64 o] 104) none
  have H := hid (gzFind p q a g d r pp o n _ (h.grown hg))
  have HG := hid hg
  clear h hg
  go_enter Try.func60, Try.ntmps60
  go_wp2_with (go_at_call 124; refine H.out.mono ?_; rintro e w1 ⟨rfl, g1⟩; have G1 := hid (HG.out.trans g1); clear g1)
  go_ret
  exact ⟨rfl, G1.out⟩
theorem gzCopy (p q : Option Addr) (a : Int) (g : Bool) (d r pp o : Int) (g' : Bool) (d' r' pp' o' n : Int) (w : World) (h : NoGV w p q) :
    Calls Try.prog 52 #[.pointer p, .pointer q, .int .i64 a, .agg #[.bool g, .int .i64 d, .int .i64 r, .int .i64 pp, .int .i64 o], .agg #[.bool g', .int .i64 d', .int .i64 r', .int .i64 pp', .int .i64 o'], .int .i64 n] w fun e w' => e = .returned (.int .i64 7) ∧ w.grownBy w' none := by
  have hg := (World.grownBy_alloc w (.cells #[.bool g, .int .i64 d, .int .i64 r, .int .i64 pp, .int .i64 o] 104) none).trans (World.grownBy_alloc _ (.cells #[.bool g', .int .i64 d', .int .i64 r', .int .i64 pp', .int .i64 o'] 104) none)
  have H := hid (gzPull p q a g d r pp o n _ (h.grown hg))
  have HG := hid hg
  clear h hg
  go_enter Try.func52, Try.ntmps52
  go_wp2_with (go_at_call 58; refine H.out.mono ?_; rintro e w1 ⟨rfl, g1⟩; have G1 := hid (HG.out.trans g1); clear g1)
  go_ret
  exact ⟨rfl, G1.out⟩
end Go.Proofs.Ytaocnknofklmoaa
