/-
  Package grant: its calls on grants, and with views, that nobody made.
-/
import Derived.Test.YtpjlhiagifoogaaGreatViewZ
import Derived.Test.YtpjlhiagifoogaaGreatViewB
import Derived.Test.YtpjlhiagifoogaaGreatPhysA
import Derived.Handy
set_option linter.unusedSimpArgs false
set_option linter.unusedVariables false
namespace Go.Proofs.YtpjlhiagifoogaaGreat
open Go.RowKit
set_option maxHeartbeats 1000000

/-- nobody made the grants that p points to -/
def NoGr (w : World) (p : Option Addr) : Prop := p = none ∨ ∃ b, p = some ⟨b, 0, none⟩ ∧ w.cell? ⟨b, 0, none⟩ = some (.pointer none)
theorem NoGr.nil (w : World) : NoGr w none := .inl rfl
theorem NoGr.grown {w w' : World} {p : Option Addr} (h : NoGr w p) (hg : w.grownBy w' none) : NoGr w' p := by
  rcases h with h | ⟨b, h, hc⟩
  · exact .inl h
  · exact .inr ⟨b, h, hg.cell hc (by simp)⟩
theorem gMade_no (p : Option Addr) (w : World) (h : NoGr w p) : Calls Tryz.prog 108 #[.pointer p] w fun e w' => e = .returned (.bool false) ∧ w = w' := by
  rcases h with rfl | ⟨b, rfl, hc⟩
  · go_enter Tryz.func108, Tryz.ntmps108
    go_wp2
    go_ret
    exact ⟨rfl, rfl⟩
  · go_enter Tryz.func108, Tryz.ntmps108
    go_wp2
    go_ret
    exact ⟨rfl, rfl⟩
theorem gMade_yes (X B : Nat) (w : World) (h : w.cell? ⟨X, 0, none⟩ = some (.pointer (some ⟨B, 0, none⟩))) : Calls Tryz.prog 108 #[.pointer (some ⟨X, 0, none⟩)] w fun e w' => e = .returned (.bool true) ∧ w = w' := by
  go_enter Tryz.func108, Tryz.ntmps108
  go_wp2
  go_ret
  exact ⟨rfl, rfl⟩
/-- nobody made the view that p points to: it has no machine -/
def NoVw (w : World) (p : Option Addr) : Prop := p = none ∨ ∃ b, p = some ⟨b, 0, none⟩ ∧ w.cell? ⟨b, 0, none⟩ = some (.pointer none)
theorem NoVw.grown {w w' : World} {p : Option Addr} (h : NoVw w p) (hg : w.grownBy w' none) : NoVw w' p := by
  rcases h with h | ⟨b, h, hc⟩
  · exact .inl h
  · exact .inr ⟨b, h, hg.cell hc (by simp)⟩
theorem gMachine_nil (w : World) : Calls Tryz.prog 182 #[.pointer none] w fun e w' => e = .returned (.pointer none) ∧ w = w' := by
  go_enter Tryz.func182, Tryz.ntmps182
  go_wp2_with (go_at_call 102; refine (vmade_nil _).mono ?_; rintro e w' ⟨rfl, rfl⟩)
  go_ret
  exact ⟨rfl, rfl⟩
theorem gIsView_no (p : Option Addr) (w : World) (h : NoVw w p) : Calls Tryz.prog 150 #[.pointer p] w fun e w' => e = .returned (.bool false) ∧ w = w' := by
  rcases h with rfl | ⟨b, rfl, hc⟩
  · go_enter Tryz.func150, Tryz.ntmps150
    go_wp2_with (go_at_call 182; refine (gMachine_nil _).mono ?_; rintro e w' ⟨rfl, rfl⟩)
    go_ret
    exact ⟨rfl, rfl⟩
  · have H := hid (vMachine_zero b w hc)
    clear hc
    go_enter Tryz.func150, Tryz.ntmps150
    go_wp2_with (go_at_call 182; refine H.out.mono ?_; rintro e w' ⟨rfl, rfl⟩)
    go_ret
    exact ⟨rfl, rfl⟩
theorem gIsView_yes (V G B : Nat) (S : Nat → Prop) (l : List PokeV) (n T : Nat) (f : Int → Option Value) (w : World) (h : VV w V G B S l n T f) : Calls Tryz.prog 150 #[.pointer (some ⟨V, 0, none⟩)] w fun e w' => e = .returned (.bool true) ∧ w = w' := by
  have H := hid (vMachine V G B S l n T f w h)
  clear h
  go_enter Tryz.func150, Tryz.ntmps150
  go_wp2_with (go_at_call 182; refine H.out.mono ?_; rintro e w' ⟨rfl, rfl⟩)
  go_ret
  exact ⟨rfl, rfl⟩
/-- New of no machine -/
theorem gNew_nil (w : World) : Calls Tryz.prog 47 #[.pointer none] w fun e w' => e = .returned (.pointer none) ∧ w = w' := by
  go_enter Tryz.func47, Tryz.ntmps47
  go_wp2_with (go_at_call 90; refine (Size_nil _).mono ?_; rintro e w' ⟨rfl, rfl⟩)
  go_ret
  exact ⟨rfl, rfl⟩
theorem gNew_zero (b : Nat) (w : World) (h : w.cell? ⟨b, 0, none⟩ = some (.int .i64 0)) : Calls Tryz.prog 47 #[.pointer (some ⟨b, 0, none⟩)] w fun e w' => e = .returned (.pointer none) ∧ w = w' := by
  have H := hid (Size_zero b w h)
  clear h
  go_enter Tryz.func47, Tryz.ntmps47
  go_wp2_with (go_at_call 90; refine H.out.mono ?_; rintro e w' ⟨rfl, rfl⟩)
  go_ret
  exact ⟨rfl, rfl⟩
section
variable (p : Option Addr) (w : World) (h : NoGr w p)
include h
theorem gzLive (a b : Int) : Calls Tryz.prog 161 #[.pointer p, .int .i64 a, .int .i64 b] w fun e w' => e = .returned (.tuple #[.agg #[.int .i64 0, .int .i64 0, .int .i64 0, .int .i64 0, .int .i64 0, .bool false], .int .i64 7]) ∧ w.grownBy w' none := by
  have H := hid (gMade_no p _ (h.grown (World.grownBy_alloc w (.cells #[.int .i64 0, .int .i64 0, .int .i64 0, .int .i64 0, .int .i64 0, .bool false] 178) none)))
  clear h
  go_enter Tryz.func161, Tryz.ntmps161
  go_wp2_with (go_at_call 108; refine H.out.mono ?_; rintro e w' ⟨rfl, rfl⟩)
  go_returns
  exact ⟨rfl, World.grownBy_alloc _ _ none⟩
theorem gzMap (v : Value) (a b c : Int) (wr : Bool) : Calls Tryz.prog 64 #[.pointer p, v, .int .i64 a, .int .i64 b, .int .i64 c, .bool wr] w fun e w' => e = .returned (.tuple #[.int .i64 0, .int .i64 7]) ∧ w = w' := by
  have H := hid (gMade_no p w h)
  clear h
  go_enter Tryz.func64, Tryz.ntmps64
  go_wp2_with (go_at_call 108; refine H.out.mono ?_; rintro e w' ⟨rfl, rfl⟩)
  go_ret2
  exact ⟨rfl, rfl⟩
theorem gzJoin (a b : Int) (v : Value) : Calls Tryz.prog 51 #[.pointer p, .int .i64 a, .int .i64 b, v] w fun e w' => e = .returned (.int .i64 7) ∧ w = w' := by
  have H := hid (gMade_no p w h)
  clear h
  go_enter Tryz.func51, Tryz.ntmps51
  go_wp2_with (go_at_call 108; refine H.out.mono ?_; rintro e w' ⟨rfl, rfl⟩)
  go_ret
  exact ⟨rfl, rfl⟩
theorem gzLeave (a : Int) : Calls Tryz.prog 74 #[.pointer p, .int .i64 a] w fun e w' => e = .returned (.int .i64 7) ∧ w = w' := by
  have H := hid (gMade_no p w h)
  clear h
  go_enter Tryz.func74, Tryz.ntmps74
  go_wp2_with (go_at_call 108; refine H.out.mono ?_; rintro e w' ⟨rfl, rfl⟩)
  go_ret
  exact ⟨rfl, rfl⟩
theorem gzUnmap (a b : Int) : Calls Tryz.prog 66 #[.pointer p, .int .i64 a, .int .i64 b] w fun e w' => e = .returned (.int .i64 7) ∧ w.grownBy w' none := by
  have H := hid (gzLive p w h a b)
  clear h
  go_enter Tryz.func66, Tryz.ntmps66
  go_wp2_with (go_at_call 161; refine H.out.mono ?_; rintro e w1 ⟨rfl, g1⟩; have G1 := hid g1; clear g1)
  go_ret
  exact ⟨rfl, G1.out.trans (World.grownBy_alloc _ _ none)⟩
theorem gzWrite (a b c : Int) (q : Option Addr) (n k : Nat) : Calls Tryz.prog 70 #[.pointer p, .int .i64 a, .int .i64 b, .int .i64 c, .slice q n k] w fun e w' => e = .returned (.int .i64 7) ∧ w.grownBy w' none := by
  have H := hid (gzLive p w h a b)
  clear h
  go_enter Tryz.func70, Tryz.ntmps70
  go_wp2_with (go_at_call 161; refine H.out.mono ?_; rintro e w1 ⟨rfl, g1⟩; have G1 := hid g1; clear g1)
  go_ret
  exact ⟨rfl, G1.out.trans (World.grownBy_alloc _ _ none)⟩
theorem gzRevoke (a b : Int) : Calls Tryz.prog 72 #[.pointer p, .int .i64 a, .int .i64 b] w fun e w' => e = .returned (.int .i64 7) ∧ w = w' := by
  have H := hid (gMade_no p w h)
  clear h
  go_enter Tryz.func72, Tryz.ntmps72
  go_wp2_with (go_at_call 108; refine H.out.mono ?_; rintro e w' ⟨rfl, rfl⟩)
  go_ret
  exact ⟨rfl, rfl⟩
theorem gzTransfer (v : Value) (a b c d : Int) : Calls Tryz.prog 172 #[.pointer p, v, .int .i64 a, .int .i64 b, .int .i64 c, .int .i64 d] w fun e w' => e = .returned (.int .i64 7) ∧ w = w' := by
  have H := hid (gMade_no p w h)
  clear h
  go_enter Tryz.func172, Tryz.ntmps172
  go_wp2_with (go_at_call 108; refine H.out.mono ?_; rintro e w' ⟨rfl, rfl⟩)
  go_ret
  exact ⟨rfl, rfl⟩
theorem gzMaps (a : Int) : Calls Tryz.prog 34 #[.pointer p, .int .i64 a] w fun e w' => e = .returned (.slice none 0 0) ∧ w = w' := by
  have H := hid (gMade_no p w h)
  clear h
  go_enter Tryz.func34, Tryz.ntmps34
  go_wp2_with (go_at_call 108; refine H.out.mono ?_; rintro e w' ⟨rfl, rfl⟩)
  go_ret
  exact ⟨rfl, rfl⟩
theorem gzForeign (a : Int) : Calls Tryz.prog 79 #[.pointer p, .int .i64 a] w fun e w' => e = .returned (.int .i64 0) ∧ w = w' := by
  have H := hid (gMade_no p w h)
  clear h
  go_enter Tryz.func79, Tryz.ntmps79
  go_wp2_with (go_at_call 108; refine H.out.mono ?_; rintro e w' ⟨rfl, rfl⟩)
  go_ret
  exact ⟨rfl, rfl⟩
end
/-- grants or view that nobody made -/
def NoGV (w : World) (p q : Option Addr) : Prop := NoGr w p ∨ ((∃ X B, p = some ⟨X, 0, none⟩ ∧ w.cell? ⟨X, 0, none⟩ = some (.pointer (some ⟨B, 0, none⟩))) ∧ NoVw w q)
theorem NoGV.grown {w w' : World} {p q : Option Addr} (h : NoGV w p q) (hg : w.grownBy w' none) : NoGV w' p q := by
  rcases h with h | ⟨⟨X, B, h, hc⟩, hv⟩
  · exact .inl (h.grown hg)
  · exact .inr ⟨⟨X, B, h, hg.cell hc (by simp)⟩, hv.grown hg⟩
theorem NoGV.noG {w : World} {p q : Option Addr} (h : NoGr w p) : NoGV w p q := .inl h
theorem NoGV.noV {w : World} {X B : Nat} {q : Option Addr} (h : w.cell? ⟨X, 0, none⟩ = some (.pointer (some ⟨B, 0, none⟩))) (hv : NoVw w q) : NoGV w (some ⟨X, 0, none⟩) q := .inr ⟨⟨X, B, rfl, h⟩, hv⟩
theorem NoVw.nil (w : World) : NoVw w none := .inl rfl
/-- an end of a copy by value -/
def endV (g : Bool) (d r p o : Int) : Value := .agg #[.bool g, .int .i64 d, .int .i64 r, .int .i64 p, .int .i64 o]
theorem gzMapV (X B : Nat) (q : Option Addr) (a b c : Int) (wr : Bool) (w : World) (h : w.cell? ⟨X, 0, none⟩ = some (.pointer (some ⟨B, 0, none⟩))) (hv : NoVw w q) : Calls Tryz.prog 64 #[.pointer (some ⟨X, 0, none⟩), .pointer q, .int .i64 a, .int .i64 b, .int .i64 c, .bool wr] w fun e w' => e = .returned (.tuple #[.int .i64 0, .int .i64 7]) ∧ w = w' := by
  have H := hid (gMade_yes X B w h)
  have HV := hid (gIsView_no q w hv)
  clear h hv
  go_enter Tryz.func64, Tryz.ntmps64
  go_wp2_with (first
    | (go_at_call 108; refine H.out.mono ?_; rintro e w' ⟨rfl, rfl⟩)
    | (go_at_call 150; refine HV.out.mono ?_; rintro e w' ⟨rfl, rfl⟩))
  go_ret2
  exact ⟨rfl, rfl⟩
theorem gzRead (X V G B : Nat) (S : Nat → Prop) (l : List PokeV) (n T : Nat) (f : Int → Option Value) (a b c d : Int) (w : World) (h : NoGr w (some ⟨X, 0, none⟩)) (hv : VV w V G B S l n T f) :
    Calls Tryz.prog 68 #[.pointer (some ⟨X, 0, none⟩), .pointer (some ⟨V, 0, none⟩), .int .i64 a, .int .i64 b, .int .i64 c, .int .i64 d] w fun e w' => e = .returned (.tuple #[.slice none 0 0, .int .i64 7]) ∧ w.grownBy w' none := by
  have H := hid (gzLive _ w h a b)
  have HV := hid (gIsView_yes V G B S l n T f w hv)
  clear h hv
  go_enter Tryz.func68, Tryz.ntmps68
  go_wp2_with (first
    | (go_at_call 150; refine HV.out.mono ?_; rintro e w' ⟨rfl, rfl⟩)
    | (go_at_call 161; refine H.out.mono ?_; rintro e w1 ⟨rfl, g1⟩; have G1 := hid g1; clear g1))
  go_ret2
  exact ⟨rfl, G1.out.trans (World.grownBy_alloc _ _ none)⟩
theorem gzFind (p q : Option Addr) (a : Int) (g : Bool) (d r pp o n : Int) (w : World) (h : NoGV w p q) :
    Calls Tryz.prog 229 #[.pointer p, .pointer q, .int .i64 a, .agg #[.bool g, .int .i64 d, .int .i64 r, .int .i64 pp, .int .i64 o], .int .i64 n] w fun e w' => e = .returned (.tuple #[.nilIface, .int .i64 7]) ∧ w.grownBy w' none := by
  have hg := World.grownBy_alloc w (.cells #[.bool g, .int .i64 d, .int .i64 r, .int .i64 pp, .int .i64 o] 29) none
  rcases h with h | ⟨⟨X, B, rfl, hc⟩, hv⟩
  · have H := hid (gMade_no p _ (h.grown hg))
    clear h hg
    go_enter Tryz.func229, Tryz.ntmps229
    go_wp2_with (go_at_call 108; refine H.out.mono ?_; rintro e w' ⟨rfl, rfl⟩)
    go_ret2
    exact ⟨rfl, World.grownBy_alloc _ _ none⟩
  · have H := hid (gMade_yes X B _ (hg.cell hc (by simp)))
    have HV := hid (gIsView_no q _ (hv.grown hg))
    clear hc hv hg
    go_enter Tryz.func229, Tryz.ntmps229
    go_wp2_with (first
      | (go_at_call 108; refine H.out.mono ?_; rintro e w' ⟨rfl, rfl⟩)
      | (go_at_call 150; refine HV.out.mono ?_; rintro e w' ⟨rfl, rfl⟩))
    go_ret2
    exact ⟨rfl, World.grownBy_alloc _ _ none⟩
theorem gzPull (p q : Option Addr) (a : Int) (g : Bool) (d r pp o n : Int) (w : World) (h : NoGV w p q) :
    Calls Tryz.prog 174 #[.pointer p, .pointer q, .int .i64 a, .agg #[.bool g, .int .i64 d, .int .i64 r, .int .i64 pp, .int .i64 o], .int .i64 n] w fun e w' => e = .returned (.tuple #[.slice none 0 0, .int .i64 7]) ∧ w.grownBy w' none := by
  have hg := World.grownBy_alloc w (.cells #[.bool g, .int .i64 d, .int .i64 r, .int .i64 pp, .int .i64 o] 29) none
  have H := hid (gzFind p q a g d r pp o n _ (h.grown hg))
  have HG := hid hg
  clear h hg
  go_enter Tryz.func174, Tryz.ntmps174
  go_wp2_with (go_at_call 229; refine H.out.mono ?_; rintro e w1 ⟨rfl, g1⟩; have G1 := hid (HG.out.trans g1); clear g1)
  go_ret2
  exact ⟨rfl, G1.out⟩
theorem gzPush (p q : Option Addr) (a : Int) (g : Bool) (d r pp o : Int) (x : Option Addr) (n k : Nat) (w : World) (h : NoGV w p q) :
    Calls Tryz.prog 176 #[.pointer p, .pointer q, .int .i64 a, .agg #[.bool g, .int .i64 d, .int .i64 r, .int .i64 pp, .int .i64 o], .slice x n k] w fun e w' => e = .returned (.int .i64 7) ∧ w.grownBy w' none := by
  have hg := World.grownBy_alloc w (.cells #[.bool g, .int .i64 d, .int .i64 r, .int .i64 pp, .int .i64 o] 29) none
  have H := hid (gzFind p q a g d r pp o n _ (h.grown hg))
  have HG := hid hg
  clear h hg
  go_enter Tryz.func176, Tryz.ntmps176
  go_wp2_with (go_at_call 229; refine H.out.mono ?_; rintro e w1 ⟨rfl, g1⟩; have G1 := hid (HG.out.trans g1); clear g1)
  go_ret
  exact ⟨rfl, G1.out⟩
theorem gzCopy (p q : Option Addr) (a : Int) (g : Bool) (d r pp o : Int) (g' : Bool) (d' r' pp' o' n : Int) (w : World) (h : NoGV w p q) :
    Calls Tryz.prog 170 #[.pointer p, .pointer q, .int .i64 a, .agg #[.bool g, .int .i64 d, .int .i64 r, .int .i64 pp, .int .i64 o], .agg #[.bool g', .int .i64 d', .int .i64 r', .int .i64 pp', .int .i64 o'], .int .i64 n] w fun e w' => e = .returned (.int .i64 7) ∧ w.grownBy w' none := by
  have hg := (World.grownBy_alloc w (.cells #[.bool g, .int .i64 d, .int .i64 r, .int .i64 pp, .int .i64 o] 29) none).trans (World.grownBy_alloc _ (.cells #[.bool g', .int .i64 d', .int .i64 r', .int .i64 pp', .int .i64 o'] 29) none)
  have H := hid (gzPull p q a g d r pp o n _ (h.grown hg))
  have HG := hid hg
  clear h hg
  go_enter Tryz.func170, Tryz.ntmps170
  go_wp2_with (go_at_call 174; refine H.out.mono ?_; rintro e w1 ⟨rfl, g1⟩; have G1 := hid (HG.out.trans g1); clear g1)
  go_ret
  exact ⟨rfl, G1.out⟩
end Go.Proofs.YtpjlhiagifoogaaGreat
