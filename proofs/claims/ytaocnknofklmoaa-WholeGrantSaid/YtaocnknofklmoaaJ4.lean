/-
  Contracts of package view where nobody made the view.
-/
import Derived.Test.YtaocnknofklmoaaPhysJ
import Derived.Test.YtaocnknofklmoaaViewB
import Derived.Test.YtaocnknofklmoaaPhysA
import Derived.Handy
import Derived.Test.YtaocnknofklmoaaJ1
import Derived.Test.YtaocnknofklmoaaPmapB
import Derived.Test.YtaocnknofklmoaaPhysD
import Derived.Test.YtaocnknofklmoaaGrF
import Derived.Test.YtaocnknofklmoaaJ3
import Derived.StillTailTactics
import Derived.Deep.RegionHeld3
set_option linter.unusedSimpArgs false
set_option linter.unusedVariables false
namespace Go.Proofs.Ytaocnknofklmoaa
open Go.RowKit
set_option maxHeartbeats 400000

theorem vmade_nil (w : World) : Calls Try.prog 91 #[.pointer none] w fun e w' => e = .returned (.bool false) ∧ w = w' := by
  go_enter Try.func91, Try.ntmps91
  go_wp2
  go_ret
  exact ⟨rfl, rfl⟩
theorem vmade_zero (b : Nat) (w : World) (h : w.cell? ⟨b, 0, none⟩ = some (.pointer none)) : Calls Try.prog 91 #[.pointer (some ⟨b, 0, none⟩)] w fun e w' => e = .returned (.bool false) ∧ w = w' := by
  go_enter Try.func91, Try.ntmps91
  go_wp2
  go_ret
  exact ⟨rfl, rfl⟩
theorem vNew_nil (v : Value) (w : World) : Calls Try.prog 23 #[.pointer none, v] w fun e w' => e = .returned (.tuple #[.pointer none, .int .i64 7]) ∧ w = w' := by
  go_enter Try.func23, Try.ntmps23
  go_wp2_with (go_at_call 56; refine (Size_nil _).mono ?_; rintro e w' ⟨rfl, rfl⟩)
  go_ret2
  exact ⟨rfl, rfl⟩
theorem vNew_zero (b : Nat) (v : Value) (w : World) (h : w.cell? ⟨b, 0, none⟩ = some (.int .i64 0)) : Calls Try.prog 23 #[.pointer (some ⟨b, 0, none⟩), v] w fun e w' => e = .returned (.tuple #[.pointer none, .int .i64 7]) ∧ w = w' := by
  go_enter Try.func23, Try.ntmps23
  go_wp2_with (go_at_call 56; refine (Size_zero _ _ h).mono ?_; rintro e w' ⟨rfl, rfl⟩)
  go_ret2
  exact ⟨rfl, rfl⟩
theorem vRead_nil (a b c : Int) (w : World) : Calls Try.prog 86 #[.pointer none, .int .i64 a, .int .i64 b, .int .i64 c] w fun e w' => e = .returned (.tuple #[.slice none 0 0, .int .i64 7]) ∧ w = w' := by
  go_enter Try.func86, Try.ntmps86
  go_wp2_with (go_at_call 91; refine (vmade_nil _).mono ?_; rintro e w' ⟨rfl, rfl⟩)
  go_ret2
  exact ⟨rfl, rfl⟩
theorem vRead_zero (x : Nat) (a b c : Int) (w : World) (h : w.cell? ⟨x, 0, none⟩ = some (.pointer none)) : Calls Try.prog 86 #[.pointer (some ⟨x, 0, none⟩), .int .i64 a, .int .i64 b, .int .i64 c] w fun e w' => e = .returned (.tuple #[.slice none 0 0, .int .i64 7]) ∧ w = w' := by
  go_enter Try.func86, Try.ntmps86
  go_wp2_with (go_at_call 91; refine (vmade_zero _ _ h).mono ?_; rintro e w' ⟨rfl, rfl⟩)
  go_ret2
  exact ⟨rfl, rfl⟩
theorem vWord_zero (x : Nat) (a b : Int) (w : World) (h : w.cell? ⟨x, 0, none⟩ = some (.pointer none)) : Calls Try.prog 88 #[.pointer (some ⟨x, 0, none⟩), .int .i64 a, .int .i64 b] w fun e w' => e = .returned (.tuple #[.int .u16 0, .int .i64 7]) ∧ w = w' := by
  go_enter Try.func88, Try.ntmps88
  go_wp2_with (go_at_call 86; refine (vRead_zero _ _ _ _ _ h).mono ?_; rintro e w' ⟨rfl, rfl⟩)
  go_ret2
  exact ⟨rfl, rfl⟩
theorem vWrite_nil (a b : Int) (v : Value) (w : World) : Calls Try.prog 90 #[.pointer none, .int .i64 a, .int .i64 b, v] w fun e w' => e = .returned (.int .i64 7) ∧ w = w' := by
  go_enter Try.func90, Try.ntmps90
  go_wp2_with (go_at_call 91; refine (vmade_nil _).mono ?_; rintro e w' ⟨rfl, rfl⟩)
  go_ret
  exact ⟨rfl, rfl⟩
theorem vReads_zero (x : Nat) (w : World) (h : w.cell? ⟨x, 0, none⟩ = some (.pointer none)) : Calls Try.prog 26 #[.pointer (some ⟨x, 0, none⟩)] w fun e w' => e = .returned (.int .i64 0) ∧ w = w' := by
  go_enter Try.func26, Try.ntmps26
  go_wp2_with (go_at_call 91; refine (vmade_zero _ _ h).mono ?_; rintro e w' ⟨rfl, rfl⟩)
  go_ret
  exact ⟨rfl, rfl⟩
theorem vRest_nil (w : World) : Calls Try.prog 27 #[.pointer none] w fun e w' => e = .returned (.int .i64 0) ∧ w = w' := by
  go_enter Try.func27, Try.ntmps27
  go_wp2_with (go_at_call 91; refine (vmade_nil _).mono ?_; rintro e w' ⟨rfl, rfl⟩)
  go_ret
  exact ⟨rfl, rfl⟩
theorem vMachine_zero (x : Nat) (w : World) (h : w.cell? ⟨x, 0, none⟩ = some (.pointer none)) : Calls Try.prog 29 #[.pointer (some ⟨x, 0, none⟩)] w fun e w' => e = .returned (.pointer none) ∧ w = w' := by
  go_enter Try.func29, Try.ntmps29
  go_wp2_with (go_at_call 91; refine (vmade_zero _ _ h).mono ?_; rintro e w' ⟨rfl, rfl⟩)
  go_ret
  exact ⟨rfl, rfl⟩
theorem build_mach0 (w : World) : (Instr.build 129 #[]).run Try.prog w = .ok (.agg (flatMach 0 zeroFr).cells) w := by
  have hz := (flatMach 0 zeroFr).size_cells
  have hpos : 1 ≤ (flatMach 0 zeroFr).cells.size := by rw [hz, cellsN_eq]; omega
  have hne : (flatMach 0 zeroFr).cells ≠ #[] := fun hh => by rw [hh] at hpos; simp at hpos
  have i3 : (Try.prog.info? 3).map (·.size) = some 1 := by kernel_rfl
  have i56 : (Try.prog.info? 127).map (·.size) = some 66560 := by kernel_rfl
  cases h3 : Try.prog.info? 3 with
  | none => rw [h3] at i3; cases i3
  | some x =>
  cases h56 : Try.prog.info? 127 with
  | none => rw [h56] at i56; cases i56
  | some y =>
  simp [Instr.build, zcMach, zero58w, run_underlying Try.underlying129, sizeOf, typeInfo, h3, h56, Instr.fill, Value.cells, hne]
theorem wpList_build_mach0 {ops : Array Oper} {rest : List Oper} {o : Oper} {a : Act} {w : World} {Q : Exit → Act → World → Prop} (hgd : o.guard = none) (ho : o.op = .build 129 #[])
    (h : wpList Try.prog ops Q rest (a.put o.dst (.agg (flatMach 0 zeroFr).cells)) w) : wpList Try.prog ops Q (o :: rest) a w :=
  wpList_exec hgd (by unfold execOp; simp [ho, build_mach0]) h
end Go.Proofs.Ytaocnknofklmoaa

/-
  Package grant: its calls on grants, and with views, that nobody made.
-/
set_option linter.unusedSimpArgs false
set_option linter.unusedVariables false
namespace Go.Proofs.Ytaocnknofklmoaa
open Go.RowKit
set_option maxHeartbeats 1000000

/-- nobody made the grants that p points to -/
def NoGr (w : World) (p : Option Addr) : Prop := p = none ∨ ∃ b, p = some ⟨b, 0, none⟩ ∧ w.cell? ⟨b, 0, none⟩ = some (.pointer none)
theorem NoGr.nil (w : World) : NoGr w none := .inl rfl
theorem NoGr.grown {w w' : World} {p : Option Addr} (h : NoGr w p) (hg : w.grownBy w' none) : NoGr w' p := by
  rcases h with h | ⟨b, h, hc⟩
  · exact .inl h
  · exact .inr ⟨b, h, hg.cell hc (by simp)⟩
theorem gMade_no (p : Option Addr) (w : World) (h : NoGr w p) : Calls Try.prog 111 #[.pointer p] w fun e w' => e = .returned (.bool false) ∧ w = w' := by
  rcases h with rfl | ⟨b, rfl, hc⟩
  · go_enter Try.func111, Try.ntmps111
    go_wp2
    go_ret
    exact ⟨rfl, rfl⟩
  · go_enter Try.func111, Try.ntmps111
    go_wp2
    go_ret
    exact ⟨rfl, rfl⟩
theorem gMade_yes (X B : Nat) (w : World) (h : w.cell? ⟨X, 0, none⟩ = some (.pointer (some ⟨B, 0, none⟩))) : Calls Try.prog 111 #[.pointer (some ⟨X, 0, none⟩)] w fun e w' => e = .returned (.bool true) ∧ w = w' := by
  go_enter Try.func111, Try.ntmps111
  go_wp2
  go_ret
  exact ⟨rfl, rfl⟩
/-- nobody made the view that p points to: it has no machine -/
def NoVw (w : World) (p : Option Addr) : Prop := p = none ∨ ∃ b, p = some ⟨b, 0, none⟩ ∧ w.cell? ⟨b, 0, none⟩ = some (.pointer none)
theorem NoVw.grown {w w' : World} {p : Option Addr} (h : NoVw w p) (hg : w.grownBy w' none) : NoVw w' p := by
  rcases h with h | ⟨b, h, hc⟩
  · exact .inl h
  · exact .inr ⟨b, h, hg.cell hc (by simp)⟩
theorem gMachine_nil (w : World) : Calls Try.prog 29 #[.pointer none] w fun e w' => e = .returned (.pointer none) ∧ w = w' := by
  go_enter Try.func29, Try.ntmps29
  go_wp2_with (go_at_call 91; refine (vmade_nil _).mono ?_; rintro e w' ⟨rfl, rfl⟩)
  go_ret
  exact ⟨rfl, rfl⟩
theorem gIsView_no (p : Option Addr) (w : World) (h : NoVw w p) : Calls Try.prog 112 #[.pointer p] w fun e w' => e = .returned (.bool false) ∧ w = w' := by
  rcases h with rfl | ⟨b, rfl, hc⟩
  · go_enter Try.func112, Try.ntmps112
    go_wp2_with (go_at_call 29; refine (gMachine_nil _).mono ?_; rintro e w' ⟨rfl, rfl⟩)
    go_ret
    exact ⟨rfl, rfl⟩
  · have H := hid (vMachine_zero b w hc)
    clear hc
    go_enter Try.func112, Try.ntmps112
    go_wp2_with (go_at_call 29; refine H.out.mono ?_; rintro e w' ⟨rfl, rfl⟩)
    go_ret
    exact ⟨rfl, rfl⟩
theorem gIsView_yes (V G B : Nat) (S : Nat → Prop) (l : List PokeV) (n T : Nat) (f : Int → Option Value) (w : World) (h : VV w V G B S l n T f) : Calls Try.prog 112 #[.pointer (some ⟨V, 0, none⟩)] w fun e w' => e = .returned (.bool true) ∧ w = w' := by
  have H := hid (vMachine V G B S l n T f w h)
  clear h
  go_enter Try.func112, Try.ntmps112
  go_wp2_with (go_at_call 29; refine H.out.mono ?_; rintro e w' ⟨rfl, rfl⟩)
  go_ret
  exact ⟨rfl, rfl⟩
/-- New of no machine -/
theorem gNew_nil (w : World) : Calls Try.prog 57 #[.pointer none] w fun e w' => e = .returned (.pointer none) ∧ w = w' := by
  go_enter Try.func57, Try.ntmps57
  go_wp2_with (go_at_call 56; refine (Size_nil _).mono ?_; rintro e w' ⟨rfl, rfl⟩)
  go_ret
  exact ⟨rfl, rfl⟩
theorem gNew_zero (b : Nat) (w : World) (h : w.cell? ⟨b, 0, none⟩ = some (.int .i64 0)) : Calls Try.prog 57 #[.pointer (some ⟨b, 0, none⟩)] w fun e w' => e = .returned (.pointer none) ∧ w = w' := by
  have H := hid (Size_zero b w h)
  clear h
  go_enter Try.func57, Try.ntmps57
  go_wp2_with (go_at_call 56; refine H.out.mono ?_; rintro e w' ⟨rfl, rfl⟩)
  go_ret
  exact ⟨rfl, rfl⟩
section
variable (p : Option Addr) (w : World) (h : NoGr w p)
include h
theorem gzLive (a b : Int) : Calls Try.prog 120 #[.pointer p, .int .i64 a, .int .i64 b] w fun e w' => e = .returned (.tuple #[.agg #[.int .i64 0, .int .i64 0, .int .i64 0, .int .i64 0, .int .i64 0, .bool false], .int .i64 7]) ∧ w.grownBy w' none := by
  have H := hid (gMade_no p _ (h.grown (World.grownBy_alloc w (.cells #[.int .i64 0, .int .i64 0, .int .i64 0, .int .i64 0, .int .i64 0, .bool false] 198) none)))
  clear h
  go_enter Try.func120, Try.ntmps120
  go_wp2_with (go_at_call 111; refine H.out.mono ?_; rintro e w' ⟨rfl, rfl⟩)
  go_returns
  exact ⟨rfl, World.grownBy_alloc _ _ none⟩
theorem gzMap (v : Value) (a b c : Int) (wr : Bool) : Calls Try.prog 44 #[.pointer p, v, .int .i64 a, .int .i64 b, .int .i64 c, .bool wr] w fun e w' => e = .returned (.tuple #[.int .i64 0, .int .i64 7]) ∧ w = w' := by
  have H := hid (gMade_no p w h)
  clear h
  go_enter Try.func44, Try.ntmps44
  go_wp2_with (go_at_call 111; refine H.out.mono ?_; rintro e w' ⟨rfl, rfl⟩)
  go_ret2
  exact ⟨rfl, rfl⟩
theorem gzJoin (a b : Int) (v : Value) : Calls Try.prog 59 #[.pointer p, .int .i64 a, .int .i64 b, v] w fun e w' => e = .returned (.int .i64 7) ∧ w = w' := by
  have H := hid (gMade_no p w h)
  clear h
  go_enter Try.func59, Try.ntmps59
  go_wp2_with (go_at_call 111; refine H.out.mono ?_; rintro e w' ⟨rfl, rfl⟩)
  go_ret
  exact ⟨rfl, rfl⟩
theorem gzLeave (a : Int) : Calls Try.prog 46 #[.pointer p, .int .i64 a] w fun e w' => e = .returned (.int .i64 7) ∧ w = w' := by
  have H := hid (gMade_no p w h)
  clear h
  go_enter Try.func46, Try.ntmps46
  go_wp2_with (go_at_call 111; refine H.out.mono ?_; rintro e w' ⟨rfl, rfl⟩)
  go_ret
  exact ⟨rfl, rfl⟩
theorem gzUnmap (a b : Int) : Calls Try.prog 51 #[.pointer p, .int .i64 a, .int .i64 b] w fun e w' => e = .returned (.int .i64 7) ∧ w.grownBy w' none := by
  have H := hid (gzLive p w h a b)
  clear h
  go_enter Try.func51, Try.ntmps51
  go_wp2_with (go_at_call 120; refine H.out.mono ?_; rintro e w1 ⟨rfl, g1⟩; have G1 := hid g1; clear g1)
  go_ret
  exact ⟨rfl, G1.out.trans (World.grownBy_alloc _ _ none)⟩
theorem gzWrite (a b c : Int) (q : Option Addr) (n k : Nat) : Calls Try.prog 48 #[.pointer p, .int .i64 a, .int .i64 b, .int .i64 c, .slice q n k] w fun e w' => e = .returned (.int .i64 7) ∧ w.grownBy w' none := by
  have H := hid (gzLive p w h a b)
  clear h
  go_enter Try.func48, Try.ntmps48
  go_wp2_with (go_at_call 120; refine H.out.mono ?_; rintro e w1 ⟨rfl, g1⟩; have G1 := hid g1; clear g1)
  go_ret
  exact ⟨rfl, G1.out.trans (World.grownBy_alloc _ _ none)⟩
theorem gzRevoke (a b : Int) : Calls Try.prog 45 #[.pointer p, .int .i64 a, .int .i64 b] w fun e w' => e = .returned (.int .i64 7) ∧ w = w' := by
  have H := hid (gMade_no p w h)
  clear h
  go_enter Try.func45, Try.ntmps45
  go_wp2_with (go_at_call 111; refine H.out.mono ?_; rintro e w' ⟨rfl, rfl⟩)
  go_ret
  exact ⟨rfl, rfl⟩
theorem gzTransfer (v : Value) (a b c d : Int) : Calls Try.prog 61 #[.pointer p, v, .int .i64 a, .int .i64 b, .int .i64 c, .int .i64 d] w fun e w' => e = .returned (.int .i64 7) ∧ w = w' := by
  have H := hid (gMade_no p w h)
  clear h
  go_enter Try.func61, Try.ntmps61
  go_wp2_with (go_at_call 111; refine H.out.mono ?_; rintro e w' ⟨rfl, rfl⟩)
  go_ret
  exact ⟨rfl, rfl⟩
theorem gzMaps (a : Int) : Calls Try.prog 62 #[.pointer p, .int .i64 a] w fun e w' => e = .returned (.slice none 0 0) ∧ w = w' := by
  have H := hid (gMade_no p w h)
  clear h
  go_enter Try.func62, Try.ntmps62
  go_wp2_with (go_at_call 111; refine H.out.mono ?_; rintro e w' ⟨rfl, rfl⟩)
  go_ret
  exact ⟨rfl, rfl⟩
theorem gzForeign (a : Int) : Calls Try.prog 50 #[.pointer p, .int .i64 a] w fun e w' => e = .returned (.int .i64 0) ∧ w = w' := by
  have H := hid (gMade_no p w h)
  clear h
  go_enter Try.func50, Try.ntmps50
  go_wp2_with (go_at_call 111; refine H.out.mono ?_; rintro e w' ⟨rfl, rfl⟩)
  go_ret
  exact ⟨rfl, rfl⟩
end
/-- grants or view that nobody made -/
def NoGV (w : World) (p q : Option Addr) : Prop := NoGr w p ∨ ((∃ X B, p = some ⟨X, 0, none⟩ ∧ w.cell? ⟨X, 0, none⟩ = some (.pointer (some ⟨B, 0, none⟩))) ∧ NoVw w q)
theorem NoGV.grown {w w' : World} {p q : Option Addr} (h : NoGV w p q) (hg : w.grownBy w' none) : NoGV w' p q := by
  rcases h with h | ⟨⟨X, B, h, hc⟩, hv⟩
  · exact .inl (h.grown hg)
  · exact .inr ⟨⟨X, B, h, hg.cell hc (by simp)⟩, hv.grown hg⟩
theorem NoGV.noG {w : World} {p q : Option Addr} (h : NoGr w p) : NoGV w p q := .inl h
theorem NoGV.noV {w : World} {X B : Nat} {q : Option Addr} (h : w.cell? ⟨X, 0, none⟩ = some (.pointer (some ⟨B, 0, none⟩))) (hv : NoVw w q) : NoGV w (some ⟨X, 0, none⟩) q := .inr ⟨⟨X, B, rfl, h⟩, hv⟩
theorem NoVw.nil (w : World) : NoVw w none := .inl rfl
/-- an end of a copy by value -/
def endV (g : Bool) (d r p o : Int) : Value := .agg #[.bool g, .int .i64 d, .int .i64 r, .int .i64 p, .int .i64 o]
theorem gzMapV (X B : Nat) (q : Option Addr) (a b c : Int) (wr : Bool) (w : World) (h : w.cell? ⟨X, 0, none⟩ = some (.pointer (some ⟨B, 0, none⟩))) (hv : NoVw w q) : Calls Try.prog 44 #[.pointer (some ⟨X, 0, none⟩), .pointer q, .int .i64 a, .int .i64 b, .int .i64 c, .bool wr] w fun e w' => e = .returned (.tuple #[.int .i64 0, .int .i64 7]) ∧ w = w' := by
  have H := hid (gMade_yes X B w h)
  have HV := hid (gIsView_no q w hv)
  clear h hv
  go_enter Try.func44, Try.ntmps44
  go_wp2_with (first
    | (go_at_call 111; refine H.out.mono ?_; rintro e w' ⟨rfl, rfl⟩)
    | (go_at_call 112; refine HV.out.mono ?_; rintro e w' ⟨rfl, rfl⟩))
  go_ret2
  exact ⟨rfl, rfl⟩
theorem gzRead (X V G B : Nat) (S : Nat → Prop) (l : List PokeV) (n T : Nat) (f : Int → Option Value) (a b c d : Int) (w : World) (h : NoGr w (some ⟨X, 0, none⟩)) (hv : VV w V G B S l n T f) :
    Calls Try.prog 47 #[.pointer (some ⟨X, 0, none⟩), .pointer (some ⟨V, 0, none⟩), .int .i64 a, .int .i64 b, .int .i64 c, .int .i64 d] w fun e w' => e = .returned (.tuple #[.slice none 0 0, .int .i64 7]) ∧ w.grownBy w' none := by
  have H := hid (gzLive _ w h a b)
  have HV := hid (gIsView_yes V G B S l n T f w hv)
  clear h hv
  go_enter Try.func47, Try.ntmps47
  go_wp2_with (first
    | (go_at_call 112; refine HV.out.mono ?_; rintro e w' ⟨rfl, rfl⟩)
    | (go_at_call 120; refine H.out.mono ?_; rintro e w1 ⟨rfl, g1⟩; have G1 := hid g1; clear g1))
  go_ret2
  exact ⟨rfl, G1.out.trans (World.grownBy_alloc _ _ none)⟩
theorem gzFind (p q : Option Addr) (a : Int) (g : Bool) (d r pp o n : Int) (w : World) (h : NoGV w p q) :
    Calls Try.prog 124 #[.pointer p, .pointer q, .int .i64 a, .agg #[.bool g, .int .i64 d, .int .i64 r, .int .i64 pp, .int .i64 o], .int .i64 n] w fun e w' => e = .returned (.tuple #[.nilIface, .int .i64 7]) ∧ w.grownBy w' none := by
  have hg := World.grownBy_alloc w (.cells #[.bool g, .int .i64 d, .int .i64 r, .int .i64 pp, .int .i64 o] 104) none
  rcases h with h | ⟨⟨X, B, rfl, hc⟩, hv⟩
  · have H := hid (gMade_no p _ (h.grown hg))
    clear h hg
    go_enter Try.func124, Try.ntmps124
    go_wp2_with (go_at_call 111; refine H.out.mono ?_; rintro e w' ⟨rfl, rfl⟩)
    go_ret2
    exact ⟨rfl, World.grownBy_alloc _ _ none⟩
  · have H := hid (gMade_yes X B _ (hg.cell hc (by simp)))
    have HV := hid (gIsView_no q _ (hv.grown hg))
    clear hc hv hg
    go_enter Try.func124, Try.ntmps124
    go_wp2_with (first
      | (go_at_call 111; refine H.out.mono ?_; rintro e w' ⟨rfl, rfl⟩)
      | (go_at_call 112; refine HV.out.mono ?_; rintro e w' ⟨rfl, rfl⟩))
    go_ret2
    exact ⟨rfl, World.grownBy_alloc _ _ none⟩
theorem gzPull (p q : Option Addr) (a : Int) (g : Bool) (d r pp o n : Int) (w : World) (h : NoGV w p q) :
    Calls Try.prog 58 #[.pointer p, .pointer q, .int .i64 a, .agg #[.bool g, .int .i64 d, .int .i64 r, .int .i64 pp, .int .i64 o], .int .i64 n] w fun e w' => e = .returned (.tuple #[.slice none 0 0, .int .i64 7]) ∧ w.grownBy w' none := by
  have hg := World.grownBy_alloc w (.cells #[.bool g, .int .i64 d, .int .i64 r, .int .i64 pp, .int .i64 o] 104) none
  have H := hid (gzFind p q a g d r pp o n _ (h.grown hg))
  have HG := hid hg
  clear h hg
  go_enter Try.func58, Try.ntmps58
  go_wp2_with (go_at_call 124; refine H.out.mono ?_; rintro e w1 ⟨rfl, g1⟩; have G1 := hid (HG.out.trans g1); clear g1)
  go_ret2
  exact ⟨rfl, G1.out⟩
theorem gzPush (p q : Option Addr) (a : Int) (g : Bool) (d r pp o : Int) (x : Option Addr) (n k : Nat) (w : World) (h : NoGV w p q) :
    Calls Try.prog 60 #[.pointer p, .pointer q, .int .i64 a, .agg #[.bool g, .int .i64 d, .int .i64 r, .int .i64 pp, .int .i64 o], .slice x n k] w fun e w' => e = .returned (.int .i64 7) ∧ w.grownBy w' none := by
  have hg := World.grownBy_alloc w (.cells #[.bool g, .int .i64 d, .int .i64 r, .int .i64 pp, .int .i64 o] 104) none
  have H := hid (gzFind p q a g d r pp o n _ (h.grown hg))
  have HG := hid hg
  clear h hg
  go_enter Try.func60, Try.ntmps60
  go_wp2_with (go_at_call 124; refine H.out.mono ?_; rintro e w1 ⟨rfl, g1⟩; have G1 := hid (HG.out.trans g1); clear g1)
  go_ret
  exact ⟨rfl, G1.out⟩
theorem gzCopy (p q : Option Addr) (a : Int) (g : Bool) (d r pp o : Int) (g' : Bool) (d' r' pp' o' n : Int) (w : World) (h : NoGV w p q) :
    Calls Try.prog 52 #[.pointer p, .pointer q, .int .i64 a, .agg #[.bool g, .int .i64 d, .int .i64 r, .int .i64 pp, .int .i64 o], .agg #[.bool g', .int .i64 d', .int .i64 r', .int .i64 pp', .int .i64 o'], .int .i64 n] w fun e w' => e = .returned (.int .i64 7) ∧ w.grownBy w' none := by
  have hg := (World.grownBy_alloc w (.cells #[.bool g, .int .i64 d, .int .i64 r, .int .i64 pp, .int .i64 o] 104) none).trans (World.grownBy_alloc _ (.cells #[.bool g', .int .i64 d', .int .i64 r', .int .i64 pp', .int .i64 o'] 104) none)
  have H := hid (gzPull p q a g d r pp o n _ (h.grown hg))
  have HG := hid hg
  clear h hg
  go_enter Try.func52, Try.ntmps52
  go_wp2_with (go_at_call 58; refine H.out.mono ?_; rintro e w1 ⟨rfl, g1⟩; have G1 := hid (HG.out.trans g1); clear g1)
  go_ret
  exact ⟨rfl, G1.out⟩
end Go.Proofs.Ytaocnknofklmoaa

/-
  Package grant: New and the small functions.
-/
set_option linter.unusedSimpArgs false
set_option linter.unusedVariables false
namespace Go.Proofs.Ytaocnknofklmoaa
open Go.RowKit KM
set_option maxHeartbeats 2000000

theorem gNew_yes (B : Nat) (w : World) (M : Mach) (hM : PM w B M) (hn : 1 ≤ M.n) : Calls Try.prog 57 #[.pointer (some ⟨B, 0, none⟩)] w fun e w' =>
    e = .returned (.pointer (some ⟨w.heap.size + 1, 0, none⟩)) ∧ Row w' (w.heap.size + 1) 118 18 (gtop B w.heap.size (fun _ => 0) gst0) ∧ GMap w' w.heap.size 0 gst0 ∧ w.grownBy w' none := by
  have H := hid (Size_yes B M.n w hn hM.size)
  have hb : (M.n == 0) = false := by simp; omega
  have hmm := @run_makeMap Try.prog
  clear hM
  go_enter Try.func57, Try.ntmps57
  go_wp2_with (go_at_call 56; refine H.out.mono ?_; rintro e w' ⟨rfl, rfl⟩)
  go_ret
  refine ⟨by simp, ?_, (KMap.made w _ _ _ _).alloc _, (World.grownBy_alloc w _ none).trans (World.grownBy_alloc _ _ none)⟩
  have hs : (w.alloc (.map #[] 0)).heap.size = w.heap.size + 1 := by simp
  rw [← hs]
  exact Gen.Row.new (w.alloc (.map #[] 0)) _ 118 18 _ (by simp) fun k hk => by
    have : k = 0 ∨ k = 1 ∨ k = 2 ∨ k = 3 ∨ k = 4 ∨ k = 5 ∨ k = 6 ∨ k = 7 ∨ k = 8 ∨ k = 9 ∨ k = 10 ∨ k = 11 ∨ k = 12 ∨ k = 13 ∨ k = 14 ∨ k = 15 ∨ k = 16 ∨ k = 17 := by omega
    rcases this with rfl | rfl | rfl | rfl | rfl | rfl | rfl | rfl | rfl | rfl | rfl | rfl | rfl | rfl | rfl | rfl | rfl | rfl <;> rfl
theorem gIsDom_yes (d : Int) (w : World) (h : gdom d = true) : Calls Try.prog 113 #[.int .i64 d] w fun e w' => e = .returned (.bool true) ∧ w = w' := by
  obtain ⟨h0, h1⟩ := gdom_yes.1 h
  clear h
  go_enter Try.func113, Try.ntmps113
  go_wp2
  go_ret
  exact ⟨rfl, rfl⟩
theorem gIsDom_no (d : Int) (w : World) (h : gdom d = false) : Calls Try.prog 113 #[.int .i64 d] w fun e w' => e = .returned (.bool false) ∧ w = w' := by
  rcases gdom_no.1 h with h0 | h0
  · clear h
    go_enter Try.func113, Try.ntmps113
    go_wp2
    go_ret
    exact ⟨rfl, rfl⟩
  · have h1 : 0 ≤ d := by omega
    have hb : decide (d < 8) = false := by simp; omega
    clear h
    go_enter Try.func113, Try.ntmps113
    go_wp2
    go_ret
    exact ⟨rfl, rfl⟩
theorem gIsDom (d : Int) (w : World) : Calls Try.prog 113 #[.int .i64 d] w fun e w' => e = .returned (.bool (gdom d)) ∧ w = w' := by
  cases h : gdom d
  · exact gIsDom_no d w h
  · exact gIsDom_yes d w h
theorem gIsMap (b f p : Nat) (M : Mp) (T : Nat) (w : World) (h : PMap w b f p M T) : Calls Try.prog 125 #[.pointer (some ⟨b, 0, none⟩)] w fun e w' => e = .returned (.bool true) ∧ w = w' := by
  have H := hid (pFind_yes b f p M T 0 (I64.of (by omega) (by omega)) w h)
  clear h
  obtain ⟨x, hx⟩ : ∃ x, (M.findE 0).1 = x := ⟨_, rfl⟩
  obtain ⟨y, hy⟩ : ∃ y, (M.findE 0).2 = y := ⟨_, rfl⟩
  have hb : (y != 7) = true := by
    rw [← hy]; unfold Mp.findE; cases M.pl 0 <;> rfl
  rw [hx, hy] at H
  clear hx hy
  go_enter Try.func125, Try.ntmps125
  go_wp2_with (go_at_call 98; refine H.out.mono ?_; rintro e w' ⟨rfl, rfl⟩)
  go_ret
  exact ⟨rfl, rfl⟩
section
variable {w : World} {X B G : Nat} {pm : Nat → Nat × Nat × Nat} {np : Nat} {s : Gs} {T : Nat}
theorem gJoined (h : GA w X B G pm np s T) (d : Int) : Calls Try.prog 119 #[.pointer (some ⟨X, 0, none⟩), .int .i64 d] w fun e w' => e = .returned (.bool (s.g.joined d)) ∧ w = w' := by
  cases hd : gdom d with
  | false =>
    have hj : s.g.joined d = false := by simp [Gst.joined, hd]
    rw [hj]
    clear hj
    have H := hid (gIsDom_no d w hd)
    clear hd h
    go_enter Try.func119, Try.ntmps119
    go_wp2_with (go_at_call 113; refine H.out.mono ?_; rintro e w' ⟨rfl, rfl⟩)
    go_ret
    exact ⟨rfl, rfl⟩
  | true =>
    have H := hid (gIsDom_yes d w hd)
    obtain ⟨h0, h1⟩ := gdom_yes.1 hd
    obtain ⟨k, rfl⟩ : ∃ k : Nat, d = k := ⟨d.toNat, by omega⟩
    have hk : k < 8 := by omega
    have hc := h.plc hk
    have hj : s.g.joined k = (s.g.mem k).isSome := by simp [Gst.joined, hd]
    rw [hj]
    clear hj hd h
    cases hm : s.g.mem k with
    | none =>
      rw [hm] at hc
      have hc' : w.cell? ⟨X, 1 + k * 2 + 1, none⟩ = some (.pointer none) := hc
      clear hc hm
      go_enter Try.func119, Try.ntmps119
      go_wp2_with (go_at_call 113; refine H.out.mono ?_; rintro e w' ⟨rfl, rfl⟩)
      go_ret
      exact ⟨rfl, rfl⟩
    | some x =>
      obtain ⟨t, i⟩ := x
      rw [hm] at hc
      have hc' : w.cell? ⟨X, 1 + k * 2 + 1, none⟩ = some (.pointer (some ⟨(pm i).1, 0, none⟩)) := hc
      clear hc hm
      go_enter Try.func119, Try.ntmps119
      go_wp2_with (go_at_call 113; refine H.out.mono ?_; rintro e w' ⟨rfl, rfl⟩)
      go_ret
      exact ⟨rfl, rfl⟩
theorem gSlot (h : GA w X B G pm np s T) (d r : Int) : Calls Try.prog 114 #[.pointer (some ⟨X, 0, none⟩), .int .i64 d, .int .i64 r] w fun e w' => e = .returned (.bool (s.g.slot d r)) ∧ w = w' := by
  have H := hid (gJoined h d)
  clear h
  have hs : s.g.slot d r = (s.g.joined d && (decide (0 ≤ r) && decide (r < 32))) := rfl
  rw [hs]
  clear hs
  cases hj : s.g.joined d with
  | false =>
    rw [hj] at H
    clear hj
    go_enter Try.func114, Try.ntmps114
    go_wp2_with (go_at_call 119; refine H.out.mono ?_; rintro e w' ⟨rfl, rfl⟩)
    go_ret
    exact ⟨rfl, rfl⟩
  | true =>
    rw [hj] at H
    clear hj
    by_cases h0 : r < 0
    · have e : (true && (decide (0 ≤ r) && decide (r < 32))) = false := by simp; omega
      rw [e]
      clear e
      go_enter Try.func114, Try.ntmps114
      go_wp2_with (go_at_call 119; refine H.out.mono ?_; rintro e w' ⟨rfl, rfl⟩)
      go_ret
      exact ⟨rfl, rfl⟩
    · have h1 : 0 ≤ r := by omega
      by_cases h2 : r < 32
      · have e : (true && (decide (0 ≤ r) && decide (r < 32))) = true := by simp; omega
        rw [e]
        clear e
        go_enter Try.func114, Try.ntmps114
        go_wp2_with (go_at_call 119; refine H.out.mono ?_; rintro e w' ⟨rfl, rfl⟩)
        go_ret
        exact ⟨rfl, rfl⟩
      · have e : (true && (decide (0 ≤ r) && decide (r < 32))) = false := by simp; omega
        rw [e]
        clear e
        have hb : decide (r < 32) = false := by simp; omega
        go_enter Try.func114, Try.ntmps114
        go_wp2_with (go_at_call 119; refine H.out.mono ?_; rintro e w' ⟨rfl, rfl⟩)
        go_ret
        exact ⟨rfl, rfl⟩
end
theorem gKind (wr : Bool) (w : World) : Calls Try.prog 118 #[.bool wr] w fun e w' => e = .returned (.int .i64 (kindW wr)) ∧ w = w' := by
  cases wr
  · go_enter Try.func118, Try.ntmps118
    go_wp2
    go_ret
    exact ⟨rfl, rfl⟩
  · go_enter Try.func118, Try.ntmps118
    go_wp2
    go_ret
    exact ⟨rfl, rfl⟩
theorem gPageP (m : Int) (w : World) : Calls Try.prog 121 #[.int .i64 m] w fun e w' => e = .returned (.agg #[.int .i64 m, .int .i64 0, .int .i64 256]) ∧ w.grownBy w' none := by
  go_enter Try.func121, Try.ntmps121
  go_wp2
  first
    | (go_ret; exact ⟨rfl, World.grownBy.refl _ _⟩)
    | (go_returns; exact ⟨rfl, World.grownBy_alloc _ _ none⟩)
theorem gWithin (m first size off n : Int) (w : World) (h0 : 0 ≤ first) (h1 : first ≤ 256) (h2 : 0 ≤ size) (h3 : size ≤ 256) (hb : off ≤ 9223372036854775807) : Calls Try.prog 122 #[.agg #[.int .i64 m, .int .i64 first, .int .i64 size], .int .i64 off, .int .i64 n] w fun e w' =>
    e = .returned (.tuple #[.int .i64 ((⟨m, first, size, false⟩ : EndV).at off n).1, .int .i64 ((⟨m, first, size, false⟩ : EndV).at off n).2]) ∧ w.grownBy w' none := by
  by_cases ho : off < 0
  · have e : (⟨m, first, size, false⟩ : EndV).at off n = (0, 63) := by unfold EndV.at; rw [if_pos (by omega)]
    rw [e]
    clear e
    go_enter Try.func122, Try.ntmps122
    go_wp2
    go_ret2
    exact ⟨rfl, World.grownBy_alloc _ _ none⟩
  have ho' : 0 ≤ off := by omega
  by_cases hn : n < 0
  · have e : (⟨m, first, size, false⟩ : EndV).at off n = (0, 63) := by unfold EndV.at; rw [if_pos (by omega)]
    rw [e]
    clear e
    go_enter Try.func122, Try.ntmps122
    go_wp2
    go_ret2
    exact ⟨rfl, World.grownBy_alloc _ _ none⟩
  have hn' : 0 ≤ n := by omega
  by_cases hs : size - off < n
  · have e : (⟨m, first, size, false⟩ : EndV).at off n = (0, 63) := by unfold EndV.at; rw [if_pos (by simp only; omega)]
    rw [e]
    clear e
    go_enter Try.func122, Try.ntmps122
    go_wp2
    go_ret2
    exact ⟨rfl, World.grownBy_alloc _ _ none⟩
  · have e : (⟨m, first, size, false⟩ : EndV).at off n = (first + off, 0) := by unfold EndV.at; rw [if_neg (by simp only; omega)]
    rw [e]
    clear e
    have hs' : n ≤ size - off := by omega
    have hb2 : off ≤ 256 := by omega
    go_enter Try.func122, Try.ntmps122
    go_wp2
    go_ret2
    exact ⟨rfl, World.grownBy_alloc _ _ none⟩
end Go.Proofs.Ytaocnknofklmoaa

/-
  Package grant: handle, live, owns, granted, entry.
-/
set_option linter.unusedSimpArgs false
set_option linter.unusedVariables false
namespace Go.Proofs.Ytaocnknofklmoaa
open Go.RowKit KM
set_option maxHeartbeats 4000000

theorem Gst.free_spec {g : Gst} {c : Int} {h : Nat} (e : g.free c = some h) : h < 16 ∧ (∀ j : Nat, j < h → (g.mp (c, (j : Int))).isSome = true) ∧ g.mp (c, (h : Int)) = none := by
  refine ⟨Gst.free_lt e, fun j hj => ?_, Gst.free_is e⟩
  cases hm : g.mp (c, (j : Int)) with
  | some a => rfl
  | none =>
    exfalso
    have hl := Gst.free_lt e
    unfold Gst.free at e
    rw [List.find?_eq_some_iff_append] at e
    obtain ⟨_, ls, bs, hab, hno⟩ := e
    have hlen : ls.length = h := by
      have h1 : (List.range 16)[ls.length]? = some h := by rw [hab]; simp
      have h2 : ls.length < 16 := by
        have := congrArg List.length hab
        simp at this; omega
      rw [List.getElem?_range h2] at h1
      exact Option.some.inj h1
    have hmem : j ∈ ls := by
      have h1 : (List.range 16)[j]? = some j := List.getElem?_range (by omega)
      rw [hab, List.getElem?_append_left (by omega)] at h1
      exact List.mem_of_getElem? h1
    have := hno j hmem
    simp [hm] at this
theorem Gst.free_all {g : Gst} {c : Int} (e : g.free c = none) (j : Nat) (hj : j < 16) : (g.mp (c, (j : Int))).isSome = true := by
  unfold Gst.free at e
  have := List.find?_eq_none.1 e j (by simpa using hj)
  cases hm : g.mp (c, (j : Int)) <;> simp_all
theorem fit2_of {c : Int} {h : Nat} (h0 : 0 ≤ c) (h1 : c < 8) (h2 : h < 16) : fit2 (c, (h : Int)) := ⟨WalkArith.wf_i64 (by simp only; omega), WalkArith.wf_i64 (by simp only; omega)⟩
section
variable {w : World} {X B G : Nat} {pm : Nat → Nat × Nat × Nat} {np : Nat} {s : Gs} {T : Nat}
theorem gHandle_yes (h : GA w X B G pm np s T) (c : Int) (h0 : 0 ≤ c) (h1 : c < 8) (x : Nat) (hx : s.g.free c = some x) : Calls Try.prog 115 #[.pointer (some ⟨X, 0, none⟩), .int .i64 c] w fun e w' => e = .returned (.tuple #[.int .i64 x, .bool true]) ∧ w.grownBy w' none := by
  obtain ⟨hx1, hx2, hx3⟩ := Gst.free_spec hx
  have c17 := h.c17
  have H := hid h
  have HX := hid hx2
  have HN := hid hx3
  have hX := H.out.top.lt
  clear h hx hx2 hx3
  go_enter Try.func115, Try.ntmps115
  go_wp2
  go_loopw [9] (fun i wr => ∃ k : Nat, i = .int .i64 k ∧ k ≤ x ∧ w.grownBy wr none) (fun i _ => x - (intOf i).toNat)
  case atStart => exact ⟨0, rfl, by omega, World.grownBy.refl _ _⟩
  case round =>
    obtain ⟨k, rfl, hk, hg⟩ := hrel
    have c17r := hg.cell c17 (by simp)
    have HG := hid hg
    have HR := hid (H.out.grown hg).mp
    have hk0 : (0 : Int) ≤ k := by omega
    have hk16 : (k : Int) < 16 := by omega
    have HF := hid (fit2_of (h := k) h0 h1 (by omega))
    clear hg
    by_cases hlt : k < x
    · have hs := HX.out k hlt
      cases hm : s.g.mp (c, (k : Int)) with
      | none => rw [hm] at hs; cases hs
      | some a =>
        have e1 := hid (show ((s.g.mp (c, (k : Int))).map Mpd.val).getD mpd0.val = .agg #[.int .i64 a.h, .int .i64 a.c, .int .i64 a.o, .int .i64 a.r, .int .i64 a.m, .bool a.wr] by rw [hm]; rfl)
        have e2 := hid (show ((s.g.mp (c, (k : Int))).map Mpd.val).isSome = true by rw [hm]; rfl)
        clear hs hm
        go_wp2_with (at_lookup; refine wpList_look_ok_kmap _ rfl _ _ 116 rfl 198 key_ks Try.underlying116 mpd0.val (mapped_zero _) G T _ rfl HR.out (c, (k : Int)) rfl HF.out ?_; rw [e1.out, e2.out])
        go_roundw
        case rel => exact ⟨k + 1, by go_num, by omega, HG.out.trans (World.grownBy_alloc _ _ none)⟩
        case measure => simp [intOf]; omega
    · obtain rfl : k = x := by omega
      have e1 := hid (show ((s.g.mp (c, (k : Int))).map Mpd.val).getD mpd0.val = .agg #[.int .i64 0, .int .i64 0, .int .i64 0, .int .i64 0, .int .i64 0, .bool false] by rw [HN.out]; rfl)
      have e2 := hid (show ((s.g.mp (c, (k : Int))).map Mpd.val).isSome = false by rw [HN.out]; rfl)
      go_wp2_with (at_lookup; refine wpList_look_ok_kmap _ rfl _ _ 116 rfl 198 key_ks Try.underlying116 mpd0.val (mapped_zero _) G T _ rfl HR.out (c, (k : Int)) rfl HF.out ?_; rw [e1.out, e2.out])
      go_ret2
      exact ⟨rfl, HG.out.trans (World.grownBy_alloc _ _ none)⟩
theorem gHandle_no (h : GA w X B G pm np s T) (c : Int) (h0 : 0 ≤ c) (h1 : c < 8) (hx : s.g.free c = none) : Calls Try.prog 115 #[.pointer (some ⟨X, 0, none⟩), .int .i64 c] w fun e w' => e = .returned (.tuple #[.int .i64 0, .bool false]) ∧ w.grownBy w' none := by
  have c17 := h.c17
  have H := hid h
  have HX := hid (Gst.free_all hx)
  have hX := H.out.top.lt
  clear h hx
  go_enter Try.func115, Try.ntmps115
  go_wp2
  go_loopw [9] (fun i wr => ∃ k : Nat, i = .int .i64 k ∧ k ≤ 16 ∧ w.grownBy wr none) (fun i _ => 16 - (intOf i).toNat)
  case atStart => exact ⟨0, rfl, by omega, World.grownBy.refl _ _⟩
  case round =>
    obtain ⟨k, rfl, hk, hg⟩ := hrel
    have c17r := hg.cell c17 (by simp)
    have HG := hid hg
    have HR := hid (H.out.grown hg).mp
    have hk0 : (0 : Int) ≤ k := by omega
    clear hg
    by_cases hlt : k < 16
    · have hk16 : (k : Int) < 16 := by omega
      have HF := hid (fit2_of (h := k) h0 h1 (by omega))
      have hs := HX.out k hlt
      cases hm : s.g.mp (c, (k : Int)) with
      | none => rw [hm] at hs; cases hs
      | some a =>
        have e1 := hid (show ((s.g.mp (c, (k : Int))).map Mpd.val).getD mpd0.val = .agg #[.int .i64 a.h, .int .i64 a.c, .int .i64 a.o, .int .i64 a.r, .int .i64 a.m, .bool a.wr] by rw [hm]; rfl)
        have e2 := hid (show ((s.g.mp (c, (k : Int))).map Mpd.val).isSome = true by rw [hm]; rfl)
        clear hs hm
        go_wp2_with (at_lookup; refine wpList_look_ok_kmap _ rfl _ _ 116 rfl 198 key_ks Try.underlying116 mpd0.val (mapped_zero _) G T _ rfl HR.out (c, (k : Int)) rfl HF.out ?_; rw [e1.out, e2.out])
        go_roundw
        case rel => exact ⟨k + 1, by go_num, by omega, HG.out.trans (World.grownBy_alloc _ _ none)⟩
        case measure => simp [intOf]; omega
    · have hge : (16 : Int) ≤ k := by omega
      go_wp2
      go_ret2
      exact ⟨rfl, HG.out⟩
theorem gLive (h : GA w X B G pm np s T) (c x : Int) (hxw : (Lit.int .i64 x).wf = true) : Calls Try.prog 120 #[.pointer (some ⟨X, 0, none⟩), .int .i64 c, .int .i64 x] w fun e w' => e = .returned (.tuple #[(s.live c x).1.val, .int .i64 (s.live c x).2]) ∧ w.grownBy w' none := by
  have hg0 := World.grownBy_alloc w (.cells #[.int .i64 0, .int .i64 0, .int .i64 0, .int .i64 0, .int .i64 0, .bool false] 198) none
  have c0 := h.c0
  have c17 := h.c17
  have c0r := hg0.cell c0 (by simp)
  have hX := h.top.lt
  have HR := hid (h.grown hg0).mp
  have HG0 := hid hg0
  clear h hg0
  cases hd : gdom c with
  | false =>
    have hl : s.live c x = (mpd0, 1) := by unfold Gs.live; rw [hd]; rfl
    rw [hl]
    have HD := hid (fun w => gIsDom_no c w hd)
    clear hl hd
    go_enter Try.func120, Try.ntmps120
    go_wp2_with (first
      | (go_at_call 111; refine (gMade_yes X B _ c0r).mono ?_; rintro e w' ⟨rfl, rfl⟩)
      | (go_at_call 113; refine (HD.out _).mono ?_; rintro e w' ⟨rfl, rfl⟩))
    go_returns
    exact ⟨rfl, World.grownBy_alloc _ _ none⟩
  | true =>
    have HD := hid (fun w => gIsDom_yes c w hd)
    obtain ⟨h0, h1⟩ := gdom_yes.1 hd
    have HF := hid (show fit2 (c, x) from ⟨WalkArith.wf_i64 (by simp only; omega), hxw⟩)
    cases hm : s.g.mp (c, x) with
    | none =>
      have hl : s.live c x = (mpd0, 6) := by unfold Gs.live; rw [hd, hm]; rfl
      rw [hl]
      have e1 := hid (show ((s.g.mp (c, x)).map Mpd.val).getD mpd0.val = .agg #[.int .i64 0, .int .i64 0, .int .i64 0, .int .i64 0, .int .i64 0, .bool false] by rw [hm]; rfl)
      have e2 := hid (show ((s.g.mp (c, x)).map Mpd.val).isSome = false by rw [hm]; rfl)
      clear hl hd hm
      go_enter Try.func120, Try.ntmps120
      go_wp2_with (first
        | (go_at_call 111; refine (gMade_yes X B _ c0r).mono ?_; rintro e w' ⟨rfl, rfl⟩)
        | (go_at_call 113; refine (HD.out _).mono ?_; rintro e w' ⟨rfl, rfl⟩)
        | (at_lookup; refine wpList_look_ok_kmap _ rfl _ _ 116 rfl 198 key_ks Try.underlying116 mpd0.val (mapped_zero _) G T _ rfl HR.out (c, x) rfl HF.out ?_; rw [e1.out, e2.out]))
      go_returns
      exact ⟨rfl, HG0.out.trans (World.grownBy_alloc _ _ none)⟩
    | some a =>
      have hl : s.live c x = (a, 0) := by unfold Gs.live; rw [hd, hm]; rfl
      rw [hl]
      have e1 := hid (show ((s.g.mp (c, x)).map Mpd.val).getD mpd0.val = .agg #[.int .i64 a.h, .int .i64 a.c, .int .i64 a.o, .int .i64 a.r, .int .i64 a.m, .bool a.wr] by rw [hm]; rfl)
      have e2 := hid (show ((s.g.mp (c, x)).map Mpd.val).isSome = true by rw [hm]; rfl)
      clear hl hd hm
      have hv : a.val = .agg #[.int .i64 a.h, .int .i64 a.c, .int .i64 a.o, .int .i64 a.r, .int .i64 a.m, .bool a.wr] := rfl
      show Calls _ _ _ _ fun e w' => e = .returned (.tuple #[a.val, .int .i64 0]) ∧ _
      rw [hv]
      clear hv
      go_enter Try.func120, Try.ntmps120
      go_wp2_with (first
        | (go_at_call 111; refine (gMade_yes X B _ c0r).mono ?_; rintro e w' ⟨rfl, rfl⟩)
        | (go_at_call 113; refine (HD.out _).mono ?_; rintro e w' ⟨rfl, rfl⟩)
        | (at_lookup; refine wpList_look_ok_kmap _ rfl _ _ 116 rfl 198 key_ks Try.underlying116 mpd0.val (mapped_zero _) G T _ rfl HR.out (c, x) rfl HF.out ?_; rw [e1.out, e2.out]))
      go_returns
      exact ⟨rfl, (World.grownBy_alloc _ _ none).trans (World.grownBy_alloc _ _ none)⟩
theorem gOwns (h : GA w X B G pm np s T) {K : Int} (hok : s.M.ok K) (d m : Int) : Calls Try.prog 126 #[.pointer (some ⟨X, 0, none⟩), .int .i64 d, .int .i64 m] w fun e w' => e = .returned (.bool (s.owns d m)) ∧ w.grownBy w' none := by
  have c0 := h.c0
  cases hi : s.M.is m with
  | false =>
    have ho : s.owns d m = false := by simp [Gs.owns, hi]
    rw [ho]
    have H := hid (Frame_no B m w s.M K h.m hok (by have := hi; simp only [Mach.is, Bool.and_eq_false_iff, decide_eq_false_iff_not] at this; omega))
    clear ho hi h hok
    go_enter Try.func126, Try.ntmps126
    go_wp2_with (go_at_call 54; refine H.out.mono ?_; rintro e w1 ⟨rfl, g1⟩; have G1 := hid g1; clear g1)
    go_ret
    exact ⟨rfl, G1.out.trans (World.grownBy_alloc _ _ none)⟩
  | true =>
    obtain ⟨h0, h1⟩ := Mach.is_iff.1 hi
    obtain ⟨k, rfl⟩ : ∃ k : Nat, m = k := ⟨m.toNat, by omega⟩
    have ho : s.owns d k = ((s.M.fr k).owner == d) := by simp [Gs.owns, hi]
    rw [ho]
    have H := hid (Frame_yes B k w s.M K h.m hok h1)
    simp only [Fr.head] at H
    clear ho hi h hok
    cases hb : (s.M.fr k).owner == d
    · go_enter Try.func126, Try.ntmps126
      go_wp2_with (go_at_call 54; refine H.out.mono ?_; rintro e w1 ⟨rfl, g1⟩; have G1 := hid g1; clear g1)
      go_ret
      exact ⟨rfl, G1.out.trans (World.grownBy_alloc _ _ none)⟩
    · go_enter Try.func126, Try.ntmps126
      go_wp2_with (go_at_call 54; refine H.out.mono ?_; rintro e w1 ⟨rfl, g1⟩; have G1 := hid g1; clear g1)
      go_ret
      exact ⟨rfl, G1.out.trans (World.grownBy_alloc _ _ none)⟩
end
end Go.Proofs.Ytaocnknofklmoaa

/-
  Package grant: granted, entry; Join, Leave.
-/
set_option linter.unusedSimpArgs false
set_option linter.unusedVariables false
namespace Go.Proofs.Ytaocnknofklmoaa
open Go.RowKit KM
set_option maxHeartbeats 4000000
set_option maxRecDepth 100000

theorem Mach.get_fail {M : Mach} {i o k : Int} (h : (M.get i o k).1 ≠ 0) : (M.get i o k).2 = M := by
  unfold Mach.get Mach.take at h ⊢
  split; · rfl
  split; · rfl
  split; · rfl
  split; · rfl
  rename_i h1 h2 h3 h4
  rw [if_neg h1, if_neg h2, if_neg h3, if_neg h4] at h
  split
  · rfl
  · rename_i h5
    rw [if_neg h5] at h
    exact absurd rfl h
theorem Mach.put_n (M : Mach) (i k : Int) : (M.put i k).2.n = M.n := by unfold Mach.put Mach.drop; (repeat' split) <;> rfl
theorem Mach.get_n (M : Mach) (i o k : Int) : (M.get i o k).2.n = M.n := by unfold Mach.get Mach.take; (repeat' split) <;> rfl
/-- what a call leaves -/
structure GL (w : World) (X B G : Nat) (pm : Nat → Nat × Nat × Nat) (np : Nat) (s' : Gs) (T' : Nat) (w' : World) : Prop where
  a : GA w' X B G pm np s' T'
  c : Chg (gfoot X B G pm np) w w'
def Gs.grE (s : Gs) (o p : Int) : Int × Int := match s.granted o p with | some m => (m, 0) | none => (0, 60)
section
variable {w : World} {X B G : Nat} {pm : Nat → Nat × Nat × Nat} {np : Nat} {s : Gs} {T : Nat}
theorem GL.same (h : GA w X B G pm np s T) : GL w X B G pm np s T w := ⟨h, Chg.refl _ _⟩
theorem GL.grow (h : GA w X B G pm np s T) {w' : World} (hg : w.grownBy w' none) : GL w X B G pm np s T w' := ⟨h.grown hg, Chg.of0 hg⟩
theorem gGranted (h : GA w X B G pm np s T) {K : Int} (hok : s.M.ok K) (o : Nat) (ho : o < 8) (t : Int) (i : Nat) (hm : s.g.mem o = some (t, i)) (hi : i < np) (k : Int) (ro sub : Bool) (dom p off ln : Int) (hp : I64 p) :
    Calls Try.prog 117 #[.pointer (some ⟨X, 0, none⟩), .int .i64 o, .agg #[.int .i64 k, .bool ro, .bool sub, .int .i64 dom, .int .i64 p, .int .i64 off, .int .i64 ln]] w fun e w' =>
      e = .returned (.tuple #[.int .i64 (s.grE o p).1, .int .i64 (s.grE o p).2]) ∧ w.grownBy w' none := by
  obtain ⟨W, hW⟩ : ∃ W, w.alloc (.cells #[.int .i64 k, .bool ro, .bool sub, .int .i64 dom, .int .i64 p, .int .i64 off, .int .i64 ln] 73) = W := ⟨_, rfl⟩
  have hg : w.grownBy W none := hW ▸ World.grownBy_alloc _ _ none
  have hA := h.grown hg
  have c1 : W.cell? ⟨X, 1 + o * 2 + 1, none⟩ = some (.pointer (some ⟨(pm i).1, 0, none⟩)) := by have := hA.plc ho; rw [hm] at this; exact this
  have c4 : W.cell? ⟨w.heap.size, 4, none⟩ = some (.int .i64 p) := by rw [← hW]; simp [go_sem]
  have HP := hid (fun w' (hg' : W.grownBy w' none) => pGet_yes (pm i).1 (pm i).2.1 (pm i).2.2 (s.P i) T p hp w' ((hA.grown hg').p i hi))
  have HO := hid (fun w' m (hg' : W.grownBy w' none) => gOwns (hA.grown hg') hok o m)
  have ho0 : (0 : Int) ≤ o := by omega
  have ho8 : (o : Int) < 8 := by omega
  have HG := hid hg
  have hgr : s.granted o p = if ((s.P i).getE p).2 = 0 ∧ s.owns o ((s.P i).getE p).1 = true then some ((s.P i).getE p).1 else none := by
    unfold Gs.granted
    rw [Int.toNat_natCast, hm]
  obtain ⟨m, hm1⟩ : ∃ m, ((s.P i).getE p).1 = m := ⟨_, rfl⟩
  obtain ⟨e, he⟩ : ∃ e, ((s.P i).getE p).2 = e := ⟨_, rfl⟩
  rw [hm1, he] at HP hgr
  clear h hok hA hg hm hp hm1 he
  by_cases he0 : e = 0
  · subst he0
    cases hw : s.owns o m with
    | true =>
      have e1 : s.grE o p = (m, 0) := by unfold Gs.grE; rw [hgr, if_pos ⟨rfl, hw⟩]
      rw [e1]
      have HW := hid hw
      clear hgr e1 hw
      go_enter Try.func117, Try.ntmps117
      go_wp2_with fail
      go_quiet ((go_at_call 94; refine Calls.quiet_of_same (v := .tuple #[.int .i64 m, .int .i64 0]) ((HP.out _ (grownBy_drewN _ _ none)).mono ?_); rintro ex w' ⟨rfl, rfl⟩; exact ⟨rfl, rfl⟩))
      go_wp2_with (go_at_call 126; refine (HO.out _ _ (grownBy_drewN _ _ none)).mono ?_; rw [HW.out]; rintro e w1 ⟨rfl, g1⟩; have G1 := hid (HG.out.trans ((grownBy_drewN _ _ none).trans g1)); clear g1)
      go_ret2
      exact ⟨rfl, G1.out⟩
    | false =>
      have e1 : s.grE o p = (0, 60) := by unfold Gs.grE; rw [hgr, if_neg (by rw [hw]; simp)]
      rw [e1]
      have HW := hid hw
      clear hgr e1 hw
      go_enter Try.func117, Try.ntmps117
      go_wp2_with fail
      go_quiet ((go_at_call 94; refine Calls.quiet_of_same (v := .tuple #[.int .i64 m, .int .i64 0]) ((HP.out _ (grownBy_drewN _ _ none)).mono ?_); rintro ex w' ⟨rfl, rfl⟩; exact ⟨rfl, rfl⟩))
      go_wp2_with (go_at_call 126; refine (HO.out _ _ (grownBy_drewN _ _ none)).mono ?_; rw [HW.out]; rintro e w1 ⟨rfl, g1⟩; have G1 := hid (HG.out.trans ((grownBy_drewN _ _ none).trans g1)); clear g1)
      go_ret2
      exact ⟨rfl, G1.out⟩
  · have e1 : s.grE o p = (0, 60) := by unfold Gs.grE; rw [hgr, if_neg (fun h => he0 h.1)]
    rw [e1]
    have hb : (e != 0) = true := by simpa using he0
    clear hgr e1 he0
    go_enter Try.func117, Try.ntmps117
    go_wp2_with fail
    go_quiet ((go_at_call 94; refine Calls.quiet_of_same (v := .tuple #[.int .i64 m, .int .i64 e]) ((HP.out _ (grownBy_drewN _ _ none)).mono ?_); rintro ex w' ⟨rfl, rfl⟩; exact ⟨rfl, rfl⟩))
    go_wp2
    go_ret2
    exact ⟨rfl, HG.out.trans (grownBy_drewN _ _ none)⟩
theorem gLeave (h : GA w X B G pm np s T) {K : Int} (hok : s.M.ok K) (hK : K < 9223372036854775807) (d : Int) :
    Calls Try.prog 46 #[.pointer (some ⟨X, 0, none⟩), .int .i64 d] w fun e w' => e = .returned (.int .i64 (s.leave d).1) ∧ GL w X B G pm np (s.leave d).2 T w' := by
  have c0 := h.c0
  have HJ := hid (gJoined h d)
  cases hd : gdom d with
  | false =>
    have e1 : s.leave d = (1, s) := by unfold Gs.leave; rw [if_pos hd]
    rw [e1]
    have HD := hid (gIsDom_no d w hd)
    have HL := hid (GL.same h)
    clear h hok hd e1
    go_enter Try.func46, Try.ntmps46
    go_wp2_with (first
      | (go_at_call 111; refine (gMade_yes X B _ c0).mono ?_; rintro e w' ⟨rfl, rfl⟩)
      | (go_at_call 113; refine HD.out.mono ?_; rintro e w' ⟨rfl, rfl⟩))
    go_ret
    exact ⟨rfl, HL.out⟩
  | true =>
    have HD := hid (gIsDom_yes d w hd)
    obtain ⟨h0, h1⟩ := gdom_yes.1 hd
    obtain ⟨k, rfl⟩ : ∃ k : Nat, d = k := ⟨d.toNat, by omega⟩
    have hk : k < 8 := by omega
    have hj : s.g.joined k = (s.g.mem k).isSome := by simp [Gst.joined, hd]
    rw [hj] at HJ
    cases hm : s.g.mem k with
    | none =>
      have e1 : s.leave k = (6, s) := by unfold Gs.leave; rw [if_neg (by rw [hd]; simp), Int.toNat_natCast, hm]
      rw [e1]
      rw [hm] at HJ
      have HL := hid (GL.same h)
      clear h hok hd e1 hm hj
      go_enter Try.func46, Try.ntmps46
      go_wp2_with (first
        | (go_at_call 111; refine (gMade_yes X B _ c0).mono ?_; rintro e w' ⟨rfl, rfl⟩)
        | (go_at_call 113; refine HD.out.mono ?_; rintro e w' ⟨rfl, rfl⟩)
        | (go_at_call 119; refine HJ.out.mono ?_; simp only [Option.isSome_none]; rintro e w' ⟨rfl, rfl⟩))
      go_ret
      exact ⟨rfl, HL.out⟩
    | some x =>
      obtain ⟨t, i⟩ := x
      have e1 : s.leave k = (0, ⟨(s.M.put t 1).2, s.P, s.g.setMem k none⟩) := by unfold Gs.leave; rw [if_neg (by rw [hd]; simp), Int.toNat_natCast, hm]
      rw [e1]
      rw [hm] at HJ
      have c1 : w.cell? ⟨X, 1 + k * 2, none⟩ = some (.int .i64 t) := by have := h.tbl hk; rw [hm] at this; exact this
      have HP := hid (Put_any B t 1 w.drew s.M K h.m.drew hok hK)
      have HA := hid h
      have HK := hid hk
      have hX := h.top.lt
      clear h hok hd e1 hm hj
      go_enter Try.func46, Try.ntmps46
      go_wp2_with (first
        | (go_at_call 111; refine (gMade_yes X B _ c0).mono ?_; rintro e w' ⟨rfl, rfl⟩)
        | (go_at_call 113; refine HD.out.mono ?_; rintro e w' ⟨rfl, rfl⟩)
        | (go_at_call 119; refine HJ.out.mono ?_; simp only [Option.isSome_some]; rintro e w' ⟨rfl, rfl⟩))
      go_still_tail 11, (by kernel_rfl)
      change wpList _ _ _ _ _ w.drew
      go_wp2_with (go_at_call 77; refine HP.out.mono ?_; rintro e w3 ⟨rfl, h3, g3⟩; have HA3 := hid (HA.out.mach h3 ((grownBy_drew w _).trans g3)); have G3 := hid ((grownBy_drew w (some B)).trans g3); have d1 := HA3.out.tbl HK.out; have d2 := HA3.out.plc HK.out; have f1 := HA3.out.top.frozen (1 + k * 2); have f2 := HA3.out.top.frozen (1 + k * 2 + 1); clear h3 g3)
      go_ret
      have hm3 := HA3.out.member HK.out none
      refine ⟨rfl, hm3, ?_⟩
      have q1 := (grownBy_setCell w3 X (1 + k * 2) none (.int .i64 0)).trans (grownBy_setCell _ X (1 + k * 2 + 1) none (.pointer none))
      exact (Chg.of (S := gfoot X B G pm np) G3.out fun j e => .inl (.inr (.inl (Option.some.inj e).symm))).trans (Chg.of (S := gfoot X B G pm np) q1 fun j e => .inl (.inl (Option.some.inj e).symm)) fun _ e => .inl e
theorem gJoin (h : GA w X B G pm np s T) {K : Int} (hok : s.M.ok K) (hK : K < 9223372036854775807) (d mfn : Int) (i : Nat) (hi : i < np) :
    Calls Try.prog 59 #[.pointer (some ⟨X, 0, none⟩), .int .i64 d, .int .i64 mfn, .pointer (some ⟨(pm i).1, 0, none⟩)] w fun e w' => e = .returned (.int .i64 (s.join d mfn i).1) ∧ GL w X B G pm np (s.join d mfn i).2 T w' := by
  have c0 := h.c0
  have HJ := hid (gJoined h d)
  have HM := hid (gIsMap _ _ _ _ _ w (h.p i hi))
  cases hd : gdom d with
  | false =>
    have e1 : s.join d mfn i = (1, s) := by unfold Gs.join; rw [if_pos hd]
    rw [e1]
    have HD := hid (gIsDom_no d w hd)
    have HL := hid (GL.same h)
    clear h hok hd e1
    go_enter Try.func59, Try.ntmps59
    go_wp2_with (first
      | (go_at_call 111; refine (gMade_yes X B _ c0).mono ?_; rintro e w' ⟨rfl, rfl⟩)
      | (go_at_call 113; refine HD.out.mono ?_; rintro e w' ⟨rfl, rfl⟩))
    go_ret
    exact ⟨rfl, HL.out⟩
  | true =>
    have HD := hid (gIsDom_yes d w hd)
    obtain ⟨h0, h1⟩ := gdom_yes.1 hd
    obtain ⟨k, rfl⟩ : ∃ k : Nat, d = k := ⟨d.toNat, by omega⟩
    have hk : k < 8 := by omega
    have hj : s.g.joined k = (s.g.mem k).isSome := by simp [Gst.joined, hd]
    rw [hj] at HJ
    cases hm : s.g.mem k with
    | some x =>
      have e1 : s.join k mfn i = (8, s) := by unfold Gs.join; rw [if_neg (by rw [hd]; simp), Int.toNat_natCast, hm]; rfl
      rw [e1]
      rw [hm] at HJ
      have HL := hid (GL.same h)
      clear h hok hd e1 hm hj
      go_enter Try.func59, Try.ntmps59
      go_wp2_with (first
        | (go_at_call 111; refine (gMade_yes X B _ c0).mono ?_; rintro e w' ⟨rfl, rfl⟩)
        | (go_at_call 113; refine HD.out.mono ?_; rintro e w' ⟨rfl, rfl⟩)
        | (go_at_call 125; refine HM.out.mono ?_; rintro e w' ⟨rfl, rfl⟩)
        | (go_at_call 119; refine HJ.out.mono ?_; simp only [Option.isSome_some]; rintro e w' ⟨rfl, rfl⟩))
      go_ret
      exact ⟨rfl, HL.out⟩
    | none =>
      rw [hm] at HJ
      obtain ⟨r, hr⟩ : ∃ r, (s.M.get mfn k 1).1 = r := ⟨_, rfl⟩
      have HP := hid (Get_any B mfn k 1 w s.M K h.m hok hK)
      rw [hr] at HP
      have HA := hid h
      have HK := hid hk
      have hX := h.top.lt
      by_cases hr0 : r = 0
      · subst hr0
        have e1 : s.join k mfn i = (0, ⟨(s.M.get mfn k 1).2, s.P, s.g.setMem k (some (mfn, i))⟩) := by unfold Gs.join; rw [if_neg (by rw [hd]; simp), Int.toNat_natCast, hm, if_neg (by simp), if_pos hr]
        rw [e1]
        clear h hok hd e1 hm hj hr
        go_enter Try.func59, Try.ntmps59
        go_wp2_with (first
          | (go_at_call 111; refine (gMade_yes X B _ c0).mono ?_; rintro e w' ⟨rfl, rfl⟩)
          | (go_at_call 113; refine HD.out.mono ?_; rintro e w' ⟨rfl, rfl⟩)
          | (go_at_call 125; refine HM.out.mono ?_; rintro e w' ⟨rfl, rfl⟩)
          | (go_at_call 119; refine HJ.out.mono ?_; simp only [Option.isSome_none]; rintro e w' ⟨rfl, rfl⟩)
          | (go_at_call 75; refine HP.out.mono ?_; rintro e w3 ⟨rfl, h3, g3⟩; have HA3 := hid (HA.out.mach h3 g3); have G3 := hid g3; have d1 := HA3.out.tbl HK.out; have d2 := HA3.out.plc HK.out; have f1 := HA3.out.top.frozen (1 + k * 2); have f2 := HA3.out.top.frozen (1 + k * 2 + 1); clear h3 g3))
        go_ret
        have hm3 := HA3.out.member HK.out (some (mfn, i))
        refine ⟨rfl, hm3, ?_⟩
        have q1 := (grownBy_setCell w3 X (1 + k * 2) none (.int .i64 mfn)).trans (grownBy_setCell _ X (1 + k * 2 + 1) none (.pointer (some ⟨(pm i).1, 0, none⟩)))
        exact (Chg.of (S := gfoot X B G pm np) G3.out fun j e => .inl (.inr (.inl (Option.some.inj e).symm))).trans (Chg.of (S := gfoot X B G pm np) q1 fun j e => .inl (.inl (Option.some.inj e).symm)) fun _ e => .inl e
      · have e1 : s.join k mfn i = (r, s) := by unfold Gs.join; rw [if_neg (by rw [hd]; simp), Int.toNat_natCast, hm, if_neg (by simp), hr, if_neg hr0]
        rw [e1]
        have hf : (s.M.get mfn k 1).2 = s.M := Mach.get_fail (by rw [hr]; exact hr0)
        rw [hf] at HP
        have hb : (r != 0) = true := by simpa using hr0
        clear h hok hd e1 hm hj hr hf hr0
        go_enter Try.func59, Try.ntmps59
        go_wp2_with (first
          | (go_at_call 111; refine (gMade_yes X B _ c0).mono ?_; rintro e w' ⟨rfl, rfl⟩)
          | (go_at_call 113; refine HD.out.mono ?_; rintro e w' ⟨rfl, rfl⟩)
          | (go_at_call 125; refine HM.out.mono ?_; rintro e w' ⟨rfl, rfl⟩)
          | (go_at_call 119; refine HJ.out.mono ?_; simp only [Option.isSome_none]; rintro e w' ⟨rfl, rfl⟩)
          | (go_at_call 75; refine HP.out.mono ?_; rintro e w3 ⟨rfl, h3, g3⟩; have HA3 := hid (HA.out.mach h3 g3); have G3 := hid g3; clear h3 g3))
        go_ret
        exact ⟨rfl, HA3.out, Chg.of G3.out fun j e => .inl (.inr (.inl (Option.some.inj e).symm))⟩
end
end Go.Proofs.Ytaocnknofklmoaa
