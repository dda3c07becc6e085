/-
  The back end of a ring as plain functions on the machine and its own numbers. No walk here.
-/
import Derived.Test.YtgnihllnjaagcaaVSpec
import Derived.Test.YtgnihllnjaagcaaViewE
import Derived.WalkSpells
import Derived.Deep.QuietTactic
import Derived.Deep.RegionHeld3
import Derived.BigQuiet
import Derived.Handy
import Derived.Deep.MidRow
import Derived.Test.YtgnihllnjaagcaaVRefE
import Derived.Test.YtgnihllnjaagcaaBg
import Derived.Test.YtgnihllnjaagcaaPhysK
import Derived.Test.YtgnihllnjaagcaaRefJ
set_option linter.unusedSimpArgs false
set_option linter.unusedVariables false
namespace Go.Proofs.Ytgnihllnjaagcaa
open Go.RowKit

theorem wrap16 (n : Int) : IntKind.u16.wrap n = n % 65536 := by simp [IntKind.wrap, IntKind.bits, IntKind.signed]

/-- a back end's own numbers -/
structure Rg where
  mfn : Int
  tk : Int
  ld : Int
  sn : Int
def ringAhead (index taken : Int) : Int × Bool := if 8 < IntKind.u16.wrap (index - taken) then (8, true) else (IntKind.u16.wrap (index - taken), false)
def Rg.wait (g : Rg) : Int := IntKind.u16.wrap (g.sn - g.tk)
def Rg.opn (g : Rg) : Int := IntKind.u16.wrap (g.tk - g.ld)
structure Rg.ok (g : Rg) : Prop where
  t0 : 0 ≤ g.tk
  t1 : g.tk ≤ 65535
  l0 : 0 ≤ g.ld
  l1 : g.ld ≤ 65535
  s0 : 0 ≤ g.sn
  s1 : g.sn ≤ 65535
  w : g.wait ≤ 8
  o : g.opn ≤ 8
def Rg.new (mfn : Int) : Rg := ⟨mfn, 0, 0, 0⟩
theorem Rg.new_ok (mfn : Int) : (Rg.new mfn).ok := ⟨by show (0 : Int) ≤ 0; decide, by show (0 : Int) ≤ 65535; decide, by show (0 : Int) ≤ 0; decide, by show (0 : Int) ≤ 65535; decide, by show (0 : Int) ≤ 0; decide, by show (0 : Int) ≤ 65535; decide, by show IntKind.u16.wrap (0 - 0) ≤ 8; rw [wrap16]; decide, by show IntKind.u16.wrap (0 - 0) ≤ 8; rw [wrap16]; decide⟩
theorem Rg.wait_ge (g : Rg) : 0 ≤ g.wait := by unfold Rg.wait; rw [wrap16]; omega
theorem Rg.opn_ge (g : Rg) : 0 ≤ g.opn := by unfold Rg.opn; rw [wrap16]; omega
theorem ringAhead_in (i t : Int) : 0 ≤ (ringAhead i t).1 ∧ (ringAhead i t).1 ≤ 8 := by
  unfold ringAhead
  have h : 0 ≤ IntKind.u16.wrap (i - t) := by rw [wrap16]; omega
  split
  · exact ⟨by decide, by decide⟩
  · exact ⟨h, by simp only; omega⟩
/-- Look: what it answers to what was read of the index, and the numbers behind it -/
def Rg.look (g : Rg) (r : List UInt8 × Int) : Int × Bool × Int × Rg :=
  if r.2 = 0 then ((ringAhead (wordOf r) g.tk).1, (ringAhead (wordOf r) g.tk).2, 0, { g with sn := IntKind.u16.wrap (g.tk + (ringAhead (wordOf r) g.tk).1) }) else (0, false, r.2, g)
theorem Rg.look_ok {g : Rg} (h : g.ok) (r : List UInt8 × Int) : (g.look r).2.2.2.ok := by
  unfold Rg.look
  split
  · obtain ⟨a, b⟩ := ringAhead_in (wordOf r) g.tk
    have := h.t0; have := h.t1
    refine ⟨h.t0, h.t1, h.l0, h.l1, ?_, ?_, ?_, h.o⟩
    · show 0 ≤ IntKind.u16.wrap _; rw [wrap16]; omega
    · show IntKind.u16.wrap _ ≤ 65535; rw [wrap16]; omega
    · show IntKind.u16.wrap (IntKind.u16.wrap _ - g.tk) ≤ 8; rw [wrap16, wrap16]; omega
  · exact h
theorem Rg.look_same (g : Rg) (r : List UInt8 × Int) : (g.look r).2.2.2.mfn = g.mfn ∧ (g.look r).2.2.2.tk = g.tk ∧ (g.look r).2.2.2.ld = g.ld := by
  unfold Rg.look; split <;> exact ⟨rfl, rfl, rfl⟩
/-- may one be taken? -/
def Rg.can (g : Rg) : Bool := (g.wait != 0) && (g.opn != 8)
theorem Rg.can_no {g : Rg} (h : g.can = false) : g.wait = 0 ∨ (g.wait ≠ 0 ∧ g.opn = 8) := by
  unfold Rg.can at h
  by_cases e : g.wait = 0
  · exact .inl e
  · exact .inr ⟨e, by simpa [e] using h⟩
theorem Rg.can_yes {g : Rg} (h : g.can = true) : g.wait ≠ 0 ∧ g.opn ≠ 8 := by simpa [Rg.can] using h
def Rg.took (g : Rg) : Rg := { g with tk := IntKind.u16.wrap (g.tk + 1) }
theorem Rg.took_ok {g : Rg} (h : g.ok) (hc : g.can = true) : g.took.ok := by
  obtain ⟨h1, h2⟩ := Rg.can_yes hc
  have := h.t0; have := h.t1; have := h.l0; have := h.l1; have := h.s0; have := h.s1
  have hw := h.w; have ho := h.o
  unfold Rg.wait at h1 hw
  unfold Rg.opn at h2 ho
  rw [wrap16] at h1 hw h2 ho
  refine ⟨?_, ?_, h.l0, h.l1, h.s0, h.s1, ?_, ?_⟩
  · show 0 ≤ IntKind.u16.wrap _; rw [wrap16]; omega
  · show IntKind.u16.wrap _ ≤ 65535; rw [wrap16]; omega
  · show IntKind.u16.wrap (g.sn - IntKind.u16.wrap _) ≤ 8; rw [wrap16, wrap16]; omega
  · show IntKind.u16.wrap (IntKind.u16.wrap _ - g.ld) ≤ 8; rw [wrap16, wrap16]; omega
/-- where the next request stands, the next response -/
def Rg.reqAt (g : Rg) : Int := 16 + 16 * (g.tk % 8)
def Rg.rspAt (g : Rg) : Int := 144 + 8 * (g.ld % 8)
def two16 (n : Int) : List UInt8 := [UInt8.ofNat (n.toNat % 256), UInt8.ofNat (n.toNat / 256)]
theorem two16_len (n : Int) : (two16 n).length = 2 := rfl
def Rg.laid (g : Rg) : Rg := { g with ld := IntKind.u16.wrap (g.ld + 1) }
theorem Rg.laid_ok {g : Rg} (h : g.ok) (hc : g.opn ≠ 0) : g.laid.ok := by
  have := h.t0; have := h.t1; have := h.l0; have := h.l1
  have ho := h.o
  unfold Rg.opn at hc ho
  rw [wrap16] at hc ho
  refine ⟨h.t0, h.t1, ?_, ?_, h.s0, h.s1, h.w, ?_⟩
  · show 0 ≤ IntKind.u16.wrap _; rw [wrap16]; omega
  · show IntKind.u16.wrap _ ≤ 65535; rw [wrap16]; omega
  · show IntKind.u16.wrap (g.tk - IntKind.u16.wrap _) ≤ 8; rw [wrap16, wrap16]; omega
/-- Answer: what it answers, the machine and the numbers behind it -/
def Rg.answer (g : Rg) (M : Mach) (l : List UInt8) : Int × Mach × Rg :=
  if l.length ≠ 8 then (1, M, g) else if g.opn = 0 then (5, M, g) else
  (0, ((M.write g.mfn g.rspAt l).2.write g.mfn 2 (two16 g.laid.ld)).2, g.laid)
theorem Rg.answer_ok {g : Rg} (h : g.ok) (M : Mach) (l : List UInt8) : (g.answer M l).2.2.ok := by
  unfold Rg.answer
  split
  · exact h
  split
  · exact h
  · rename_i e; exact Rg.laid_ok h e
theorem Rg.answer_mok {g : Rg} {M : Mach} {X : Int} (h : M.ok X) (l : List UInt8) : (g.answer M l).2.1.ok X := by
  unfold Rg.answer
  split
  · exact h
  split
  · exact h
  · exact Mach.write_ok (Mach.write_ok h _ _ _) _ _ _
theorem Rg.answer_mfn (g : Rg) (M : Mach) (l : List UInt8) : (g.answer M l).2.2.mfn = g.mfn := by
  unfold Rg.answer; split; rfl; split <;> rfl
end Go.Proofs.Ytgnihllnjaagcaa

/-
  Package ring: contracts of the back end's small functions.
-/
set_option linter.unusedSimpArgs false
set_option linter.unusedVariables false
namespace Go.Proofs.Ytgnihllnjaagcaa
open Go.RowKit
set_option maxHeartbeats 1000000

/-- a back end's cells -/
def Rg.cell (g : Rg) : Nat → Value
  | 0 => .int .i64 g.mfn
  | 1 => .int .u16 g.tk
  | 2 => .int .u16 g.ld
  | 3 => .bool true
  | _ => .int .u16 g.sn
def RB (w : World) (K : Nat) (g : Rg) : Prop := Row w K 99 5 g.cell
theorem RB.lt {w : World} {K : Nat} {g : Rg} (h : RB w K g) : K < w.heap.size := Row.lt h
theorem RB.c0 {w : World} {K : Nat} {g : Rg} (h : RB w K g) : w.cell? ⟨K, 0, none⟩ = some (.int .i64 g.mfn) := Row.cell h (k := 0) (by omega)
theorem RB.c1 {w : World} {K : Nat} {g : Rg} (h : RB w K g) : w.cell? ⟨K, 1, none⟩ = some (.int .u16 g.tk) := Row.cell h (k := 1) (by omega)
theorem RB.c2 {w : World} {K : Nat} {g : Rg} (h : RB w K g) : w.cell? ⟨K, 2, none⟩ = some (.int .u16 g.ld) := Row.cell h (k := 2) (by omega)
theorem RB.c3 {w : World} {K : Nat} {g : Rg} (h : RB w K g) : w.cell? ⟨K, 3, none⟩ = some (.bool true) := Row.cell h (k := 3) (by omega)
theorem RB.c4 {w : World} {K : Nat} {g : Rg} (h : RB w K g) : w.cell? ⟨K, 4, none⟩ = some (.int .u16 g.sn) := Row.cell h (k := 4) (by omega)
theorem RB.chg {S : Nat → Prop} {w w' : World} {K : Nat} {g : Rg} (h : RB w K g) (hc : Chg S w w') (hb : ¬ S K) : RB w' K g := Row.chg h hc hb
theorem RB.grown {w w' : World} {K : Nat} {g : Rg} {row : Option Nat} (h : RB w K g) (hg : w.grownBy w' row) (hr : some K ≠ row) : RB w' K g := Row.grown h hg hr
theorem RB.setTk {w : World} {K : Nat} {g : Rg} (h : RB w K g) (x : Int) : RB (w.setCell ⟨K, 1, none⟩ (.int .u16 x)) K { g with tk := x } := Row.set h (k := 1) rfl fun j hj hne => by
  match j, hj, hne with
  | 0, _, _ => rfl
  | 1, _, hne => exact absurd rfl hne
  | 2, _, _ => rfl
  | 3, _, _ => rfl
  | 4, _, _ => rfl
theorem RB.setLd {w : World} {K : Nat} {g : Rg} (h : RB w K g) (x : Int) : RB (w.setCell ⟨K, 2, none⟩ (.int .u16 x)) K { g with ld := x } := Row.set h (k := 2) rfl fun j hj hne => by
  match j, hj, hne with
  | 0, _, _ => rfl
  | 1, _, _ => rfl
  | 2, _, hne => exact absurd rfl hne
  | 3, _, _ => rfl
  | 4, _, _ => rfl
theorem RB.setSn {w : World} {K : Nat} {g : Rg} (h : RB w K g) (x : Int) : RB (w.setCell ⟨K, 4, none⟩ (.int .u16 x)) K { g with sn := x } := Row.set h (k := 4) rfl fun j hj hne => by
  match j, hj, hne with
  | 0, _, _ => rfl
  | 1, _, _ => rfl
  | 2, _, _ => rfl
  | 3, _, _ => rfl
  | 4, _, hne => exact absurd rfl hne

theorem rgAhead (i t : Int) (w : World) : Calls Try.prog 39 #[.int .u16 i, .int .u16 t] w fun e w' => e = .returned (.tuple #[.int .i64 (ringAhead i t).1, .bool (ringAhead i t).2]) ∧ w = w' := by
  obtain ⟨x, hx⟩ : ∃ x, IntKind.u16.wrap (i - t) = x := ⟨_, rfl⟩
  have h0 : 0 ≤ x := by rw [← hx, wrap16]; omega
  have h1 : x ≤ 65535 := by rw [← hx, wrap16]; omega
  have ha : ringAhead i t = if 8 < x then (8, true) else (x, false) := by unfold ringAhead; rw [hx]
  by_cases h8 : 8 < x
  · rw [if_pos h8] at ha
    rw [ha]
    clear ha
    go_enter Try.func39, Try.ntmps39
    go_wp2
    go_ret2
    exact ⟨rfl, rfl⟩
  · rw [if_neg h8] at ha
    rw [ha]
    clear ha
    go_enter Try.func39, Try.ntmps39
    go_wp2
    go_ret2
    exact ⟨rfl, rfl⟩
theorem rgNew_no (mfn : Int) (w : World) (h : mfn < 0 ∨ 256 ≤ mfn) : Calls Try.prog 29 #[.int .i64 mfn] w fun e w' => e = .returned (.tuple #[.pointer none, .int .i64 1]) ∧ w = w' := by
  rcases h with h | h
  · go_enter Try.func29, Try.ntmps29
    go_wp2
    go_ret2
    exact ⟨rfl, rfl⟩
  · have h0 : 0 ≤ mfn := by omega
    go_enter Try.func29, Try.ntmps29
    go_wp2
    go_ret2
    exact ⟨rfl, rfl⟩
theorem rgNew_yes (mfn : Int) (w : World) (h0 : 0 ≤ mfn) (h1 : mfn < 256) : Calls Try.prog 29 #[.int .i64 mfn] w fun e w' => e = .returned (.tuple #[.pointer (some ⟨w.heap.size, 0, none⟩), .int .i64 0]) ∧ RB w' w.heap.size (Rg.new mfn) ∧ w.grownBy w' none := by
  go_enter Try.func29, Try.ntmps29
  go_wp2
  go_ret2
  refine ⟨rfl, ⟨_, heap_alloc_new w _, by simp, fun k hk => ?_⟩, World.grownBy_alloc w _ none⟩
  match k, hk with
  | 0, _ => rfl
  | 1, _ => rfl
  | 2, _ => rfl
  | 3, _ => rfl
  | 4, _ => rfl
theorem rgExists (K : Nat) (g : Rg) (w : World) (h : RB w K g) : Calls Try.prog 83 #[.pointer (some ⟨K, 0, none⟩)] w fun e w' => e = .returned (.bool true) ∧ w = w' := by
  have c3 := h.c3
  clear h
  go_enter Try.func83, Try.ntmps83
  go_wp2
  go_ret
  exact ⟨rfl, rfl⟩
theorem rgTaken (K : Nat) (g : Rg) (w : World) (h : RB w K g) : Calls Try.prog 33 #[.pointer (some ⟨K, 0, none⟩)] w fun e w' => e = .returned (.int .u16 g.tk) ∧ w = w' := by
  have c1 := h.c1
  have H := hid (rgExists K g w h)
  clear h
  go_enter Try.func33, Try.ntmps33
  go_wp2_with (go_at_call 83; refine H.out.mono ?_; rintro e w' ⟨rfl, rfl⟩)
  go_ret
  exact ⟨rfl, rfl⟩
theorem rgLaid (K : Nat) (g : Rg) (w : World) (h : RB w K g) : Calls Try.prog 34 #[.pointer (some ⟨K, 0, none⟩)] w fun e w' => e = .returned (.int .u16 g.ld) ∧ w = w' := by
  have c1 := h.c2
  have H := hid (rgExists K g w h)
  clear h
  go_enter Try.func34, Try.ntmps34
  go_wp2_with (go_at_call 83; refine H.out.mono ?_; rintro e w' ⟨rfl, rfl⟩)
  go_ret
  exact ⟨rfl, rfl⟩
theorem rgMfn (K : Nat) (g : Rg) (w : World) (h : RB w K g) : Calls Try.prog 37 #[.pointer (some ⟨K, 0, none⟩)] w fun e w' => e = .returned (.int .i64 g.mfn) ∧ w = w' := by
  have c1 := h.c0
  have H := hid (rgExists K g w h)
  clear h
  go_enter Try.func37, Try.ntmps37
  go_wp2_with (go_at_call 83; refine H.out.mono ?_; rintro e w' ⟨rfl, rfl⟩)
  go_ret
  exact ⟨rfl, rfl⟩
theorem rgWaitingD (K : Nat) (g : Rg) (w : World) (h : RB w K g) : Calls Try.prog 35 #[.pointer (some ⟨K, 0, none⟩)] w fun e w' => e = .returned (.int .i64 g.wait) ∧ ∃ n, w' = w.drewN n := by
  have c1 := h.c1
  have c4 := h.c4
  have H := hid (rgExists K g w h)
  obtain ⟨x, hx⟩ : ∃ x, IntKind.u16.wrap (g.sn - g.tk) = x := ⟨_, rfl⟩
  have h0 : 0 ≤ x := by rw [← hx, wrap16]; omega
  have h1 : x ≤ 65535 := by rw [← hx, wrap16]; omega
  have ha : g.wait = x := hx
  rw [ha]
  clear h ha
  go_enter Try.func35, Try.ntmps35
  go_wp2_with (go_at_call 83; refine H.out.mono ?_; rintro e w' ⟨rfl, rfl⟩)
  go_quiet (fail)
  all_goals go_wp2
  all_goals go_ret
  all_goals exact ⟨rfl, _, rfl⟩
theorem rgWaiting (K : Nat) (g : Rg) (w : World) (h : RB w K g) : Calls Try.prog 35 #[.pointer (some ⟨K, 0, none⟩)] w fun e w' => e = .returned (.int .i64 g.wait) ∧ w.grownBy w' none :=
  (rgWaitingD K g w h).mono fun e w' ⟨he, n, hn⟩ => ⟨he, hn ▸ grownBy_drewN _ _ none⟩
theorem rgOpen (K : Nat) (g : Rg) (w : World) (h : RB w K g) : Calls Try.prog 88 #[.pointer (some ⟨K, 0, none⟩)] w fun e w' => e = .returned (.int .i64 g.opn) ∧ w.grownBy w' none := by
  have c1 := h.c1
  have c2 := h.c2
  obtain ⟨x, hx⟩ : ∃ x, IntKind.u16.wrap (g.tk - g.ld) = x := ⟨_, rfl⟩
  have h0 : 0 ≤ x := by rw [← hx, wrap16]; omega
  have h1 : x ≤ 65535 := by rw [← hx, wrap16]; omega
  have ha : g.opn = x := hx
  rw [ha]
  clear h ha
  go_enter Try.func88, Try.ntmps88
  go_wp2
  go_quiet (fail)
  all_goals go_wp2
  all_goals go_ret
  all_goals exact ⟨rfl, grownBy_drewN _ _ none⟩
theorem range_grown {w w' : World} {b o : Nat} {cs : List Value} (h : w.rangeAt b o cs) (hg : w.grownBy w' none) : w'.rangeAt b o cs := fun j v hv => hg.cell (h j v hv) (by simp)
set_option maxRecDepth 100000 in
theorem rgPlaceQ (n : Int) (w : World) (h0 : 0 ≤ n) (h1 : n ≤ 65535) : Calls Try.prog 85 #[.int .u16 n] w fun e w' => e = .returned (.tuple #[.int .i64 (16 + 16 * (n % 8)), .int .i64 16]) ∧ w.grownBy w' none := by
  have H := hid (show ∀ (cs : Array Value) (w : World), Calls Try.prog 122 #[.agg cs] w fun e w' => e = .returned (.int .i64 16) ∧ w.grownBy w' none from fun cs w => by
    go_enter Try.func122, Try.ntmps122
    go_wp2
    go_ret
    exact ⟨rfl, World.grownBy_alloc _ _ none⟩)
  obtain ⟨zq, hzq⟩ : ∃ zq : List Value, zq = List.replicate 16 (.int .u8 0) := ⟨_, rfl⟩
  obtain ⟨W, hW, hr, hg⟩ : ∃ W, w.alloc (.cells #[.int .u8 0, .int .u8 0, .int .u8 0, .int .u8 0, .int .u8 0, .int .u8 0, .int .u8 0, .int .u8 0, .int .u8 0, .int .u8 0, .int .u8 0, .int .u8 0, .int .u8 0, .int .u8 0, .int .u8 0, .int .u8 0] 156) = W ∧ W.rangeAt w.heap.size 0 zq ∧ w.grownBy W none := by
    refine ⟨_, rfl, ?_, World.grownBy_alloc _ _ none⟩
    have := World.rangeAt_of_block (heap_alloc_new w (.cells #[.int .u8 0, .int .u8 0, .int .u8 0, .int .u8 0, .int .u8 0, .int .u8 0, .int .u8 0, .int .u8 0, .int .u8 0, .int .u8 0, .int .u8 0, .int .u8 0, .int .u8 0, .int .u8 0, .int .u8 0, .int .u8 0] 156)) 0 16
    rw [hzq]; exact this
  have hu := Try.underlying156
  have hi : (Try.prog.info? 156).map (·.size) = some zq.length := by rw [hzq]; kernel_rfl
  have hrd : W.drew.rangeAt w.heap.size 0 zq := range_grown hr (grownBy_drew _ none)
  have HG := hid hg
  clear hzq hg
  go_enter Try.func85, Try.ntmps85
  go_wp2
  refine wp_region_noPanic ?_
  refine wp_region_held_drew (S := fun w' => w'.rangeAt w.heap.size 0 zq) (by kernel_rfl) hrd (fun hHeld => ?_)
  refine wpAnyH_take (i := 0) (v := .agg zq.toArray) rfl (by kernel_rfl) (by kernel_rfl) (by kernel_rfl) (fun _ _ _ h => h) (yieldsIf_load_mid (by rfl) _ _ rfl _ _ rfl zq _ (fun _ h => h) hu rfl hi) hHeld ?_
  try dsimp only [Act.put]
  try simp only [List.setIfInBounds_toArray, List.set_cons_zero, List.set_cons_succ]
  refine wpAnyH_take (i := 1) (v := .iface 156 (.agg zq.toArray)) rfl (by kernel_rfl) (by kernel_rfl) (by kernel_rfl) (fun _ _ _ h => h) (Or.inl ⟨by rfl, fun w hSw => by go_simp⟩) hHeld ?_
  try dsimp only [Act.put]
  try simp only [List.setIfInBounds_toArray, List.set_cons_zero, List.set_cons_succ]
  refine wpAnyH_take (i := 3) (v := .int .u16 n) rfl (by kernel_rfl) (by kernel_rfl) (by kernel_rfl) (fun _ _ _ h => h) (Or.inl ⟨by rfl, fun w hSw => by go_simp⟩) hHeld ?_
  try dsimp only [Act.put]
  try simp only [List.setIfInBounds_toArray, List.set_cons_zero, List.set_cons_succ]
  refine wpAnyH_take (i := 4) (v := .int .u16 (n.tmod 8)) rfl (by kernel_rfl) (by kernel_rfl) (by kernel_rfl) (fun _ _ _ h => h) (Or.inl ⟨by rfl, fun w hSw => by go_simp⟩) hHeld ?_
  try dsimp only [Act.put]
  try simp only [List.setIfInBounds_toArray, List.set_cons_zero, List.set_cons_succ]
  refine wpAnyH_take (i := 5) (v := .int .i64 (IntKind.i64.wrap (n.tmod 8))) rfl (by kernel_rfl) (by kernel_rfl) (by kernel_rfl) (fun _ _ _ h => h) (Or.inl ⟨by rfl, fun w hSw => by go_simp⟩) hHeld ?_
  try dsimp only [Act.put]
  try simp only [List.setIfInBounds_toArray, List.set_cons_zero, List.set_cons_succ]
  refine wpAnyH_take (i := 6) (v := .agg zq.toArray) rfl (by kernel_rfl) (by kernel_rfl) (by kernel_rfl) (fun _ _ _ h => h) (yieldsIf_load_mid (by rfl) _ _ rfl _ _ rfl zq _ (fun _ h => h) hu rfl hi) hHeld ?_
  try dsimp only [Act.put]
  try simp only [List.setIfInBounds_toArray, List.set_cons_zero, List.set_cons_succ]
  refine wpAnyH_take (i := 7) (v := .int .i64 16) rfl (by kernel_rfl) (by kernel_rfl) (by kernel_rfl) (fun _ _ _ h => h) (Or.inl ⟨by rfl, fun w hSw => by go_simp⟩) hHeld ?_
  try dsimp only [Act.put]
  try simp only [List.setIfInBounds_toArray, List.set_cons_zero, List.set_cons_succ]
  refine wpAnyH_take (i := 8) (v := .int .i64 (IntKind.i64.wrap (IntKind.i64.wrap (n.tmod 8) * 16))) rfl (by kernel_rfl) (by kernel_rfl) (by kernel_rfl) (fun _ _ _ h => h) (Or.inl ⟨by rfl, fun w hSw => by go_simp⟩) hHeld ?_
  try dsimp only [Act.put]
  try simp only [List.setIfInBounds_toArray, List.set_cons_zero, List.set_cons_succ]
  refine wpAnyH_take (i := 10) (v := .agg zq.toArray) rfl (by kernel_rfl) (by kernel_rfl) (by kernel_rfl) (fun _ _ _ h => h) (yieldsIf_load_mid (by rfl) _ _ rfl _ _ rfl zq _ (fun _ h => h) hu rfl hi) hHeld ?_
  try dsimp only [Act.put]
  try simp only [List.setIfInBounds_toArray, List.set_cons_zero, List.set_cons_succ]
  refine wpAnyH_take (i := 11) (v := .int .i64 16) rfl (by kernel_rfl) (by kernel_rfl) (by kernel_rfl) (fun _ _ _ h => h) (Or.inl ⟨by rfl, fun w hSw => by go_simp⟩) hHeld ?_
  try dsimp only [Act.put]
  try simp only [List.setIfInBounds_toArray, List.set_cons_zero, List.set_cons_succ]
  refine wpAnyH_ready (rs := [2]) (by kernel_rfl) (by simp) ?_
  refine AllReadyH.cons rfl (fun K hK => ?_) AllReadyH.nil
  go_simp
  go_upon
  refine (H.out _ _).mono ?_
  rintro e wq ⟨rfl, g1⟩
  have hrq := range_grown hrd g1
  have G1 := hid ((HG.out.trans (grownBy_drew _ none)).trans g1)
  clear g1
  refine hK.out _ _ hrq (fun hHeld2 => ?_)
  clear hK K hHeld
  try dsimp only [Act.put]
  try simp only [List.setIfInBounds_toArray, List.set_cons_zero, List.set_cons_succ]
  refine wpAnyH_take (i := 9) (v := .int .i64 (IntKind.i64.wrap (16 + IntKind.i64.wrap (IntKind.i64.wrap (n.tmod 8) * 16)))) rfl (by kernel_rfl) (by kernel_rfl) (by kernel_rfl) (fun _ _ _ h => h) (Or.inl ⟨by rfl, fun w hSw => by go_simp⟩) hHeld2 ?_
  try dsimp only [Act.put]
  try simp only [List.setIfInBounds_toArray, List.set_cons_zero, List.set_cons_succ]
  refine wpAnyH_take (i := 12) (v := .int .i64 (IntKind.i64.wrap (16 + IntKind.i64.wrap (IntKind.i64.wrap (n.tmod 8) * 16)))) rfl (by kernel_rfl) (by kernel_rfl) (by kernel_rfl) (fun _ _ _ h => h) (Or.inl ⟨by rfl, fun w hSw => by go_simp⟩) hHeld2 ?_
  try dsimp only [Act.put]
  try simp only [List.setIfInBounds_toArray, List.set_cons_zero, List.set_cons_succ]
  refine wpAnyH_take (i := 13) (v := .int .i64 16) rfl (by kernel_rfl) (by kernel_rfl) (by kernel_rfl) (fun _ _ _ h => h) (Or.inl ⟨by rfl, fun w hSw => by go_simp⟩) hHeld2 ?_
  try dsimp only [Act.put]
  try simp only [List.setIfInBounds_toArray, List.set_cons_zero, List.set_cons_succ]
  refine wpAnyH_done (by kernel_rfl) ?_ _
  refine NoPanic.normal ?_
  change Exit.then _ _ _ (⟨#[.int .u16 n, undef, .int .i64 (IntKind.i64.wrap (16 + IntKind.i64.wrap (IntKind.i64.wrap (n.tmod 8) * 16))), .int .i64 16, .pointer (some ⟨w.heap.size, 0, none⟩), .agg zq.toArray, .iface 156 (.agg zq.toArray), .int .i64 16, .int .u16 n, .int .u16 (n.tmod 8), .int .i64 (IntKind.i64.wrap (n.tmod 8)), .agg zq.toArray, .int .i64 16, .int .i64 (IntKind.i64.wrap (IntKind.i64.wrap (n.tmod 8) * 16)), .int .i64 (IntKind.i64.wrap (16 + IntKind.i64.wrap (IntKind.i64.wrap (n.tmod 8) * 16))), .agg zq.toArray, .int .i64 16], []⟩ : Act) _
  rw [show IntKind.i64.wrap (16 + IntKind.i64.wrap (IntKind.i64.wrap (n.tmod 8) * 16)) = 16 + 16 * (n % 8) by rw [Int.tmod_eq_emod_of_nonneg h0]; simp only [IntKind.wrap_i64]; omega]
  go_wp2
  go_ret2
  exact ⟨rfl, G1.out⟩
set_option maxRecDepth 100000 in
theorem rgPlaceS (n : Int) (w : World) (h0 : 0 ≤ n) (h1 : n ≤ 65535) : Calls Try.prog 89 #[.int .u16 n] w fun e w' => e = .returned (.tuple #[.int .i64 (144 + 8 * (n % 8)), .int .i64 8]) ∧ w.grownBy w' none := by
  have H := hid (show ∀ (cs : Array Value) (w : World), Calls Try.prog 123 #[.agg cs] w fun e w' => e = .returned (.int .i64 144) ∧ w.grownBy w' none from fun cs w => by
    go_enter Try.func123, Try.ntmps123
    go_wp2
    go_ret
    exact ⟨rfl, World.grownBy_alloc _ _ none⟩)
  obtain ⟨zq, hzq⟩ : ∃ zq : List Value, zq = List.replicate 8 (.int .u8 0) := ⟨_, rfl⟩
  obtain ⟨W, hW, hr, hg⟩ : ∃ W, w.alloc (.cells #[.int .u8 0, .int .u8 0, .int .u8 0, .int .u8 0, .int .u8 0, .int .u8 0, .int .u8 0, .int .u8 0] 160) = W ∧ W.rangeAt w.heap.size 0 zq ∧ w.grownBy W none := by
    refine ⟨_, rfl, ?_, World.grownBy_alloc _ _ none⟩
    have := World.rangeAt_of_block (heap_alloc_new w (.cells #[.int .u8 0, .int .u8 0, .int .u8 0, .int .u8 0, .int .u8 0, .int .u8 0, .int .u8 0, .int .u8 0] 160)) 0 8
    rw [hzq]; exact this
  have hu := Try.underlying160
  have hi : (Try.prog.info? 160).map (·.size) = some zq.length := by rw [hzq]; kernel_rfl
  have hrd : W.drew.rangeAt w.heap.size 0 zq := range_grown hr (grownBy_drew _ none)
  have hz0 : W.drew.cell? ⟨w.heap.size, 0, none⟩ = some (.int .u8 0) := by have := hrd 0 (.int .u8 0) (by rw [hzq]; rfl); simpa using this
  have hz1 : W.drew.cell? ⟨w.heap.size, 1, none⟩ = some (.int .u8 0) := by have := hrd 1 (.int .u8 0) (by rw [hzq]; rfl); simpa using this
  have hz2 : W.drew.cell? ⟨w.heap.size, 2, none⟩ = some (.int .u8 0) := by have := hrd 2 (.int .u8 0) (by rw [hzq]; rfl); simpa using this
  have hz3 : W.drew.cell? ⟨w.heap.size, 3, none⟩ = some (.int .u8 0) := by have := hrd 3 (.int .u8 0) (by rw [hzq]; rfl); simpa using this
  have hz4 : W.drew.cell? ⟨w.heap.size, 4, none⟩ = some (.int .u8 0) := by have := hrd 4 (.int .u8 0) (by rw [hzq]; rfl); simpa using this
  have hz5 : W.drew.cell? ⟨w.heap.size, 5, none⟩ = some (.int .u8 0) := by have := hrd 5 (.int .u8 0) (by rw [hzq]; rfl); simpa using this
  have hz6 : W.drew.cell? ⟨w.heap.size, 6, none⟩ = some (.int .u8 0) := by have := hrd 6 (.int .u8 0) (by rw [hzq]; rfl); simpa using this
  have hz7 : W.drew.cell? ⟨w.heap.size, 7, none⟩ = some (.int .u8 0) := by have := hrd 7 (.int .u8 0) (by rw [hzq]; rfl); simpa using this
  have HG := hid hg
  clear hzq hg hr hrd hu hi
  go_enter Try.func89, Try.ntmps89
  go_wp2
  go_region_held3 (fun w' => w'.cell? ⟨w.heap.size, 0, none⟩ = some (.int .u8 0) ∧ w'.cell? ⟨w.heap.size, 1, none⟩ = some (.int .u8 0) ∧ w'.cell? ⟨w.heap.size, 2, none⟩ = some (.int .u8 0) ∧ w'.cell? ⟨w.heap.size, 3, none⟩ = some (.int .u8 0) ∧ w'.cell? ⟨w.heap.size, 4, none⟩ = some (.int .u8 0) ∧ w'.cell? ⟨w.heap.size, 5, none⟩ = some (.int .u8 0) ∧ w'.cell? ⟨w.heap.size, 6, none⟩ = some (.int .u8 0) ∧ w'.cell? ⟨w.heap.size, 7, none⟩ = some (.int .u8 0)) (first | exact ⟨by assumption, by assumption, by assumption, by assumption, by assumption, by assumption, by assumption, by assumption⟩ | go_keep)
    (first | (go_at_call 123; refine (H.out _ _).mono ?_; rintro e wq ⟨rfl, g1⟩; have hy0 := g1.cell hz0 (by simp); have hy1 := g1.cell hz1 (by simp); have hy2 := g1.cell hz2 (by simp); have hy3 := g1.cell hz3 (by simp); have hy4 := g1.cell hz4 (by simp); have hy5 := g1.cell hz5 (by simp); have hy6 := g1.cell hz6 (by simp); have hy7 := g1.cell hz7 (by simp); have G1 := hid ((HG.out.trans (grownBy_drew _ none)).trans g1); clear g1))
  rw [show IntKind.i64.wrap (144 + IntKind.i64.wrap (IntKind.i64.wrap (n.tmod 8) * 8)) = 144 + 8 * (n % 8) by rw [Int.tmod_eq_emod_of_nonneg h0]; simp only [IntKind.wrap_i64]; omega]
  go_wp2
  go_ret2
  exact ⟨rfl, G1.out⟩
theorem rgWord (n : Int) (w : World) (h0 : 0 ≤ n) (h1 : n ≤ 65535) : Calls Try.prog 86 #[.int .u16 n] w fun e w' => ∃ g, w.heap.size ≤ g ∧ e = .returned (.slice (some ⟨g, 0, none⟩) 2 2) ∧ Row w' g 5 2 (fun k => .int .u8 ((two16 n).getD k 0).toNat) ∧ w.grownBy w' none := by
  go_enter Try.func86, Try.ntmps86
  go_wp2
  go_ret
  refine ⟨w.heap.size, Nat.le_refl _, rfl, ⟨_, heap_alloc_new w _, by simp, fun k hk => ?_⟩, World.grownBy_alloc w _ none⟩
  have e0 : ((UInt8.ofNat (n.toNat % 256)).toNat : Int) = n % 256 := by rw [UInt8.toNat_ofNat']; omega
  have e1 : ((UInt8.ofNat (n.toNat / 256)).toNat : Int) = n / 256 := by rw [UInt8.toNat_ofNat']; omega
  match k, hk with
  | 0, _ => show some _ = some (Value.int .u8 ((UInt8.ofNat (n.toNat % 256)).toNat : Int)); rw [e0]; rfl
  | 1, _ => show some _ = some (Value.int .u8 ((UInt8.ofNat (n.toNat / 256)).toNat : Int)); rw [e1]; rfl
end Go.Proofs.Ytgnihllnjaagcaa

/-
  Package tenementref08: the back end in block C, over the reference's view.
-/
set_option linter.unusedSimpArgs false
set_option linter.unusedVariables false
namespace Go.Proofs.Ytgnihllnjaagcaa
open Go.RowKit
set_option maxHeartbeats 1200000

/-- the reference's back end's cells -/
def Rg.rcell (g : Rg) : Nat → Value
  | 0 => .int .i64 g.mfn
  | 1 => .int .u16 g.tk
  | 2 => .int .u16 g.ld
  | _ => .int .u16 g.sn
def RC (w : World) (C : Nat) (g : Rg) : Prop := Row w C 73 4 g.rcell
theorem RC.lt {w : World} {K : Nat} {g : Rg} (h : RC w K g) : K < w.heap.size := Row.lt h
theorem RC.c0 {w : World} {K : Nat} {g : Rg} (h : RC w K g) : w.cell? ⟨K, 0, none⟩ = some (.int .i64 g.mfn) := Row.cell h (k := 0) (by omega)
theorem RC.c1 {w : World} {K : Nat} {g : Rg} (h : RC w K g) : w.cell? ⟨K, 1, none⟩ = some (.int .u16 g.tk) := Row.cell h (k := 1) (by omega)
theorem RC.c2 {w : World} {K : Nat} {g : Rg} (h : RC w K g) : w.cell? ⟨K, 2, none⟩ = some (.int .u16 g.ld) := Row.cell h (k := 2) (by omega)
theorem RC.c3 {w : World} {K : Nat} {g : Rg} (h : RC w K g) : w.cell? ⟨K, 3, none⟩ = some (.int .u16 g.sn) := Row.cell h (k := 3) (by omega)
theorem RC.chg {S : Nat → Prop} {w w' : World} {K : Nat} {g : Rg} (h : RC w K g) (hc : Chg S w w') (hb : ¬ S K) : RC w' K g := Row.chg h hc hb
theorem RC.grown {w w' : World} {K : Nat} {g : Rg} {row : Option Nat} (h : RC w K g) (hg : w.grownBy w' row) (hr : some K ≠ row) : RC w' K g := Row.grown h hg hr
theorem RC.setTk {w : World} {K : Nat} {g : Rg} (h : RC w K g) (x : Int) : RC (w.setCell ⟨K, 1, none⟩ (.int .u16 x)) K { g with tk := x } := Row.set h (k := 1) rfl fun j hj hne => by
  match j, hj, hne with
  | 0, _, _ => rfl
  | 1, _, hne => exact absurd rfl hne
  | 2, _, _ => rfl
  | 3, _, _ => rfl
theorem RC.setLd {w : World} {K : Nat} {g : Rg} (h : RC w K g) (x : Int) : RC (w.setCell ⟨K, 2, none⟩ (.int .u16 x)) K { g with ld := x } := Row.set h (k := 2) rfl fun j hj hne => by
  match j, hj, hne with
  | 0, _, _ => rfl
  | 1, _, _ => rfl
  | 2, _, hne => exact absurd rfl hne
  | 3, _, _ => rfl
theorem RC.setSn {w : World} {K : Nat} {g : Rg} (h : RC w K g) (x : Int) : RC (w.setCell ⟨K, 3, none⟩ (.int .u16 x)) K { g with sn := x } := Row.set h (k := 3) rfl fun j hj hne => by
  match j, hj, hne with
  | 0, _, _ => rfl
  | 1, _, _ => rfl
  | 2, _, _ => rfl
  | 3, _, hne => exact absurd rfl hne
/-- a block of another kind is none of the reference's machine -/
theorem RM.offRow {w : World} {b : Nat} {M : Mach} {L : Lay} (h : RM w b M L) {K : Nat} {t : TypeId} {N : Nat} {Xc : Nat → Value} (hr : Row w K t N Xc) (h1 : t ≠ 79) (h2 : t ≠ 108) (h3 : t ≠ 31) (h4 : t ≠ 5) : ¬ L.foot b K := by
  rintro (e | e | e | ⟨i, hi, e⟩)
  · exact hr.type_ne h.top h1 e
  · exact hr.type_ne h.fr h2 e
  · exact hr.type_ne h.bs h3 e
  · exact hr.type_ne (h.row i hi) h4 e

theorem rcAhead (i t : Int) (w : World) : Calls Try.prog 40 #[.int .u16 i, .int .u16 t] w fun e w' => e = .returned (.tuple #[.int .i64 (ringAhead i t).1, .bool (ringAhead i t).2]) ∧ w = w' := by
  obtain ⟨x, hx⟩ : ∃ x, IntKind.u16.wrap (i - t) = x := ⟨_, rfl⟩
  have h0 : 0 ≤ x := by rw [← hx, wrap16]; omega
  have h1 : x ≤ 65535 := by rw [← hx, wrap16]; omega
  have ha : ringAhead i t = if 8 < x then (8, true) else (x, false) := by unfold ringAhead; rw [hx]
  by_cases h8 : 8 < x
  · rw [if_pos h8] at ha
    rw [ha]
    clear ha
    go_enter Try.func40, Try.ntmps40
    go_wp2
    go_ret2
    exact ⟨rfl, rfl⟩
  · rw [if_neg h8] at ha
    rw [ha]
    clear ha
    go_enter Try.func40, Try.ntmps40
    go_wp2
    go_ret2
    exact ⟨rfl, rfl⟩
theorem rcNew_no (mfn : Int) (w : World) (h : mfn < 0 ∨ 256 ≤ mfn) : Calls Try.prog 30 #[.int .i64 mfn] w fun e w' => e = .returned (.tuple #[.pointer none, .int .i64 1]) ∧ w = w' := by
  rcases h with h | h
  · go_enter Try.func30, Try.ntmps30
    go_wp2
    go_ret2
    exact ⟨rfl, rfl⟩
  · have h0 : 0 ≤ mfn := by omega
    go_enter Try.func30, Try.ntmps30
    go_wp2
    go_ret2
    exact ⟨rfl, rfl⟩
theorem rcNew_yes (mfn : Int) (w : World) (h0 : 0 ≤ mfn) (h1 : mfn < 256) : Calls Try.prog 30 #[.int .i64 mfn] w fun e w' => e = .returned (.tuple #[.pointer (some ⟨w.heap.size, 0, none⟩), .int .i64 0]) ∧ RC w' w.heap.size (Rg.new mfn) ∧ w.grownBy w' none := by
  go_enter Try.func30, Try.ntmps30
  go_wp2
  go_ret2
  refine ⟨rfl, ⟨_, heap_alloc_new w _, by simp, fun k hk => ?_⟩, World.grownBy_alloc w _ none⟩
  match k, hk with
  | 0, _ => rfl
  | 1, _ => rfl
  | 2, _ => rfl
  | 3, _ => rfl
theorem rcWaiting (K : Nat) (g : Rg) (w : World) (h : RC w K g) : Calls Try.prog 36 #[.pointer (some ⟨K, 0, none⟩)] w fun e w' => e = .returned (.int .i64 g.wait) ∧ ∃ n, w' = w.drewN n := by
  have c1 := h.c1
  have c4 := h.c3
  obtain ⟨x, hx⟩ : ∃ x, IntKind.u16.wrap (g.sn - g.tk) = x := ⟨_, rfl⟩
  have h0 : 0 ≤ x := by rw [← hx, wrap16]; omega
  have h1 : x ≤ 65535 := by rw [← hx, wrap16]; omega
  have ha : g.wait = x := hx
  rw [ha]
  clear h ha
  go_enter Try.func36, Try.ntmps36
  go_wp2
  go_quiet (fail)
  all_goals go_wp2
  all_goals go_ret
  all_goals exact ⟨rfl, _, rfl⟩

/-- what a call of the reference that reads leaves -/
structure RcRead (w : World) (U b : Nat) (pa : Option Addr) (len cap : Nat) (n : Int) (L : Lay) (M' : Mach) (C : Nat) (g : Rg) (w' : World) : Prop where
  v : RV w' U b pa len cap n
  m : ∃ L', RM w' b M' L' ∧ L'.n = L.n ∧ ∀ q, L'.foot b q → L.foot b q ∨ w.heap.size ≤ q
  c : RC w' C g
  chg : Chg (fun q => q = U ∨ L.foot b q ∨ q = C) w w'
theorem RcRead.of {w w' : World} {U b : Nat} {pa : Option Addr} {len cap : Nat} {n : Int} {L : Lay} {M' : Mach} {C : Nat} {g : Rg} (h : RVRead w U b pa len cap n L M' w') (hc : RC w C g) (hU : C ≠ U) (hL : ¬ L.foot b C) : RcRead w U b pa len cap n L M' C g w' := by
  obtain ⟨hv, L', hm, hn, hch, hf⟩ := h
  exact ⟨hv, ⟨L', hm, hn, hf⟩, hc.chg hch (fun e => e.elim hU hL), hch.mono fun k e => e.elim .inl fun e => .inr (.inl e)⟩
theorem RcRead.set {w w' : World} {U b : Nat} {pa : Option Addr} {len cap : Nat} {n : Int} {L : Lay} {M' : Mach} {C : Nat} {g g' : Rg} {k : Nat} {v : Value} (h : RcRead w U b pa len cap n L M' C g w') (hs : RC (w'.setCell ⟨C, k, none⟩ v) C g') : RcRead w U b pa len cap n L M' C g' (w'.setCell ⟨C, k, none⟩ v) := by
  obtain ⟨L', hm, hn, hf⟩ := h.m
  have hg := grownBy_setCell w' C k none v
  have hUC : C ≠ U := fun e => by
    have h1 := h.v; have h2 := h.c
    exact Row.type_ne h1 h2 (by decide) e.symm
  exact ⟨Row.grown h.v hg (by simpa using fun e => hUC e.symm), ⟨L', hm.chg (S := fun q => q = C) (Chg.of hg fun j e => .inl (Option.some.inj e).symm) fun q hq e => hm.offRow h.c (by decide) (by decide) (by decide) (by decide) (e ▸ hq), hn, hf⟩, hs, h.chg.trans (Chg.of (S := fun q => q = C) hg fun j e => .inl (Option.some.inj e).symm) fun q e => .inl (.inr (.inr e))⟩
theorem RcRead.more {w w' W : World} {U b : Nat} {pa : Option Addr} {len cap : Nat} {n : Int} {L : Lay} {M' : Mach} {C : Nat} {g : Rg} (h : RcRead w U b pa len cap n L M' C g w') (hg : w'.grownBy W none) : RcRead w U b pa len cap n L M' C g W := by
  obtain ⟨L', hm, hn, hf⟩ := h.m
  exact ⟨h.v.grown hg, ⟨L', hm.grown hg, hn, hf⟩, h.c.grown hg (by simp), h.chg.trans (Chg.of0 (S := fun _ => False) hg) fun _ e => e.elim⟩
theorem InBytes.set16 {w : World} {p : Option Addr} {l : List UInt8} {a : Addr} {t : Int} (h : InBytes w p l) (ha : w.cell? a = some (.int .u16 t)) (v : Value) : InBytes (w.setCell a v) p l := by
  rcases h with h | ⟨b, o, e, hb, hc⟩
  · exact .inl h
  · refine .inr ⟨b, o, e, by simpa using hb, fun k hk => ?_⟩
    rw [World.cell?_setCell_other]
    · exact hc k hk
    · intro e2
      rw [e2, hc k hk] at ha
      cases ha
section
variable (U b : Nat) (pa : Option Addr) (cap : Nat) (l : List PokeV) (n : Nat) (w0 w : World) (M : Mach) (L : Lay) (C : Nat) (g : Rg)
set_option maxRecDepth 100000 in
theorem rcLook (h : RV w U b pa l.length cap n) (hM : RM w b M L) (hp : PokesIn w0 pa l) (hl : l.length ≤ 64) (hn : (n : Int) < 9223372036854775807)
    (hg : w0.grownBy w none) (hU : ¬ L.foot b U) (far : ∀ k, L.foot b k → w0.heap.size ≤ k) (hC : RC w C g) :
    Calls Try.prog 80 #[.pointer (some ⟨C, 0, none⟩), .pointer (some ⟨U, 0, none⟩)] w fun e w' =>
      e = .returned (.tuple #[.int .i64 (g.look ((M.rews (due l n)).read g.mfn 0 2)).1, .bool (g.look ((M.rews (due l n)).read g.mfn 0 2)).2.1, .int .i64 (g.look ((M.rews (due l n)).read g.mfn 0 2)).2.2.1]) ∧ RcRead w U b pa l.length cap (n + 1 : Nat) L (M.rews (due l n)) C (g.look ((M.rews (due l n)).read g.mfn 0 2)).2.2.2 w' := by
  have hCU : C ≠ U := fun e => Row.type_ne h hC (by decide) e.symm
  have hCL : ¬ L.foot b C := hM.offRow hC (by decide) (by decide) (by decide) (by decide)
  have HW := hid (rvWord U b pa cap l n g.mfn 0 w0 w M L h hM hp hl hn hg hU far)
  have HC := hid hC; have HCU := hid hCU; have HCL := hid hCL
  obtain ⟨r, hr⟩ : ∃ r, (M.rews (due l n)).read g.mfn 0 2 = r := ⟨_, rfl⟩
  rw [hr] at HW ⊢
  have c0 := hC.c0
  clear h hM hp hg hU far hC hCU hCL hl hn
  by_cases he : r.2 = 0
  · obtain ⟨a, c, ha⟩ : ∃ a c, ringAhead (wordOf r) g.tk = (a, c) := ⟨_, _, rfl⟩
    have hi := ringAhead_in (wordOf r) g.tk
    rw [ha] at hi
    have ha0 : 0 ≤ a := hi.1
    have ha8 : a ≤ 8 := hi.2
    have e1 : g.look r = (a, c, 0, { g with sn := IntKind.u16.wrap (g.tk + a) }) := by unfold Rg.look; rw [if_pos he, ha]
    rw [e1]
    have HA := hid (fun W => rcAhead (wordOf r) g.tk W)
    rw [ha] at HA
    rw [he] at HW
    clear he hi ha e1 hr
    go_enter Try.func80, Try.ntmps80
    go_wp2_with (first
      | (go_at_call 77; refine HW.out.mono ?_; rintro e w2 ⟨rfl, h2⟩; have HR := hid (RcRead.of h2 HC.out HCU.out HCL.out); have d1 := HR.out.c.c1; have d4 := Row.frozen HR.out.c 3; have d5 := HR.out.c.c3; clear h2 c0)
      | (go_at_call 40; refine (HA.out _).mono ?_; rintro e w3 ⟨rfl, rfl⟩))
    go_ret3
    exact ⟨rfl, HR.out.set (HR.out.c.setSn _)⟩
  · have e1 : g.look r = (0, false, r.2, g) := by unfold Rg.look; rw [if_neg he]
    rw [e1]
    have hne : (r.2 != 0) = true := by simpa using he
    clear he e1 hr
    go_enter Try.func80, Try.ntmps80
    go_wp2_with (go_at_call 77; refine HW.out.mono ?_; rintro e w2 ⟨rfl, h2⟩; have HR := hid (RcRead.of h2 HC.out HCU.out HCL.out); clear h2 c0)
    go_ret3
    exact ⟨rfl, HR.out⟩
set_option maxRecDepth 100000 in
theorem rcTake_no (hC : RC w C g) (hc : g.can = false) (hg : g.ok) :
    Calls Try.prog 81 #[.pointer (some ⟨C, 0, none⟩), .pointer (some ⟨U, 0, none⟩)] w fun e w' => e = .returned (.tuple #[.slice none 0 0, .int .i64 5]) ∧ w.grownBy w' none := by
  have HW := hid (fun m => rcWaiting C g (w.drewN m) (hC.grown (grownBy_drewN _ _ none) (by simp)))
  have c1 := hC.c1
  have c2 := hC.c2
  clear hC
  rcases Rg.can_no hc with h0 | ⟨h0, h8⟩
  · have hb : (g.wait == 0) = true := by simp [h0]
    clear hc h0
    go_enter Try.func81, Try.ntmps81
    go_wp2
    go_quiet (first | (go_at_call 36; refine Calls.quiet_of (v := .int .i64 g.wait) (HW.out _)))
    all_goals go_wp2
    all_goals go_ret2
    all_goals exact ⟨rfl, grownBy_drewN _ _ none⟩
  · have hb : (g.wait == 0) = false := by simp [h0]
    have hx : IntKind.u16.wrap (g.tk - g.ld) = 8 := h8
    clear hc h0 h8
    go_enter Try.func81, Try.ntmps81
    go_wp2
    go_quiet (first | (go_at_call 36; refine Calls.quiet_of (v := .int .i64 g.wait) (HW.out _)))
    all_goals go_wp2
    all_goals go_ret2
    all_goals exact ⟨rfl, grownBy_drewN _ _ none⟩
theorem Rg.can_lt {g : Rg} (hg : g.ok) (hc : g.can = true) : IntKind.u16.wrap (g.tk - g.ld) < 8 := by
  obtain ⟨_, h8⟩ := Rg.can_yes hc
  have := hg.o
  have : g.opn < 8 := by omega
  exact this
set_option maxRecDepth 100000 in
theorem rcTake_yes (h : RV w U b pa l.length cap n) (hM : RM w b M L) (hp : PokesIn w0 pa l) (hl : l.length ≤ 64) (hn : (n : Int) < 9223372036854775807)
    (hgr : w0.grownBy w none) (hU : ¬ L.foot b U) (far : ∀ k, L.foot b k → w0.heap.size ≤ k) (hC : RC w C g) (hc : g.can = true) (hg : g.ok) :
    Calls Try.prog 81 #[.pointer (some ⟨C, 0, none⟩), .pointer (some ⟨U, 0, none⟩)] w fun e w' =>
      ∃ v, e = .returned (.tuple #[v, .int .i64 ((M.rews (due l n)).read g.mfn g.reqAt 16).2]) ∧ (∃ p c, v = .slice p ((M.rews (due l n)).read g.mfn g.reqAt 16).1.length c ∧ InBytes w' p ((M.rews (due l n)).read g.mfn g.reqAt 16).1) ∧ RcRead w U b pa l.length cap (n + 1 : Nat) L (M.rews (due l n)) C g.took w' := by
  have hCU : C ≠ U := fun e => Row.type_ne h hC (by decide) e.symm
  have hCL : ¬ L.foot b C := hM.offRow hC (by decide) (by decide) (by decide) (by decide)
  have HW := hid (fun m => rcWaiting C g (w.drewN m) (hC.grown (grownBy_drewN _ _ none) (by simp)))
  have HR := hid (fun (W : World) (gw : w.grownBy W none) => rvRead U b pa cap l n g.mfn g.reqAt 16 w0 W M L (h.grown gw) (hM.grown gw) hp hl hn (by omega) (hgr.trans gw) hU far)
  have HCC := hid (fun (W : World) (gw : w.grownBy W none) => hC.grown gw (by simp))
  have HT := hid (fun (W W' : World) (gw : w.grownBy W none) (hr : RVRead W U b pa l.length cap (n + 1 : Nat) L (M.rews (due l n)) W') => show RcRead w U b pa l.length cap (n + 1 : Nat) L (M.rews (due l n)) C g W' from by
    have h1 := RcRead.of hr (hC.grown gw (by simp)) hCU hCL
    obtain ⟨L', hm, hnn, hf⟩ := h1.m
    exact ⟨h1.v, ⟨L', hm, hnn, fun q hq => (hf q hq).elim .inl fun e => .inr (Nat.le_trans gw.size e)⟩, h1.c, (Chg.of0 gw).trans h1.chg fun _ e => .inl e⟩)
  have c1 := hC.c1
  have c2 := hC.c2
  obtain ⟨h0, h8⟩ := Rg.can_yes hc
  have hb : (g.wait == 0) = false := by simp [h0]
  obtain ⟨x, hx⟩ : ∃ x, IntKind.u16.wrap (g.tk - g.ld) = x := ⟨_, rfl⟩
  have hx8 : x < 8 := hx ▸ Rg.can_lt hg hc
  have hx0 : 0 ≤ x := by rw [← hx, wrap16]; omega
  have t0 := hg.t0
  have t1 := hg.t1
  have HAt := hid (show 16 + 16 * (g.tk % 8) = g.reqAt from rfl)
  have HAw := hid (show IntKind.i64.wrap (16 + IntKind.i64.wrap (16 * IntKind.i64.wrap (g.tk.tmod 8))) = g.reqAt by unfold Rg.reqAt; rw [Int.tmod_eq_emod_of_nonneg t0]; simp only [IntKind.wrap_i64]; omega)
  clear h hM hp hl hn hgr hU far hC hc h0 h8 hg
  generalize (M.rews (due l n)).read g.mfn g.reqAt 16 = r at *
  go_enter Try.func81, Try.ntmps81
  go_wp2
  go_quiet (first | (go_at_call 36; refine Calls.quiet_of (v := .int .i64 g.wait) (HW.out _)))
  obtain ⟨W1, hW1⟩ : ∃ W1, w.drewN nq = W1 := ⟨_, rfl⟩
  have G1 := hid (show w.grownBy W1 none from hW1 ▸ grownBy_drewN _ _ none)
  rw [hW1]
  have d0 := (HCC.out _ G1.out).c0
  have d1 := (HCC.out _ G1.out).c1
  have d9 := Row.frozen (HCC.out _ G1.out) 1
  clear hW1 c1 c2 hx
  go_wp2
  have G2 := hid (G1.out.trans (grownBy_drew W1 none))
  have q0 : W1.drew.cell? ⟨C, 0, none⟩ = some (.int .i64 g.mfn) := d0
  have q1 : W1.drew.cell? ⟨C, 1, none⟩ = some (.int .u16 g.tk) := d1
  go_region_held3 (fun w' => w'.cell? ⟨C, 0, none⟩ = some (.int .i64 g.mfn) ∧ w'.cell? ⟨C, 1, none⟩ = some (.int .u16 g.tk)) (first | exact ⟨by assumption, by assumption⟩ | go_keep)
    (first
      | (go_at_call 75; rw [HAw.out]; refine (HR.out _ G2.out).mono ?_; rintro e w2 ⟨v, rfl, hb2, h2⟩; have HB2 := hid hb2; have HT2 := hid (HT.out _ _ G2.out h2); have k0 := HT2.out.c.c0; have k1 := HT2.out.c.c1; have k9 := Row.frozen HT2.out.c 1; clear hb2 h2))
  clear d0 d1 d9 q0 q1
  go_wp2
  go_ret2
  obtain ⟨p, c, hv, hin⟩ := HB2.out
  exact ⟨v, rfl, ⟨p, c, hv, hin.set16 HT2.out.c.c1 _⟩, HT2.out.set (HT2.out.c.setTk _)⟩
theorem rcTwo (n : Int) (w : World) (h0 : 0 ≤ n) (h1 : n ≤ 65535) : Calls Try.prog 104 #[.int .u16 n] w fun e w' => ∃ g, w.heap.size ≤ g ∧ e = .returned (.slice (some ⟨g, 0, none⟩) 2 2) ∧ Row w' g 5 2 (fun k => .int .u8 ((two16 n).getD k 0).toNat) ∧ w.grownBy w' none := by
  go_enter Try.func104, Try.ntmps104
  go_wp2
  go_ret
  refine ⟨w.heap.size, Nat.le_refl _, rfl, ⟨_, heap_alloc_new w _, by simp, fun k hk => ?_⟩, World.grownBy_alloc w _ none⟩
  have e0 : ((UInt8.ofNat (n.toNat % 256)).toNat : Int) = n % 256 := by rw [UInt8.toNat_ofNat']; omega
  have e1 : ((UInt8.ofNat (n.toNat / 256)).toNat : Int) = IntKind.u16.wrap (n.tdiv 256) % 256 := by rw [UInt8.toNat_ofNat', wrap16, Int.tdiv_eq_ediv_of_nonneg h0]; omega
  match k, hk with
  | 0, _ => show some _ = some (Value.int .u8 ((UInt8.ofNat (n.toNat % 256)).toNat : Int)); rw [e0]; rfl
  | 1, _ => show some _ = some (Value.int .u8 ((UInt8.ofNat (n.toNat / 256)).toNat : Int)); rw [e1]; rfl
theorem rWriteN (b : Nat) (i off : Int) (pa : Option Addr) (n cap : Nat) (l : List UInt8) (w : World) (M : Mach) (L : Lay) (h : RM w b M L) (hn : l.length = n) (hmax : n ≤ 9223372036854775807) (hl : Apart w L b pa l) :
    Calls Try.prog 66 #[.pointer (some ⟨b, 0, none⟩), .int .i64 i, .int .i64 off, .slice pa n cap] w (RLeft b L w (M.write i off l).1 (M.write i off l).2) := by
  subst hn; exact rWrite b i off pa cap l w M L h hmax hl
theorem two16_apart {w : World} {gq : Nat} {y : Int} {L : Lay} {b : Nat} (h : Row w gq 5 2 (fun k => .int .u8 ((two16 y).getD k 0).toNat)) (hne : ¬ L.foot b gq) : Apart w L b (some ⟨gq, 0, none⟩) (two16 y) := fun k hk => by
  have hk2 : k < 2 := hk
  exact ⟨gq, 0, rfl, hne, by rw [Nat.zero_add]; exact h.cell hk2⟩
/-- what an answer of the reference leaves -/
structure RcAns (w : World) (b : Nat) (L : Lay) (M' : Mach) (C : Nat) (g : Rg) (w' : World) : Prop where
  m : ∃ L', RM w' b M' L' ∧ L'.n = L.n ∧ ∀ q, L'.foot b q → L.foot b q ∨ w.heap.size ≤ q
  c : RC w' C g
  chg : Chg (fun q => L.foot b q ∨ q = C) w w'
set_option maxRecDepth 100000 in
theorem rcAnswer_len (pq : Option Addr) (k cq : Nat) (hk : k ≠ 8) :
    Calls Try.prog 82 #[.pointer (some ⟨C, 0, none⟩), .pointer (some ⟨U, 0, none⟩), .slice pq k cq] w fun e w' => e = .returned (.int .i64 1) ∧ w = w' := by
  have hb : ((k : Int) != 8) = true := by simp; omega
  go_enter Try.func82, Try.ntmps82
  go_wp2
  go_ret
  exact ⟨rfl, rfl⟩
set_option maxRecDepth 100000 in
theorem rcAnswer_none (hC : RC w C g) (hg : g.ok) (h0 : g.opn = 0) (pq : Option Addr) (k cq : Nat) (hk : k = 8) :
    Calls Try.prog 82 #[.pointer (some ⟨C, 0, none⟩), .pointer (some ⟨U, 0, none⟩), .slice pq k cq] w fun e w' => e = .returned (.int .i64 5) ∧ w.grownBy w' none := by
  subst hk
  have he : g.ld = g.tk := by
    have := hg.t0; have := hg.t1; have := hg.l0; have := hg.l1
    unfold Rg.opn at h0; rw [wrap16] at h0; omega
  have c1 := hC.c1
  have c2 := hC.c2
  rw [he] at c2
  clear hC he h0
  go_enter Try.func82, Try.ntmps82
  go_wp2
  go_quiet (fail)
  all_goals go_wp2
  all_goals go_ret
  all_goals exact ⟨rfl, grownBy_drewN _ _ none⟩
set_option maxRecDepth 100000 in
theorem rcAnswer_yes (hu : RV w U b pa l.length cap n) (hM : RM w b M L) (hC : RC w C g) (hg : g.ok) (h0 : g.opn ≠ 0) (pq : Option Addr) (cq : Nat) (bl : List UInt8) (hl : bl.length = 8) (hap : Apart w L b pq bl) :
    Calls Try.prog 82 #[.pointer (some ⟨C, 0, none⟩), .pointer (some ⟨U, 0, none⟩), .slice pq 8 cq] w fun e w' =>
      e = .returned (.int .i64 0) ∧ RcAns w b L (g.answer M bl).2.1 C (g.answer M bl).2.2 w' := by
  have e1 : g.answer M bl = (0, ((M.write g.mfn g.rspAt bl).2.write g.mfn 2 (two16 g.laid.ld)).2, g.laid) := by unfold Rg.answer; rw [if_neg (by omega), if_neg h0]
  rw [e1]
  have hCU : C ≠ U := fun e => Row.type_ne hu hC (by decide) e.symm
  have he : (g.ld == g.tk) = false := by
    have := hg.t0; have := hg.t1; have := hg.l0; have := hg.l1
    simp only [beq_eq_false_iff_ne, ne_eq]
    intro e
    apply h0
    unfold Rg.opn; rw [wrap16, e]; omega
  have c0 := hC.c0; have c1 := hC.c1; have c2 := hC.c2; have u0 := hu.c0
  have t0 := hg.l0; have t1 := hg.l1
  have HAt := hid (show 144 + 8 * (g.ld % 8) = g.rspAt from rfl)
  have HAw := hid (show IntKind.i64.wrap (144 + IntKind.i64.wrap (8 * IntKind.i64.wrap (g.ld.tmod 8))) = g.rspAt by unfold Rg.rspAt; rw [Int.tmod_eq_emod_of_nonneg t0]; simp only [IntKind.wrap_i64]; omega)
  have HLo := hid (Rg.laid_ok hg h0)
  have HM := hid hM; have HC := hid hC; have HU := hid hu; have HAp := hid hap; have HLn := hid hl
  obtain ⟨M1, hM1⟩ : ∃ M1, (M.write g.mfn g.rspAt bl).2 = M1 := ⟨_, rfl⟩
  rw [hM1]
  have HM1 := hid hM1
  clear hu hM hC hg h0 hl hap e1 hM1
  go_enter Try.func82, Try.ntmps82
  go_wp2
  go_quiet (fail)
  obtain ⟨W1, hW1⟩ : ∃ W1, w.drewN nq = W1 := ⟨_, rfl⟩
  have G1 := hid (show w.grownBy W1 none from hW1 ▸ grownBy_drewN _ _ none)
  rw [hW1]
  replace c0 := G1.out.cell c0 (by simp); replace c1 := G1.out.cell c1 (by simp); replace c2 := G1.out.cell c2 (by simp); replace u0 := G1.out.cell u0 (by simp)
  clear hW1
  go_wp2
  have G2 := hid (G1.out.trans (grownBy_drew W1 none))
  have HCL := hid (HM.out.offRow HC.out (by decide) (by decide) (by decide) (by decide))
  have HUL := hid (HM.out.offRow HU.out (by decide) (by decide) (by decide) (by decide))
  have HX := hid (rWriteN b g.mfn g.rspAt pq 8 cq bl W1.drew M L (HM.out.grown G2.out) HLn.out (by omega) (HAp.out.grown G2.out))
  have HSz := hid G2.out.size
  rw [HM1.out] at HX
  obtain ⟨r1, hr1⟩ : ∃ r1, (M.write g.mfn g.rspAt bl).1 = r1 := ⟨_, rfl⟩
  rw [hr1] at HX
  have q0 : W1.drew.cell? ⟨C, 0, none⟩ = some (.int .i64 g.mfn) := c0
  have q2 : W1.drew.cell? ⟨C, 2, none⟩ = some (.int .u16 g.ld) := c2
  have q3 : W1.drew.cell? ⟨U, 0, none⟩ = some (.pointer (some ⟨b, 0, none⟩)) := u0
  clear hr1 c0 c1 c2 u0 he
  go_region_held3 (fun w' => w'.cell? ⟨C, 0, none⟩ = some (.int .i64 g.mfn) ∧ w'.cell? ⟨C, 2, none⟩ = some (.int .u16 g.ld) ∧ w'.cell? ⟨U, 0, none⟩ = some (.pointer (some ⟨b, 0, none⟩))) (first | exact ⟨by assumption, by assumption, by assumption⟩ | go_keep)
    (first
      | (go_at_call 66; rw [HAw.out]; refine HX.out.mono ?_; rintro e w2 ⟨rfl, L2, h2, n2, ch2, f2⟩; have H2 := hid h2; have N2 := hid n2; have C2 := hid ch2; have F2 := hid f2; have k0 := ch2.cell q0 HCL.out; have k2 := ch2.cell q2 HCL.out; have k3 := ch2.cell q3 HUL.out; have k9 := ((HC.out.grown G2.out (by simp)).chg ch2 HCL.out).frozen 2; have HC2 := hid ((HC.out.grown G2.out (by simp)).chg ch2 HCL.out); clear h2 n2 ch2 f2))
  clear q0 q2 q3
  go_wp2
  obtain ⟨y, hy⟩ : ∃ y, IntKind.u16.wrap (g.ld + 1) = y := ⟨_, rfl⟩
  have hy0 : 0 ≤ y := hy ▸ HLo.out.l0
  have hy1 : y ≤ 65535 := hy ▸ HLo.out.l1
  have HY := hid (show g.laid.ld = y from hy)
  rw [hy]
  obtain ⟨W3, hW3⟩ : ∃ W3, w2.setCell ⟨C, 2, none⟩ (.int .u16 y) = W3 := ⟨_, rfl⟩
  have G3 := hid (show w2.grownBy W3 (some C) from hW3 ▸ grownBy_setCell w2 C 2 none _)
  have HC3 := hid (show RC W3 C g.laid from by have := HC2.out.setLd y; rw [hW3] at this; rw [← hy] at this; exact this)
  have HM3 := hid (show RM W3 b M1 L2 from H2.out.chg (S := fun q => q = C) (Chg.of G3.out fun j e => .inl (Option.some.inj e).symm) fun q hq e => H2.out.offRow HC2.out (by decide) (by decide) (by decide) (by decide) (e ▸ hq))
  have k3' := G3.out.cell (a := ⟨U, 0, none⟩) k3 (by simpa using fun e => hCU e.symm)
  rw [hW3]
  have q0 : W3.drew.cell? ⟨C, 0, none⟩ = some (.int .i64 g.mfn) := HC3.out.c0
  have q2 : W3.drew.cell? ⟨C, 2, none⟩ = some (.int .u16 y) := HY.out ▸ HC3.out.c2
  have q3 : W3.drew.cell? ⟨U, 0, none⟩ = some (.pointer (some ⟨b, 0, none⟩)) := k3'
  have HCL2 := hid (HM3.out.offRow HC3.out (by decide) (by decide) (by decide) (by decide))
  have HUL2 := hid (show ¬ L2.foot b U from fun e => by rcases F2.out U e with e | e; (exact HUL.out e); (have h1 := Row.lt HU.out; have h2 := HSz.out; omega))
  clear hW3 hy k0 k2 k3 k9 k3'
  go_region_held3 (fun w' => w'.cell? ⟨C, 0, none⟩ = some (.int .i64 g.mfn) ∧ w'.cell? ⟨C, 2, none⟩ = some (.int .u16 y) ∧ w'.cell? ⟨U, 0, none⟩ = some (.pointer (some ⟨b, 0, none⟩))) (first | exact ⟨by assumption, by assumption, by assumption⟩ | go_keep)
    (first
      | (go_at_call 104; refine (rcTwo y _ hy0 hy1).mono ?_; rintro e w4 ⟨gq, hgq, rfl, hr4, g4⟩; have G4 := hid (show W3.grownBy w4 none from (grownBy_drew W3 none).trans g4); have j0 := g4.cell q0 (by simp); have j2 := g4.cell q2 (by simp); have j3 := g4.cell q3 (by simp); have HA4 := hid (two16_apart hr4 (L := L2) (b := b) (fun e => by have h1 := HM3.out.lt e; have h2 : W3.heap.size ≤ gq := hgq; omega)); clear hr4 g4)
      | (go_at_call 66; refine (rWriteN b g.mfn 2 _ 2 _ (two16 y) _ M1 L2 (HM3.out.grown G4.out) (two16_len y) (by omega) HA4.out).mono ?_; rintro e w5 ⟨rfl, L5, h5, n5, ch5, f5⟩; have H5 := hid h5; have N5 := hid n5; have C5 := hid ch5; have F5 := hid f5; have HC5 := hid ((HC3.out.grown G4.out (by simp)).chg ch5 HCL2.out); have i0 := HC5.out.c0; have i2 := (HY.out ▸ HC5.out.c2 : w5.cell? ⟨C, 2, none⟩ = some (.int .u16 y)); have i3 := ch5.cell j3 HUL2.out; clear h5 n5 ch5 f5))
  go_wp2
  go_ret
  refine ⟨rfl, ⟨L5, by rw [HY.out]; exact H5.out, N5.out.trans N2.out, fun q hq => ?_⟩, HC5.out, ?_⟩
  · rcases F5.out q hq with e | e
    · rcases F2.out q e with e | e
      · exact .inl e
      · exact .inr (by have h1 := HSz.out; exact Nat.le_trans h1 e)
    · refine .inr (Nat.le_trans HSz.out (Nat.le_trans C2.out.size (Nat.le_trans G3.out.size (Nat.le_trans G4.out.size e))))
  · have hs2 : w.heap.size ≤ W1.drew.heap.size := HSz.out
    have c1 : Chg (fun q => L.foot b q ∨ q = C) w w2 := (Chg.of0 (S := fun q => L.foot b q ∨ q = C) G2.out).trans C2.out fun q e => .inl (.inl e)
    have c2 : Chg (fun q => L.foot b q ∨ q = C) w W3 := c1.trans (Chg.of (S := fun q => q = C) G3.out fun j e => .inl (Option.some.inj e).symm) fun q e => .inl (.inr e)
    have c3 : Chg (fun q => L.foot b q ∨ q = C) w w4 := c2.trans (Chg.of0 (S := fun _ => False) G4.out) fun q e => e.elim
    exact c3.trans C5.out fun q e => (F2.out q e).elim (fun e => .inl (.inl e)) fun e => .inr (Nat.le_trans hs2 e)
theorem rcAnswer_yes' (hu : RV w U b pa l.length cap n) (hM : RM w b M L) (hC : RC w C g) (hg : g.ok) (h0 : g.opn ≠ 0) (pq : Option Addr) (cq : Nat) (bl : List UInt8) (hl : bl.length = 8) (hap : Apart w L b pq bl) :
    Calls Try.prog 82 #[.pointer (some ⟨C, 0, none⟩), .pointer (some ⟨U, 0, none⟩), .slice pq bl.length cq] w fun e w' =>
      e = .returned (.int .i64 0) ∧ RcAns w b L (g.answer M bl).2.1 C (g.answer M bl).2.2 w' := by
  have h1 := rcAnswer_yes U b pa cap l n w M L C g hu hM hC hg h0 pq cq bl hl hap
  rw [hl]
  exact h1
end
end Go.Proofs.Ytgnihllnjaagcaa

/-
  The ring's page as bytes: a machine of two frames of domain 0, what is written and read. No walk here.
-/
set_option linter.unusedSimpArgs false
set_option linter.unusedVariables false
namespace Go.Proofs.Ytgnihllnjaagcaa
open Go.RowKit

/-- the machine behind k steps of begin's loop -/
def rgA : Nat → Mach
  | 0 => upTo 2 2
  | k + 1 => ((rgA k).alloc 0).2.2
theorem rgA_ok : ∀ k, (rgA k).ok 0
  | 0 => upTo_ok' 2 (by omega) (by omega)
  | k + 1 => Mach.alloc_ok (rgA_ok k) 0
/-- what is kept of a page that came in -/
def pg256 (l : List UInt8) : List UInt8 := l.take 256
theorem pg256_len (l : List UInt8) : (pg256 l).length ≤ 256 := by unfold pg256; simp; omega
def rgStart (l : List UInt8) : Mach := ((rgA 2).write 0 0 (pg256 l)).2
theorem rgStart_ok (l : List UInt8) : (rgStart l).ok 0 := Mach.write_ok (rgA_ok 2) 0 0 _

/-- bytes laid over a page -/
def lay (bs : Nat → UInt8) (o : Nat) (l : List UInt8) : Nat → UInt8 := fun k => if o ≤ k ∧ k < o + l.length then l.getD (k - o) 0 else bs k
theorem lay_in {bs : Nat → UInt8} {o : Nat} {l : List UInt8} {k : Nat} (h0 : o ≤ k) (h1 : k < o + l.length) : lay bs o l k = l.getD (k - o) 0 := if_pos ⟨h0, h1⟩
theorem lay_out {bs : Nat → UInt8} {o : Nat} {l : List UInt8} {k : Nat} (h : k < o ∨ o + l.length ≤ k) : lay bs o l k = bs k := if_neg (by omega)
def pgFr (bs : Nat → UInt8) : Fr := ⟨0, 0, 0, 0, bs⟩
def rgM (bs : Nat → UInt8) : Mach := ⟨2, fun i => if i = 0 then pgFr bs else if i = 1 then pgFr (fun _ => 0) else zeroFr⟩
theorem rgM_n (bs : Nat → UInt8) : (rgM bs).n = 2 := rfl
theorem pgFr_ok (bs : Nat → UInt8) : (pgFr bs).ok := ⟨by show (0 : Int) ≤ 0; decide, by show (0 : Int) ≤ 0; decide, by show (0 : Int) ≤ 0; decide, by show (0 : Int) ≤ 3; decide, by show (0 : Int) = 0 ↔ (0 : Int) = 0; decide, by show (-2 : Int) ≤ 0; decide, by show (0 : Int) < 8; decide, fun (e : (0 : Int) = -1) => absurd e (by decide)⟩
theorem rgM_ok (bs : Nat → UInt8) : (rgM bs).ok 0 := ⟨by show (1 : Int) ≤ 2; decide, by show (2 : Int) ≤ 256; decide, fun i hi => by
  have h : i < 2 := by have : (i : Int) < 2 := hi; omega
  rcases (show i = 0 ∨ i = 1 by omega) with rfl | rfl
  · exact ⟨pgFr_ok bs, by show (0 : Int) ≤ 0; decide⟩
  · exact ⟨pgFr_ok _, by show (0 : Int) ≤ 0; decide⟩⟩
theorem rgM_write {bs : Nat → UInt8} {o : Nat} {l : List UInt8} (h : o + l.length ≤ 256) : (rgM bs).write 0 o l = (0, rgM (lay bs o l)) := by
  unfold Mach.write
  rw [if_neg (by show ¬ (decide ((0 : Int) ≤ 0) && decide ((0 : Int) < 2)) = false; decide), if_neg (by rw [inP_yes (by omega) (by omega) (by omega)]; simp), if_neg (by show ¬ (0 : Int) = -1; decide)]
  simp only [Prod.mk.injEq, true_and, Mach.upd, rgM, Mach.mk.injEq]
  funext i
  by_cases h0 : i = 0
  · subst h0; rfl
  · simp [h0]
theorem rgM_read {bs : Nat → UInt8} {o n : Nat} (h : o + n ≤ 256) : (rgM bs).read 0 o n = ((pgFr bs).part o n, 0) := by
  unfold Mach.read
  rw [if_neg (by show ¬ (decide ((0 : Int) ≤ 0) && decide ((0 : Int) < 2)) = false; decide), if_neg (by rw [inP_yes (by omega) (by omega) (by omega)]; simp)]
  simp [rgM]
theorem upTo2_own : (upTo 2 2).ownedL (-1) = [0, 1] := by decide
theorem rgA_two : rgA 2 = rgM (fun _ => 0) := by
  have e1 : rgA 1 = (upTo 2 2).upd 0 { blankFr with owner := 0 } := by
    show ((upTo 2 2).alloc 0).2.2 = _
    unfold Mach.alloc
    rw [if_neg (by decide), upTo2_own]
    rfl
  show ((rgA 1).alloc 0).2.2 = _
  rw [e1]
  have e2 : ((upTo 2 2).upd 0 { blankFr with owner := 0 }).ownedL (-1) = [1] := by decide
  unfold Mach.alloc
  rw [if_neg (by decide), e2]
  simp only [Mach.upd, upTo, rgM, Mach.mk.injEq, true_and]
  funext i
  by_cases h0 : i = 0
  · subst h0; rfl
  · by_cases h1 : i = 1
    · subst h1; rfl
    · simp [h0, h1]
      omega
theorem rgStart_eq (l : List UInt8) : rgStart l = rgM (lay (fun _ => 0) 0 (pg256 l)) := by
  have := pg256_len l
  unfold rgStart
  rw [rgA_two]
  have h := rgM_write (bs := fun _ => 0) (o := 0) (l := pg256 l) (by omega)
  rw [show ((0 : Nat) : Int) = 0 from rfl] at h
  rw [h]
/-- a slot's bytes: as law08.slot lays them -/
def slotV (n : Nat) (id : Nat) : List UInt8 := (List.range n).map fun i => UInt8.ofNat ((id + i) % 256)
theorem slotV_len (n id : Nat) : (slotV n id).length = n := by simp [slotV]
theorem slotV_get (n id k : Nat) (h : k < n) : (slotV n id).getD k 0 = UInt8.ofNat ((id + k) % 256) := by simp [slotV, List.getD, h]
theorem two16_get0 (n : Int) : (two16 n).getD 0 0 = UInt8.ofNat (n.toNat % 256) := rfl
theorem two16_get1 (n : Int) : (two16 n).getD 1 0 = UInt8.ofNat (n.toNat / 256) := rfl
/-- two bytes of a page as a word -/
theorem word_of {bs : Nat → UInt8} {o x : Nat} (ho : o + 2 ≤ 256) (hx : x < 65536) (h0 : bs o = UInt8.ofNat (x % 256)) (h1 : bs (o + 1) = UInt8.ofNat (x / 256)) : wordOf ((pgFr bs).part o 2, 0) = x := by
  have e : (pgFr bs).part o 2 = [UInt8.ofNat (x % 256), UInt8.ofNat (x / 256)] := by
    show [bs (o + 0), bs (o + 1)] = _
    rw [Nat.add_zero, h0, h1]
  rw [e]
  show ((UInt8.ofNat (x % 256)).toNat : Int) + 256 * ((UInt8.ofNat (x / 256)).toNat : Int) = x
  rw [UInt8.toNat_ofNat', UInt8.toNat_ofNat']
  omega
end Go.Proofs.Ytgnihllnjaagcaa

/-
  law08.begin, awake: both machines, a page that came in.
-/
set_option linter.unusedSimpArgs false
set_option linter.unusedVariables false
namespace Go.Proofs.Ytgnihllnjaagcaa
open Go.RowKit
set_option maxHeartbeats 2000000

theorem InBytes.cut {w : World} {pa : Option Addr} {l : List UInt8} (h : InBytes w pa l) (k : Nat) : InBytes w pa (l.take k) := by
  rcases h with h | ⟨b, o, e, hb, hc⟩
  · exact .inl (by rw [h]; exact List.take_nil)
  · refine .inr ⟨b, o, e, hb, fun q hq => ?_⟩
    have hq' : q < l.length := by simp at hq; omega
    have hqk : q < k := by simp at hq; omega
    rw [hc q hq']
    simp [List.getD, hq', hqk]
theorem rAwake (w : World) : Calls Try.prog 31 #[] w fun e w' => e = .returned (.bool true) ∧ w' = w := by
  have H := hid (fun W => rgAhead 65535 0 W)
  have e1 : ringAhead 65535 0 = (8, true) := by unfold ringAhead; rw [wrap16]; rfl
  rw [e1] at H
  go_enter Try.func31, Try.ntmps31
  go_wp2_with (go_at_call 39; refine (H.out _).mono ?_; rintro e w' ⟨rfl, rfl⟩)
  all_goals go_ret
  all_goals exact ⟨rfl, rfl⟩
theorem WriteN (B : Nat) (i off : Int) (pa : Option Addr) (n cap : Nat) (l : List UInt8) (w : World) (M : Mach) (X : Int) (hn : l.length = n) (hM : PM w B M) (hok : M.ok X) (ho : off ≤ 9223372036854775807) (hv : IsBytes w B (.slice pa l.length cap) l) (hmax : l.length ≤ 9223372036854775807) :
    Calls Try.prog 15 #[.pointer (some ⟨B, 0, none⟩), .int .i64 i, .int .i64 off, .slice pa n cap] w (Left B w (M.write i off l).1 (M.write i off l).2) := by
  subst hn; exact Write_any B i off _ l w M X hM hok ho hv hmax
set_option maxRecDepth 100000 in
theorem rgBegin (pa : Option Addr) (cap : Nat) (l : List UInt8) (w : World) (hin : InBytes w pa l) (hl : l.length ≤ 140737488351232) (hcap : l.length ≤ cap) :
    Calls Try.prog 28 #[.slice pa l.length cap] w fun e w' => ∃ B b L, e = .returned (.tuple #[.pointer (some ⟨B, 0, none⟩), .pointer (some ⟨b, 0, none⟩), .bool true]) ∧ Bg w w' B b (rgStart l) L 0 := by
  have HIn := hid (hin.cut 256)
  have HN1 := hid (fun w => New_yes 2 w (by omega) (by omega))
  have HN2 := hid (fun w => rNew_yes 2 w (by omega) (by omega))
  have HA := hid rgA_ok
  have HLen := hid (pg256_len l)
  go_enter Try.func28, Try.ntmps28
  go_wp2_with (first
    | (go_at_call 11; refine (HN1.out _).mono ?_; rintro e w1 ⟨v, rfl, B, rfl, hB, hM1, hg1⟩; have HB := hid hB; have HM1 := hid hM1; have HG1 := hid hg1; clear hM1 hg1 hB)
    | (go_at_call 12; refine (HN2.out _).mono ?_; rintro e w2 ⟨v, rfl, b, L, rfl, hr, hg2, hf⟩; have HO := hid (Bg.mk (w := w) (HM1.out.grown hg2 (by simp)) hr (HA.out 0) HB.out (fun k hk => Nat.le_trans HG1.out.size (hf k hk)) (HG1.out.trans hg2)); clear hr hg2 hf))
  go_loopw [9] (fun i wr => ∃ (k : Nat) (L : Lay), i = .int .i64 k ∧ k ≤ 2 ∧ Bg w wr B b (rgA k) L 0) (fun i _ => 2 - (intOf i).toNat)
  case atStart => exact ⟨0, L, rfl, by omega, HO.out⟩
  case round =>
    clear HO HM1 HG1 HB
    obtain ⟨k, L, rfl, hk, hbg⟩ := hrel
    have HO := hid hbg
    clear hbg
    by_cases hkn : k < 2
    · have hkn' : (k : Int) < 2 := by omega
      have hn2 := hid HO.out.ok.n2
      have HOk := hid HO.out.ok
      have HOk2 := hid (Mach.alloc_ok HOk.out 0)
      have HSt := hid (show rgA (k + 1) = ((rgA k).alloc 0).2.2 from rfl)
      obtain ⟨M, hM⟩ : ∃ M, rgA k = M := ⟨_, rfl⟩
      rw [hM] at HO HOk HOk2 hn2 HSt
      clear hM
      go_wp2_with (first
        | (go_at_call 16; refine (Alloc_any B 0 _ M 0 HO.out.m HOk.out).mono ?_; rintro e w3 ⟨rfl, h3, g3⟩; have HM3 := hid h3; have HG3 := hid g3; have HR3 := hid (HO.out.r1 g3); clear h3 g3)
        | (go_at_call 56; refine (rAlloc b 0 _ M L HR3.out hn2.out).mono ?_; rintro e w4 ⟨rfl, L4, h4, hn4, c4, f4⟩; have HO4 := hid (HO.out.step HM3.out HG3.out h4 c4 f4 HOk2.out); clear h4 hn4 c4 f4))
      go_roundw
      case rel => exact ⟨k + 1, L4, by go_num, by omega, by rw [HSt.out]; exact HO4.out⟩
      case measure => simp [intOf]; omega
    · obtain rfl : k = 2 := by omega
      have hge : (2 : Int) ≤ ((2 : Nat) : Int) := by omega
      have HOk := hid HO.out.ok
      have HOk2 := hid (rgStart_ok l)
      by_cases h256 : 256 < l.length
      · have h256' : (256 : Int) < l.length := by omega
        have hpl : (pg256 l).length = 256 := by unfold pg256; simp; omega
        have HPl := hid hpl
        have hcap' : 256 ≤ cap := by omega
        have hcap2 : (256 : Int) ≤ cap := by omega
        clear hin hl hcap hpl
        go_wp2_with (first
          | (go_at_call 15; refine (WriteN B 0 0 _ 256 _ (pg256 l) _ _ 0 HPl.out HO.out.m HOk.out (by omega) (HIn.out.far HO.out.grown HO.out.farB _) (by have := HLen.out; omega)).mono ?_; rintro e w3 ⟨rfl, h3, g3⟩; have HM3 := hid h3; have HG3 := hid g3; have HR3 := hid (HO.out.r1 g3); clear h3 g3)
          | (go_at_call 66; refine (rWriteN b 0 0 _ 256 _ (pg256 l) _ _ L HR3.out HPl.out (by omega) (HIn.out.apart (grown_own HO.out.grown HG3.out HO.out.farB) HO.out.far)).mono ?_; rintro e w4 ⟨rfl, L4, h4, hn4, c4, f4⟩; have HO4 := hid (HO.out.step HM3.out HG3.out h4 c4 f4 HOk2.out); clear h4 hn4 c4 f4))
        go_ret3
        exact ⟨B, b, L4, rfl, HO4.out⟩
      · have h256' : (l.length : Int) ≤ 256 := by omega
        have hpl : pg256 l = l := by unfold pg256; exact List.take_of_length_le (by omega)
        have HPl := hid (show (pg256 l).length = l.length by rw [hpl])
        clear hin hl hcap hpl
        go_wp2_with (first
          | (go_at_call 15; refine (WriteN B 0 0 _ l.length _ (pg256 l) _ _ 0 HPl.out HO.out.m HOk.out (by omega) (HIn.out.far HO.out.grown HO.out.farB _) (by have := HLen.out; omega)).mono ?_; rintro e w3 ⟨rfl, h3, g3⟩; have HM3 := hid h3; have HG3 := hid g3; have HR3 := hid (HO.out.r1 g3); clear h3 g3)
          | (go_at_call 66; refine (rWriteN b 0 0 _ l.length _ (pg256 l) _ _ L HR3.out HPl.out (by omega) (HIn.out.apart (grown_own HO.out.grown HG3.out HO.out.farB) HO.out.far)).mono ?_; rintro e w4 ⟨rfl, L4, h4, hn4, c4, f4⟩; have HO4 := hid (HO.out.step HM3.out HG3.out h4 c4 f4 HOk2.out); clear h4 hn4 c4 f4))
        go_ret3
        exact ⟨B, b, L4, rfl, HO4.out⟩
end Go.Proofs.Ytgnihllnjaagcaa

/-
  append([]byte{}, b...): bytes that a call has made of bytes that came in.
-/
set_option linter.unusedSimpArgs false
set_option linter.unusedVariables false
namespace Go.Proofs.Ytgnihllnjaagcaa
open Go.RowKit
set_option maxHeartbeats 1200000

theorem ap_nil : bcells [] = [] := List.eq_nil_of_length_eq_zero (by rw [bcells_len]; rfl)
theorem ap_isBytes {W : World} {base B : Nat} {v : Value} {l : List UInt8} {M : Mach} (h : W.ownsRow base 5 1 v l.length (bcells l)) (hM : PM W B M) : IsBytes W B v l := by
  by_cases hl : l = []
  · subst hl
    obtain ⟨p, c, rfl⟩ := ownsRow_slice h
    exact .inl ⟨⟨_, _, rfl⟩, rfl⟩
  · obtain ⟨m, hm⟩ : ∃ m, l.length = m + 1 := ⟨l.length - 1, by have := List.length_pos_iff.2 hl; omega⟩
    have h' := h
    rw [hm] at h'
    obtain ⟨g, cap, rfl⟩ := ownsRow_succ h'
    refine .inr ⟨⟨g, 0, none⟩, cap, by rw [hm], ?_, fun k x hx => ?_⟩
    · rintro rfl
      rcases h.2 with ⟨e, _⟩ | ⟨g', cap', cur, e, _, hg, _⟩
      · cases e
      · injection e with e1 _ _
        cases e1
        rw [show W.heap[g]? = _ from hM] at hg; cases hg
    · have hk := (List.getElem?_eq_some_iff.1 hx).1
      have e : (⟨g, 0, none⟩ : Addr).add k = ⟨g, k, none⟩ := by unfold Addr.add; split <;> simp_all
      rw [e, h'.cellAt k (by omega), bcells_get, hx]
      rfl
theorem run_ap_in (X : World) (base : Nat) (ty : TypeId) (i0 : TypeInfo) (hi : Try.prog.info? 5 = some i0) (hz0 : i0.zero = some (.int .u8 0)) (hz1 : i0.size = 1) (hz2 : i0.bytes = 1) (v : Value) (hown : X.ownsRow base 5 1 v 0 [])
    (pa : Option Addr) (cap : Nat) (l : List UInt8) (hl : l.length * 1 ≤ 140737488355328) (hb : base ≤ X.heap.size) (hs : ∀ k, k < l.length → ∃ sb so, pa = some ⟨sb, so, none⟩ ∧ X.cell? ⟨sb, so + k, none⟩ = some (.int .u8 (l.getD k 0).toNat)) :
    ∃ v' Y, (Builtin.append_ #[31, 31] ty #[v, .slice pa l.length cap]).run Try.prog X = .ok v' Y ∧ Y.ownsRow base 5 1 v' l.length (bcells l) ∧ X.grownBy Y v.ownBlock := by
  cases pa with
  | none =>
    have hl0 : l = [] := by
      cases l with
      | nil => rfl
      | cons a r => obtain ⟨_, _, e, _⟩ := hs 0 (by simp); cases e
    subst hl0
    refine ⟨v, X, ?_, by rw [ap_nil]; exact hown, World.grownBy.refl _ _⟩
    rcases hown.2 with ⟨rfl, _⟩ | ⟨g, c, cur, rfl, _⟩
    · simp [Builtin.append_, run_underlying Try.underlying31, sizeOf, typeInfo, hi, Builtin.lenOf, Builtin.firstCells]
    · simp [Builtin.append_, run_underlying Try.underlying31, sizeOf, typeInfo, hi, Builtin.lenOf, Builtin.firstCells, storeCells]
  | some ad =>
    obtain ⟨v', Y, hr, h2, h3, _⟩ := run_append_own (P := Try.prog) X base 31 ty 5 i0 (.int .u8 0) 1 1 Try.underlying31 hi hz0 hz1 hz2 rfl (by decide) v 0 [] hown ad l.length cap (bcells l) (by rw [bcells_len]; omega) (fun k u hu => by
      rw [bcells_get] at hu
      cases hx : l[k]? with
      | none => rw [hx] at hu; cases hu
      | some x =>
        rw [hx] at hu; cases hu
        have hk := (List.getElem?_eq_some_iff.1 hx).1
        obtain ⟨sb, so, e, hc⟩ := hs k hk
        cases e
        have e : (⟨sb, so, none⟩ : Addr).add k = ⟨sb, so + k, none⟩ := by unfold Addr.add; split <;> simp_all
        rw [e, hc]
        simp [List.getD, hx]) (bcells_one l) (by unfold maxLen; omega) (by omega) hb
    exact ⟨v', Y, hr, by simpa using h2, h3⟩
theorem step_ap_in {ops : Array Oper} {o : Oper} {a : Act} {X : World} {K : Act → World → Prop} {Q : Exit → Act → World → Prop} {E : Prop} (hgd : o.guard = none) (s x : Operand)
    (ho : o.op = .call { callee := .builtin .append, args := #[s, x], argTypes := #[31, 31] }) (base : Nat) (i0 : TypeInfo) (hi : Try.prog.info? 5 = some i0) (hz0 : i0.zero = some (.int .u8 0)) (hz1 : i0.size = 1) (hz2 : i0.bytes = 1)
    (v : Value) (hs : a.eval s = v) (hown : X.ownsRow base 5 1 v 0 []) (pa : Option Addr) (cap : Nat) (l : List UInt8) (hx : a.eval x = .slice pa l.length cap) (hl : l.length * 1 ≤ 140737488355328) (hb : base ≤ X.heap.size)
    (hsrc : ∀ k, k < l.length → ∃ sb so, pa = some ⟨sb, so, none⟩ ∧ X.cell? ⟨sb, so + k, none⟩ = some (.int .u8 (l.getD k 0).toNat))
    (h : ∀ v' Y, Y.ownsRow base 5 1 v' l.length (bcells l) → X.grownBy Y v.ownBlock → K (a.put o.dst v') Y) :
    if Region.wanted o (yielded ops a.tmps) = true then Oper.wp Try.prog o a X K Q else E := by
  have hw : Region.wanted o (yielded ops a.tmps) = true := by simp [Region.wanted, hgd]
  rw [if_pos hw]
  obtain ⟨v', Y, hr, h2, h3⟩ := run_ap_in X base o.type i0 hi hz0 hz1 hz2 v hown pa cap l hl hb hsrc
  unfold Oper.wp execOp
  simp only [ho, resolve, invoke, builtin, Sem.run_bind, Sem.run_pure, Result.andThen_ok, List.map_toArray, List.map_cons, List.map_nil, hs, hx, hr]
  exact h v' Y h2 h3


end Go.Proofs.Ytgnihllnjaagcaa
