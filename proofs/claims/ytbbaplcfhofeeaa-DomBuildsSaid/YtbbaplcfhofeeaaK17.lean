/-
  Package p2m: the model of a map, its blocks, and contracts of the calls that only read.
-/
import Derived.Test.YtbbaplcfhofeeaaRows
import Derived.Test.YtbbaplcfhofeeaaK16
import Derived.WalkKit
import Derived.WalkSpells
import Derived.WalkLawsBesides
import Derived.Handy
import Derived.Carry
import Derived.BigQuiet
import Derived.Deep.QuietTactic
import Derived.Maps.OwnOps
set_option linter.unusedSimpArgs false
set_option linter.unusedVariables false
namespace Go.Proofs.Ytbbaplcfhofeeaa
open Go.RowKit Gen
set_option maxHeartbeats 400000

/-- a map of n places: the frame at each place, the place of each frame -/
structure Mp where
  n : Nat
  fr : Int → Option Int
  pl : Int → Option Int
structure Mp.ok (M : Mp) : Prop where
  n48 : M.n ≤ 48
  dom : ∀ g m, M.fr g = some m → 0 ≤ g ∧ g < M.n ∧ 0 ≤ m ∧ m < 256
  inv : ∀ g m, M.fr g = some m ↔ M.pl m = some g
def Mp.empty (n : Nat) : Mp := ⟨n, fun _ => none, fun _ => none⟩
def Mp.set (M : Mp) (g m : Int) : Mp := { M with fr := fun i => if i = g then some m else M.fr i, pl := fun i => if i = m then some g else M.pl i }
def Mp.clr (M : Mp) (g m : Int) : Mp := { M with fr := fun i => if i = g then none else M.fr i, pl := fun i => if i = m then none else M.pl i }
theorem Mp.empty_ok (n : Nat) (h : n ≤ 48) : (Mp.empty n).ok := ⟨h, fun _ _ h => (by cases h), fun _ _ => ⟨fun h => (by cases h), fun h => (by cases h)⟩⟩
theorem Mp.set_ok {M : Mp} (h : M.ok) {g m : Int} (hg : 0 ≤ g) (hg2 : g < M.n) (hm : 0 ≤ m) (hm2 : m < 256) (hf : M.fr g = none) (hp : M.pl m = none) : (M.set g m).ok := by
  refine ⟨h.n48, fun x y e => ?_, fun x y => ?_⟩
  · simp only [Mp.set] at e ⊢
    split at e
    · rename_i hx; cases e; subst hx; exact ⟨hg, hg2, hm, hm2⟩
    · exact h.dom x y e
  · simp only [Mp.set]
    by_cases hx : x = g
    · subst hx
      rw [if_pos rfl]
      by_cases hy : y = m
      · subst hy; simp
      · rw [if_neg hy]
        constructor
        · intro e; exact absurd (Option.some.inj e).symm hy
        · intro e; have := (h.inv x y).2 e; rw [hf] at this; cases this
    · rw [if_neg hx]
      by_cases hy : y = m
      · subst hy
        rw [if_pos rfl]
        constructor
        · intro e; have := (h.inv x y).1 e; rw [hp] at this; cases this
        · intro e; exact absurd (Option.some.inj e).symm hx
      · rw [if_neg hy]; exact h.inv x y
theorem Mp.clr_ok {M : Mp} (h : M.ok) {g m : Int} (hf : M.fr g = some m) : (M.clr g m).ok := by
  have hp := (h.inv g m).1 hf
  refine ⟨h.n48, fun x y e => ?_, fun x y => ?_⟩
  · simp only [Mp.clr] at e
    split at e
    · cases e
    · exact h.dom x y e
  · simp only [Mp.clr]
    by_cases hx : x = g
    · subst hx
      rw [if_pos rfl]
      by_cases hy : y = m
      · subst hy; simp
      · rw [if_neg hy]
        constructor
        · intro e; cases e
        · intro e; have := (h.inv x y).2 e; rw [hf] at this; exact absurd (Option.some.inj this).symm hy
    · rw [if_neg hx]
      by_cases hy : y = m
      · subst hy
        rw [if_pos rfl]
        constructor
        · intro e; have := (h.inv x y).1 e; rw [hp] at this; exact absurd (Option.some.inj this).symm hx
        · intro e; cases e
      · rw [if_neg hy]; exact h.inv x y

/-- an integer of Go's int -/
def I64 (n : Int) : Prop := (Lit.int .i64 n).wf = true
theorem I64.of {n : Int} (h1 : -9223372036854775808 ≤ n) (h2 : n ≤ 9223372036854775807) : I64 n := WalkArith.wf_i64 (by omega)

theorem int_key : Maps.Keyed Try.prog 3 := Maps.int_keyed Try.underlying3
theorem int_zero (w : World) : (zeroValue 3).run Try.prog w = .ok (.int .i64 0) w := by kernel_rfl

def ptop (n f p : Nat) : Nat → Value
  | 0 => .int .i64 n
  | 1 => .map (some f)
  | _ => .map (some p)
abbrev IMp (w : World) (b T : Nat) (f : Int → Option Int) : Prop := IMap Try.prog 3 3 w b T f
/-- block b is the map M, its frames in block f, its places in block p -/
structure PMap (w : World) (b f p : Nat) (M : Mp) (T : Nat) : Prop where
  top : Row w b 117 3 (ptop M.n f p)
  fr : IMp w f T M.fr
  pl : IMp w p T M.pl
  ne : f ≠ p
def pfoot (b f p k : Nat) : Prop := k = b ∨ k = f ∨ k = p
section
variable {w w' : World} {b f p : Nat} {M : Mp} {T : Nat}
theorem PMap.bf (h : PMap w b f p M T) : f ≠ b := h.fr.row_ne h.top
theorem PMap.bp (h : PMap w b f p M T) : p ≠ b := h.pl.row_ne h.top
theorem PMap.c0 (h : PMap w b f p M T) : w.cell? ⟨b, 0, none⟩ = some (.int .i64 M.n) := h.top.cell (k := 0) (by omega)
theorem PMap.c1 (h : PMap w b f p M T) : w.cell? ⟨b, 1, none⟩ = some (.map (some f)) := h.top.cell (k := 1) (by omega)
theorem PMap.c2 (h : PMap w b f p M T) : w.cell? ⟨b, 2, none⟩ = some (.map (some p)) := h.top.cell (k := 2) (by omega)
theorem PMap.chg {S : Nat → Prop} (h : PMap w b f p M T) (hc : Chg S w w') (hS : ∀ k, pfoot b f p k → ¬ S k) : PMap w' b f p M T :=
  ⟨h.top.chg hc (hS _ (.inl rfl)), h.fr.chg hc (hS _ (.inr (.inl rfl))), h.pl.chg hc (hS _ (.inr (.inr rfl))), h.ne⟩
theorem PMap.grown (h : PMap w b f p M T) (hg : w.grownBy w' none) : PMap w' b f p M T := h.chg (S := fun _ => False) (Chg.of0 hg) fun _ _ e => e
theorem PMap.drew (h : PMap w b f p M T) : PMap w.drew b f p M T := h.grown (grownBy_drew w none)
theorem PMap.lt (h : PMap w b f p M T) {k : Nat} (hk : pfoot b f p k) : k < w.heap.size := by
  rcases hk with rfl | rfl | rfl
  · exact h.top.lt
  · exact h.fr.lt
  · exact h.pl.lt
theorem PMap.mono (h : PMap w b f p M T) {T' : Nat} (hT : T ≤ T') : PMap w b f p M T' := ⟨h.top, h.fr.mono hT, h.pl.mono hT, h.ne⟩
end

theorem neq_map (w : World) (r : Option Nat) : (binOp .neq 115 (.map r) (.map none)).run Try.prog w = .ok (.bool (!r.isNone)) w := run_neq_map_nil w _ _ _ r Try.underlying115
/-- made -/
theorem pmade_nil (w : World) : Calls Try.prog 52 #[.pointer none] w fun e w' => e = .returned (.bool false) ∧ w = w' := by
  go_enter Try.func52, Try.ntmps52
  go_wp2
  go_ret
  exact ⟨rfl, rfl⟩
theorem pmade_zero (b : Nat) (w : World) (h : w.cell? ⟨b, 1, none⟩ = some (.map none)) : Calls Try.prog 52 #[.pointer (some ⟨b, 0, none⟩)] w fun e w' => e = .returned (.bool false) ∧ w = w' := by
  have q := fun w => neq_map w none
  go_enter Try.func52, Try.ntmps52
  go_wp2
  go_ret
  exact ⟨rfl, rfl⟩
theorem pmade_yes (b f : Nat) (w : World) (h : w.cell? ⟨b, 1, none⟩ = some (.map (some f))) : Calls Try.prog 52 #[.pointer (some ⟨b, 0, none⟩)] w fun e w' => e = .returned (.bool true) ∧ w = w' := by
  have q := fun w => neq_map w (some f)
  go_enter Try.func52, Try.ntmps52
  go_wp2
  go_ret
  exact ⟨rfl, rfl⟩
/-- isPlace -/
def inPl (n : Nat) (g : Int) : Bool := decide (0 ≤ g ∧ g < n)
theorem inPl_yes {n : Nat} {g : Int} : inPl n g = true ↔ 0 ≤ g ∧ g < n := by simp [inPl]
theorem inPl_no {n : Nat} {g : Int} (h : inPl n g = false) : ¬ (0 ≤ g ∧ g < n) := fun h' => by rw [inPl_yes.2 h'] at h; cases h
theorem isPlace_any (b n : Nat) (g : Int) (w : World) (h : w.cell? ⟨b, 0, none⟩ = some (.int .i64 n)) :
    Calls Try.prog 53 #[.pointer (some ⟨b, 0, none⟩), .int .i64 g] w fun e w' => e = .returned (.bool (inPl n g)) ∧ w = w' := by
  by_cases h0 : 0 ≤ g
  · go_enter Try.func53, Try.ntmps53
    go_wp2
    go_ret
    exact ⟨by simp [inPl, h0] <;> omega, rfl⟩
  · go_enter Try.func53, Try.ntmps53
    go_wp2
    go_ret
    exact ⟨by simp [inPl, h0] <;> omega, rfl⟩
def inFr (m : Int) : Bool := decide (0 ≤ m ∧ m < 256)
theorem inFr_yes {m : Int} : inFr m = true ↔ 0 ≤ m ∧ m < 256 := by simp [inFr]
theorem isFrame_any (m : Int) (w : World) : Calls Try.prog 54 #[.int .i64 m] w fun e w' => e = .returned (.bool (inFr m)) ∧ w = w' := by
  by_cases h0 : 0 ≤ m
  · go_enter Try.func54, Try.ntmps54
    go_wp2
    go_ret
    exact ⟨by simp [inFr, h0] <;> omega, rfl⟩
  · go_enter Try.func54, Try.ntmps54
    go_wp2
    go_ret
    exact ⟨by simp [inFr, h0] <;> omega, rfl⟩
/-- Get, Find as plain functions -/
def Mp.getE (M : Mp) (g : Int) : Int × Int := if inPl M.n g = true then (match M.fr g with | some m => (m, 0) | none => (0, 6)) else (0, 1)
def Mp.findE (M : Mp) (m : Int) : Int × Int := match M.pl m with | some g => (g, 0) | none => (0, 6)
theorem pFind_nil (g : Int) (w : World) : Calls Try.prog 57 #[.pointer none, .int .i64 g] w fun e w' => e = .returned (.tuple #[.int .i64 0, .int .i64 7]) ∧ w = w' := by
  go_enter Try.func57, Try.ntmps57
  go_wp2_with (go_at_call 52; refine (pmade_nil _).mono ?_; rintro e w' ⟨rfl, rfl⟩)
  go_ret2
  exact ⟨rfl, rfl⟩
theorem pFind_yes (b f p : Nat) (M : Mp) (T : Nat) (g : Int) (hg : I64 g) (w : World) (h : PMap w b f p M T) :
    Calls Try.prog 57 #[.pointer (some ⟨b, 0, none⟩), .int .i64 g] w fun e w' => e = .returned (.tuple #[.int .i64 (M.findE g).1, .int .i64 (M.findE g).2]) ∧ w = w' := by
  have c1 := h.c1
  have c2 := h.c2
  have HF := hid h.pl
  have HG := hid hg
  clear h hg
  cases hf : M.pl g with
  | none =>
    have HV := hid (show M.findE g = (0, 6) by unfold Mp.findE; rw [hf])
    have e1 := hid (show (M.pl g).getD 0 = 0 by rw [hf]; rfl)
    have e2 := hid (show (M.pl g).isSome = false by rw [hf]; rfl)
    rw [HV.out]
    clear hf
    go_enter Try.func57, Try.ntmps57
    go_wp2_with (first
      | (go_at_call 52; refine (pmade_yes _ _ _ c1).mono ?_; rintro e w' ⟨rfl, rfl⟩)
      | (at_lookup; refine wpList_lookup_imap _ rfl _ _ 115 rfl 3 3 int_key Try.underlying3 Try.underlying115 Try.underlying3 (int_zero _) p T M.pl rfl HF.out g rfl HG.out ?_; rw [e1.out, e2.out]))
    go_ret2
    exact ⟨rfl, rfl⟩
  | some m =>
    have HV := hid (show M.findE g = (m, 0) by unfold Mp.findE; rw [hf])
    have e1 := hid (show (M.pl g).getD 0 = m by rw [hf]; rfl)
    have e2 := hid (show (M.pl g).isSome = true by rw [hf]; rfl)
    rw [HV.out]
    clear hf
    go_enter Try.func57, Try.ntmps57
    go_wp2_with (first
      | (go_at_call 52; refine (pmade_yes _ _ _ c1).mono ?_; rintro e w' ⟨rfl, rfl⟩)
      | (at_lookup; refine wpList_lookup_imap _ rfl _ _ 115 rfl 3 3 int_key Try.underlying3 Try.underlying115 Try.underlying3 (int_zero _) p T M.pl rfl HF.out g rfl HG.out ?_; rw [e1.out, e2.out]))
    go_ret2
    exact ⟨rfl, rfl⟩
end Go.Proofs.Ytbbaplcfhofeeaa
