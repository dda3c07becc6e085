/-
  Package bus: State of both sides, awake.
-/
import Derived.Test.YtbocbokkphlcbaaRows
import Derived.Test.YtbocbokkphlcbaaOpen
import Derived.ProofKit
import Derived.WalkKit
import Derived.Maps.AppendAt
import Derived.Lib.Hide
import Derived.Lib.SlBytesConst
import Derived.Deep.QuietTactic
import Derived.BigQuiet
import Derived.Handy
set_option linter.unusedSimpArgs false
set_option linter.unusedVariables false
namespace Go.Proofs.Ytbocbokkphlcbaa
open Go.RowKit Go.Lib
set_option maxHeartbeats 1000000
set_option maxRecDepth 100000

/-- bytes that lie somewhere -/
def BA (w : World) (p : Option Addr) (l : List UInt8) : Prop := ∀ k, k < l.length → ∃ g o, p = some ⟨g, o, none⟩ ∧ w.cell? ⟨g, o + k, none⟩ = some (.int .u8 (l.getD k 0).toNat)
theorem BA.grown {w w' : World} {p : Option Addr} {l : List UInt8} (h : BA w p l) (hg : w.grownBy w' none) : BA w' p l := fun k hk => by
  obtain ⟨g, o, e, hc⟩ := h k hk
  exact ⟨g, o, e, hg.cell hc (by simp)⟩
/-- the state that a value is -/
def stV (l : List UInt8) : Int := if l.length = 1 ∧ 49 ≤ (l.getD 0 0).toNat ∧ (l.getD 0 0).toNat ≤ 54 then ((l.getD 0 0).toNat : Int) - 48 else 0
theorem BA.one {w : World} {p : Option Addr} {l : List UInt8} (h : BA w p l) (hl : l.length = 1) : ∃ g o, p = some ⟨g, o, none⟩ ∧ w.cell? ⟨g, o, none⟩ = some (.int .u8 (l.getD 0 0).toNat) := by
  obtain ⟨g, o, e, hc⟩ := h 0 (by omega)
  exact ⟨g, o, e, hc⟩
theorem bState (l : List UInt8) (p : Option Addr) (c : Nat) (w : World) (h : BA w p l) : Calls Try.prog 6 #[.slice p l.length c] w fun e w' => e = .returned (.int .i64 (stV l)) ∧ w = w' := by
  by_cases hl : l.length = 1
  · obtain ⟨g, o, rfl, hc⟩ := h.one hl
    unfold stV
    have hx := UInt8.toNat_lt (l.getD 0 0)
    rw [hl]
    clear h
    generalize (l.getD 0 0).toNat = x at *
    by_cases h1 : 49 ≤ x
    · by_cases h2 : x ≤ 54
      · rw [if_pos ⟨rfl, h1, h2⟩]
        have e1 : ¬ ((x : Int) - 48 < 1) := by omega
        have e2 : ¬ ((x : Int) - 48 > 6) := by omega
        go_enter Try.func6, Try.ntmps6
        go_wp2
        go_ret
        exact ⟨rfl, rfl⟩
      · rw [if_neg (by omega)]
        have e1 : ¬ ((x : Int) - 48 < 1) := by omega
        have e2 : ((x : Int) - 48 > 6) := by omega
        go_enter Try.func6, Try.ntmps6
        go_wp2
        go_ret
        exact ⟨rfl, rfl⟩
    · rw [if_neg (by omega)]
      have e1 : ((x : Int) - 48 < 1) := by omega
      go_enter Try.func6, Try.ntmps6
      go_wp2
      go_ret
      exact ⟨rfl, rfl⟩
  · have e : stV l = 0 := by unfold stV; rw [if_neg (fun h => hl h.1)]
    rw [e]
    have hb : ((l.length : Int) != 1) = true := by simp; omega
    clear h e
    go_enter Try.func6, Try.ntmps6
    go_wp2
    go_ret
    exact ⟨rfl, rfl⟩
theorem rState (l : List UInt8) (p : Option Addr) (c : Nat) (w : World) (h : BA w p l) : Calls Try.prog 7 #[.slice p l.length c] w fun e w' => e = .returned (.int .i64 (stV l)) ∧ w = w' := by
  by_cases hl : l.length = 1
  · obtain ⟨g, o, rfl, hc⟩ := h.one hl
    unfold stV
    have hx := UInt8.toNat_lt (l.getD 0 0)
    rw [hl]
    clear h
    generalize (l.getD 0 0).toNat = x at *
    by_cases h1 : 49 ≤ x
    · by_cases h2 : x ≤ 54
      · rw [if_pos ⟨rfl, h1, h2⟩]
        go_enter Try.func7, Try.ntmps7
        go_wp2
        go_ret
        exact ⟨rfl, rfl⟩
      · rw [if_neg (by omega)]
        go_enter Try.func7, Try.ntmps7
        go_wp2
        go_ret
        exact ⟨rfl, rfl⟩
    · rw [if_neg (by omega)]
      go_enter Try.func7, Try.ntmps7
      go_wp2
      go_ret
      exact ⟨rfl, rfl⟩
  · have e : stV l = 0 := by unfold stV; rw [if_neg (fun h => hl h.1)]
    rw [e]
    have hb : ((l.length : Int) == 1) = false := by simp; omega
    clear h e
    go_enter Try.func7, Try.ntmps7
    go_wp2
    go_ret
    exact ⟨rfl, rfl⟩
theorem four_at (w : World) : BA (w.alloc (.cells #[.int .u8 52] 5 (1, 2))) (some ⟨w.heap.size, 0, none⟩) [52] := fun k hk => by
  obtain rfl : k = 0 := by simp at hk; omega
  exact ⟨_, _, rfl, by rw [Nat.zero_add, cell_of_row _ w.heap.size 0 _ _ _ (MapKept.heap_alloc w _).1]; rfl⟩
theorem bAwake (w : World) : Calls Try.prog 8 #[] w fun e w' => e = .returned (.bool true) ∧ w.grownBy w' none := by
  have HS := Lib.hid (show Calls Try.prog 6 #[.slice (some ⟨w.heap.size, 0, none⟩) 1 1] (w.alloc (.cells #[.int .u8 52] 5 (1, 2))) _ from bState [52] (some ⟨w.heap.size, 0, none⟩) 1 _ (four_at w))
  rw [show stV [52] = 4 from rfl] at HS
  have hcv := Lib.run_convert_bytes_const (P := Try.prog) w 22 5 #[.int .u8 52] 1 1 Try.underlying22 Try.underlying5
  go_enter Try.func8, Try.ntmps8
  go_wp2_with (go_at_call 6; (refine HS.out.mono ?_); rintro e w' ⟨rfl, rfl⟩)
  go_ret
  exact ⟨rfl, World.grownBy_alloc _ _ none⟩
end Go.Proofs.Ytbocbokkphlcbaa
