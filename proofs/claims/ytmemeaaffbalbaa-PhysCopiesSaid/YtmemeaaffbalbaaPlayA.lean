/-
  Contracts of the statements' own help: awake, ints; the calls leave the size.
-/
import Derived.Test.YtmemeaaffbalbaaRefJ
import Derived.BigQuiet
import Derived.Deep.QuietTactic
namespace Go.Proofs.Ytmemeaaffbalbaa
open Go.RowKit
set_option maxHeartbeats 400000

theorem New_two' (w : World) : Calls Try.prog 11 #[.int .i64 2] w fun e w' => ∃ v, e = .returned (.tuple #[v, .int .i64 0]) ∧ NewMach w (upTo 2 2) v w' := New_yes 2 w (by omega) (by omega)
theorem two_left : (upTo 2 2).leftN = 2 := by decide
theorem awake_yes (w : World) : Calls Try.prog 13 #[] w fun e w' => e = .returned (.bool true) ∧ w.grownBy w' none := by
  go_enter Try.func13, Try.ntmps13
  go_wp2_with (first
    | (go_at_call 11; refine (New_two' _).mono ?_; rintro e w1 ⟨v, rfl, B, rfl, hB, hM1, hg1⟩; have HM1 := hid hM1; have HG1 := hid hg1; clear hM1 hg1)
    | (go_at_call 34; refine (Left_any _ (upTo 2 2) _ (HM1.out.stops (by decide) (by decide)) (by decide)).mono ?_; rw [two_left]; rintro e w2 ⟨rfl, hg2⟩; have HG2 := hid (HG1.out.trans hg2); clear hg2))
  go_ret
  exact ⟨rfl, HG2.out⟩

theorem ints_same (p p' : Option Addr) (n c c' : Nat) (l : List Nat) (base base' : Nat) (w : World) (h : w.ownsRow base 3 1 (.slice p n c) n (icells l)) (h' : w.ownsRow base' 3 1 (.slice p' n c') n (icells l)) (hl : l.length = n) (hn : n ≤ 256) :
    Calls Try.prog 54 #[.slice p n c, .slice p' n c'] w fun e w' => e = .returned (.bool true) ∧ ∃ m, w' = w.drewN m := by
  subst hl
  have HA := hid h; have HB := hid h'
  clear h h'
  have hee : ((l.length : Int) != (l.length : Int)) = false := by simp
  go_enter Try.func54, Try.ntmps54
  go_wp2
  go_loopw [5] (fun i wr => ∃ k m : Nat, i = .int .i64 k ∧ k ≤ l.length ∧ wr = w.drewN m) (fun i _ => l.length - (intOf i).toNat)
  case atStart => exact ⟨0, 0, rfl, by omega, rfl⟩
  case round =>
    obtain ⟨k, m, rfl, hk, rfl⟩ := hrel
    by_cases hlt : k < l.length
    · have hlt' : (k : Int) < l.length := by omega
      have hk0 : (0 : Int) ≤ k := by omega
      obtain ⟨g, c1, e1, hc1⟩ := row_cellN HA.out hlt
      obtain ⟨g', c2, e2, hc2⟩ := row_cellN HB.out hlt
      cases e1; cases e2
      generalize l[k] = x at hc1 hc2
      have hxx : ((x : Int) != (x : Int)) = false := by simp
      go_wp2
      go_quiet (fail)
      all_goals go_wp2
      all_goals go_roundw
      all_goals first | exact ⟨k + 1, m + nq, by go_num, by omega, rfl⟩ | (simp [intOf]; omega)
    · have hge : (l.length : Int) ≤ k := by omega
      obtain rfl : k = l.length := by omega
      go_wp2
      go_ret
      exact ⟨rfl, _, rfl⟩
end Go.Proofs.Ytmemeaaffbalbaa
