/-
  Package grant: words, entries that pack; the reference's Unpack whole.
-/
import Derived.Test.YtibiianmpajabaaGrS
import Derived.Test.YtibiianmpajabaaGrC
set_option linter.unusedSimpArgs false
set_option linter.unusedVariables false
namespace Go.Proofs.Ytibiianmpajabaa
open Go.RowKit
set_option maxHeartbeats 4000000
theorem gUn8 (g o c : Nat) (b : Nat → Nat) (w : World) (h : B8 w g o b) : Calls Try.prog 116 #[.slice (some ⟨g, o, none⟩) 8 c] w fun e w' => e = .returned (.tuple #[(unG b).1.val, .int .i64 (unG b).2]) ∧ w.grownBy w' none := by
  by_cases hbad : 16 ≤ b 0 ∨ b 1 ≠ 0 ∨ b 0 % 4 = 3
  · have := gUn_bad g o c b w h hbad
    rw [show unG b = (g0, 60) by unfold unG; rw [if_pos hbad]]
    exact this
  by_cases hs : b 0 / 8 = 1
  · by_cases hl : 256 < b 6 + b 7 + 1
    · have := gUn_long g o c b w h hbad hs hl
      exact this
    · exact gUn_sub g o c b w h hbad hs hl
  · exact gUn_yes g o c b w h hbad hs
def wV (x : Int) : Bool := decide (0 ≤ x) && decide (x ≤ 65535)
def pgV (off n : Int) : Bool := decide (0 ≤ off) && (decide (1 ≤ n) && decide (n ≤ 256 - off))
def packV (g : GV) : Bool := decide (0 ≤ g.k) && (decide (g.k ≤ 2) && (wV g.dom && (wV g.gpfn && pgV g.off g.len)))
theorem gWord (x : Int) (w : World) : Calls Try.prog 140 #[.int .i64 x] w fun e w' => e = .returned (.bool (wV x)) ∧ w = w' := by
  unfold wV
  cases h0 : decide (0 ≤ x)
  all_goals
    go_enter Try.func140, Try.ntmps140
    go_wp2
    go_ret
    exact ⟨rfl, rfl⟩
theorem gPage (off n : Int) (w : World) (h : off ≤ 9223372036854775807) : Calls Try.prog 141 #[.int .i64 off, .int .i64 n] w fun e w' => e = .returned (.bool (pgV off n)) ∧ w = w' := by
  unfold pgV
  cases h0 : decide (0 ≤ off) with
  | false =>
    go_enter Try.func141, Try.ntmps141
    go_wp2
    go_ret
    exact ⟨rfl, rfl⟩
  | true =>
    have h0' : 0 ≤ off := by simpa using h0
    cases h1 : decide (1 ≤ n)
    all_goals
      go_enter Try.func141, Try.ntmps141
      go_wp2
      go_ret
      exact ⟨rfl, rfl⟩
theorem gPacks (g : GV) (w : World) (h : g.off ≤ 9223372036854775807) : Calls Try.prog 120 #[g.val] w fun e w' => e = .returned (.bool (packV g)) ∧ w.grownBy w' none := by
  obtain ⟨k, ro, sub, dom, gp, off, len⟩ := g
  have HP := hid fun w' => gPage off len w' h
  simp only [GV.val, packV]
  clear h
  cases h0 : decide (0 ≤ k)
  case' true => cases h1 : decide (k ≤ 2)
  case' true.true => cases h2 : wV dom
  case' true.true.true => cases h3 : wV gp
  case' true.true.true.true => cases h4 : pgV off len
  all_goals
    go_enter Try.func120, Try.ntmps120
    go_wp2_with (first
      | (go_at_call 140; refine (gWord _ _).mono ?_; rintro e w' ⟨rfl, rfl⟩)
      | (go_at_call 141; refine (HP.out _).mono ?_; rintro e w' ⟨rfl, rfl⟩))
    go_ret
    exact ⟨rfl, World.grownBy_alloc _ _ _⟩
theorem gWordAt0 (g o c : Nat) (b : Nat → Nat) (w : World) (h : B8 w g o b) : Calls Try.prog 143 #[.slice (some ⟨g, o, none⟩) 8 c, .int .i64 0] w fun e w' => e = .returned (.int .i64 (b 0 + 256 * b 1 : Nat)) ∧ ∃ n, w' = w.drewN n := by
  have l0 := h.lt 0 (by omega); have l1 := h.lt 1 (by omega)
  have c0 := h.c 0 (by omega); have c1 := h.c 1 (by omega)
  rw [Nat.add_zero] at c0
  generalize b 0 = x at *
  generalize b 1 = y at *
  have ho := grOrWord x y l0 l1
  have HO := hid ho
  clear ho h
  go_enter Try.func143, Try.ntmps143
  go_wp2
  go_quiet (fail)
  go_wp2
  go_ret
  exact ⟨by rw [← HO.out]; rfl, _, rfl⟩
theorem gWordAt2 (g o c : Nat) (b : Nat → Nat) (w : World) (h : B8 w g o b) : Calls Try.prog 143 #[.slice (some ⟨g, o, none⟩) 8 c, .int .i64 2] w fun e w' => e = .returned (.int .i64 (b 2 + 256 * b 3 : Nat)) ∧ ∃ n, w' = w.drewN n := by
  have l0 := h.lt 2 (by omega); have l1 := h.lt 3 (by omega)
  have c0 := h.c 2 (by omega); have c1 := h.c 3 (by omega)
  skip
  generalize b 2 = x at *
  generalize b 3 = y at *
  have ho := grOrWord x y l0 l1
  have HO := hid ho
  clear ho h
  go_enter Try.func143, Try.ntmps143
  go_wp2
  go_quiet (fail)
  go_wp2
  go_ret
  exact ⟨by rw [← HO.out]; rfl, _, rfl⟩
theorem gWordAt4 (g o c : Nat) (b : Nat → Nat) (w : World) (h : B8 w g o b) : Calls Try.prog 143 #[.slice (some ⟨g, o, none⟩) 8 c, .int .i64 4] w fun e w' => e = .returned (.int .i64 (b 4 + 256 * b 5 : Nat)) ∧ ∃ n, w' = w.drewN n := by
  have l0 := h.lt 4 (by omega); have l1 := h.lt 5 (by omega)
  have c0 := h.c 4 (by omega); have c1 := h.c 5 (by omega)
  skip
  generalize b 4 = x at *
  generalize b 5 = y at *
  have ho := grOrWord x y l0 l1
  have HO := hid ho
  clear ho h
  go_enter Try.func143, Try.ntmps143
  go_wp2
  go_quiet (fail)
  go_wp2
  go_ret
  exact ⟨by rw [← HO.out]; rfl, _, rfl⟩
end Go.Proofs.Ytibiianmpajabaa
