/-
  Package bus: sets of states, Next of both sides.
-/
import Derived.Test.YtbocbokkphlcbaaBsA
import Derived.Laws.ShiftsVarLaws
set_option linter.unusedSimpArgs false
set_option linter.unusedVariables false
namespace Go.Proofs.Ytbocbokkphlcbaa
open Go.RowKit Go.Lib
set_option maxHeartbeats 1000000
set_option maxRecDepth 100000
def hasV (m : Nat) (s : Int) : Bool := decide (0 ≤ s ∧ s ≤ 6) && decide (m / 2 ^ s.toNat % 2 = 1)
theorem and_bits : ∀ m : Fin 128, ∀ k : Fin 7, (bits .and .u8 ((m.1 : Int) / 2 ^ k.1) 1 == 1) = decide (m.1 / 2 ^ k.1 % 2 = 1) := by decide +kernel
theorem bHas (m : Nat) (hm : m < 128) (s : Int) (w : World) : Calls Try.prog 13 #[.int .u8 m, .int .i64 s] w fun e w' => e = .returned (.bool (hasV m s)) ∧ w = w' := by
  by_cases h0 : 0 ≤ s
  · by_cases h6 : s ≤ 6
    · have e : hasV m s = (bits .and .u8 ((m : Int) / 2 ^ s.toNat) 1 == 1) := by
        unfold hasV
        rw [decide_eq_true (show 0 ≤ s ∧ s ≤ 6 from ⟨h0, h6⟩), Bool.true_and]
        exact (and_bits ⟨m, hm⟩ ⟨s.toNat, by omega⟩).symm
      rw [e]
      clear e
      go_enter Try.func13, Try.ntmps13
      go_wp2
      go_ret
      exact ⟨rfl, rfl⟩
    · have e : hasV m s = false := by
        unfold hasV
        rw [decide_eq_false (show ¬ (0 ≤ s ∧ s ≤ 6) from fun h => h6 h.2), Bool.false_and]
      rw [e]
      clear e
      go_enter Try.func13, Try.ntmps13
      go_wp2
      go_ret
      exact ⟨rfl, rfl⟩
  · have e : hasV m s = false := by
      unfold hasV
      rw [decide_eq_false (show ¬ (0 ≤ s ∧ s ≤ 6) from fun h => h0 h.1), Bool.false_and]
    rw [e]
    clear e
    go_enter Try.func13, Try.ntmps13
    go_wp2
    go_ret
    exact ⟨rfl, rfl⟩
theorem seven (s : Int) : s = 0 ∨ s = 1 ∨ s = 2 ∨ s = 3 ∨ s = 4 ∨ s = 5 ∨ s = 6 ∨ (s < 0 ∨ 6 < s) := by omega
def goneV (o : Int) : Bool := decide (o = 5 ∨ o = 6 ∨ o = 0)
def metV (o : Int) : Bool := decide (o = 3 ∨ o = 4)
theorem has_gone (o : Int) : hasV 97 o = goneV o := by
  rcases seven o with rfl | rfl | rfl | rfl | rfl | rfl | rfl | h
  all_goals first | rfl | skip
  unfold hasV goneV
  rw [decide_eq_false (show ¬ (0 ≤ o ∧ o ≤ 6) by omega), decide_eq_false (show ¬ (o = 5 ∨ o = 6 ∨ o = 0) by omega)]; rfl
theorem has_met (o : Int) : hasV 24 o = metV o := by
  rcases seven o with rfl | rfl | rfl | rfl | rfl | rfl | rfl | h
  all_goals first | rfl | skip
  unfold hasV metV
  rw [decide_eq_false (show ¬ (0 ≤ o ∧ o ≤ 6) by omega), decide_eq_false (show ¬ (o = 3 ∨ o = 4) by omega)]; rfl
def nextV (own other : Int) : Int :=
  if own = 1 then 2 else
  if own = 2 then (if metV other = true then 4 else 2) else
  if own = 3 ∨ own = 4 then (if goneV other = true then 5 else own) else
  if own = 5 then (if goneV other = true then 6 else 5) else
  if own = 6 ∨ own = 0 then (if other = 1 then 1 else own) else own
theorem bHas24 (o : Int) (w : World) : Calls Try.prog 13 #[.int .u8 24, .int .i64 o] w fun e w' => e = .returned (.bool (metV o)) ∧ w = w' := by
  rw [← has_met]; exact bHas 24 (by omega) o w
theorem bHas97 (o : Int) (w : World) : Calls Try.prog 13 #[.int .u8 97, .int .i64 o] w fun e w' => e = .returned (.bool (goneV o)) ∧ w = w' := by
  rw [← has_gone]; exact bHas 97 (by omega) o w
theorem bNext (own other : Int) (w : World) : Calls Try.prog 11 #[.int .i64 own, .int .i64 other] w fun e w' => e = .returned (.int .i64 (nextV own other)) ∧ w = w' := by
  have H24 := Lib.hid (fun w => bHas24 other w)
  have H97 := Lib.hid (fun w => bHas97 other w)
  rcases seven own with rfl | rfl | rfl | rfl | rfl | rfl | rfl | h
  · by_cases h1 : other = 1
    · subst h1
      go_enter Try.func11, Try.ntmps11
      go_wp2
      go_ret
      exact ⟨rfl, rfl⟩
    · rw [show nextV 0 other = 0 by unfold nextV; simp [h1]]
      have hb : (other == 1) = false := by simpa using h1
      go_enter Try.func11, Try.ntmps11
      go_wp2
      go_ret
      exact ⟨rfl, rfl⟩
  · go_enter Try.func11, Try.ntmps11
    go_wp2
    go_ret
    exact ⟨rfl, rfl⟩
  · cases hm : metV other with
    | true =>
      rw [show nextV 2 other = 4 by unfold nextV; simp [hm]]
      rw [hm] at H24
      go_enter Try.func11, Try.ntmps11
      go_wp2_with (go_at_call 13; (refine (H24.out _).mono ?_); rintro e w' ⟨rfl, rfl⟩)
      go_ret
      exact ⟨rfl, rfl⟩
    | false =>
      rw [show nextV 2 other = 2 by unfold nextV; simp [hm]]
      rw [hm] at H24
      go_enter Try.func11, Try.ntmps11
      go_wp2_with (go_at_call 13; (refine (H24.out _).mono ?_); rintro e w' ⟨rfl, rfl⟩)
      go_ret
      exact ⟨rfl, rfl⟩
  · cases hm : goneV other with
    | true =>
      rw [show nextV 3 other = 5 by unfold nextV; simp [hm]]
      rw [hm] at H97
      go_enter Try.func11, Try.ntmps11
      go_wp2_with (go_at_call 13; (refine (H97.out _).mono ?_); rintro e w' ⟨rfl, rfl⟩)
      go_ret
      exact ⟨rfl, rfl⟩
    | false =>
      rw [show nextV 3 other = 3 by unfold nextV; simp [hm]]
      rw [hm] at H97
      go_enter Try.func11, Try.ntmps11
      go_wp2_with (go_at_call 13; (refine (H97.out _).mono ?_); rintro e w' ⟨rfl, rfl⟩)
      go_ret
      exact ⟨rfl, rfl⟩
  · cases hm : goneV other with
    | true =>
      rw [show nextV 4 other = 5 by unfold nextV; simp [hm]]
      rw [hm] at H97
      go_enter Try.func11, Try.ntmps11
      go_wp2_with (go_at_call 13; (refine (H97.out _).mono ?_); rintro e w' ⟨rfl, rfl⟩)
      go_ret
      exact ⟨rfl, rfl⟩
    | false =>
      rw [show nextV 4 other = 4 by unfold nextV; simp [hm]]
      rw [hm] at H97
      go_enter Try.func11, Try.ntmps11
      go_wp2_with (go_at_call 13; (refine (H97.out _).mono ?_); rintro e w' ⟨rfl, rfl⟩)
      go_ret
      exact ⟨rfl, rfl⟩
  · cases hm : goneV other with
    | true =>
      rw [show nextV 5 other = 6 by unfold nextV; simp [hm]]
      rw [hm] at H97
      go_enter Try.func11, Try.ntmps11
      go_wp2_with (go_at_call 13; (refine (H97.out _).mono ?_); rintro e w' ⟨rfl, rfl⟩)
      go_ret
      exact ⟨rfl, rfl⟩
    | false =>
      rw [show nextV 5 other = 5 by unfold nextV; simp [hm]]
      rw [hm] at H97
      go_enter Try.func11, Try.ntmps11
      go_wp2_with (go_at_call 13; (refine (H97.out _).mono ?_); rintro e w' ⟨rfl, rfl⟩)
      go_ret
      exact ⟨rfl, rfl⟩
  · by_cases h1 : other = 1
    · subst h1
      go_enter Try.func11, Try.ntmps11
      go_wp2
      go_ret
      exact ⟨rfl, rfl⟩
    · rw [show nextV 6 other = 6 by unfold nextV; simp [h1]]
      have hb : (other == 1) = false := by simpa using h1
      go_enter Try.func11, Try.ntmps11
      go_wp2
      go_ret
      exact ⟨rfl, rfl⟩
  · rw [show nextV own other = own by unfold nextV; rw [if_neg (by omega), if_neg (by omega), if_neg (by omega), if_neg (by omega), if_neg (by omega)]]
    have e0 : (own == 0) = false := by simp; omega
    have e1 : (own == 1) = false := by simp; omega
    have e2 : (own == 2) = false := by simp; omega
    have e3 : (own == 3) = false := by simp; omega
    have e4 : (own == 4) = false := by simp; omega
    have e5 : (own == 5) = false := by simp; omega
    have e6 : (own == 6) = false := by simp; omega
    clear h
    go_enter Try.func11, Try.ntmps11
    go_wp2
    go_ret
    exact ⟨rfl, rfl⟩
theorem nextV_out {own other : Int} (h : other < 0 ∨ 6 < other) : nextV own other = if own = 1 then 2 else own := by
  have h1 : metV other = false := decide_eq_false (show ¬ (other = 3 ∨ other = 4) by omega)
  have h2 : goneV other = false := decide_eq_false (show ¬ (other = 5 ∨ other = 6 ∨ other = 0) by omega)
  have h3 : ¬ other = 1 := by omega
  unfold nextV
  rw [h1, h2, if_neg h3]
  simp only [Bool.false_eq_true, if_false]
  (repeat' split) <;> omega
theorem rNext (own other : Int) (w : World) : Calls Try.prog 12 #[.int .i64 own, .int .i64 other] w fun e w' => e = .returned (.int .i64 (nextV own other)) ∧ w = w' := by
  rcases seven other with rfl | rfl | rfl | rfl | rfl | rfl | rfl | h2
  rotate_left 7
  · rw [nextV_out h2]
    have f0 : (other == 0) = false := by simp; omega
    have f1 : (other == 1) = false := by simp; omega
    have f3 : (other == 3) = false := by simp; omega
    have f4 : (other == 4) = false := by simp; omega
    have f5 : (other == 5) = false := by simp; omega
    have f6 : (other == 6) = false := by simp; omega
    clear h2
    rcases seven own with rfl | rfl | rfl | rfl | rfl | rfl | rfl | h
    rotate_left 7
    · rw [if_neg (show ¬ own = 1 by omega)]
      have e0 : (own == 0) = false := by simp; omega
      have e1 : (own == 1) = false := by simp; omega
      have e2 : (own == 2) = false := by simp; omega
      have e3 : (own == 3) = false := by simp; omega
      have e4 : (own == 4) = false := by simp; omega
      have e5 : (own == 5) = false := by simp; omega
      have e6 : (own == 6) = false := by simp; omega
      clear h
      go_enter Try.func12, Try.ntmps12
      go_wp2
      go_ret
      exact ⟨rfl, rfl⟩
    all_goals
      go_enter Try.func12, Try.ntmps12
      go_wp2
      go_ret
      exact ⟨rfl, rfl⟩
  all_goals
    rcases seven own with rfl | rfl | rfl | rfl | rfl | rfl | rfl | h
    rotate_left 7
    · rw [show ∀ o, nextV own o = own from fun o => by unfold nextV; rw [if_neg (by omega), if_neg (by omega), if_neg (by omega), if_neg (by omega), if_neg (by omega)]]
      have e0 : (own == 0) = false := by simp; omega
      have e1 : (own == 1) = false := by simp; omega
      have e2 : (own == 2) = false := by simp; omega
      have e3 : (own == 3) = false := by simp; omega
      have e4 : (own == 4) = false := by simp; omega
      have e5 : (own == 5) = false := by simp; omega
      have e6 : (own == 6) = false := by simp; omega
      clear h
      go_enter Try.func12, Try.ntmps12
      go_wp2
      go_ret
      exact ⟨rfl, rfl⟩
    all_goals
      go_enter Try.func12, Try.ntmps12
      go_wp2
      go_ret
      exact ⟨rfl, rfl⟩
end Go.Proofs.Ytbocbokkphlcbaa
