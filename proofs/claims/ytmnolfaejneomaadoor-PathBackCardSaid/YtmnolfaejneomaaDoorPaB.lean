/-
  The reference of layer 9: letter, Name.
-/
import Derived.Test.YtmnolfaejneomaaDoorPaA
set_option linter.unusedSimpArgs false
set_option linter.unusedVariables false
namespace Go.Proofs.YtmnolfaejneomaaDoor
open Go.RowKit
set_option maxHeartbeats 1000000
set_option maxRecDepth 100000
theorem rfLet (r : Nat) (w : World) : Calls Tryd.prog 39 #[.int .u8 r] w fun e w' => e = .returned (.bool (inNameB r)) ∧ w = w' := by
  by_cases h45 : r = 45
  · subst h45; go_enter Tryd.func39, Tryd.ntmps39; go_wp2; go_ret; exact ⟨rfl, rfl⟩
  by_cases h95 : r = 95
  · subst h95; go_enter Tryd.func39, Tryd.ntmps39; go_wp2; go_ret; exact ⟨rfl, rfl⟩
  by_cases h46 : r = 46
  · subst h46; go_enter Tryd.func39, Tryd.ntmps39; go_wp2; go_ret; exact ⟨rfl, rfl⟩
  by_cases h64 : r = 64
  · subst h64; go_enter Tryd.func39, Tryd.ntmps39; go_wp2; go_ret; exact ⟨rfl, rfl⟩
  have e1 : ((r : Int) == 45) = false := by simp; omega
  have e2 : ((r : Int) == 95) = false := by simp; omega
  have e3 : ((r : Int) == 46) = false := by simp; omega
  have e4 : ((r : Int) == 64) = false := by simp; omega
  go_enter Tryd.func39, Tryd.ntmps39
  go_wp2
  all_goals go_ret
  all_goals refine ⟨congrArg (fun b => Ending.returned (Value.bool b)) ?_, rfl⟩
  all_goals (rw [inNameB_eq, Bool.eq_iff_iff]; simp only [Bool.or_eq_true, decide_eq_true_eq, Bool.false_eq_true, false_iff, true_iff, iff_true, iff_false]; omega)
theorem rfName (s : ByteArray) (w : World) (hs : s.size ≤ 9223372036854775807) : Calls Tryd.prog 19 #[.string s] w (NmPost s w) := by
  by_cases hne : s = ⟨#[]⟩
  · subst hne
    go_enter Tryd.func19, Tryd.ntmps19
    go_wp2
    go_ret2
    exact ⟨rfl, Below.refl _ _⟩
  have n1 := ne_empty hne
  have n2 : nmV s.data.toList = nmGo s.data.toList 0 := by unfold nmV; rw [if_neg (ne_nil hne)]
  have N2 := hid n2
  clear n2
  go_enter Tryd.func19, Tryd.ntmps19
  go_wp2
  go_loop [4] (fun i => ∃ pos : Nat, i = .int .i64 pos ∧ pos ≤ s.size ∧ pos ≤ 32 ∧ nmGo (s.data.toList.drop pos) pos = nmV s.data.toList) (fun i => s.size - (intOf i).toNat)
  case atStart => exact ⟨0, rfl, Nat.zero_le _, Nat.zero_le _, by rw [N2.out]; rfl⟩
  case round =>
    obtain ⟨pos, rfl, hp, h32, hg⟩ := hrel
    have HG := hid hg
    clear hg
    by_cases hlt : pos < s.size
    · cases hin : inNameB (s[pos]'hlt).toNat with
      | true =>
        by_cases he : pos = 32
        · have e1 : ((pos : Int) == 32) = true := by simp; omega
          have HE := hid he
          clear he
          go_wp2_with (go_at_call 39; refine (rfLet _ _).mono ?_; rintro e w' ⟨rfl, rfl⟩)
          go_ret2
          have hv : nmV s.data.toList = (pos, 2) := by rw [← HG.out, drop_at s pos hlt, nmGo, if_pos hin, if_pos HE.out]
          exact ⟨by rw [hv]; rfl, Below.refl _ w⟩
        · have e1 : ((pos : Int) == 32) = false := by simp; omega
          go_wp2_with (go_at_call 39; refine (rfLet _ _).mono ?_; rintro e w' ⟨rfl, rfl⟩)
          go_round
          case rel =>
            refine ⟨pos + 1, by go_num, by omega, by simp at e1; omega, ?_⟩
            rw [← HG.out, drop_at s pos hlt, nmGo, if_pos hin, if_neg (by simp at e1; omega)]
          case measure => simp [intOf]; omega
      | false =>
        go_wp2_with (go_at_call 39; refine (rfLet _ _).mono ?_; rintro e w' ⟨rfl, rfl⟩)
        go_ret2
        have hv : nmV s.data.toList = (pos, 90) := by rw [← HG.out, drop_at s pos hlt, nmGo, if_neg (by rw [hin]; decide)]
        exact ⟨by rw [hv]; rfl, Below.refl _ w⟩
    · go_wp2
      go_ret2
      have hv : nmV s.data.toList = (0, 0) := by rw [← HG.out, List.drop_of_length_le (by simpa using hlt)]; rfl
      exact ⟨by rw [hv]; rfl, Below.refl _ w⟩
end Go.Proofs.YtmnolfaejneomaaDoor
