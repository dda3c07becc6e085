/-
  Contracts of package tenementref01: Is, Domain, still, In.
-/
import Derived.Test.YtnplkifohocekaaDoorRefM
set_option linter.unusedSimpArgs false
set_option linter.unusedVariables false
namespace Go.Proofs.YtnplkifohocekaaDoor
open Go.RowKit
set_option maxHeartbeats 400000

theorem rDomain_no (d : Int) (w : World) (h : d < 0 ∨ 8 ≤ d) : Calls Tryd.prog 59 #[.int .i64 d] w fun e w' => e = .returned (.bool false) ∧ w = w' := by
  by_cases h1 : d < 0
  · clear h
    go_enter Tryd.func59, Tryd.ntmps59
    go_wp2
    go_ret
    first | exact ⟨rfl, rfl⟩ | (refine ⟨?_, rfl⟩; simp; omega)
  · have h2 : 8 ≤ d := by omega
    clear h
    go_enter Tryd.func59, Tryd.ntmps59
    go_wp2
    go_ret
    first | exact ⟨rfl, rfl⟩ | (refine ⟨?_, rfl⟩; simp; omega)
theorem rDomain_yes (d : Int) (w : World) (h0 : 0 ≤ d) (h1 : d < 8) : Calls Tryd.prog 59 #[.int .i64 d] w fun e w' => e = .returned (.bool true) ∧ w = w' := by
  go_enter Tryd.func59, Tryd.ntmps59
  go_wp2
  go_ret
  first | exact ⟨rfl, rfl⟩ | (refine ⟨?_, rfl⟩; simp; omega)
theorem Is_no (b : Nat) (i : Int) (w : World) (M : Mach) (L : Lay) (h : RM w b M L) (hi : i < 0 ∨ M.n ≤ i) : Calls Tryd.prog 83 #[.pointer (some ⟨b, 0, none⟩), .int .i64 i] w fun e w' => e = .returned (.bool false) ∧ w = w' := by
  have c0 := h.slF
  rw [h.hn] at hi
  by_cases h1 : i < 0
  · clear hi
    go_enter Tryd.func83, Tryd.ntmps83
    go_wp2
    go_ret
    first | exact ⟨rfl, rfl⟩ | (refine ⟨?_, rfl⟩; simp; omega)
  · have h2 : (L.n : Int) ≤ i := by omega
    have h3 : 0 ≤ i := by omega
    clear hi
    go_enter Tryd.func83, Tryd.ntmps83
    go_wp2
    go_ret
    first | exact ⟨rfl, rfl⟩ | (refine ⟨?_, rfl⟩; simp; omega)
theorem Is_yes (b : Nat) (i : Nat) (w : World) (M : Mach) (L : Lay) (h : RM w b M L) (hi : i < L.n) : Calls Tryd.prog 83 #[.pointer (some ⟨b, 0, none⟩), .int .i64 i] w fun e w' => e = .returned (.bool true) ∧ w = w' := by
  have c0 := h.slF
  have h2 : (i : Int) < L.n := by omega
  have h3 : (0 : Int) ≤ i := by omega
  go_enter Tryd.func83, Tryd.ntmps83
  go_wp2
  go_ret
  first | exact ⟨rfl, rfl⟩ | (refine ⟨?_, rfl⟩; simp; omega)
theorem In_no (b : Nat) (i off n : Int) (w : World) (M : Mach) (L : Lay) (h : RM w b M L) (hn : n ≤ 9223372036854775807) (hi : M.is i = false ∨ inP off n = false) : Calls Tryd.prog 66 #[.pointer (some ⟨b, 0, none⟩), .int .i64 i, .int .i64 off, .int .i64 n] w fun e w' => e = .returned (.bool false) ∧ w = w' := by
  by_cases h1 : i < 0 ∨ M.n ≤ i
  · clear hi
    go_enter Tryd.func66, Tryd.ntmps66
    go_wp2_with (go_at_call 83; refine (Is_no _ _ _ _ _ h h1).mono ?_; rintro e w' ⟨rfl, rfl⟩)
    go_ret
    first | exact ⟨rfl, rfl⟩ | (refine ⟨?_, rfl⟩; simp; omega)
  · obtain ⟨j, rfl⟩ := Int.eq_ofNat_of_zero_le (show 0 ≤ i by omega)
    have hj : j < L.n := by have := h.hn; omega
    have hp : inP off n = false := by
      rcases hi with hi | hi
      · rw [Mach.is_yes (by omega) (by omega)] at hi; cases hi
      · exact hi
    clear hi h1
    have hp' : off < 0 ∨ (0 ≤ off ∧ n < 0) ∨ (0 ≤ off ∧ 0 ≤ n ∧ 256 < off) ∨ (0 ≤ off ∧ 0 ≤ n ∧ off ≤ 256 ∧ 256 - off < n) := by
      simp only [inP, Bool.and_eq_false_iff, decide_eq_false_iff_not] at hp; omega
    clear hp
    rcases hp' with h1 | ⟨h1, h2⟩ | ⟨h1, h2, h3⟩ | ⟨h1, h2, h3, h4⟩
    all_goals
      go_enter Tryd.func66, Tryd.ntmps66
      go_wp2_with (go_at_call 83; refine (Is_yes _ _ _ _ _ h hj).mono ?_; rintro e w' ⟨rfl, rfl⟩)
      go_ret
      first | exact ⟨rfl, rfl⟩ | (refine ⟨?_, rfl⟩; simp; omega)
theorem In_yes (b i off n : Nat) (w : World) (M : Mach) (L : Lay) (h : RM w b M L) (hi : i < L.n) (hp : off + n ≤ 256) : Calls Tryd.prog 66 #[.pointer (some ⟨b, 0, none⟩), .int .i64 i, .int .i64 off, .int .i64 n] w fun e w' => e = .returned (.bool true) ∧ w = w' := by
  have h1 : (0 : Int) ≤ off := by omega
  have h2 : (0 : Int) ≤ n := by omega
  have h3 : (off : Int) ≤ 256 := by omega
  have h4 : (n : Int) ≤ 256 - off := by omega
  go_enter Tryd.func66, Tryd.ntmps66
  go_wp2_with (go_at_call 83; refine (Is_yes _ _ _ _ _ h hi).mono ?_; rintro e w' ⟨rfl, rfl⟩)
  go_ret
  first | exact ⟨rfl, rfl⟩ | (refine ⟨?_, rfl⟩; simp; omega)
end Go.Proofs.YtnplkifohocekaaDoor
