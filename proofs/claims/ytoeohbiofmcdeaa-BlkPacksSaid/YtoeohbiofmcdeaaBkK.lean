/-
  Package blk: mayHave; the reference's many; requestID.
-/
import Derived.Test.YtoeohbiofmcdeaaBkD
set_option linter.unusedSimpArgs false
set_option linter.unusedVariables false
namespace Go.Proofs.Ytoeohbiofmcdeaa.Bk
open Go.RowKit Gen
set_option maxHeartbeats 4000000

theorem bMay (op n page : Int) (w : World) : Calls Try.prog 24 #[.int .i64 op, .int .i64 n, .int .i64 page] w fun e w' => e = .returned (.bool (mayV op n page)) ∧ w = w' := by
  by_cases hp : page = -1
  · subst hp
    have b0 : ((-1 : Int) != -1) = false := by decide
    by_cases h0 : op = 0 ∨ op = 1
    · unfold mayV
      rw [if_pos h0, if_pos rfl]
      rcases h0 with rfl | rfl
      · cases h1 : decide (1 ≤ n) with
        | true =>
          go_enter Try.func24, Try.ntmps24
          go_wp2
          go_ret
          exact ⟨by simp, rfl⟩
        | false =>
          go_enter Try.func24, Try.ntmps24
          go_wp2
          go_ret
          exact ⟨by simp, rfl⟩
      · cases h1 : decide (1 ≤ n) with
        | true =>
          go_enter Try.func24, Try.ntmps24
          go_wp2
          go_ret
          exact ⟨by simp, rfl⟩
        | false =>
          go_enter Try.func24, Try.ntmps24
          go_wp2
          go_ret
          exact ⟨by simp, rfl⟩
    · by_cases h2 : op = 2
      · subst h2
        unfold mayV
        rw [if_neg h0, if_pos rfl]
        cases h1 : decide (n = 0) with
        | true =>
          have h1' : (n == 0) = true := by simpa using h1
          go_enter Try.func24, Try.ntmps24
          go_wp2
          go_ret
          exact ⟨by simp, rfl⟩
        | false =>
          have h1' : (n == 0) = false := by simpa using h1
          go_enter Try.func24, Try.ntmps24
          go_wp2
          go_ret
          exact ⟨by simp, rfl⟩
      · unfold mayV
        rw [if_neg h0, if_neg h2]
        have x0 : (op == 0) = false := by simp; omega
        have x1 : (op == 1) = false := by simp; omega
        have x2 : (op == 2) = false := by simp; omega
        go_enter Try.func24, Try.ntmps24
        go_wp2
        go_ret
        exact ⟨rfl, rfl⟩
  · have b0 : (page != -1) = true := by simpa using hp
    have b1 : (page == -1) = false := by simpa using hp
    by_cases h0 : op = 0 ∨ op = 1
    · unfold mayV
      rw [if_pos h0, if_neg hp]
      rcases h0 with rfl | rfl
      · cases h1 : decide (1 ≤ n) with
        | true =>
          go_enter Try.func24, Try.ntmps24
          go_wp2
          go_ret
          exact ⟨by simp, rfl⟩
        | false =>
          go_enter Try.func24, Try.ntmps24
          go_wp2
          go_ret
          exact ⟨by simp, rfl⟩
      · cases h1 : decide (1 ≤ n) with
        | true =>
          go_enter Try.func24, Try.ntmps24
          go_wp2
          go_ret
          exact ⟨by simp, rfl⟩
        | false =>
          go_enter Try.func24, Try.ntmps24
          go_wp2
          go_ret
          exact ⟨by simp, rfl⟩
    · by_cases h2 : op = 2
      · subst h2
        unfold mayV
        rw [if_neg h0, if_pos rfl]
        cases h1 : decide (n = 0) with
        | true =>
          have h1' : (n == 0) = true := by simpa using h1
          go_enter Try.func24, Try.ntmps24
          go_wp2
          go_ret
          exact ⟨by simp [hp], rfl⟩
        | false =>
          have h1' : (n == 0) = false := by simpa using h1
          go_enter Try.func24, Try.ntmps24
          go_wp2
          go_ret
          exact ⟨by simp, rfl⟩
      · unfold mayV
        rw [if_neg h0, if_neg h2]
        have x0 : (op == 0) = false := by simp; omega
        have x1 : (op == 1) = false := by simp; omega
        have x2 : (op == 2) = false := by simp; omega
        go_enter Try.func24, Try.ntmps24
        go_wp2
        go_ret
        exact ⟨rfl, rfl⟩
def manyV (op n most : Int) : Bool := if op = 2 then decide (n = 0) else decide (1 ≤ n) && decide (n ≤ most)
theorem rMany (op n most : Int) (w : World) : Calls Try.prog 35 #[.int .i64 op, .int .i64 n, .int .i64 most] w fun e w' => e = .returned (.bool (manyV op n most)) ∧ w = w' := by
  unfold manyV
  by_cases h2 : op = 2
  · subst h2
    rw [if_pos rfl]
    cases h1 : decide (n = 0) with
    | true =>
      have h1' : (n == 0) = true := by simpa using h1
      go_enter Try.func35, Try.ntmps35
      go_wp2
      go_ret
      exact ⟨by simp, rfl⟩
    | false =>
      have h1' : (n == 0) = false := by simpa using h1
      go_enter Try.func35, Try.ntmps35
      go_wp2
      go_ret
      exact ⟨by simp, rfl⟩
  · have x2 : (op == 2) = false := by simp; omega
    rw [if_neg h2]
    cases h1 : decide (1 ≤ n) with
    | true =>
      go_enter Try.func35, Try.ntmps35
      go_wp2
      go_ret
      exact ⟨by simp, rfl⟩
    | false =>
      go_enter Try.func35, Try.ntmps35
      go_wp2
      go_ret
      exact ⟨by simp, rfl⟩
theorem mayV_self (op n : Int) (h : 0 ≤ op) : mayV op n (-1) = (decide (op ≤ 2) && manyV op n 4) := by
  unfold mayV manyV
  by_cases h0 : op = 0 ∨ op = 1
  · rw [if_pos h0, if_pos rfl, if_neg (by omega)]
    simp; omega
  · rw [if_neg h0]
    by_cases h2 : op = 2
    · rw [if_pos h2, if_pos h2]; simp; omega
    · rw [if_neg h2, if_neg h2]
      have : ¬ op ≤ 2 := by omega
      simp [this]
theorem mayV_page (op n : Int) (p : Nat) (h : 0 ≤ op) : mayV op n p = (decide (op ≤ 1) && manyV op n 16) := by
  have hp : ¬ ((p : Int) = -1) := by omega
  unfold mayV manyV
  by_cases h0 : op = 0 ∨ op = 1
  · rw [if_pos h0, if_neg hp, if_neg (by omega)]
    simp; omega
  · rw [if_neg h0]
    have : ¬ op ≤ 1 := by omega
    by_cases h2 : op = 2
    · rw [if_pos h2]; simp [hp, this]
    · rw [if_neg h2]; simp [this]
/-- requestID -/
theorem bReqID (b o c : Nat) (l : List UInt8) (w : World) (hl : l.length = 16) (hc : 16 ≤ c) (h : BA w (some ⟨b, o, none⟩) l) : Calls Try.prog 31 #[.slice (some ⟨b, o, none⟩) 16 c] w fun e w' => e = .returned (.int .i64 (upN (l.getD 2 0).toNat (l.getD 3 0).toNat 0 0 2 : Nat)) ∧ ∃ n, w' = w.drewN n := by
  have c0 := h.at (k := 2) (by omega)
  have c1 := h.at (k := 3) (by omega)
  have y0 := UInt8.toNat_lt (l.getD 2 0)
  have y1 := UInt8.toNat_lt (l.getD 3 0)
  generalize (l.getD 2 0).toNat = x0 at *
  generalize (l.getD 3 0).toNat = x1 at *
  have H := hid (bNumber b (o + 2) (c - 2) 2 x0 x1 0 0 w (by omega) ⟨y0, y1, by omega, by omega⟩ (fun k hk => by match k, hk with | 0, _ => exact c0 | 1, _ => exact c1))
  have h2 : 2 ≤ c := by omega
  have h4 : 4 ≤ c := by omega
  have h2' : (2 : Int) ≤ c := by omega
  have h4' : (4 : Int) ≤ c := by omega
  clear h c0 c1 hc
  go_enter Try.func31, Try.ntmps31
  go_wp2_with (go_at_call 32; refine H.out.mono ?_; rintro e w' ⟨rfl, n, rfl⟩)
  go_ret
  exact ⟨rfl, _, rfl⟩
end Go.Proofs.Ytoeohbiofmcdeaa.Bk
