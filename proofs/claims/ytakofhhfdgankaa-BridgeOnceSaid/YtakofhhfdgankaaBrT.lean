/-
  The reference's switch: Is, Rate, Bad, Known, known.
-/
import Derived.Test.YtakofhhfdgankaaBrR
import Derived.Deep.Cut
set_option linter.unusedSimpArgs false
set_option linter.unusedVariables false
namespace Go.Proofs.Ytakofhhfdgankaa.Br
open Go.RowKit Gen Bk
set_option maxHeartbeats 1000000

section
variable {C : Nat → Prop} {lab lab' lab1 : Nat → Nat} {w w' w1 : World} {y r a ca : Nat} {lq : Nat → Lq} {S : Sw} {k : Nat} {s s' : Sd} {T : Nat}
theorem yIs (h : RS lab w y r a ca lq S) (s : Int) : Calls Try.prog 34 #[.pointer (some ⟨y, 0, none⟩), .int .i64 s] w fun e w' => e = .returned (.bool (S.is s)) ∧ w = w' := by
  have c0 := h.c0
  cases hs : S.is s with
  | true =>
    obtain ⟨k, rfl, hk⟩ := Sw.is_yes hs
    have h0 : (0 : Int) ≤ k := by omega
    have h1 : (k : Int) < S.n := by omega
    clear h hs
    go_enter Try.func34, Try.ntmps34
    go_wp2
    go_ret
    exact ⟨by simp <;> omega, rfl⟩
  | false =>
    have hn := Sw.is_no hs
    clear hs h
    by_cases h0 : 0 ≤ s
    · have h1 : (S.n : Int) ≤ s := by omega
      clear hn
      go_enter Try.func34, Try.ntmps34
      go_wp2
      go_ret
      exact ⟨by simp <;> omega, rfl⟩
    · clear hn
      go_enter Try.func34, Try.ntmps34
      go_wp2
      go_ret
      exact ⟨by simp <;> omega, rfl⟩
/-- Bad -/
theorem yBad (h : RS lab w y r a ca lq S) (ok : S.ok T) (x : Int) : Calls Try.prog 32 #[.pointer (some ⟨y, 0, none⟩), .int .i64 x] w fun e w' => e = .returned (.int .i64 ((S.badE x).2 : Nat)) ∧ AftR lab w y r a ca (S.badE x).1 w' := by
  have H := hid (yIs h x)
  unfold Sw.badE
  cases hp : S.is x with
  | false =>
    rw [hp] at H
    have A := hid h.aft
    clear h ok hp
    simp only [Bool.false_eq_true, if_false]
    go_enter Try.func32, Try.ntmps32
    go_wp2_with (go_at_call 34; refine H.out.mono ?_; rintro e w' ⟨rfl, rfl⟩)
    go_ret
    exact ⟨rfl, A.out⟩
  | true =>
    rw [hp] at H
    obtain ⟨k, rfl, hk⟩ := Sw.is_yes hp
    simp only [if_true, Int.toNat_natCast]
    have os := ok.sd k hk
    obtain ⟨s, hs⟩ : ∃ s, S.P k = s := ⟨_, rfl⟩
    have hp' := h.self k
    rw [hs] at hp' os ⊢
    have t1 := os.tk
    have t2 := os.tT
    have t3 := ok.T62
    have t4 : s.taken ≤ 2305843009213693952 := by omega
    have t5 : s.mal ≤ 2305843009213693952 := by omega
    have n8 := ok.n8
    have k0 : (0 : Int) ≤ k := by omega
    have k1 : (k : Int) < S.n := by omega
    obtain ⟨q1, g1⟩ := hp'.set_taken n8 hk (s.taken + 1) (z := (s.taken : Int) + 1) (by omega)
    have c0 := h.c0
    have c4 := hp'.at_taken hk
    have fz := h.fz (k * 13 + 4)
    obtain ⟨W1, hW1⟩ : ∃ W, w.setCell ⟨r, k * 13 + 4, none⟩ (.int .i64 ((s.taken : Int) + 1)) = W := ⟨_, rfl⟩
    rw [hW1] at q1 g1
    have d0 : W1.cell? ⟨y, 0, none⟩ = some (.slice (some ⟨r, 0, none⟩) S.n S.n) := q1.c0
    have c6 := q1.at_mal hk
    have fz6 := q1.fz (k * 13 + 6)
    simp only at c6
    obtain ⟨q2, g2⟩ := q1.set_mal n8 hk (s.mal + 1) (z := (s.mal : Int) + 1) (by omega)
    have Q := hid (show AftR lab w y r a ca (S.set k s.bad) _ from ⟨_, _, q2, h.str (g1.trans g2)⟩)
    clear h ok hp os hs hp' q1 q2 g1 g2 t1 t2 t3
    go_enter Try.func32, Try.ntmps32
    go_wp2_with (go_at_call 34; refine H.out.mono ?_; rintro e w' ⟨rfl, rfl⟩)
    go_ret
    exact ⟨rfl, Q.out⟩
/-- Known -/
theorem yKnown (h : RS lab w y r a ca lq S) (ok : S.ok T) (x : Int) : Calls Try.prog 31 #[.pointer (some ⟨y, 0, none⟩), .int .i64 x] w fun e w' => e = .returned (.tuple #[.int .i64 ((S.knownE x).1 : Nat), .int .i64 ((S.knownE x).2 : Nat)]) ∧ w = w' := by
  have c1 := h.c1
  unfold Sw.knownE
  by_cases h0 : 0 ≤ x
  · by_cases h1 : x ≤ 255
    · rw [if_pos ⟨h0, h1⟩]
      obtain ⟨x, rfl⟩ : ∃ k : Nat, x = k := ⟨x.toNat, by omega⟩
      have hg1 : decide ((x : Int) < 0) = false := by simp <;> omega
      have hg2 : decide ((255 : Int) < x) = false := by simp <;> omega
      have hx1 : (x : Int) < 256 := by omega
      have ca := h.ad (x := x) (by omega)
      simp only [Int.toNat_natCast]
      cases hA : S.A x with
      | none =>
        rw [hA] at ca
        simp only [atI] at ca
        clear h ok
        go_enter Try.func31, Try.ntmps31
        go_wp2
        go_ret2
        exact ⟨rfl, rfl⟩
      | some p =>
        rw [hA] at ca
        simp only [atI] at ca
        have hp : ¬ (p : Int) < 0 := by omega
        clear h ok
        go_enter Try.func31, Try.ntmps31
        go_wp2
        go_ret2
        exact ⟨rfl, rfl⟩
    · rw [if_neg (by omega)]
      have hg1 : decide ((x : Int) < 0) = false := by simp <;> omega
      have hg2 : decide ((255 : Int) < x) = true := by simp <;> omega
      clear h ok
      go_enter Try.func31, Try.ntmps31
      go_wp2
      go_ret2
      exact ⟨rfl, rfl⟩
  · rw [if_neg (by omega)]
    have hg1 : decide ((x : Int) < 0) = true := by simp <;> omega
    clear h ok
    go_enter Try.func31, Try.ntmps31
    go_wp2
    go_ret2
    exact ⟨rfl, rfl⟩
/-- known: how many addresses are -/
theorem yknown (h : RS lab w y r a ca lq S) : Calls Try.prog 45 #[.pointer (some ⟨y, 0, none⟩)] w fun e w' => e = .returned (.int .i64 (cnt S.A 256 : Nat)) ∧ w = w' := by
  have c1 := h.c1
  have HA := hid (fun (x : Nat) (hx : x < 256) => h.ad hx)
  clear h
  go_enter Try.func45, Try.ntmps45
  go_wp2
  go_loopw [3, 4] (fun n i wr => ∃ j : Nat, i = .int .i64 j ∧ j ≤ 256 ∧ n = .int .i64 (cnt S.A j : Nat) ∧ wr = w) (fun _ i _ => 256 - (intOf i).toNat)
  case atStart => exact ⟨0, rfl, by omega, rfl, rfl⟩
  case round =>
    obtain ⟨j, rfl, hj, rfl, rfl⟩ := hrel
    have hj0 : (0 : Int) ≤ j := by omega
    by_cases hlt : j < 256
    · have hlt' : (j : Int) < 256 := by omega
      have cj := HA.out j hlt
      have hs := cnt_succ S.A j
      have hle := cnt_le S.A j
      obtain ⟨n, hn⟩ : ∃ n, cnt S.A j = n := ⟨_, rfl⟩
      rw [hn] at hs hle ⊢
      cases hA : S.A j with
      | none =>
        rw [hA] at cj hs
        simp only [atI, Option.isSome_none, Bool.false_eq_true, if_false, Nat.add_zero] at cj hs
        go_wp2
        go_roundw
        case rel => exact ⟨j + 1, by go_num, by omega, by rw [hs], trivial⟩
        case measure => simp [intOf]; omega
      | some p =>
        rw [hA] at cj hs
        simp only [atI, Option.isSome_some, if_true] at cj hs
        have hp : (0 : Int) ≤ p := by omega
        go_wp2
        go_roundw
        case rel => exact ⟨j + 1, by go_num, by omega, by rw [hs]; go_num, trivial⟩
        case measure => simp [intOf]; omega
    · obtain rfl : j = 256 := by omega
      go_wp2
      go_ret
      exact ⟨rfl, rfl⟩
end
end Go.Proofs.Ytakofhhfdgankaa.Br
