/-
  Package bridge: Ports, Credit, Rate, Tick, Bad, Head, Done, Known of a switch that is made.
-/
import Derived.Test.YtakofhhfdgankaaBrC
set_option linter.unusedSimpArgs false
set_option linter.unusedVariables false
namespace Go.Proofs.Ytakofhhfdgankaa.Br
open Go.RowKit Gen Bk
set_option maxHeartbeats 1000000

section
variable {C : Nat → Prop} {lab lab' : Nat → Nat} {w w' : World} {b g m : Nat} {lq : Nat → Lq} {S : Sw} {k : Nat} {s : Sd} {T : Nat}
theorem PS.self (h : PS lab w b g m lq S) (k : Nat) : PS lab w b g m lq (S.set k (S.P k)) := by rw [Sw.set_self]; exact h
theorem bPorts_no (p : Option Addr) (w : World) (h : NoS w p) : Calls Try.prog 26 #[.pointer p] w fun e w' => e = .returned (.int .i64 0) ∧ w = w' := by
  have H := hid h
  clear h
  go_enter Try.func26, Try.ntmps26
  go_wp2_with (go_at_call 48; refine (bmade_no _ _ H.out).mono ?_; rintro e w' ⟨rfl, rfl⟩)
  go_ret
  exact ⟨rfl, rfl⟩
theorem bPorts (h : PS lab w b g m lq S) (ok : S.ok T) : Calls Try.prog 26 #[.pointer (some ⟨b, 0, none⟩)] w fun e w' => e = .returned (.int .i64 S.n) ∧ w = w' := by
  have c0 := h.c0
  have HN := hid ok.n1
  clear h ok
  go_enter Try.func26, Try.ntmps26
  go_wp2_with (go_at_call 48; refine (bmade_yes _ _ _ _ _ c0 HN.out).mono ?_; rintro e w' ⟨rfl, rfl⟩)
  go_ret
  exact ⟨rfl, rfl⟩
theorem bCredit_no (p : Option Addr) (x : Int) (w : World) (h : NoS w p) : Calls Try.prog 15 #[.pointer p, .int .i64 x] w fun e w' => e = .returned (.int .i64 0) ∧ w = w' := by
  have H := hid (bside_none _ x _ h)
  clear h
  go_enter Try.func15, Try.ntmps15
  go_wp2_with (go_at_call 35; refine H.out.mono ?_; rintro e w' ⟨rfl, rfl⟩)
  go_ret
  exact ⟨rfl, rfl⟩
theorem bCredit (h : PS lab w b g m lq S) (ok : S.ok T) (x : Int) : Calls Try.prog 15 #[.pointer (some ⟨b, 0, none⟩), .int .i64 x] w fun e w' => e = .returned (.int .i64 (S.creditE x : Nat)) ∧ w = w' := by
  unfold Sw.creditE
  cases hp : S.is x with
  | false =>
    have H := hid (bside_no h ok.n1 x hp)
    clear h ok hp
    go_enter Try.func15, Try.ntmps15
    go_wp2_with (go_at_call 35; refine H.out.mono ?_; rintro e w' ⟨rfl, rfl⟩)
    go_ret
    exact ⟨rfl, rfl⟩
  | true =>
    obtain ⟨k, rfl, hk⟩ := Sw.is_yes hp
    have H := hid (bside_yes h k hk ok.n8)
    have c2 := (h.self k).at_credit hk
    clear h ok hp
    simp only [if_true, Int.toNat_natCast]
    go_enter Try.func15, Try.ntmps15
    go_wp2_with (go_at_call 35; refine H.out.mono ?_; rintro e w' ⟨rfl, rfl⟩)
    go_ret
    exact ⟨rfl, rfl⟩
/-- Rate -/
theorem bRate_none (p : Option Addr) (x y z : Int) (w : World) (h : NoS w p) : Calls Try.prog 22 #[.pointer p, .int .i64 x, .int .i64 y, .int .i64 z] w fun e w' => e = .returned (.int .i64 7) ∧ w = w' := by
  have H := hid (bside_none _ x _ h)
  clear h
  go_enter Try.func22, Try.ntmps22
  go_wp2_with (go_at_call 35; refine H.out.mono ?_; rintro e w' ⟨rfl, rfl⟩)
  go_ret
  exact ⟨rfl, rfl⟩
theorem bRate (h : PS lab w b g m lq S) (ok : S.ok T) (x y z : Int) : Calls Try.prog 22 #[.pointer (some ⟨b, 0, none⟩), .int .i64 x, .int .i64 y, .int .i64 z] w fun e w' => e = .returned (.int .i64 ((S.rateE x y z).2 : Nat)) ∧ Aft lab w b g m (S.rateE x y z).1 w' := by
  unfold Sw.rateE
  cases hp : S.is x with
  | false =>
    have H := hid (bside_no h ok.n1 x hp)
    have A := hid h.aft
    clear h ok hp
    simp only [Bool.false_eq_true, if_false]
    go_enter Try.func22, Try.ntmps22
    go_wp2_with (go_at_call 35; refine H.out.mono ?_; rintro e w' ⟨rfl, rfl⟩)
    go_ret
    exact ⟨rfl, A.out⟩
  | true =>
    obtain ⟨k, rfl, hk⟩ := Sw.is_yes hp
    have H := hid (bside_yes h k hk ok.n8)
    simp only [if_true, Int.toNat_natCast]
    by_cases hc : isCr y = true ∧ isCr z = true
    · rw [if_pos hc]
      obtain ⟨hy, hz⟩ := hc
      have ey : ((y.toNat : Nat) : Int) = y := by simp only [isCr, Bool.and_eq_true, decide_eq_true_eq] at hy; omega
      have ez : ((z.toNat : Nat) : Int) = z := by simp only [isCr, Bool.and_eq_true, decide_eq_true_eq] at hz; omega
      have HY := hid (show ∀ w, Calls Try.prog 49 #[.int .i64 y] w _ from fun w => bisCredit y w)
      have HZ := hid (show ∀ w, Calls Try.prog 49 #[.int .i64 z] w _ from fun w => bisCredit z w)
      rw [hy] at HY
      rw [hz] at HZ
      obtain ⟨q1, g1⟩ := (h.self k).set_burst ok.n8 hk y.toNat ey
      have c0 := (h.self k).at_burst hk
      have fz0 := h.fz (k * 13)
      obtain ⟨W1, hW1⟩ : ∃ W, w.setCell ⟨g, k * 13, none⟩ (.int .i64 y) = W := ⟨_, rfl⟩
      rw [hW1] at q1 g1
      obtain ⟨q2, g2⟩ := q1.set_rate ok.n8 hk z.toNat ez
      have c1 := q1.at_rate hk
      have fz1 := q1.fz (k * 13 + 1)
      obtain ⟨W2, hW2⟩ : ∃ W, W1.setCell ⟨g, k * 13 + 1, none⟩ (.int .i64 z) = W := ⟨_, rfl⟩
      rw [hW2] at q2 g2
      obtain ⟨q3, g3⟩ := q2.set_credit ok.n8 hk y.toNat ey
      have c2 := q2.at_credit hk
      have fz2 := q2.fz (k * 13 + 2)
      have Q := hid q3
      have G := hid (h.stg ((g1.trans g2).trans g3))
      clear h ok hp q1 q2 q3 g1 g2 g3 hy hz ey ez
      simp only at c1 c2
      go_enter Try.func22, Try.ntmps22
      go_wp2_with (first
        | (go_at_call 35; refine H.out.mono ?_; rintro e w' ⟨rfl, rfl⟩)
        | (go_at_call 49; (with_reducible refine (HY.out _).mono ?_); rintro e w' ⟨rfl, rfl⟩)
        | (go_at_call 49; (with_reducible refine (HZ.out _).mono ?_); rintro e w' ⟨rfl, rfl⟩))
      go_ret
      exact ⟨rfl, _, _, Q.out, G.out⟩
    · rw [if_neg hc]
      have A := hid h.aft
      cases hy : isCr y with
      | false =>
        have HY := hid (show ∀ w, Calls Try.prog 49 #[.int .i64 y] w _ from fun w => bisCredit y w)
        rw [hy] at HY
        clear h ok hp hc hy
        go_enter Try.func22, Try.ntmps22
        go_wp2_with (first
          | (go_at_call 35; refine H.out.mono ?_; rintro e w' ⟨rfl, rfl⟩)
          | (go_at_call 49; (with_reducible refine (HY.out _).mono ?_); rintro e w' ⟨rfl, rfl⟩))
        go_ret
        exact ⟨rfl, A.out⟩
      | true =>
        have hz : isCr z = false := by cases e : isCr z with | false => rfl | true => exact absurd ⟨hy, e⟩ hc
        have HY := hid (show ∀ w, Calls Try.prog 49 #[.int .i64 y] w _ from fun w => bisCredit y w)
        have HZ := hid (show ∀ w, Calls Try.prog 49 #[.int .i64 z] w _ from fun w => bisCredit z w)
        rw [hy] at HY
        rw [hz] at HZ
        clear h ok hp hc hy hz
        go_enter Try.func22, Try.ntmps22
        go_wp2_with (first
          | (go_at_call 35; refine H.out.mono ?_; rintro e w' ⟨rfl, rfl⟩)
          | (go_at_call 49; (with_reducible refine (HY.out _).mono ?_); rintro e w' ⟨rfl, rfl⟩)
          | (go_at_call 49; (with_reducible refine (HZ.out _).mono ?_); rintro e w' ⟨rfl, rfl⟩))
        go_ret
        exact ⟨rfl, A.out⟩
/-- Bad -/
theorem bBad_none (p : Option Addr) (x : Int) (w : World) (h : NoS w p) : Calls Try.prog 24 #[.pointer p, .int .i64 x] w fun e w' => e = .returned (.int .i64 7) ∧ w = w' := by
  have H := hid (bside_none _ x _ h)
  clear h
  go_enter Try.func24, Try.ntmps24
  go_wp2_with (go_at_call 35; refine H.out.mono ?_; rintro e w' ⟨rfl, rfl⟩)
  go_ret
  exact ⟨rfl, rfl⟩
theorem bBad (h : PS lab w b g m lq S) (ok : S.ok T) (x : Int) : Calls Try.prog 24 #[.pointer (some ⟨b, 0, none⟩), .int .i64 x] w fun e w' => e = .returned (.int .i64 ((S.badE x).2 : Nat)) ∧ Aft lab w b g m (S.badE x).1 w' := by
  unfold Sw.badE
  cases hp : S.is x with
  | false =>
    have H := hid (bside_no h ok.n1 x hp)
    have A := hid h.aft
    clear h ok hp
    simp only [Bool.false_eq_true, if_false]
    go_enter Try.func24, Try.ntmps24
    go_wp2_with (go_at_call 35; refine H.out.mono ?_; rintro e w' ⟨rfl, rfl⟩)
    go_ret
    exact ⟨rfl, A.out⟩
  | true =>
    obtain ⟨k, rfl, hk⟩ := Sw.is_yes hp
    have H := hid (bside_yes h k hk ok.n8)
    have os := ok.sd k hk
    have := os.tk
    have := os.tT
    have := ok.T62
    have HB := hid (bbad (h.self k) ok.n8 hk (by omega) (by omega))
    have HS := hid (fun (w' : World) (gg : w.grownBy w' (some g)) => h.stg gg)
    clear h ok hp os
    simp only [if_true, Int.toNat_natCast]
    go_enter Try.func24, Try.ntmps24
    go_wp2_with (first
      | (go_at_call 35; refine H.out.mono ?_; rintro e w' ⟨rfl, rfl⟩)
      | (go_at_call 41; refine HB.out.mono ?_; rintro e w1 ⟨rfl, p1, g1⟩; have P1 := hid p1; have G1 := hid (HS.out _ g1); clear p1 g1))
    go_ret
    exact ⟨rfl, _, _, P1.out, G1.out⟩
/-- Done -/
theorem bDone_none (p : Option Addr) (x : Int) (d : Bool) (w : World) (h : NoS w p) : Calls Try.prog 25 #[.pointer p, .int .i64 x, .bool d] w fun e w' => e = .returned (.int .i64 7) ∧ w = w' := by
  have H := hid (bside_none _ x _ h)
  clear h
  go_enter Try.func25, Try.ntmps25
  go_wp2_with (go_at_call 35; refine H.out.mono ?_; rintro e w' ⟨rfl, rfl⟩)
  go_ret
  exact ⟨rfl, rfl⟩
theorem bDone (h : PS lab w b g m lq S) (ok : S.ok T) (x : Int) (d : Bool) : Calls Try.prog 25 #[.pointer (some ⟨b, 0, none⟩), .int .i64 x, .bool d] w fun e w' => e = .returned (.int .i64 ((S.doneE x d).2 : Nat)) ∧ Aft lab w b g m (S.doneE x d).1 w' := by
  unfold Sw.doneE
  cases hp : S.is x with
  | false =>
    have H := hid (bside_no h ok.n1 x hp)
    have A := hid h.aft
    clear h ok hp
    simp only [Bool.false_eq_true, if_false]
    go_enter Try.func25, Try.ntmps25
    go_wp2_with (go_at_call 35; refine H.out.mono ?_; rintro e w' ⟨rfl, rfl⟩)
    go_ret
    exact ⟨rfl, A.out⟩
  | true =>
    obtain ⟨k, rfl, hk⟩ := Sw.is_yes hp
    have H := hid (bside_yes h k hk ok.n8)
    have os := ok.sd k hk
    have := os.dr
    have := os.dT
    have := ok.T62
    have HB := hid (bdone (h.self k) ok.n8 hk os.q4 (by omega) (by omega) d)
    clear h ok hp os
    simp only [if_true, Int.toNat_natCast]
    obtain ⟨c, hc⟩ : ∃ c, (S.P k).doneE = c := ⟨_, rfl⟩
    rw [hc] at HB ⊢
    go_enter Try.func25, Try.ntmps25
    go_wp2_with (first
      | (go_at_call 35; refine H.out.mono ?_; rintro e w' ⟨rfl, rfl⟩)
      | (go_at_call 39; refine HB.out.mono ?_; rintro e w1 ⟨rfl, ha⟩; have HA := hid ha; clear ha))
    go_ret
    exact ⟨rfl, HA.out⟩
/-- Known -/
theorem bKnown_no (p : Option Addr) (x : Int) (w : World) (h : NoS w p) : Calls Try.prog 21 #[.pointer p, .int .i64 x] w fun e w' => e = .returned (.tuple #[.int .i64 0, .int .i64 7]) ∧ w = w' := by
  have H := hid h
  clear h
  go_enter Try.func21, Try.ntmps21
  go_wp2_with (go_at_call 48; refine (bmade_no _ _ H.out).mono ?_; rintro e w' ⟨rfl, rfl⟩)
  go_ret2
  exact ⟨rfl, rfl⟩
theorem zero_int (w : World) : (zeroValue 3).run Try.prog w = .ok (.int .i64 0) w := by rw [Try.zeroValue3]
theorem bKnown (h : PS lab w b g m lq S) (ok : S.ok T) (x : Int) : Calls Try.prog 21 #[.pointer (some ⟨b, 0, none⟩), .int .i64 x] w fun e w' => e = .returned (.tuple #[.int .i64 ((S.knownE x).1 : Nat), .int .i64 ((S.knownE x).2 : Nat)]) ∧ w = w' := by
  have c0 := h.c0
  have c1 := h.c1
  have HN := hid ok.n1
  have HM := hid h.map
  unfold Sw.knownE
  by_cases h0 : 0 ≤ x
  · by_cases h1 : x ≤ 255
    · rw [if_pos ⟨h0, h1⟩]
      obtain ⟨a, rfl⟩ : ∃ a : Nat, x = a := ⟨x.toNat, by omega⟩
      have ha : a < 256 := by omega
      have hwr : IntKind.u8.wrap (a : Int) = a := IntWalk.u8_in _ (by omega)
      have hg1 : decide ((a : Int) < 0) = false := by simp <;> omega
      have hg2 : decide ((255 : Int) < a) = false := by simp <;> omega
      have hl := HM.out.look Try.underlying5 Try.underlying56 Try.underlying3 (zero_int w) ha
      simp only [Int.toNat_natCast]
      cases hA : S.A a with
      | none =>
        rw [hA] at hl
        simp only [Option.getD_none, Option.isSome_none] at hl
        clear h ok
        go_enter Try.func21, Try.ntmps21
        go_wp2_with (go_at_call 48; refine (bmade_yes _ _ _ _ _ c0 HN.out).mono ?_; rintro e w' ⟨rfl, rfl⟩)
        go_ret2
        exact ⟨rfl, rfl⟩
      | some p =>
        rw [hA] at hl
        simp only [Option.getD_some, Option.isSome_some] at hl
        clear h ok
        go_enter Try.func21, Try.ntmps21
        go_wp2_with (go_at_call 48; refine (bmade_yes _ _ _ _ _ c0 HN.out).mono ?_; rintro e w' ⟨rfl, rfl⟩)
        go_ret2
        exact ⟨rfl, rfl⟩
    · rw [if_neg (by omega)]
      clear h ok
      go_enter Try.func21, Try.ntmps21
      go_wp2_with (go_at_call 48; refine (bmade_yes _ _ _ _ _ c0 HN.out).mono ?_; rintro e w' ⟨rfl, rfl⟩)
      go_ret2
      exact ⟨rfl, rfl⟩
  · rw [if_neg (by omega)]
    clear h ok
    go_enter Try.func21, Try.ntmps21
    go_wp2_with (go_at_call 48; refine (bmade_yes _ _ _ _ _ c0 HN.out).mono ?_; rintro e w' ⟨rfl, rfl⟩)
    go_ret2
    exact ⟨rfl, rfl⟩
end
end Go.Proofs.Ytakofhhfdgankaa.Br
