/-
  Package bridge: Ports, Credit, Rate, Tick, Bad, Head, Done, Known of a switch that is made.
-/
import Derived.Test.YtolfjbodgdjbjaaGreatBrC
set_option linter.unusedSimpArgs false
set_option linter.unusedVariables false
namespace Go.Proofs.YtolfjbodgdjbjaaGreat.Br
open Go.RowKit Gen Bk
set_option maxHeartbeats 1000000

section
variable {C : Nat → Prop} {lab lab' : Nat → Nat} {w w' : World} {b g m : Nat} {lq : Nat → Lq} {S : Sw} {k : Nat} {s : Sd} {T : Nat}
theorem PS.self (h : PS lab w b g m lq S) (k : Nat) : PS lab w b g m lq (S.set k (S.P k)) := by rw [Sw.set_self]; exact h
theorem bPorts_no (p : Option Addr) (w : World) (h : NoS w p) : Calls Tryz.prog 28 #[.pointer p] w fun e w' => e = .returned (.int .i64 0) ∧ w = w' := by
  have H := hid h
  clear h
  go_enter Tryz.func28, Tryz.ntmps28
  go_wp2_with (go_at_call 50; refine (bmade_no _ _ H.out).mono ?_; rintro e w' ⟨rfl, rfl⟩)
  go_ret
  exact ⟨rfl, rfl⟩
theorem bPorts (h : PS lab w b g m lq S) (ok : S.ok T) : Calls Tryz.prog 28 #[.pointer (some ⟨b, 0, none⟩)] w fun e w' => e = .returned (.int .i64 S.n) ∧ w = w' := by
  have c0 := h.c0
  have HN := hid ok.n1
  clear h ok
  go_enter Tryz.func28, Tryz.ntmps28
  go_wp2_with (go_at_call 50; refine (bmade_yes _ _ _ _ _ c0 HN.out).mono ?_; rintro e w' ⟨rfl, rfl⟩)
  go_ret
  exact ⟨rfl, rfl⟩
/-- Bad -/
theorem bBad_none (p : Option Addr) (x : Int) (w : World) (h : NoS w p) : Calls Tryz.prog 44 #[.pointer p, .int .i64 x] w fun e w' => e = .returned (.int .i64 7) ∧ w = w' := by
  have H := hid (bside_none _ x _ h)
  clear h
  go_enter Tryz.func44, Tryz.ntmps44
  go_wp2_with (go_at_call 66; refine H.out.mono ?_; rintro e w' ⟨rfl, rfl⟩)
  go_ret
  exact ⟨rfl, rfl⟩
theorem bBad (h : PS lab w b g m lq S) (ok : S.ok T) (x : Int) : Calls Tryz.prog 44 #[.pointer (some ⟨b, 0, none⟩), .int .i64 x] w fun e w' => e = .returned (.int .i64 ((S.badE x).2 : Nat)) ∧ Aft lab w b g m (S.badE x).1 w' := by
  unfold Sw.badE
  cases hp : S.is x with
  | false =>
    have H := hid (bside_no h ok.n1 x hp)
    have A := hid h.aft
    clear h ok hp
    simp only [Bool.false_eq_true, if_false]
    go_enter Tryz.func44, Tryz.ntmps44
    go_wp2_with (go_at_call 66; refine H.out.mono ?_; rintro e w' ⟨rfl, rfl⟩)
    go_ret
    exact ⟨rfl, A.out⟩
  | true =>
    obtain ⟨k, rfl, hk⟩ := Sw.is_yes hp
    have H := hid (bside_yes h k hk ok.n8)
    have os := ok.sd k hk
    have := os.tk
    have := os.tT
    have := ok.T62
    have HB := hid (bbad (h.self k) ok.n8 hk (by omega) (by omega))
    have HS := hid (fun (w' : World) (gg : w.grownBy w' (some g)) => h.stg gg)
    clear h ok hp os
    simp only [if_true, Int.toNat_natCast]
    go_enter Tryz.func44, Tryz.ntmps44
    go_wp2_with (first
      | (go_at_call 66; refine H.out.mono ?_; rintro e w' ⟨rfl, rfl⟩)
      | (go_at_call 67; refine HB.out.mono ?_; rintro e w1 ⟨rfl, p1, g1⟩; have P1 := hid p1; have G1 := hid (HS.out _ g1); clear p1 g1))
    go_ret
    exact ⟨rfl, _, _, P1.out, G1.out⟩
/-- Done -/
theorem bDone_none (p : Option Addr) (x : Int) (d : Bool) (w : World) (h : NoS w p) : Calls Tryz.prog 48 #[.pointer p, .int .i64 x, .bool d] w fun e w' => e = .returned (.int .i64 7) ∧ w = w' := by
  have H := hid (bside_none _ x _ h)
  clear h
  go_enter Tryz.func48, Tryz.ntmps48
  go_wp2_with (go_at_call 66; refine H.out.mono ?_; rintro e w' ⟨rfl, rfl⟩)
  go_ret
  exact ⟨rfl, rfl⟩
theorem bDone (h : PS lab w b g m lq S) (ok : S.ok T) (x : Int) (d : Bool) : Calls Tryz.prog 48 #[.pointer (some ⟨b, 0, none⟩), .int .i64 x, .bool d] w fun e w' => e = .returned (.int .i64 ((S.doneE x d).2 : Nat)) ∧ Aft lab w b g m (S.doneE x d).1 w' := by
  unfold Sw.doneE
  cases hp : S.is x with
  | false =>
    have H := hid (bside_no h ok.n1 x hp)
    have A := hid h.aft
    clear h ok hp
    simp only [Bool.false_eq_true, if_false]
    go_enter Tryz.func48, Tryz.ntmps48
    go_wp2_with (go_at_call 66; refine H.out.mono ?_; rintro e w' ⟨rfl, rfl⟩)
    go_ret
    exact ⟨rfl, A.out⟩
  | true =>
    obtain ⟨k, rfl, hk⟩ := Sw.is_yes hp
    have H := hid (bside_yes h k hk ok.n8)
    have os := ok.sd k hk
    have := os.dr
    have := os.dT
    have := ok.T62
    have HB := hid (bdone (h.self k) ok.n8 hk os.q4 (by omega) (by omega) d)
    clear h ok hp os
    simp only [if_true, Int.toNat_natCast]
    obtain ⟨c, hc⟩ : ∃ c, (S.P k).doneE = c := ⟨_, rfl⟩
    rw [hc] at HB ⊢
    go_enter Tryz.func48, Tryz.ntmps48
    go_wp2_with (first
      | (go_at_call 66; refine H.out.mono ?_; rintro e w' ⟨rfl, rfl⟩)
      | (go_at_call 72; refine HB.out.mono ?_; rintro e w1 ⟨rfl, ha⟩; have HA := hid ha; clear ha))
    go_ret
    exact ⟨rfl, HA.out⟩
theorem zero_int (w : World) : (zeroValue 3).run Tryz.prog w = .ok (.int .i64 0) w := by rw [Tryz.zeroValue3]
end
end Go.Proofs.YtolfjbodgdjbjaaGreat.Br
