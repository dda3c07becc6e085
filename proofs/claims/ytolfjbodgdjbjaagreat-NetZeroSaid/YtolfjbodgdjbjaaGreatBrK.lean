/-
  Package bridge: Send, Down.
-/
import Derived.Test.YtolfjbodgdjbjaaGreatBrJ
set_option linter.unusedSimpArgs false
set_option linter.unusedVariables false
namespace Go.Proofs.YtolfjbodgdjbjaaGreat.Br
open Go.RowKit Gen Bk
set_option maxHeartbeats 1000000

section
variable {C : Nat → Prop} {lab lab' : Nat → Nat} {w w' : World} {b g m : Nat} {lq : Nat → Lq} {S : Sw} {k : Nat} {s : Sd} {T : Nat}
theorem bSend_none (p : Option Addr) (x : Int) (v : Value) (w : World) (h : NoS w p) : Calls Tryz.prog 45 #[.pointer p, .int .i64 x, v] w fun e w' => e = .returned (.int .i64 7) ∧ w = w' := by
  have H := hid (bside_none _ x _ h)
  clear h
  go_enter Tryz.func45, Tryz.ntmps45
  go_wp2_with (go_at_call 66; refine H.out.mono ?_; rintro e w' ⟨rfl, rfl⟩)
  go_ret
  exact ⟨rfl, rfl⟩
theorem bSend_no (h : PS lab w b g m lq S) (ok : S.ok T) (x : Int) (v : Value) (hp : S.is x = false) : Calls Tryz.prog 45 #[.pointer (some ⟨b, 0, none⟩), .int .i64 x, v] w fun e w' => e = .returned (.int .i64 1) ∧ w = w' := by
  have H := hid (bside_no h ok.n1 x hp)
  clear h ok hp
  go_enter Tryz.func45, Tryz.ntmps45
  go_wp2_with (go_at_call 66; refine H.out.mono ?_; rintro e w' ⟨rfl, rfl⟩)
  go_ret
  exact ⟨rfl, rfl⟩
theorem bSend_mal (h : PS lab w b g m lq S) (ok : S.ok T) (k : Nat) (hk : k < S.n) (p : Option Addr) (f : List UInt8) (c : Nat) (hb : BA w p f) (hf : malF f = true) : Calls Tryz.prog 45 #[.pointer (some ⟨b, 0, none⟩), .int .i64 (k : Int), .slice p f.length c] w fun e w' => e = .returned (.int .i64 4) ∧ Aft lab w b g m (S.set k (S.P k).bad) w' := by
  have H := hid (bside_yes h k hk ok.n8)
  have os := ok.sd k hk
  have := os.tk
  have := os.tT
  have := ok.T62
  have HB := hid (bbad (h.self k) ok.n8 hk (by omega) (by omega))
  have HS := hid (fun (w' : World) (gg : w.grownBy w' (some g)) => h.stg gg)
  have HM := hid (bmalformed p f c w hb)
  rw [hf] at HM
  clear h ok os hb hf
  obtain ⟨n, hn⟩ : ∃ n, f.length = n := ⟨_, rfl⟩
  rw [hn] at HM ⊢
  go_enter Tryz.func45, Tryz.ntmps45
  go_wp2_with (first
    | (go_at_call 66; refine H.out.mono ?_; rintro e w' ⟨rfl, rfl⟩)
    | (go_at_call 68; refine HM.out.mono ?_; rintro e w' ⟨rfl, rfl⟩)
    | (go_at_call 67; refine HB.out.mono ?_; rintro e w1 ⟨rfl, p1, g1⟩; have P1 := hid p1; have G1 := hid (HS.out _ g1); clear p1 g1))
  go_ret
  exact ⟨rfl, _, _, P1.out, G1.out⟩
theorem bSend_full (h : PS lab w b g m lq S) (ok : S.ok T) (k : Nat) (hk : k < S.n) (p : Option Addr) (f : List UInt8) (c : Nat) (hb : BA w p f) (hf : malF f = false) (hc : (S.P k).credit < f.length) : Calls Tryz.prog 45 #[.pointer (some ⟨b, 0, none⟩), .int .i64 (k : Int), .slice p f.length c] w fun e w' => e = .returned (.int .i64 71) ∧ Aft lab w b g m (S.set k { S.P k with taken := (S.P k).taken + 1, noCr := (S.P k).noCr + 1 }) w' := by
  have H := hid (bside_yes h k hk ok.n8)
  have os := ok.sd k hk
  have HM := hid (bmalformed p f c w hb)
  rw [hf] at HM
  obtain ⟨s, hs⟩ : ∃ s, S.P k = s := ⟨_, rfl⟩
  have hp := h.self k
  rw [hs] at hp hc os ⊢
  have t1 := os.tk
  have t2 := os.tT
  have t3 := ok.T62
  have t4 : s.taken ≤ 2305843009213693952 := by omega
  have t5 : s.noCr ≤ 2305843009213693952 := by omega
  clear t1 t2 t3
  obtain ⟨q1, g1⟩ := hp.set_taken ok.n8 hk (s.taken + 1) (y := (s.taken : Int) + 1) (by omega)
  have c4 := hp.at_taken hk
  have fz := h.fz (k * 13 + 4)
  obtain ⟨W1, hW1⟩ : ∃ W, w.setCell ⟨g, k * 13 + 4, none⟩ (.int .i64 ((s.taken : Int) + 1)) = W := ⟨_, rfl⟩
  rw [hW1] at q1 g1
  have c2 := q1.at_credit hk
  have c7 := q1.at_noCr hk
  have fz7 := q1.fz (k * 13 + 7)
  simp only at c2 c7
  obtain ⟨q2, g2⟩ := q1.set_noCr ok.n8 hk (s.noCr + 1) (y := (s.noCr : Int) + 1) (by omega)
  have hc' : (s.credit : Int) < f.length := by omega
  have Q := hid (show Aft lab w b g m _ _ from ⟨_, _, q2, h.stg (g1.trans g2)⟩)
  clear h ok os hb hf hp q1 q2 g1 g2 hs hc
  obtain ⟨n, hn⟩ : ∃ n, f.length = n := ⟨_, rfl⟩
  rw [hn] at HM hc' ⊢
  go_enter Tryz.func45, Tryz.ntmps45
  go_wp2_with (first
    | (go_at_call 66; refine H.out.mono ?_; rintro e w' ⟨rfl, rfl⟩)
    | (go_at_call 68; refine HM.out.mono ?_; rintro e w' ⟨rfl, rfl⟩))
  go_ret
  exact ⟨rfl, Q.out⟩
theorem bSend_yes (h : PS lab w b g m lq S) (ok : S.ok T) (hT : T + 1 ≤ 2305843009213693952) (k : Nat) (hk : k < S.n) (p : Option Addr) (f : List UInt8) (c : Nat) (hb : BA w p f) (hl : ∀ a, p = some a → ¬ CP (lab a.block)) (hf : malF f = false) (hc : f.length ≤ (S.P k).credit) :
    Calls Tryz.prog 45 #[.pointer (some ⟨b, 0, none⟩), .int .i64 (k : Int), .slice p f.length c] w fun e w' => e = .returned (.int .i64 0) ∧ Aft lab w b g m (((S.set k { S.P k with taken := (S.P k).taken + 1, credit := (S.P k).credit - f.length, fw := (S.P k).fw + 1 }).learn (f.getD 1 0).toNat k).dirW k f) w' := by
  have H := hid (bside_yes h k hk ok.n8)
  have os := ok.sd k hk
  have HM := hid (bmalformed p f c w hb)
  rw [hf] at HM
  obtain ⟨f1, f2, f3⟩ := malF_no hf
  obtain ⟨fb, fo, rfl⟩ := hb.ptr (by omega)
  have hlb := hl _ rfl
  obtain ⟨s, hs⟩ : ∃ s, S.P k = s := ⟨_, rfl⟩
  have hp := h.self k
  rw [hs] at hp hc os ⊢
  have t1 := os.tk
  have t2 := os.tT
  have t4 : s.taken ≤ 2305843009213693952 := by omega
  have t5 : s.fw ≤ 2305843009213693952 := by omega
  have t6 : s.credit ≤ 65536 := Nat.le_trans os.cb os.bu
  obtain ⟨q1, g1⟩ := hp.set_taken ok.n8 hk (s.taken + 1) (y := (s.taken : Int) + 1) (by omega)
  have c4 := hp.at_taken hk
  have fz := h.fz (k * 13 + 4)
  obtain ⟨W1, hW1⟩ : ∃ W, w.setCell ⟨g, k * 13 + 4, none⟩ (.int .i64 ((s.taken : Int) + 1)) = W := ⟨_, rfl⟩
  rw [hW1] at q1 g1
  have c2 := q1.at_credit hk
  have fz2 := q1.fz (k * 13 + 2)
  simp only at c2
  obtain ⟨q2, g2⟩ := q1.set_credit ok.n8 hk (s.credit - f.length) (y := (s.credit : Int) - f.length) (by omega)
  obtain ⟨W2, hW2⟩ : ∃ W, W1.setCell ⟨g, k * 13 + 2, none⟩ (.int .i64 ((s.credit : Int) - f.length)) = W := ⟨_, rfl⟩
  rw [hW2] at q2 g2
  have c5 := q2.at_fw hk
  have fz5 := q2.fz (k * 13 + 5)
  simp only at c5
  obtain ⟨q3, g3⟩ := q2.set_fw ok.n8 hk (s.fw + 1) (y := (s.fw : Int) + 1) (by omega)
  obtain ⟨W3, hW3⟩ : ∃ W, W2.setCell ⟨g, k * 13 + 5, none⟩ (.int .i64 ((s.fw : Int) + 1)) = W := ⟨_, rfl⟩
  rw [hW3] at q3 g3
  simp only at q3
  have hc' : ¬ (s.credit : Int) < f.length := by omega
  have gg := (g1.trans g2).trans g3
  have st := h.stg gg
  have hne : fb ≠ g := fun e => hlb (by rw [e]; exact h.cp)
  have ba3 : BA W3 (some ⟨fb, fo, none⟩) f := fun i hi => by
    obtain ⟨b1, o1, e, hc⟩ := hb i hi
    cases e
    exact ⟨fb, fo, rfl, gg.cell hc (by simp; exact hne)⟩
  have d1 := ba3.at (k := 1) (by omega)
  have hx256 := UInt8.toNat_lt (f.getD 1 0)
  have HL := hid (blearn q3 ok.n8 (f.getD 1 0).toNat k hx256 (by have := ok.n8; omega))
  have ok3 : (S.set k { s with taken := s.taken + 1, credit := s.credit - f.length, fw := s.fw + 1 }).ok (T + 1) := (ok.mono (Nat.le_succ T) hT).set ⟨by simp only; omega, os.dr, by simp only; omega, Nat.le_succ_of_le os.dT, os.q4, by have := os.cb; simp only; omega, os.bu, os.ra, os.fr⟩
  have ok4 := ok3.learn (a := (f.getD 1 0).toNat) (p := k) f3 hk
  obtain ⟨S4, hS4⟩ : ∃ S4, (S.set k { s with taken := s.taken + 1, credit := s.credit - f.length, fw := s.fw + 1 }).learn (f.getD 1 0).toNat k = S4 := ⟨_, rfl⟩
  rw [hS4] at ok4 HL ⊢
  have HCl := hid (fun (w' : World) (h : BA w' (some ⟨fb, fo, none⟩) f) => bClone (some ⟨fb, fo, none⟩) c f w' h (by omega))
  have hm4 : ¬ CP (lab fb) := hlb
  have BL := hid (fun (lab' : Nat → Nat) (w' : World) (st2 : St CP lab W3 lab' w') => (show BA w' (some ⟨fb, fo, none⟩) f from fun i hi => by
    obtain ⟨b1, o1, e, hc⟩ := ba3 i hi
    cases e
    exact ⟨fb, fo, rfl, st2.cell hc hm4⟩))
  have HD := hid (fun (lab1 : Nat → Nat) (w1 : World) (lq1 : Nat → Lq) (p1 : PS lab1 w1 b g m lq1 S4) (fp : Option Addr) (fc : Nat) (hb : BU lab1 w1 fp f) => bdirect p1 ok4 k fp f fc hb f1 (fun i hi => by
    have o4 := ok4.sd i hi
    have := o4.dr
    have := o4.dT
    have := ok4.T62
    exact ⟨by omega, by omega⟩))
  have ST := hid st
  have OK4 := hid ok4
  have hlen2 : (1 : Int) < f.length := by omega
  have hf1 : (f.length : Int) ≤ 128 := by omega
  obtain ⟨x, hx⟩ : ∃ x, f.getD 1 0 = x := ⟨_, rfl⟩
  rw [hx] at d1 HL
  obtain ⟨n, hn⟩ : ∃ n, f.length = n := ⟨_, rfl⟩
  rw [hn] at HM hc' HCl hlen2 hW2 hf1 ⊢
  clear h ok os hb hf hp q1 q2 q3 g1 g2 g3 hs hc gg st ba3 ok3 ok4 hS4 hx hn f1 f2 f3 t1 t2 hl hlb hm4 hne hx256
  go_enter Tryz.func45, Tryz.ntmps45
  go_wp2_with (first
    | (go_at_call 66; refine H.out.mono ?_; rintro e w' ⟨rfl, rfl⟩)
    | (go_at_call 68; refine HM.out.mono ?_; rintro e w' ⟨rfl, rfl⟩)
    | (go_at_call 69; refine HL.out.mono ?_; rintro e w4 ⟨rfl, lab4, lq4, p4, st4⟩; have P4 := hid p4; have S4' := hid st4; have B4 := hid (BL.out _ _ st4); clear p4 st4)
    | (go_at_call 30; refine (HCl.out _ B4.out).mono ?_; rintro e w5 ⟨v5, rfl, hv⟩; obtain ⟨fp, fc, rfl, hbu, -, -⟩ := newB_bu lab4 hv; have P5 := hid (P4.out.st OK4.out.n8 (lab0_st (C := fun _ => False) lab4 hv.2) (fun _ _ e => e)); have S5 := hid (lab0_st (C := CP) lab4 hv.2); have B5 := hid hbu; clear hv hbu)
    | (go_at_call 70; refine (HD.out _ _ _ P5.out fp fc B5.out).mono ?_; rintro e w6 ⟨rfl, ha⟩; have A6 := hid ha; clear ha))
  go_ret
  exact ⟨rfl, Aft.first ((ST.out.tr S4'.out).tr S5.out) A6.out⟩
/-- Send -/
theorem bSend (h : PS lab w b g m lq S) (ok : S.ok T) (hT : T + 1 ≤ 2305843009213693952) (x : Int) (p : Option Addr) (f : List UInt8) (c : Nat) (hb : BA w p f) (hl : ∀ a, p = some a → ¬ CP (lab a.block)) :
    Calls Tryz.prog 45 #[.pointer (some ⟨b, 0, none⟩), .int .i64 x, .slice p f.length c] w fun e w' => e = .returned (.int .i64 ((S.sendE x f).2 : Nat)) ∧ Aft lab w b g m (S.sendE x f).1 w' := by
  unfold Sw.sendE
  cases hp : S.is x with
  | false =>
    refine (bSend_no h ok x _ hp).mono ?_
    rintro e w' ⟨rfl, rfl⟩
    exact ⟨rfl, h.aft⟩
  | true =>
    obtain ⟨k, rfl, hk⟩ := Sw.is_yes hp
    simp only [if_true, Int.toNat_natCast]
    unfold Sw.sendP
    cases hf : malF f with
    | true => exact bSend_mal h ok k hk p f c hb hf
    | false =>
      by_cases hc : (S.P k).credit < f.length
      · rw [if_neg (by simp), if_pos hc]
        exact bSend_full h ok k hk p f c hb hf hc
      · rw [if_neg (by simp), if_neg hc]
        exact bSend_yes h ok hT k hk p f c hb hl hf (by omega)
end
end Go.Proofs.YtolfjbodgdjbjaaGreat.Br
