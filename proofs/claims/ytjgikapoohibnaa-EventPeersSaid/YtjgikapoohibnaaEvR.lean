/-
  Package tenementref07: contracts of the small functions; Alloc, Virq, Send, Raise, Mask, Clear, Port, Pending, Take.
-/
import Derived.Test.YtjgikapoohibnaaEvD
set_option linter.unusedSimpArgs false
set_option linter.unusedVariables false
namespace Go.Proofs.Ytjgikapoohibnaa
open Go.RowKit Gen
set_option maxHeartbeats 1000000

theorem rThere (d p : Int) (w : World) : Calls Try.prog 50 #[.int .i64 d, .int .i64 p] w fun e w' => e = .returned (.bool (edOk d && epOk p)) ∧ w = w' := by
  cases hd : edOk d with
  | false =>
    go_enter Try.func50, Try.ntmps50
    go_wp2_with (go_at_call 52; refine (rIsDomain d _).mono ?_; rintro e w' ⟨rfl, rfl⟩)
    go_ret
    exact ⟨rfl, rfl⟩
  | true =>
    rw [Bool.true_and]
    unfold epOk
    by_cases h0 : 0 ≤ p
    · by_cases h8 : p < 32
      · go_enter Try.func50, Try.ntmps50
        go_wp2_with (go_at_call 52; refine (rIsDomain d _).mono ?_; rintro e w' ⟨rfl, rfl⟩)
        go_ret
        exact ⟨by simp [h0, h8], rfl⟩
      · have h8' : 32 ≤ p := by omega
        go_enter Try.func50, Try.ntmps50
        go_wp2_with (go_at_call 52; refine (rIsDomain d _).mono ?_; rintro e w' ⟨rfl, rfl⟩)
        go_ret
        exact ⟨by simp [h0, h8], rfl⟩
    · have h0' : p < 0 := by omega
      have hz : (decide (0 ≤ p) && decide (p < 32)) = false := by simp [h0]
      rw [hz]
      clear hz
      go_enter Try.func50, Try.ntmps50
      go_wp2_with (go_at_call 52; refine (rIsDomain d _).mono ?_; rintro e w' ⟨rfl, rfl⟩)
      go_ret
      exact ⟨rfl, rfl⟩
theorem rThere_yes (d n : Nat) (w : World) (hd : d < 8) (hn : n < 32) : Calls Try.prog 50 #[.int .i64 d, .int .i64 n] w fun e w' => e = .returned (.bool true) ∧ w = w' := by
  have h := rThere d n w
  rw [edOk_yes hd, epOk_yes hn] at h
  exact h
theorem rThere_no (d p : Int) (w : World) (h : ¬ (edOk d = true ∧ epOk p = true)) : Calls Try.prog 50 #[.int .i64 d, .int .i64 p] w fun e w' => e = .returned (.bool false) ∧ w = w' := by
  have h' := rThere d p w
  rw [show (edOk d && epOk p) = false by cases e : edOk d <;> cases f : epOk p <;> simp_all] at h'
  exact h'
section
variable {w w' : World} {Y : Nat} {S : Ev} {L : ELay}
theorem RE.nY (h : RE w Y S L) {d : Nat} (hd : d < 8) : L.g d ≠ Y := (h.row d hd).type_ne h.top (by decide)
theorem RE.nP (h : RE w Y S L) {d : Nat} (hd : d < 8) : L.g d ≠ L.fP := (h.row d hd).type_ne h.ps (by decide)
theorem RE.nU (h : RE w Y S L) {d : Nat} (hd : d < 8) : L.g d ≠ L.fU := (h.row d hd).type_ne h.us (by decide)
end
def RLeft (Y : Nat) (L : ELay) (w : World) (S : Ev) (w' : World) : Prop := RE w' Y S L ∧ Chg (L.foot Y) w w'
theorem RLeft.same {Y : Nat} {L : ELay} {w : World} {S : Ev} (h : RE w Y S L) : RLeft Y L w S w := ⟨h, Chg.refl _ _⟩
theorem RLeft.of {Y : Nat} {L : ELay} {w w' : World} {S : Ev} (h : RE w Y S L) (hg : w.grownBy w' none) : RLeft Y L w S w' := ⟨h.grow0 hg, Chg.of0 hg⟩
theorem RLeft.trans {Y : Nat} {L : ELay} {w w' w2 : World} {S S2 : Ev} (h : RLeft Y L w S w') (k : RLeft Y L w' S2 w2) : RLeft Y L w S2 w2 := ⟨k.1, h.2.trans k.2 fun _ e => .inl e⟩
theorem chgRow {Y : Nat} {L : ELay} {w w' : World} {d : Nat} (hd : d < 8) (h : w.grownBy w' (some (L.g d))) : Chg (L.foot Y) w w' := Chg.one h (.inr (.inr (.inr ⟨d, hd, rfl⟩)))
theorem chgUp {Y : Nat} {L : ELay} {w w' : World} (h : w.grownBy w' (some L.fU)) : Chg (L.foot Y) w w' := Chg.one h (.inr (.inr (.inl rfl)))
theorem RLeft.laid {Y : Nat} {L : ELay} {w : World} {S : Ev} {d n : Nat} (h : RE w Y S L) (hd : d < 8) (hn : n < 32) (q : Prt) : RLeft Y L w (S.upd d n q) (set6 w (L.g d) (n * 6) q) := ⟨h.setAll hd hn q, chgRow hd (set6_grown _ _ _ _)⟩

/-! ### the scans -/
def orNone (k : Nat) : Int := if k < 32 then (k : Int) else -1
set_option maxRecDepth 100000 in
theorem rLeast (Y d : Nat) (L : ELay) (w : World) (S : Ev) (hd : d < 8) (h : RE w Y S L) : Calls Try.prog 56 #[.pointer (some ⟨Y, 0, none⟩), .int .i64 d] w fun e w' => e = .returned (.int .i64 (orNone (least (isFree S d)))) ∧ w = w' := by
  have c0 := h.slP; have c1 := h.sl hd
  have hd0 : (0 : Int) ≤ d := by omega
  have hd8 : (d : Int) < 8 := by omega
  have H := hid h
  have HYes := hid (fun k (hk : k < 32) (hl : k ≤ least (isFree S d)) (h0 : (S.pt d k).k = 0) => show orNone (least (isFree S d)) = (k : Int) by
    rw [least_yes hl (show isFree S d k = true by simp [isFree, h0])]; unfold orNone; rw [if_pos hk])
  have HNo := hid (fun (hl : 32 ≤ least (isFree S d)) => show orNone (least (isFree S d)) = -1 by unfold orNone; rw [if_neg (by omega)])
  have HSt := hid (fun k (hk : k < 32) (hl : k ≤ least (isFree S d)) (h0 : (S.pt d k).k ≠ 0) => least_no hl hk (show isFree S d k = false by simp [isFree, h0]))
  clear h
  go_enter Try.func56, Try.ntmps56
  go_wp2
  go_loop [5] (fun i => ∃ k : Nat, i = .int .i64 k ∧ k ≤ 32 ∧ k ≤ least (isFree S d)) (fun i => 32 - (intOf i).toNat)
  case atStart => exact ⟨0, rfl, by omega, by omega⟩
  case round =>
    obtain ⟨k, rfl, hk, hl⟩ := hrel
    have HL := hid hl
    clear hl
    have hk0 : (0 : Int) ≤ k := by omega
    by_cases hlt : k < 32
    · have hlt' : (k : Int) < 32 := by omega
      have c2 := H.out.k hd hlt
      by_cases h0 : (S.pt d k).k = 0
      · have HE := hid (HYes.out k hlt HL.out h0)
        rw [h0] at c2
        clear h0
        go_wp2
        go_ret
        rw [HE.out]
        exact ⟨rfl, rfl⟩
      · have hb : ((S.pt d k).k == 0) = false := by simp [h0]
        have HN1 := hid (HSt.out k hlt HL.out h0)
        clear h0
        go_wp2
        go_round
        case rel => exact ⟨k + 1, by go_num, by omega, HN1.out⟩
        case measure => simp [intOf]; omega
    · obtain rfl : k = 32 := by omega
      have hge : (32 : Int) ≤ ((32 : Nat) : Int) := by omega
      have HE := hid (HNo.out HL.out)
      go_wp2
      go_ret
      rw [HE.out]
      exact ⟨rfl, rfl⟩
set_option maxRecDepth 100000 in
theorem rVirqOf (Y d : Nat) (v : Int) (L : ELay) (w : World) (S : Ev) (hd : d < 8) (h : RE w Y S L) : Calls Try.prog 53 #[.pointer (some ⟨Y, 0, none⟩), .int .i64 d, .int .i64 v] w fun e w' => e = .returned (.int .i64 (orNone (least (isVirqOf S d v)))) ∧ w = w' := by
  have c0 := h.slP; have c1 := h.sl hd
  have hd0 : (0 : Int) ≤ d := by omega
  have hd8 : (d : Int) < 8 := by omega
  have H := hid h
  have HYes := hid (fun k (hk : k < 32) (hl : k ≤ least (isVirqOf S d v)) (h0 : (S.pt d k).k = 3) (h1 : (S.pt d k).v = v) => show orNone (least (isVirqOf S d v)) = (k : Int) by
    rw [least_yes hl (show isVirqOf S d v k = true by simp [isVirqOf, h0, h1])]; unfold orNone; rw [if_pos hk])
  have HNo := hid (fun (hl : 32 ≤ least (isVirqOf S d v)) => show orNone (least (isVirqOf S d v)) = -1 by unfold orNone; rw [if_neg (by omega)])
  have HSt := hid (fun k (hk : k < 32) (hl : k ≤ least (isVirqOf S d v)) (h0 : ¬ ((S.pt d k).k = 3 ∧ (S.pt d k).v = v)) => least_no hl hk (show isVirqOf S d v k = false by
    by_cases e : (S.pt d k).k = 3
    · by_cases e2 : (S.pt d k).v = v
      · exact absurd ⟨e, e2⟩ h0
      · simp [isVirqOf, e2]
    · simp [isVirqOf, e]))
  clear h
  go_enter Try.func53, Try.ntmps53
  go_wp2
  go_loop [7] (fun i => ∃ k : Nat, i = .int .i64 k ∧ k ≤ 32 ∧ k ≤ least (isVirqOf S d v)) (fun i => 32 - (intOf i).toNat)
  case atStart => exact ⟨0, rfl, by omega, by omega⟩
  case round =>
    obtain ⟨k, rfl, hk, hl⟩ := hrel
    have HL := hid hl
    clear hl
    have hk0 : (0 : Int) ≤ k := by omega
    by_cases hlt : k < 32
    · have hlt' : (k : Int) < 32 := by omega
      have c2 := H.out.k hd hlt; have c3 := H.out.v hd hlt
      have HE := hid (HYes.out k hlt HL.out)
      have HN1 := hid (HSt.out k hlt HL.out)
      generalize S.pt d k = q at *
      obtain ⟨qk, qr, qp, qv, qe, qm⟩ := q
      simp only at c2 c3 HE HN1
      by_cases h3 : qk = 3
      · subst h3
        by_cases h4 : qv = v
        · subst h4
          have HE2 := hid (HE.out rfl rfl)
          have hb : (qv == qv) = true := by simp
          go_wp2
          go_ret
          rw [HE2.out]
          exact ⟨rfl, rfl⟩
        · have hb : (qv == v) = false := by simp [h4]
          have HN2 := hid (HN1.out (fun e => h4 e.2))
          clear h4
          go_wp2
          go_round
          case rel => exact ⟨k + 1, by go_num, by omega, HN2.out⟩
          case measure => simp [intOf]; omega
      · have hb : (qk == 3) = false := by simp [h3]
        have HN2 := hid (HN1.out (fun e => h3 e.1))
        clear h3
        go_wp2
        go_round
        case rel => exact ⟨k + 1, by go_num, by omega, HN2.out⟩
        case measure => simp [intOf]; omega
    · obtain rfl : k = 32 := by omega
      have hge : (32 : Int) ≤ ((32 : Nat) : Int) := by omega
      have HE := hid (HNo.out HL.out)
      go_wp2
      go_ret
      rw [HE.out]
      exact ⟨rfl, rfl⟩
/-! ### taken, pend -/
def takenR (S : Ev) (d p : Int) : Int := if edOk d = true ∧ epOk p = true then (if (S.pt d.toNat p.toNat).k = 0 then 70 else 0) else 1
theorem rTaken (Y : Nat) (d p : Int) (L : ELay) (w : World) (S : Ev) (h : RE w Y S L) : Calls Try.prog 54 #[.pointer (some ⟨Y, 0, none⟩), .int .i64 d, .int .i64 p] w fun e w' => e = .returned (.int .i64 (takenR S d p)) ∧ w = w' := by
  by_cases hdp : edOk d = true ∧ epOk p = true
  · obtain ⟨d, rfl, hd⟩ := edOk_nat hdp.1
    obtain ⟨n, rfl, hn⟩ := epOk_nat hdp.2
    have c0 := h.slP; have c1 := h.sl hd; have c2 := h.k hd hn
    have hd0 : (0 : Int) ≤ d := by omega
    have hd8 : (d : Int) < 8 := by omega
    have hn0 : (0 : Int) ≤ n := by omega
    have hn8 : (n : Int) < 32 := by omega
    by_cases h0 : (S.pt d n).k = 0
    · have HE := hid (show takenR S d n = 70 by simp [takenR, hdp, h0])
      rw [h0] at c2
      clear h0 hdp h
      go_enter Try.func54, Try.ntmps54
      go_wp2_with (go_at_call 50; refine (rThere_yes d n _ hd hn).mono ?_; rintro e w' ⟨rfl, rfl⟩)
      go_ret
      rw [HE.out]
      exact ⟨rfl, rfl⟩
    · have HE := hid (show takenR S d n = 0 by simp [takenR, hdp, h0])
      have hb : ((S.pt d n).k == 0) = false := by simp [h0]
      clear h0 hdp h
      go_enter Try.func54, Try.ntmps54
      go_wp2_with (go_at_call 50; refine (rThere_yes d n _ hd hn).mono ?_; rintro e w' ⟨rfl, rfl⟩)
      go_ret
      rw [HE.out]
      exact ⟨rfl, rfl⟩
  · have HE := hid (show takenR S d p = 1 by unfold takenR; rw [if_neg hdp])
    have HT := hid (rThere_no d p w hdp)
    clear hdp h
    go_enter Try.func54, Try.ntmps54
    go_wp2_with (go_at_call 50; refine HT.out.mono ?_; rintro e w' ⟨rfl, rfl⟩)
    go_ret
    rw [HE.out]
    exact ⟨rfl, rfl⟩
theorem rPend (Y d n : Nat) (L : ELay) (w : World) (S : Ev) (hd : d < 8) (hn : n < 32) (h : RE w Y S L) : Calls Try.prog 51 #[.pointer (some ⟨Y, 0, none⟩), .int .i64 d, .int .i64 n] w fun e w' => e = .returned (.tuple #[]) ∧ RLeft Y L w (pendE S d n) w' := by
  have hd0 : (0 : Int) ≤ d := by omega
  have hd8 : (d : Int) < 8 := by omega
  have hn0 : (0 : Int) ≤ n := by omega
  have hn8 : (n : Int) < 32 := by omega
  have c0 := h.slP; have c1 := h.sl hd; have c4 := h.pe hd hn; have f4 := h.fz hd (n * 6 + 4)
  have nY := h.nY hd; have nP := h.nP hd; have nU := h.nU hd
  have nY' := nY.symm; have nP' := nP.symm; have nU' := nU.symm
  have h1 := h.setPe hd hn true
  have k0 := h1.slP; have k1 := h1.sl hd; have k5 := h1.ma hd hn; have k2 := h1.slU; have ku := h1.up hd; have fu := h1.fzU d
  rw [Ev.upd_same] at k5
  rw [Ev.upd_up] at ku
  have H1 := hid h1
  have HG := hid (chgRow (Y := Y) hd (grownBy_setCell w (L.g d) (n * 6 + 4) none (.bool true)))
  obtain ⟨W, hW⟩ : ∃ W, w.setCell ⟨L.g d, n * 6 + 4, none⟩ (.bool true) = W := ⟨_, rfl⟩
  rw [hW] at H1 HG k0 k1 k5 k2 ku fu
  simp only at k5
  clear h1 nY nP nU nY' nP' nU'
  cases hm : (S.pt d n).ma with
  | true =>
    rw [hm] at k5
    have HE := hid (show pendE S d n = S.upd d n { S.pt d n with pe := true } by unfold pendE; rw [if_pos hm])
    clear hm h
    go_enter Try.func51, Try.ntmps51
    go_wp2
    first | go_end0 | ((try simp only [Exit.inBlock, Exit.then]); refine bodyPost_ret (results_none rfl _ _ _) rfl ?_)
    rw [HE.out]
    exact ⟨rfl, H1.out, HG.out⟩
  | false =>
    rw [hm] at k5
    have HE := hid (show pendE S d n = (S.upd d n { S.pt d n with pe := true }).setUp d true by unfold pendE; rw [if_neg (by simp [hm])])
    have H2 := hid (H1.out.setUp hd true)
    clear hm h
    go_enter Try.func51, Try.ntmps51
    go_wp2
    first | go_end0 | ((try simp only [Exit.inBlock, Exit.then]); refine bodyPost_ret (results_none rfl _ _ _) rfl ?_)
    rw [HE.out]
    exact ⟨rfl, H2.out, HG.out.trans (chgUp (grownBy_setCell _ _ _ none _)) fun _ e => .inl e⟩
end Go.Proofs.Ytjgikapoohibnaa
