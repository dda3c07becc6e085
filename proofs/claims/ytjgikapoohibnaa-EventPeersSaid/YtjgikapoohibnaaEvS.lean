/-
  Package tenementref07: contracts of Alloc, Virq, Send, Raise, Mask, Clear, Port, Pending, Take.
-/
import Derived.Test.YtjgikapoohibnaaEvR
set_option linter.unusedSimpArgs false
set_option linter.unusedVariables false
namespace Go.Proofs.Ytjgikapoohibnaa
open Go.RowKit Gen
set_option maxHeartbeats 1000000

theorem orNone_yes {k : Nat} (h : k < 32) : orNone k = (k : Int) := if_pos h
theorem orNone_no {k : Nat} (h : ¬ k < 32) : orNone k = -1 := if_neg h
section
variable {w w' : World} {Y : Nat} {S : Ev} {L : ELay}
/-- all that a store of a port asks -/
structure At6 (w : World) (Y d n : Nat) (S : Ev) (L : ELay) : Prop where
  c0 : w.cell? ⟨Y, 0, none⟩ = some (.slice (some ⟨L.fP, 0, none⟩) 8 L.cP)
  c1 : w.cell? ⟨L.fP, d, none⟩ = some (.slice (some ⟨L.g d, 0, none⟩) 32 (L.cg d))
  k0 : w.cell? ⟨L.g d, n * 6, none⟩ = some (.int .i64 (S.pt d n).k)
  k1 : w.cell? ⟨L.g d, n * 6 + 1, none⟩ = some (.int .i64 (S.pt d n).r)
  k2 : w.cell? ⟨L.g d, n * 6 + 2, none⟩ = some (.int .i64 (S.pt d n).p)
  k3 : w.cell? ⟨L.g d, n * 6 + 3, none⟩ = some (.int .i64 (S.pt d n).v)
  k4 : w.cell? ⟨L.g d, n * 6 + 4, none⟩ = some (.bool (S.pt d n).pe)
  k5 : w.cell? ⟨L.g d, n * 6 + 5, none⟩ = some (.bool (S.pt d n).ma)
  fz : ∀ k, w.frozen? ⟨L.g d, k, none⟩ = false
  d0 : (0 : Int) ≤ d
  d8 : (d : Int) < 8
  n0 : (0 : Int) ≤ n
  n8 : (n : Int) < 32
theorem RE.at6 (h : RE w Y S L) {d n : Nat} (hd : d < 8) (hn : n < 32) : At6 w Y d n S L := ⟨h.slP, h.sl hd, h.k hd hn, h.r hd hn, h.p hd hn, h.v hd hn, h.pe hd hn, h.ma hd hn, fun k => h.fz hd k, by omega, by omega, by omega, by omega⟩
end
set_option maxRecDepth 100000 in
theorem rAlloc (Y : Nat) (d r : Int) (L : ELay) (w : World) (S : Ev) (h : RE w Y S L) : Calls Try.prog 47 #[.pointer (some ⟨Y, 0, none⟩), .int .i64 d, .int .i64 r] w fun e w' => e = .returned (.tuple #[.int .i64 (allocE S d r).1, .int .i64 (allocE S d r).2.1]) ∧ RLeft Y L w ((allocE S d r).2.2) w' := by
  have H := hid h
  cases hd : edOk d with
  | false =>
    have HE := hid (show allocE S d r = (0, 1, S) by simp [allocE, hd])
    clear h
    go_enter Try.func47, Try.ntmps47
    go_wp2_with (go_at_call 52; refine (rIsDomain _ _).mono ?_; rintro e w' ⟨rfl, rfl⟩)
    go_ret2
    rw [HE.out]
    exact ⟨rfl, RLeft.same H.out⟩
  | true =>
    cases hr : edOk r with
    | false =>
      have HE := hid (show allocE S d r = (0, 1, S) by simp [allocE, hr])
      clear h
      go_enter Try.func47, Try.ntmps47
      go_wp2_with (go_at_call 52; refine (rIsDomain _ _).mono ?_; rintro e w' ⟨rfl, rfl⟩)
      go_ret2
      rw [HE.out]
      exact ⟨rfl, RLeft.same H.out⟩
    | true =>
      obtain ⟨d, rfl, hd'⟩ := edOk_nat hd
      by_cases hl : least (isFree S d) < 32
      · have HE := hid (show allocE S d r = (((least (isFree S d) : Nat) : Int), 0, S.upd d (least (isFree S d)) ⟨1, r, 0, 0, false, false⟩) by simp [allocE, hd, hr, takeE, hl])
        have hL := rLeast Y d L w S hd' h
        rw [orNone_yes hl] at hL
        have ha := RLeft.laid h hd' hl ⟨1, r, 0, 0, false, false⟩
        unfold set6 at ha
        have HA := hid ha; have HL := hid hL
        obtain ⟨c0, c1, k0, k1, k2, k3, k4, k5, fz, d0, d8, n0, n8⟩ := h.at6 hd' hl
        generalize least (isFree S d) = n at *
        clear h ha hL hl 
        go_enter Try.func47, Try.ntmps47
        go_wp2_with (first
      | (go_at_call 52; refine (rIsDomain _ _).mono ?_; rintro e w' ⟨rfl, rfl⟩)
      | (go_at_call 56; refine HL.out.mono ?_; rintro e w' ⟨rfl, rfl⟩))
        go_ret2
        rw [HE.out]
        exact ⟨rfl, HA.out⟩
      · have HE := hid (show allocE S d r = (0, 71, S) by simp [allocE, hd, hr, takeE, hl])
        have hL := rLeast Y d L w S hd' h
        rw [orNone_no hl] at hL
        have HL := hid hL
        clear h hL hl 
        go_enter Try.func47, Try.ntmps47
        go_wp2_with (first
      | (go_at_call 52; refine (rIsDomain _ _).mono ?_; rintro e w' ⟨rfl, rfl⟩)
      | (go_at_call 56; refine HL.out.mono ?_; rintro e w' ⟨rfl, rfl⟩))
        go_ret2
        rw [HE.out]
        exact ⟨rfl, RLeft.same H.out⟩
set_option maxRecDepth 100000 in
theorem rVirq (Y : Nat) (d v : Int) (L : ELay) (w : World) (S : Ev) (h : RE w Y S L) : Calls Try.prog 49 #[.pointer (some ⟨Y, 0, none⟩), .int .i64 d, .int .i64 v] w fun e w' => e = .returned (.tuple #[.int .i64 (virqE S d v).1, .int .i64 (virqE S d v).2.1]) ∧ RLeft Y L w ((virqE S d v).2.2) w' := by
  have H := hid h
  cases hd : edOk d with
  | false =>
    have HE := hid (show virqE S d v = (0, 1, S) by simp [virqE, hd])
    clear h
    go_enter Try.func49, Try.ntmps49
    go_wp2_with (go_at_call 52; refine (rIsDomain _ _).mono ?_; rintro e w' ⟨rfl, rfl⟩)
    go_ret2
    rw [HE.out]
    exact ⟨rfl, RLeft.same H.out⟩
  | true =>
    cases hv : evOk v with
    | false =>
      have HE := hid (show virqE S d v = (0, 1, S) by simp [virqE, hv])
      clear h
      have hv' : v < 0 ∨ 4 ≤ v := by simp only [evOk, Bool.and_eq_false_iff, decide_eq_false_iff_not] at hv; omega
      clear hv
      rcases hv' with hv' | hv'
      all_goals
        go_enter Try.func49, Try.ntmps49
        go_wp2_with (go_at_call 52; refine (rIsDomain _ _).mono ?_; rintro e w' ⟨rfl, rfl⟩)
        go_ret2
        rw [HE.out]
        exact ⟨rfl, RLeft.same H.out⟩
    | true =>
      have hv0 : 0 ≤ v := by simp only [evOk, Bool.and_eq_true, decide_eq_true_eq] at hv; exact hv.1
      have hv4 : v < 4 := by simp only [evOk, Bool.and_eq_true, decide_eq_true_eq] at hv; exact hv.2
      obtain ⟨d, rfl, hd'⟩ := edOk_nat hd
      have hV := rVirqOf Y d v L w S hd' h
      by_cases hq : least (isVirqOf S d v) < 32
      · have HE := hid (show virqE S d v = (0, 8, S) by simp [virqE, hd, hv, hq])
        rw [orNone_yes hq] at hV
        have HV := hid hV
        have hn0 : (0 : Int) ≤ (least (isVirqOf S d v) : Nat) := by omega
        clear h hV hq hv
        go_enter Try.func49, Try.ntmps49
        go_wp2_with (first
      | (go_at_call 52; refine (rIsDomain _ _).mono ?_; rintro e w' ⟨rfl, rfl⟩)
      | (go_at_call 53; refine HV.out.mono ?_; rintro e w' ⟨rfl, rfl⟩))
        go_ret2
        rw [HE.out]
        exact ⟨rfl, RLeft.same H.out⟩
      · have hTk : virqE S d v = takeE S d ⟨3, 0, 0, v, false, false⟩ := by simp [virqE, hd, hv, hq]
        rw [orNone_no hq] at hV
        have HV := hid hV
        by_cases hl : least (isFree S d) < 32
        · have HE := hid (show virqE S d v = (((least (isFree S d) : Nat) : Int), 0, S.upd d (least (isFree S d)) ⟨3, 0, 0, v, false, false⟩) by rw [hTk]; simp [takeE, hl])
          have hL := rLeast Y d L w S hd' h
          rw [orNone_yes hl] at hL
          have ha := RLeft.laid h hd' hl ⟨3, 0, 0, v, false, false⟩
          unfold set6 at ha
          have HA := hid ha; have HL := hid hL
          obtain ⟨c0, c1, k0, k1, k2, k3, k4, k5, fz, d0, d8, n0, n8⟩ := h.at6 hd' hl
          generalize least (isFree S d) = n at *
          clear h ha hL hl hTk hV hq hv
          go_enter Try.func49, Try.ntmps49
          go_wp2_with (first
      | (go_at_call 52; refine (rIsDomain _ _).mono ?_; rintro e w' ⟨rfl, rfl⟩)
      | (go_at_call 53; refine HV.out.mono ?_; rintro e w' ⟨rfl, rfl⟩)
      | (go_at_call 56; refine HL.out.mono ?_; rintro e w' ⟨rfl, rfl⟩))
          go_ret2
          rw [HE.out]
          exact ⟨rfl, HA.out⟩
        · have HE := hid (show virqE S d v = (0, 71, S) by rw [hTk]; simp [takeE, hl])
          have hL := rLeast Y d L w S hd' h
          rw [orNone_no hl] at hL
          have HL := hid hL
          clear h hL hl hTk hV hq hv
          go_enter Try.func49, Try.ntmps49
          go_wp2_with (first
      | (go_at_call 52; refine (rIsDomain _ _).mono ?_; rintro e w' ⟨rfl, rfl⟩)
      | (go_at_call 53; refine HV.out.mono ?_; rintro e w' ⟨rfl, rfl⟩)
      | (go_at_call 56; refine HL.out.mono ?_; rintro e w' ⟨rfl, rfl⟩))
          go_ret2
          rw [HE.out]
          exact ⟨rfl, RLeft.same H.out⟩
set_option maxRecDepth 100000 in
theorem rRaise (Y : Nat) (d v : Int) (L : ELay) (w : World) (S : Ev) (h : RE w Y S L) : Calls Try.prog 31 #[.pointer (some ⟨Y, 0, none⟩), .int .i64 d, .int .i64 v] w fun e w' => e = .returned (.int .i64 (raiseE S d v).1) ∧ RLeft Y L w ((raiseE S d v).2) w' := by
  have H := hid h
  cases hd : edOk d with
  | false =>
    have HE := hid (show raiseE S d v = (1, S) by simp [raiseE, hd])
    clear h
    go_enter Try.func31, Try.ntmps31
    go_wp2_with (go_at_call 52; refine (rIsDomain _ _).mono ?_; rintro e w' ⟨rfl, rfl⟩)
    go_ret
    rw [HE.out]
    exact ⟨rfl, RLeft.same H.out⟩
  | true =>
    cases hv : evOk v with
    | false =>
      have HE := hid (show raiseE S d v = (1, S) by simp [raiseE, hv])
      clear h
      have hv' : v < 0 ∨ 4 ≤ v := by simp only [evOk, Bool.and_eq_false_iff, decide_eq_false_iff_not] at hv; omega
      clear hv
      rcases hv' with hv' | hv'
      all_goals
        go_enter Try.func31, Try.ntmps31
        go_wp2_with (go_at_call 52; refine (rIsDomain _ _).mono ?_; rintro e w' ⟨rfl, rfl⟩)
        go_ret
        rw [HE.out]
        exact ⟨rfl, RLeft.same H.out⟩
    | true =>
      have hv0 : 0 ≤ v := by simp only [evOk, Bool.and_eq_true, decide_eq_true_eq] at hv; exact hv.1
      have hv4 : v < 4 := by simp only [evOk, Bool.and_eq_true, decide_eq_true_eq] at hv; exact hv.2
      obtain ⟨d, rfl, hd'⟩ := edOk_nat hd
      have hV := rVirqOf Y d v L w S hd' h
      by_cases hq : least (isVirqOf S d v) < 32
      · have HE := hid (show raiseE S d v = (0, pendE S d (least (isVirqOf S d v))) by simp [raiseE, hd, hv, hq])
        rw [orNone_yes hq] at hV
        have HV := hid hV
        have HT := hid (rPend Y d _ L w S hd' hq h)
        have hn0 : (0 : Int) ≤ (least (isVirqOf S d v) : Nat) := by omega
        clear h hV hq hv
        go_enter Try.func31, Try.ntmps31
        go_wp2_with (first
      | (go_at_call 52; refine (rIsDomain _ _).mono ?_; rintro e w' ⟨rfl, rfl⟩)
      | (go_at_call 53; refine HV.out.mono ?_; rintro e w' ⟨rfl, rfl⟩)
      | (go_at_call 51; refine HT.out.mono ?_; rintro e w2 ⟨rfl, h2⟩; have H2 := hid h2; clear h2))
        go_ret
        rw [HE.out]
        exact ⟨rfl, H2.out⟩
      · have HE := hid (show raiseE S d v = (6, S) by simp [raiseE, hd, hv, hq])
        rw [orNone_no hq] at hV
        have HV := hid hV
        clear h hV hq hv
        go_enter Try.func31, Try.ntmps31
        go_wp2_with (first
      | (go_at_call 52; refine (rIsDomain _ _).mono ?_; rintro e w' ⟨rfl, rfl⟩)
      | (go_at_call 53; refine HV.out.mono ?_; rintro e w' ⟨rfl, rfl⟩))
        go_ret
        rw [HE.out]
        exact ⟨rfl, RLeft.same H.out⟩
set_option maxRecDepth 100000 in
theorem rSend (Y : Nat) (d p : Int) (L : ELay) (w : World) (S : Ev) (hok : EOk S) (h : RE w Y S L) : Calls Try.prog 30 #[.pointer (some ⟨Y, 0, none⟩), .int .i64 d, .int .i64 p] w fun e w' => e = .returned (.int .i64 (sendE S d p).1) ∧ RLeft Y L w ((sendE S d p).2) w' := by
  have H := hid h
  by_cases hdp : edOk d = true ∧ epOk p = true
  · obtain ⟨d, rfl, hd⟩ := edOk_nat hdp.1
    obtain ⟨n, rfl, hn⟩ := epOk_nat hdp.2
    obtain ⟨c0, c1, k0, k1, k2, k3, k4, k5, fz, d0, d8, n0, n8⟩ := h.at6 hd hn
    have hP := hok d n hd hn
    by_cases h2 : (S.pt d n).k = 2
    · obtain ⟨r, p, hr, hp, e1, e2, e3, e4, e5, e6⟩ := hP.bound h2
      have HE := hid (show sendE S d n = (0, pendE S r p) by simp [sendE, hdp, h2, e1, e2])
      have HT := hid (fun W (hW : RE W Y S L) => rPend Y r p L W S hr hp hW)
      obtain ⟨W1, hW1, g1, _, b0, b1, b2, b3, b4, b5⟩ := box6 w (S.pt d n)
      have HG1 := hid g1
      have H1 := hid (h.grow0 g1)
      rw [h2] at k0 b0 hW1; rw [e1] at k1 b1 hW1; rw [e2] at k2 b2 hW1
      clear h hdp hok hP h2 e1 e2 e3 e4 e5 e6 g1
      go_enter Try.func30, Try.ntmps30
      go_wp2_with (first
      | (go_at_call 50; refine (rThere_yes d n _ hd hn).mono ?_; rintro e w' ⟨rfl, rfl⟩)
      | (go_at_call 51; refine (HT.out _ H1.out).mono ?_; rintro e w2 ⟨rfl, h2⟩; have H2 := hid h2; clear h2))
      go_ret
      rw [HE.out]
      exact ⟨rfl, (RLeft.of H.out HG1.out).trans H2.out⟩
    · have hb : ((S.pt d n).k != 2) = true := by simp [h2]
      have HE := hid (show sendE S d n = (70, S) by simp [sendE, hdp, h2])
      obtain ⟨W1, hW1, g1, _, b0, b1, b2, b3, b4, b5⟩ := box6 w (S.pt d n)
      have HG1 := hid g1
      clear h hdp hok hP h2 g1
      go_enter Try.func30, Try.ntmps30
      go_wp2_with (go_at_call 50; refine (rThere_yes d n _ hd hn).mono ?_; rintro e w' ⟨rfl, rfl⟩)
      go_ret
      rw [HE.out]
      exact ⟨rfl, RLeft.of H.out HG1.out⟩
  · have HE := hid (show sendE S d p = (1, S) by unfold sendE; rw [if_neg hdp])
    have HT := hid (rThere_no d p w hdp)
    clear hdp h
    go_enter Try.func30, Try.ntmps30
    go_wp2_with (go_at_call 50; refine HT.out.mono ?_; rintro e w' ⟨rfl, rfl⟩)
    go_ret
    rw [HE.out]
    exact ⟨rfl, RLeft.same H.out⟩
set_option maxRecDepth 100000 in
theorem rMask (Y : Nat) (d p : Int) (on : Bool) (L : ELay) (w : World) (S : Ev) (h : RE w Y S L) : Calls Try.prog 32 #[.pointer (some ⟨Y, 0, none⟩), .int .i64 d, .int .i64 p, .bool on] w fun e w' => e = .returned (.int .i64 (maskE S d p on).1) ∧ RLeft Y L w ((maskE S d p on).2) w' := by
  have H := hid h
  by_cases hdp : edOk d = true ∧ epOk p = true
  · obtain ⟨d, rfl, hd⟩ := edOk_nat hdp.1
    obtain ⟨n, rfl, hn⟩ := epOk_nat hdp.2
    obtain ⟨c0, c1, k0, k1, k2, k3, k4, k5, fz, d0, d8, n0, n8⟩ := h.at6 hd hn
    have hT := rTaken Y d n L w S h
    by_cases h0 : (S.pt d n).k = 0
    · have HE := hid (show maskE S d n on = (70, S) by simp [maskE, hdp, h0])
      rw [show takenR S d n = 70 by simp [takenR, hdp, h0]] at hT
      have HT := hid hT
      clear h hdp h0 hT
      go_enter Try.func32, Try.ntmps32
      go_wp2_with (go_at_call 54; refine HT.out.mono ?_; rintro e w' ⟨rfl, rfl⟩)
      go_ret
      rw [HE.out]
      exact ⟨rfl, RLeft.same H.out⟩
    · rw [show takenR S d n = 0 by simp [takenR, hdp, h0]] at hT
      have HT := hid hT
      have hE : maskE S d n on = (0, if ((S.pt d n).ma && !on && (S.pt d n).pe) = true then (S.upd d n { S.pt d n with ma := on }).setUp d true else S.upd d n { S.pt d n with ma := on }) := by simp [maskE, hdp, h0]
      have nY := h.nY hd; have nP := h.nP hd; have nU := h.nU hd
      have h1 := h.setMa hd hn on
      have y0 := h1.slP; have y1 := h1.sl hd; have y4 := h1.pe hd hn; have y2 := h1.slU; have yu := h1.up hd; have fu := h1.fzU d
      rw [Ev.upd_same] at y4
      rw [Ev.upd_up] at yu
      simp only at y4
      have H1 := hid h1
      have HG := hid (chgRow (Y := Y) hd (grownBy_setCell w (L.g d) (n * 6 + 5) none (.bool on)))
      have H2 := hid (h1.setUp hd true)
      obtain ⟨W, hW⟩ : ∃ W, w.setCell ⟨L.g d, n * 6 + 5, none⟩ (.bool on) = W := ⟨_, rfl⟩
      rw [hW] at H1 HG H2 y0 y1 y2 y4 yu fu
      clear h hdp h0 hT h1 nY nP nU
      cases hma : (S.pt d n).ma <;> cases on <;> cases hpe : (S.pt d n).pe <;> rw [hma, hpe] at hE <;> rw [hma] at k5 <;> rw [hpe] at k4 y4 <;> simp only [Bool.not_true, Bool.not_false, Bool.and_self, Bool.and_true, Bool.and_false, Bool.true_and, Bool.false_and, if_true, Bool.false_eq_true, if_false] at hE
      all_goals
        have HE := hid hE
        clear hE hma hpe
        go_enter Try.func32, Try.ntmps32
        go_wp2_with (go_at_call 54; refine HT.out.mono ?_; rintro e w' ⟨rfl, rfl⟩)
        go_ret
        rw [HE.out]
        first
          | exact ⟨rfl, H1.out, HG.out⟩
          | exact ⟨rfl, H2.out, HG.out.trans (chgUp (grownBy_setCell _ _ _ none _)) fun _ e => .inl e⟩
  · have HE := hid (show maskE S d p on = (1, S) by unfold maskE; rw [if_neg hdp])
    have HT := hid (show Calls Try.prog 54 #[.pointer (some ⟨Y, 0, none⟩), .int .i64 d, .int .i64 p] w _ from rTaken Y d p L w S h)
    rw [show takenR S d p = 1 by unfold takenR; rw [if_neg hdp]] at HT
    clear hdp h
    go_enter Try.func32, Try.ntmps32
    go_wp2_with (go_at_call 54; refine HT.out.mono ?_; rintro e w' ⟨rfl, rfl⟩)
    go_ret
    rw [HE.out]
    exact ⟨rfl, RLeft.same H.out⟩
set_option maxRecDepth 100000 in
theorem rClear (Y : Nat) (d p : Int) (L : ELay) (w : World) (S : Ev) (h : RE w Y S L) : Calls Try.prog 33 #[.pointer (some ⟨Y, 0, none⟩), .int .i64 d, .int .i64 p] w fun e w' => e = .returned (.int .i64 (clearE S d p).1) ∧ RLeft Y L w ((clearE S d p).2) w' := by
  have H := hid h
  by_cases hdp : edOk d = true ∧ epOk p = true
  · obtain ⟨d, rfl, hd⟩ := edOk_nat hdp.1
    obtain ⟨n, rfl, hn⟩ := epOk_nat hdp.2
    obtain ⟨c0, c1, k0, k1, k2, k3, k4, k5, fz, d0, d8, n0, n8⟩ := h.at6 hd hn
    have hT := rTaken Y d n L w S h
    by_cases h0 : (S.pt d n).k = 0
    · have HE := hid (show clearE S d n = (70, S) by simp [clearE, hdp, h0])
      rw [show takenR S d n = 70 by simp [takenR, hdp, h0]] at hT
      have HT := hid hT
      clear h hdp h0 hT
      go_enter Try.func33, Try.ntmps33
      go_wp2_with (go_at_call 54; refine HT.out.mono ?_; rintro e w' ⟨rfl, rfl⟩)
      go_ret
      rw [HE.out]
      exact ⟨rfl, RLeft.same H.out⟩
    · rw [show takenR S d n = 0 by simp [takenR, hdp, h0]] at hT
      have HT := hid hT
      have HE := hid (show clearE S d n = (0, S.upd d n { S.pt d n with pe := false }) by simp [clearE, hdp, h0])
      have H1 := hid (h.setPe hd hn false)
      clear h hdp h0 hT
      go_enter Try.func33, Try.ntmps33
      go_wp2_with (go_at_call 54; refine HT.out.mono ?_; rintro e w' ⟨rfl, rfl⟩)
      go_ret
      rw [HE.out]
      exact ⟨rfl, H1.out, chgRow hd (grownBy_setCell _ _ _ none _)⟩
  · have HE := hid (show clearE S d p = (1, S) by unfold clearE; rw [if_neg hdp])
    have HT := hid (show Calls Try.prog 54 #[.pointer (some ⟨Y, 0, none⟩), .int .i64 d, .int .i64 p] w _ from rTaken Y d p L w S h)
    rw [show takenR S d p = 1 by unfold takenR; rw [if_neg hdp]] at HT
    clear hdp h
    go_enter Try.func33, Try.ntmps33
    go_wp2_with (go_at_call 54; refine HT.out.mono ?_; rintro e w' ⟨rfl, rfl⟩)
    go_ret
    rw [HE.out]
    exact ⟨rfl, RLeft.same H.out⟩
set_option maxRecDepth 100000 in
theorem rTakeUp (Y : Nat) (d : Int) (L : ELay) (w : World) (S : Ev) (h : RE w Y S L) : Calls Try.prog 34 #[.pointer (some ⟨Y, 0, none⟩), .int .i64 d] w fun e w' => e = .returned (.tuple #[.bool (takeUpE S d).1, .int .i64 (takeUpE S d).2.1]) ∧ RLeft Y L w ((takeUpE S d).2.2) w' := by
  have H := hid h
  cases hd : edOk d with
  | false =>
    have HE := hid (show takeUpE S d = (false, 1, S) by simp [takeUpE, hd])
    clear h
    go_enter Try.func34, Try.ntmps34
    go_wp2_with (go_at_call 52; refine (rIsDomain _ _).mono ?_; rintro e w' ⟨rfl, rfl⟩)
    go_ret2
    rw [HE.out]
    exact ⟨rfl, RLeft.same H.out⟩
  | true =>
    obtain ⟨d, rfl, hd'⟩ := edOk_nat hd
    have HE := hid (show takeUpE S d = (S.up d, 0, S.setUp d false) by simp [takeUpE, hd])
    have c0 := h.slU; have c1 := h.up hd'; have fu := h.fzU d
    have d0 : (0 : Int) ≤ d := by omega
    have d8 : (d : Int) < 8 := by omega
    have HS := hid (h.setUp hd' false)
    clear h
    go_enter Try.func34, Try.ntmps34
    go_wp2_with (go_at_call 52; refine (rIsDomain _ _).mono ?_; rintro e w' ⟨rfl, rfl⟩)
    go_ret2
    rw [HE.out]
    exact ⟨rfl, HS.out, chgUp (grownBy_setCell _ _ _ none _)⟩
set_option maxRecDepth 100000 in
theorem rPort (Y : Nat) (d p : Int) (L : ELay) (w : World) (S : Ev) (h : RE w Y S L) : Calls Try.prog 37 #[.pointer (some ⟨Y, 0, none⟩), .int .i64 d, .int .i64 p] w fun e w' => e = .returned (.tuple #[(portR S d p).1.val, .int .i64 (portR S d p).2]) ∧ w.grownBy w' none := by
  have ga := World.grownBy_alloc w (.cells #[.int .i64 0, .int .i64 0, .int .i64 0, .int .i64 0, .bool false, .bool false] 35) none
  have GA := hid ga
  by_cases hdp : edOk d = true ∧ epOk p = true
  · obtain ⟨d, rfl, hd⟩ := edOk_nat hdp.1
    obtain ⟨n, rfl, hn⟩ := epOk_nat hdp.2
    have HE := hid (show portR S d n = (S.pt d n, 0) by simp [portR, hdp])
    obtain ⟨c0, c1, k0, k1, k2, k3, k4, k5, fz, d0, d8, n0, n8⟩ := (h.grow0 ga).at6 hd hn
    have r6 := row6z w
    have v0 := r6.cell (k := 0) (by omega); have v1 := r6.cell (k := 1) (by omega); have v2 := r6.cell (k := 2) (by omega); have v3 := r6.cell (k := 3) (by omega); have v4 := r6.cell (k := 4) (by omega); have v5 := r6.cell (k := 5) (by omega); have vz := r6.frozen
    have hz : w.heap.size < (w.alloc (.cells #[.int .i64 0, .int .i64 0, .int .i64 0, .int .i64 0, .bool false, .bool false] 35)).heap.size := World.block_lt_of_cell? _ _ v0
    generalize S.pt d n = q at *
    clear h hdp ga r6
    go_enter Try.func37, Try.ntmps37
    go_wp2_with (go_at_call 50; refine (rThere_yes d n _ hd hn).mono ?_; rintro e w' ⟨rfl, rfl⟩)
    go_returns
    rw [HE.out]
    exact ⟨rfl, by first | exact World.grownBy_alloc _ _ _ | exact GA.out.andThen (set6_grown _ w.heap.size 0 q) (fun j hj => by cases hj; exact .inl (Nat.le_refl _))⟩
  · have HE := hid (show portR S d p = (Prt.zero, 1) by unfold portR; rw [if_neg hdp])
    have HT := hid (rThere_no d p (w.alloc (.cells #[.int .i64 0, .int .i64 0, .int .i64 0, .int .i64 0, .bool false, .bool false] 35)) hdp)
    clear hdp h ga
    go_enter Try.func37, Try.ntmps37
    go_wp2_with (go_at_call 50; refine HT.out.mono ?_; rintro e w' ⟨rfl, rfl⟩)
    go_returns
    rw [HE.out]
    exact ⟨rfl, GA.out⟩
end Go.Proofs.Ytjgikapoohibnaa
