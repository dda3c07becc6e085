/-
  Package tenementref07: contracts of Bind, Close, Drop, Pending.
-/
import Derived.Test.YtjgikapoohibnaaEvS
import Derived.Deep.Cut
set_option linter.unusedSimpArgs false
set_option linter.unusedVariables false
namespace Go.Proofs.Ytjgikapoohibnaa
open Go.RowKit Gen
set_option maxHeartbeats 2000000

theorem RLeft.drew {Y : Nat} {L : ELay} {w W : World} {S : Ev} (h : RLeft Y L w S W) : RLeft Y L w S W.drew := h.trans (RLeft.of h.1 (grownBy_drew W none))
theorem rIsDomain_yes (d : Nat) (w : World) (hd : d < 8) : Calls Try.prog 52 #[.int .i64 d] w fun e w' => e = .returned (.bool true) ∧ w = w' := by
  have h := rIsDomain d w
  rw [edOk_yes hd] at h
  exact h
set_option maxRecDepth 100000 in
theorem rBind (Y : Nat) (d r p : Int) (L : ELay) (w : World) (S : Ev) (h : RE w Y S L) : Calls Try.prog 48 #[.pointer (some ⟨Y, 0, none⟩), .int .i64 d, .int .i64 r, .int .i64 p] w fun e w' => e = .returned (.tuple #[.int .i64 (bindE S d r p).1, .int .i64 (bindE S d r p).2.1]) ∧ RLeft Y L w ((bindE S d r p).2.2) w' := by
  have H := hid h
  cases hd : edOk d with
  | false =>
    have HE := hid (show bindE S d r p = (0, 1, S) by simp [bindE, hd])
    clear h
    go_enter Try.func48, Try.ntmps48
    go_wp2_with (go_at_call 52; refine (rIsDomain _ _).mono ?_; rintro e w' ⟨rfl, rfl⟩)
    go_ret2
    rw [HE.out]
    exact ⟨rfl, RLeft.same H.out⟩
  | true =>
    by_cases hrp : edOk r = true ∧ epOk p = true
    · obtain ⟨d, rfl, hd'⟩ := edOk_nat hd
      obtain ⟨r, rfl, hr⟩ := edOk_nat hrp.1
      obtain ⟨p, rfl, hp⟩ := epOk_nat hrp.2
      obtain ⟨a0, a1, q0, q1, q2, q3, q4, q5, qz, r0, r8, p0, p8⟩ := h.at6 hr hp
      have d0 : (0 : Int) ≤ d := by omega
      have d8 : (d : Int) < 8 := by omega
      by_cases hk : (S.pt r p).k = 1
      · rw [hk] at q0
        by_cases hrr : (S.pt r p).r = d
        · rw [hrr] at q1
          have hb : ((d : Int) != d) = false := by simp
          have hR : (S.pt r p).k = 1 ∧ (S.pt r p).r = d := ⟨hk, hrr⟩
          by_cases hl : least (isFree S d) < 32
          · have hne : ¬ (r = d ∧ p = least (isFree S d)) := by rintro ⟨rfl, e⟩; have := least_free hl; rw [← e] at this; omega
            have HE := hid (show bindE S d r p = (((least (isFree S d) : Nat) : Int), 0, (S.upd d (least (isFree S d)) ⟨2, r, p, 0, false, false⟩).upd r p { S.pt r p with k := 2, p := least (isFree S d) }) by simp [bindE, hd, hrp, hR, hl])
            have hL := rLeast Y d L w S hd' h
            rw [orNone_yes hl] at hL
            have ha := RLeft.laid h hd' hl ⟨2, r, p, 0, false, false⟩
            have hKeep : (S.upd d (least (isFree S d)) ⟨2, r, p, 0, false, false⟩).pt r p = S.pt r p := Ev.upd_other _ _ _ _ _ _ hne
            have HL := hid hL
            obtain ⟨c0, c1, k0, k1, k2, k3, k4, k5, fz, d0, d8, n0, n8⟩ := h.at6 hd' hl
            generalize hS1 : S.upd d (least (isFree S d)) ⟨2, r, p, 0, false, false⟩ = S1 at *
            generalize least (isFree S d) = n at *
            unfold set6 at ha
            simp only at ha
            obtain ⟨W1, hW1⟩ : ∃ W1, (((((w.setCell ⟨L.g d, n * 6, none⟩ (.int .i64 2)).setCell ⟨L.g d, n * 6 + 1, none⟩ (.int .i64 r)).setCell ⟨L.g d, n * 6 + 2, none⟩ (.int .i64 p)).setCell ⟨L.g d, n * 6 + 3, none⟩ (.int .i64 0)).setCell ⟨L.g d, n * 6 + 4, none⟩ (.bool false)).setCell ⟨L.g d, n * 6 + 5, none⟩ (.bool false) = W1 := ⟨_, rfl⟩
            rw [hW1] at ha
            have HA := hid ha
            obtain ⟨u0, u1, v0, v1, v2, v3, v4, v5, vz, _, _, _, _⟩ := ha.1.at6 hr hp
            rw [hKeep] at v0 v1 v2 v3 v4 v5
            rw [hk] at v0; rw [hrr] at v1
            obtain ⟨W3, hW3, g3, _, x0, x1, x2, x3, x4, x5⟩ := box6 W1 ⟨2, d, n, (S.pt r p).v, (S.pt r p).pe, (S.pt r p).ma⟩
            obtain ⟨u0', u1', v0', v1', v2', v3', v4', v5', vz', _, _, _, _⟩ := (ha.1.grow0 g3).at6 hr hp
            have hb2 := RLeft.laid (ha.1.grow0 g3) hr hp { S.pt r p with k := 2, p := n }
            rw [show ({ S.pt r p with k := 2, p := (n : Int) } : Prt) = ⟨2, d, n, (S.pt r p).v, (S.pt r p).pe, (S.pt r p).ma⟩ by rw [← hrr]] at hb2 HE
            have hbx := (ha.trans (RLeft.of ha.1 g3)).trans hb2
            unfold set6 at hbx
            simp only at hbx
            have HB := hid hbx
            clear h hd hL hl hne hk hrr hR hrp hKeep hS1 ha g3 hb2 hbx
            go_enter Try.func48, Try.ntmps48
            go_wp2_with (first
      | (go_at_call 52; refine (show Calls _ _ _ _ _ from rIsDomain_yes d _ hd').mono ?_; rintro e w' ⟨rfl, rfl⟩)
      | (go_at_call 50; refine (rThere_yes r p _ hr hp).mono ?_; rintro e w' ⟨rfl, rfl⟩)
      | (go_at_call 56; refine HL.out.mono ?_; rintro e w' ⟨rfl, rfl⟩))
            go_region
            all_goals
              go_wp2
              go_ret2
              rw [HE.out]
              simp only
              exact ⟨rfl, HB.out.drew⟩
          · have HE := hid (show bindE S d r p = (0, 71, S) by simp [bindE, hd, hrp, hR, hl])
            have hL := rLeast Y d L w S hd' h
            rw [orNone_no hl] at hL
            have HL := hid hL
            clear h hL hl hk hrr hR hrp hd
            go_enter Try.func48, Try.ntmps48
            go_wp2_with (first
      | (go_at_call 52; refine (show Calls _ _ _ _ _ from rIsDomain_yes d _ hd').mono ?_; rintro e w' ⟨rfl, rfl⟩)
      | (go_at_call 50; refine (rThere_yes r p _ hr hp).mono ?_; rintro e w' ⟨rfl, rfl⟩)
      | (go_at_call 56; refine HL.out.mono ?_; rintro e w' ⟨rfl, rfl⟩))
            go_ret2
            rw [HE.out]
            exact ⟨rfl, RLeft.same H.out⟩
        · have hb : ((S.pt r p).r != (d : Int)) = true := by simp [hrr]
          have HE := hid (show bindE S d r p = (0, 70, S) by simp [bindE, hd, hrp, hrr])
          clear h hk hrr hrp
          go_enter Try.func48, Try.ntmps48
          go_wp2_with (first
      | (go_at_call 52; refine (rIsDomain _ _).mono ?_; rintro e w' ⟨rfl, rfl⟩)
      | (go_at_call 50; refine (rThere_yes r p _ hr hp).mono ?_; rintro e w' ⟨rfl, rfl⟩))
          go_ret2
          rw [HE.out]
          exact ⟨rfl, RLeft.same H.out⟩
      · have hb : ((S.pt r p).k != 1) = true := by simp [hk]
        have HE := hid (show bindE S d r p = (0, 70, S) by simp [bindE, hd, hrp, hk])
        clear h hk hrp
        go_enter Try.func48, Try.ntmps48
        go_wp2_with (first
      | (go_at_call 52; refine (rIsDomain _ _).mono ?_; rintro e w' ⟨rfl, rfl⟩)
      | (go_at_call 50; refine (rThere_yes r p _ hr hp).mono ?_; rintro e w' ⟨rfl, rfl⟩))
        go_ret2
        rw [HE.out]
        exact ⟨rfl, RLeft.same H.out⟩
    · have HE := hid (show bindE S d r p = (0, 1, S) by simp only [bindE, hd, if_true]; rw [if_neg hrp])
      have HT := hid (rThere_no r p w hrp)
      clear h hrp
      go_enter Try.func48, Try.ntmps48
      go_wp2_with (first
      | (go_at_call 52; refine (rIsDomain _ _).mono ?_; rintro e w' ⟨rfl, rfl⟩)
      | (go_at_call 50; refine HT.out.mono ?_; rintro e w' ⟨rfl, rfl⟩))
      go_ret2
      rw [HE.out]
      exact ⟨rfl, RLeft.same H.out⟩
set_option maxRecDepth 100000 in
theorem rClose (Y : Nat) (d p : Int) (L : ELay) (w : World) (S : Ev) (hok : EOk S) (h : RE w Y S L) : Calls Try.prog 29 #[.pointer (some ⟨Y, 0, none⟩), .int .i64 d, .int .i64 p] w fun e w' => e = .returned (.int .i64 (closeE S d p).1) ∧ RLeft Y L w ((closeE S d p).2) w' := by
  have H := hid h
  by_cases hdp : edOk d = true ∧ epOk p = true
  · obtain ⟨d, rfl, hd⟩ := edOk_nat hdp.1
    obtain ⟨n, rfl, hn⟩ := epOk_nat hdp.2
    obtain ⟨c0, c1, k0, k1, k2, k3, k4, k5, fz, d0, d8, n0, n8⟩ := h.at6 hd hn
    have hP := hok d n hd hn
    obtain ⟨W1, hW1, g1, _, b0, b1, b2, b3, b4, b5⟩ := box6 w (S.pt d n)
    have h1 := h.grow0 g1
    have HG1 := hid g1
    by_cases h0 : (S.pt d n).k = 0
    · rw [h0] at k0 b0 hW1
      have HE := hid (show closeE S d n = (70, S) by simp [closeE, hdp, h0])
      clear h hdp hok hP h0 g1 h1
      go_enter Try.func29, Try.ntmps29
      go_wp2_with (go_at_call 50; refine (rThere_yes d n _ hd hn).mono ?_; rintro e w' ⟨rfl, rfl⟩)
      go_ret
      rw [HE.out]
      exact ⟨rfl, RLeft.of H.out HG1.out⟩
    · have hb0 : ((S.pt d n).k == 0) = false := by simp [h0]
      obtain ⟨s0, s1, t0, t1, t2, t3, t4, t5, tz, _, _, _, _⟩ := h1.at6 hd hn
      have ha := RLeft.laid h1 hd hn Prt.zero
      have hne : ∀ j, w.heap.size ≠ L.g j ∨ ¬ j < 8 := fun j => by
        by_cases hj : j < 8
        · have := (h.row j hj).lt; exact .inl (by omega)
        · exact .inr hj
      have hgn : w.heap.size ≠ L.g d := (hne d).elim id fun e => absurd hd e
      have hsg := set6_grown W1 (L.g d) (n * 6) Prt.zero
      unfold set6 at ha hsg
      simp only [Prt.zero] at ha hsg
      by_cases h2 : (S.pt d n).k = 2
      · obtain ⟨r, p, hr, hp, e1, e2, e3, e4, e5, e6⟩ := hP.bound h2
        have HE := hid (show closeE S d n = (0, (S.upd d n Prt.zero).upd r p ⟨1, d, 0, (S.pt r p).v, (S.pt r p).pe, (S.pt r p).ma⟩) by
          simp only [closeE, hdp, h2, loosen, e1, e2, Int.toNat_natCast, and_self, if_true]
          rw [if_neg (by omega)]
          refine congrArg (Prod.mk 0) (Ev.ext (fun a b => ?_) fun _ => rfl)
          by_cases x1 : a = d ∧ b = n
          · obtain ⟨rfl, rfl⟩ := x1
            rw [Ev.upd_same, Ev.upd_other _ _ _ _ _ _ (fun e => e6 ⟨e.1.symm, e.2.symm⟩), Ev.upd_same]
          · rw [Ev.upd_other _ _ _ _ _ _ x1]
            by_cases x2 : a = r ∧ b = p
            · obtain ⟨rfl, rfl⟩ := x2
              rw [Ev.upd_same, Ev.upd_same, ← e4]
            · rw [Ev.upd_other _ _ _ _ _ _ x2, Ev.upd_other _ _ _ _ _ _ x2, Ev.upd_other _ _ _ _ _ _ x1])
        have hKeep : (S.upd d n ⟨0, 0, 0, 0, false, false⟩).pt r p = S.pt r p := Ev.upd_other _ _ _ _ _ _ e6
        rw [h2] at k0 b0 hW1 t0; rw [e1] at k1 b1 hW1 t1; rw [e2] at k2 b2 hW1 t2
        obtain ⟨W2, hW2⟩ : ∃ W2, (((((W1.setCell ⟨L.g d, n * 6, none⟩ (.int .i64 0)).setCell ⟨L.g d, n * 6 + 1, none⟩ (.int .i64 0)).setCell ⟨L.g d, n * 6 + 2, none⟩ (.int .i64 0)).setCell ⟨L.g d, n * 6 + 3, none⟩ (.int .i64 0)).setCell ⟨L.g d, n * 6 + 4, none⟩ (.bool false)).setCell ⟨L.g d, n * 6 + 5, none⟩ (.bool false) = W2 := ⟨_, rfl⟩
        rw [hW2] at ha hsg
        have z0 := hsg.cell b0 (by simpa using hgn); have z1 := hsg.cell b1 (by simpa using hgn); have z2 := hsg.cell b2 (by simpa using hgn)
        have HA := hid ha
        obtain ⟨u0, u1, v0, v1, v2, v3, v4, v5, vz, r0, r8, p0, p8⟩ := ha.1.at6 hr hp
        rw [hKeep] at v0 v1 v2 v3 v4 v5
        have ga := World.grownBy_alloc W2 (.cells #[.int .i64 0, .int .i64 0, .int .i64 0, .int .i64 0, .bool false, .bool false] 35) none
        have y0 := ga.cell u0 (by simp); have y1 := ga.cell u1 (by simp); have y2 := ga.cell v0 (by simp); have y3 := ga.cell v1 (by simp); have y4 := ga.cell v2 (by simp); have y5 := ga.cell v3 (by simp); have y6 := ga.cell v4 (by simp); have y7 := ga.cell v5 (by simp); have y8 := ga.cell z1 (by simp); have y9 := ga.cell z2 (by simp)
        have r6 := row6z W2
        have w0 := r6.cell (k := 0) (by omega); have w1 := r6.cell (k := 1) (by omega); have w2 := r6.cell (k := 2) (by omega); have w3 := r6.cell (k := 3) (by omega); have w4 := r6.cell (k := 4) (by omega); have w5 := r6.cell (k := 5) (by omega); have wz := r6.frozen
        obtain ⟨W3, hW3, g3, _, x0, x1, x2, x3, x4, x5⟩ := box6 W2 ⟨1, d, 0, (S.pt r p).v, (S.pt r p).pe, (S.pt r p).ma⟩
        obtain ⟨u0', u1', v0', v1', v2', v3', v4', v5', vz', _, _, _, _⟩ := (ha.1.grow0 g3).at6 hr hp
        have m1 := g3.cell z1 (by simp); have m2 := g3.cell z2 (by simp)
        have hb2 := RLeft.laid (ha.1.grow0 g3) hr hp ⟨1, d, 0, (S.pt r p).v, (S.pt r p).pe, (S.pt r p).ma⟩
        have hbx := (((RLeft.of H.out HG1.out).trans ha).trans (RLeft.of ha.1 g3)).trans hb2
        unfold set6 at hbx
        simp only at hbx
        have HB := hid hbx
        clear h hdp hok hP h0 g1 h1 h2 hne hgn hsg ha e1 e2 e3 e4 e5 e6 hKeep ga r6 g3 hb2 hbx
        go_enter Try.func29, Try.ntmps29
        go_wp2_with (go_at_call 50; refine (rThere_yes d n _ hd hn).mono ?_; rintro e w' ⟨rfl, rfl⟩)
        go_region
        all_goals
          go_wp2
          go_region
          all_goals
            go_wp2
            go_ret
            rw [HE.out]
            simp only
            exact ⟨rfl, HB.out.drew.drew⟩
      · have hb2 : ((S.pt d n).k == 2) = false := by simp [h2]
        have HE := hid (show closeE S d n = (0, S.upd d n Prt.zero) by simp [closeE, hdp, h0, loosen, h2])
        have HA := hid ha
        have N0 := hgn
        clear h hdp hok hP h0 g1 h1 h2 hne ha hsg
        go_enter Try.func29, Try.ntmps29
        go_wp2_with (go_at_call 50; refine (rThere_yes d n _ hd hn).mono ?_; rintro e w' ⟨rfl, rfl⟩)
        go_ret
        rw [HE.out]
        exact ⟨rfl, (RLeft.of H.out HG1.out).trans HA.out⟩
  · have HE := hid (show closeE S d p = (1, S) by unfold closeE; rw [if_neg hdp])
    have HT := hid (rThere_no d p w hdp)
    clear hdp h
    go_enter Try.func29, Try.ntmps29
    go_wp2_with (go_at_call 50; refine HT.out.mono ?_; rintro e w' ⟨rfl, rfl⟩)
    go_ret
    rw [HE.out]
    exact ⟨rfl, RLeft.same H.out⟩
set_option maxRecDepth 100000 in
theorem rDrop (Y : Nat) (d : Int) (L : ELay) (w : World) (S : Ev) (hok : EOk S) (h : RE w Y S L) : Calls Try.prog 35 #[.pointer (some ⟨Y, 0, none⟩), .int .i64 d] w fun e w' => e = .returned (.int .i64 (dropE S d).1) ∧ RLeft Y L w ((dropE S d).2) w' := by
  have H := hid h
  cases hd : edOk d with
  | false =>
    have HE := hid (show dropE S d = (1, S) by simp [dropE, hd])
    clear h hok
    go_enter Try.func35, Try.ntmps35
    go_wp2_with (go_at_call 52; refine (rIsDomain _ _).mono ?_; rintro e w' ⟨rfl, rfl⟩)
    go_ret
    rw [HE.out]
    exact ⟨rfl, RLeft.same H.out⟩
  | true =>
    obtain ⟨d, rfl, hd'⟩ := edOk_nat hd
    have HE := hid (show dropE S d = (0, (closesE S d 32).setUp d false) by simp [dropE, hd])
    have HOk := hid (hok.closes d)
    have d0 : (0 : Int) ≤ d := by omega
    have d8 : (d : Int) < 8 := by omega
    clear h hok
    go_enter Try.func35, Try.ntmps35
    go_wp2_with (go_at_call 52; refine (rIsDomain _ _).mono ?_; rintro e w' ⟨rfl, rfl⟩)
    go_loopw [5] (fun i wr => ∃ k : Nat, i = .int .i64 k ∧ k ≤ 32 ∧ RLeft Y L w (closesE S d k) wr) (fun i _ => 32 - (intOf i).toNat)
    case atStart => exact ⟨0, rfl, by omega, RLeft.same H.out⟩
    case round =>
      obtain ⟨k, rfl, hk, hL⟩ := hrel
      have HL := hid hL
      have hk0 : (0 : Int) ≤ k := by omega
      by_cases hlt : k < 32
      · have hlt' : (k : Int) < 32 := by omega
        have HC := hid (rClose Y d k L wr (closesE S d k) (HOk.out k) hL.1)
        clear hL
        go_wp2_with (go_at_call 29; refine HC.out.mono ?_; rintro e w2 ⟨rfl, h2⟩; have H2 := hid (HL.out.trans h2); clear h2)
        go_roundw
        case rel => exact ⟨k + 1, by go_num, by omega, H2.out⟩
        case measure => simp [intOf]; omega
      · obtain rfl : k = 32 := by omega
        have hge : (32 : Int) ≤ ((32 : Nat) : Int) := by omega
        have cu := hL.1.up hd'
        have c2 := hL.1.slU
        have fu := hL.1.fzU d
        have HS := hid (hL.1.setUp hd' false)
        clear hL
        go_wp2
        go_ret
        rw [HE.out]
        exact ⟨rfl, HS.out, HL.out.2.trans (chgUp (grownBy_setCell _ _ _ none _)) fun _ e => .inl e⟩
set_option maxRecDepth 100000 in
theorem rPending (Y : Nat) (d : Int) (L : ELay) (w : World) (S : Ev) (h : RE w Y S L) : Calls Try.prog 36 #[.pointer (some ⟨Y, 0, none⟩), .int .i64 d] w fun e w' => ∃ v, e = .returned v ∧ NewInts w (pendR S d) v w' := by
  cases hd : edOk d with
  | false =>
    have HE := hid (show pendR S d = [] by simp [pendR, hd])
    clear h
    go_enter Try.func36, Try.ntmps36
    go_wp2
    go_loopw [5, 6] (fun v i wr => v = .slice none 0 0 ∧ i = .int .i64 0 ∧ w = wr) (fun _ _ _ => 0)
    case atStart => exact ⟨rfl, rfl, rfl⟩
    case round =>
      obtain ⟨rfl, rfl, rfl⟩ := hrel
      go_wp2_with (go_at_call 52; refine (rIsDomain _ _).mono ?_; rintro e w' ⟨rfl, rfl⟩)
      go_ret
      rw [HE.out]
      exact ⟨_, rfl, World.ownsRow_nil _ _ _ _, World.grownBy.refl _ _⟩
  | true =>
    obtain ⟨d, rfl, hd'⟩ := edOk_nat hd
    have HE := hid (show pendR S d = pendL S d 32 by simp [pendR, hd])
    have H := hid h
    have d0 : (0 : Int) ≤ d := by omega
    have d8 : (d : Int) < 8 := by omega
    obtain ⟨i0, hi, hz0, hz1, hz2⟩ := info_parts info_int
    have Hi := hid hi; have Hz0 := hid hz0; have Hz1 := hid hz1; have Hz2 := hid hz2
    clear h hi hz0 hz1 hz2
    go_enter Try.func36, Try.ntmps36
    go_wp2
    go_loopw [5, 6] (fun v i wr => ∃ k : Nat, i = .int .i64 k ∧ k ≤ 32 ∧ wr.ownsRow w.heap.size 3 1 v (pendL S d k).length (icells (pendL S d k)) ∧ w.grownBy wr none) (fun _ i _ => 32 - (intOf i).toNat)
    case atStart => exact ⟨0, rfl, by omega, World.ownsRow_nil _ _ _ _, World.grownBy.refl _ _⟩
    case round =>
      obtain ⟨k, rfl, hk, hrow, hg⟩ := hrel
      have HO := hid hrow; have HG := hid hg
      have hpl := pendL_le' S d k
      obtain ⟨pv, cv, hv⟩ := ownsRow_slice hrow
      have hk0 : (0 : Int) ≤ k := by omega
      by_cases hlt : k < 32
      · have hlt' : (k : Int) < 32 := by omega
        have hM := H.out.grow0 hg
        have c0 := hM.slP; have c1 := hM.sl hd'; have c4 := hM.pe hd' hlt
        subst hv
        clear hM hg hrow
        cases hp : (S.pt d k).pe with
        | true =>
          rw [hp] at c4
          have HP1 := hid (pendL_in hp)
          clear hp
          go_wp2_with (first
            | (go_at_call 52; refine (rIsDomain _ _).mono ?_; rintro e w' ⟨rfl, rfl⟩)
            | (at_builtin; refine wpList_append_own _ rfl _ _ 57 rfl w.heap.size 3 i0 (.int .i64 0) 1 8 Try.underlying57 Hi.out Hz0.out Hz1.out Hz2.out rfl (by decide) _ _ _ rfl (HO.out.alloc _) ⟨wr.heap.size, 0, none⟩ 1 1 [.int .i64 k] rfl rfl (cell_one_new _ _ _) (by simp [Value.oneCell']) (by unfold maxLen; omega) (by omega) (by have := HG.out.size; simp; omega) ?_; intro v' wb hown' hgrow hnil'; clear hnil'; obtain ⟨g', cap', rfl⟩ := ownsRow_succ hown'; have HOb := hid hown'; have HGb := hid ((HG.out.trans (World.grownBy_alloc wr _ none)).andThen hgrow (fun j hj => .inl (HO.out.lt j hj).1)); clear hown' hgrow))
          go_roundw
          case rel => exact ⟨k + 1, by go_num, by omega, by rw [HP1.out, icells_snoc, List.length_append]; exact HOb.out, HGb.out⟩
          case measure => simp [intOf]; omega
        | false =>
          rw [hp] at c4
          have HP1 := hid (pendL_out hp)
          clear hp
          go_wp2_with (go_at_call 52; refine (rIsDomain _ _).mono ?_; rintro e w' ⟨rfl, rfl⟩)
          go_roundw
          case rel => exact ⟨k + 1, by go_num, by omega, by rw [HP1.out]; exact HO.out, HG.out⟩
          case measure => simp [intOf]; omega
      · have hge : (32 : Int) ≤ k := by omega
        obtain rfl : k = 32 := by omega
        subst hv
        clear hg hrow
        go_wp2_with (go_at_call 52; refine (rIsDomain _ _).mono ?_; rintro e w' ⟨rfl, rfl⟩)
        go_ret
        rw [HE.out]
        exact ⟨_, rfl, HO.out, HG.out⟩
end Go.Proofs.Ytjgikapoohibnaa
