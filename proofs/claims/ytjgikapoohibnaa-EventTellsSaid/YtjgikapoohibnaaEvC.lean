/-
  Package event: contracts of Alloc, Bind, Virq, Close, Send, Raise, Mask, Clear.
-/
import Derived.Test.YtjgikapoohibnaaEvB
set_option linter.unusedSimpArgs false
set_option linter.unusedVariables false
namespace Go.Proofs.Ytjgikapoohibnaa
open Go.RowKit Gen
set_option maxHeartbeats 1000000

theorem ELeft.mk' {X : Nat} {w w' : World} {S : Ev} (h : EvAt w' X S) (hg : w.grownBy w' (some X)) : ELeft X w S w' := ⟨h, hg⟩
theorem _root_.Go.World.grownBy.any {w w' : World} (h : w.grownBy w' none) (row : Option Nat) : w.grownBy w' row := grown_any h row
theorem _root_.Go.World.grownBy.trans_any {w w' w2 : World} {row : Option Nat} (h : w.grownBy w' none) (k : w'.grownBy w2 row) : w.grownBy w2 row := (grown_any h row).trans k
theorem eAlloc (X : Nat) (d r : Int) (w : World) (S : Ev) (h : EvAt w X S) : Calls Try.prog 18 #[.pointer (some ⟨X, 0, none⟩), .int .i64 d, .int .i64 r] w fun e w' => e = .returned (.tuple #[.int .i64 (allocE S d r).1, .int .i64 (allocE S d r).2.1]) ∧ ELeft X w ((allocE S d r).2.2) w' := by
  have hm := h.made
  have H := hid h
  cases hd : edOk d with
  | false =>
    have HE := hid (show allocE S d r = (0, 1, S) by simp [allocE, hd])
    have HO := hid (eOf_no X d w hd hm)
    clear hd h
    go_enter Try.func18, Try.ntmps18
    go_wp2_with (go_at_call 40; refine HO.out.mono ?_; rintro e w' ⟨rfl, rfl⟩)
    go_ret2
    rw [HE.out]
    exact ⟨rfl, ELeft.same H.out⟩
  | true =>
    obtain ⟨d, rfl, hd'⟩ := edOk_nat hd
    have HO := hid (eOf_yes X d w hd' hm)
    cases hr : edOk r with
    | false =>
      have HE := hid (show allocE S d r = (0, 1, S) by simp [allocE, hr])
      clear hd h
      go_enter Try.func18, Try.ntmps18
      go_wp2_with (first
      | (go_at_call 40; refine HO.out.mono ?_; rintro e w' ⟨rfl, rfl⟩)
      | (go_at_call 41; refine (eIsDomain r _).mono ?_; rintro e w' ⟨rfl, rfl⟩))
      go_ret2
      rw [HE.out]
      exact ⟨rfl, ELeft.same H.out⟩
    | true =>
      have HE := hid (show allocE S d r = takeE S d ⟨1, r, 0, 0, false, false⟩ by simp [allocE, hd, hr])
      have HT := hid (eTake X d ⟨1, r, 0, 0, false, false⟩ w S hd' h)
      clear hd h
      go_enter Try.func18, Try.ntmps18
      go_wp2_with (first
      | (go_at_call 40; refine HO.out.mono ?_; rintro e w' ⟨rfl, rfl⟩)
      | (go_at_call 41; refine (eIsDomain r _).mono ?_; rintro e w' ⟨rfl, rfl⟩)
      | (go_at_call 42; refine HT.out.mono ?_; rintro e w2 ⟨rfl, h2⟩; have H2 := hid h2; clear h2))
      go_ret2
      rw [HE.out]
      exact ⟨rfl, H2.out⟩
theorem eVirq (X : Nat) (d v : Int) (w : World) (S : Ev) (h : EvAt w X S) : Calls Try.prog 20 #[.pointer (some ⟨X, 0, none⟩), .int .i64 d, .int .i64 v] w fun e w' => e = .returned (.tuple #[.int .i64 (virqE S d v).1, .int .i64 (virqE S d v).2.1]) ∧ ELeft X w ((virqE S d v).2.2) w' := by
  have hm := h.made
  have H := hid h
  cases hd : edOk d with
  | false =>
    have HE := hid (show virqE S d v = (0, 1, S) by simp [virqE, hd])
    have HO := hid (eOf_no X d w hd hm)
    clear hd h
    go_enter Try.func20, Try.ntmps20
    go_wp2_with (go_at_call 40; refine HO.out.mono ?_; rintro e w' ⟨rfl, rfl⟩)
    go_ret2
    rw [HE.out]
    exact ⟨rfl, ELeft.same H.out⟩
  | true =>
    obtain ⟨d, rfl, hd'⟩ := edOk_nat hd
    have HO := hid (eOf_yes X d w hd' hm)
    cases hv : evOk v with
    | false =>
      have HE := hid (show virqE S d v = (0, 1, S) by simp [virqE, hv])
      clear hd h
      go_enter Try.func20, Try.ntmps20
      go_wp2_with (first
      | (go_at_call 40; refine HO.out.mono ?_; rintro e w' ⟨rfl, rfl⟩)
      | (go_at_call 43; refine (eIsVirq v _).mono ?_; rintro e w' ⟨rfl, rfl⟩))
      go_ret2
      rw [HE.out]
      exact ⟨rfl, ELeft.same H.out⟩
    | true =>
      have hV := eVirqOf X d v w S hd' h
      by_cases hl : least (isVirqOf S d v) < 32
      · have HE := hid (show virqE S d v = (0, 8, S) by simp [virqE, hd, hv, hl])
        rw [show virqR S d v = (((least (isVirqOf S d v) : Nat) : Int), true) by unfold virqR; rw [if_pos hl]] at hV
        have HV := hid hV
        clear hd h hl hV
        go_enter Try.func20, Try.ntmps20
        go_wp2_with (first
      | (go_at_call 40; refine HO.out.mono ?_; rintro e w' ⟨rfl, rfl⟩)
      | (go_at_call 43; refine (eIsVirq v _).mono ?_; rintro e w' ⟨rfl, rfl⟩)
      | (go_at_call 44; refine HV.out.mono ?_; rintro e w1 ⟨rfl, g1⟩; have H1 := hid (ELeft.of H.out g1); clear g1))
        go_ret2
        rw [HE.out]
        exact ⟨rfl, H1.out⟩
      · have HE := hid (show virqE S d v = takeE S d ⟨3, 0, 0, v, false, false⟩ by simp [virqE, hd, hv, hl])
        rw [show virqR S d v = (0, false) by unfold virqR; rw [if_neg hl]] at hV
        have HV := hid hV
        have HT := hid (fun W (hW : EvAt W X S) => eTake X d ⟨3, 0, 0, v, false, false⟩ W S hd' hW)
        clear hd h hl hV
        go_enter Try.func20, Try.ntmps20
        go_wp2_with (first
      | (go_at_call 40; refine HO.out.mono ?_; rintro e w' ⟨rfl, rfl⟩)
      | (go_at_call 43; refine (eIsVirq v _).mono ?_; rintro e w' ⟨rfl, rfl⟩)
      | (go_at_call 44; refine HV.out.mono ?_; rintro e w1 ⟨rfl, g1⟩; have H1 := hid (ELeft.of H.out g1); clear g1)
      | (go_at_call 42; refine (HT.out _ H1.out.1).mono ?_; rintro e w2 ⟨rfl, h2⟩; have H2 := hid (H1.out.trans h2); clear h2))
        go_ret2
        rw [HE.out]
        exact ⟨rfl, H2.out⟩
theorem eRaise (X : Nat) (d v : Int) (w : World) (S : Ev) (h : EvAt w X S) : Calls Try.prog 23 #[.pointer (some ⟨X, 0, none⟩), .int .i64 d, .int .i64 v] w fun e w' => e = .returned (.int .i64 (raiseE S d v).1) ∧ ELeft X w ((raiseE S d v).2) w' := by
  have hm := h.made
  have H := hid h
  cases hd : edOk d with
  | false =>
    have HE := hid (show raiseE S d v = (1, S) by simp [raiseE, hd])
    have HO := hid (eOf_no X d w hd hm)
    clear hd h
    go_enter Try.func23, Try.ntmps23
    go_wp2_with (go_at_call 40; refine HO.out.mono ?_; rintro e w' ⟨rfl, rfl⟩)
    go_ret
    rw [HE.out]
    exact ⟨rfl, ELeft.same H.out⟩
  | true =>
    obtain ⟨d, rfl, hd'⟩ := edOk_nat hd
    have HO := hid (eOf_yes X d w hd' hm)
    cases hv : evOk v with
    | false =>
      have HE := hid (show raiseE S d v = (1, S) by simp [raiseE, hv])
      clear hd h
      go_enter Try.func23, Try.ntmps23
      go_wp2_with (first
      | (go_at_call 40; refine HO.out.mono ?_; rintro e w' ⟨rfl, rfl⟩)
      | (go_at_call 43; refine (eIsVirq v _).mono ?_; rintro e w' ⟨rfl, rfl⟩))
      go_ret
      rw [HE.out]
      exact ⟨rfl, ELeft.same H.out⟩
    | true =>
      have hV := eVirqOf X d v w S hd' h
      by_cases hl : least (isVirqOf S d v) < 32
      · have HE := hid (show raiseE S d v = (0, pendE S d (least (isVirqOf S d v))) by simp [raiseE, hd, hv, hl])
        rw [show virqR S d v = (((least (isVirqOf S d v) : Nat) : Int), true) by unfold virqR; rw [if_pos hl]] at hV
        have HV := hid hV
        have HT := hid (fun W (hW : EvAt W X S) => ePend X d (least (isVirqOf S d v)) W S hd' hl hW)
        clear hd h hl hV
        go_enter Try.func23, Try.ntmps23
        go_wp2_with (first
      | (go_at_call 40; refine HO.out.mono ?_; rintro e w' ⟨rfl, rfl⟩)
      | (go_at_call 43; refine (eIsVirq v _).mono ?_; rintro e w' ⟨rfl, rfl⟩)
      | (go_at_call 44; refine HV.out.mono ?_; rintro e w1 ⟨rfl, g1⟩; have H1 := hid (ELeft.of H.out g1); clear g1)
      | (go_at_call 39; refine (HT.out _ H1.out.1).mono ?_; rintro e w2 ⟨rfl, h2⟩; have H2 := hid (H1.out.trans h2); clear h2))
        go_ret
        rw [HE.out]
        exact ⟨rfl, H2.out⟩
      · have HE := hid (show raiseE S d v = (6, S) by simp [raiseE, hd, hv, hl])
        rw [show virqR S d v = (0, false) by unfold virqR; rw [if_neg hl]] at hV
        have HV := hid hV
        clear hd h hl hV
        go_enter Try.func23, Try.ntmps23
        go_wp2_with (first
      | (go_at_call 40; refine HO.out.mono ?_; rintro e w' ⟨rfl, rfl⟩)
      | (go_at_call 43; refine (eIsVirq v _).mono ?_; rintro e w' ⟨rfl, rfl⟩)
      | (go_at_call 44; refine HV.out.mono ?_; rintro e w1 ⟨rfl, g1⟩; have H1 := hid (ELeft.of H.out g1); clear g1))
        go_ret
        rw [HE.out]
        exact ⟨rfl, H1.out⟩
theorem eBind (X : Nat) (d r p : Int) (w : World) (S : Ev) (h : EvAt w X S) : Calls Try.prog 19 #[.pointer (some ⟨X, 0, none⟩), .int .i64 d, .int .i64 r, .int .i64 p] w fun e w' => e = .returned (.tuple #[.int .i64 (bindE S d r p).1, .int .i64 (bindE S d r p).2.1]) ∧ ELeft X w ((bindE S d r p).2.2) w' := by
  have hm := h.made
  have H := hid h
  cases hd : edOk d with
  | false =>
    have HE := hid (show bindE S d r p = (0, 1, S) by simp [bindE, hd])
    have HO := hid (eOf_no X d w hd hm)
    clear hd h
    go_enter Try.func19, Try.ntmps19
    go_wp2_with (go_at_call 40; refine HO.out.mono ?_; rintro e w' ⟨rfl, rfl⟩)
    go_ret2
    rw [HE.out]
    exact ⟨rfl, ELeft.same H.out⟩
  | true =>
    obtain ⟨d, rfl, hd'⟩ := edOk_nat hd
    have HO0 := hid (eOf_yes X d w hd' hm)
    by_cases hrp : edOk r = true ∧ epOk p = true
    · obtain ⟨r, rfl, hr'⟩ := edOk_nat hrp.1
      obtain ⟨p, rfl, hp'⟩ := epOk_nat hrp.2
      have HO := hid (eAt_yes X r p w hr' hp' hm)
      have c0 := h.k hr' hp'
      have c1 := h.r hr' hp'
      by_cases hk : (S.pt r p).k = 1
      · rw [hk] at c0
        by_cases hrr : (S.pt r p).r = d
        · rw [hrr] at c1
          have hT := fun W (hW : EvAt W X S) => eTake X d ⟨2, r, p, 0, false, false⟩ W S hd' hW
          have hR : (S.pt r p).k = 1 ∧ (S.pt r p).r = d := ⟨hk, hrr⟩
          by_cases hl : least (isFree S d) < 32
          · have hne : ¬ (r = d ∧ p = least (isFree S d)) := by rintro ⟨rfl, e⟩; have := least_free hl; rw [← e] at this; omega
            have HE := hid (show bindE S d r p = (((least (isFree S d) : Nat) : Int), 0, (S.upd d (least (isFree S d)) ⟨2, r, p, 0, false, false⟩).upd r p { S.pt r p with k := 2, p := least (isFree S d) }) by simp [bindE, hd, hrp, hR, hl])
            have hTe : takeE S d ⟨2, r, p, 0, false, false⟩ = (((least (isFree S d) : Nat) : Int), 0, S.upd d (least (isFree S d)) ⟨2, r, p, 0, false, false⟩) := by unfold takeE; rw [if_pos hl]
            have hKeep : (S.upd d (least (isFree S d)) ⟨2, r, p, 0, false, false⟩).pt r p = S.pt r p := Ev.upd_other _ _ _ _ _ _ hne
            simp only [hTe] at hT
            generalize hS1 : S.upd d (least (isFree S d)) ⟨2, r, p, 0, false, false⟩ = S1 at *
            generalize least (isFree S d) = n at *
            have HT := hid hT; have HKeep := hid hKeep
            clear hd h hT hTe hl hne hk hrr hR hrp hKeep hS1
            go_enter Try.func19, Try.ntmps19
            go_wp2_with (first
      | (go_at_call 40; refine HO0.out.mono ?_; rintro e w' ⟨rfl, rfl⟩)
      | (go_at_call 38; refine HO.out.mono ?_; rintro e w1 ⟨rfl, g1⟩; have HG1 := hid g1; have H1 := hid (H.out.grow0 g1); have c0' := g1.cell c0 (by simp); have c1' := g1.cell c1 (by simp); clear g1 c0 c1)
      | (go_at_call 42; refine (HT.out _ H1.out).mono ?_; rintro e w2 ⟨rfl, h2⟩; have HG2 := hid (HG1.out.trans_any h2.2); have k0 := h2.1.k hr' hp'; have k2 := h2.1.p hr' hp'; have f0 := h2.1.fz (1 + r * 193 + p * 6); have f2 := h2.1.fz (1 + r * 193 + p * 6 + 2); have HZ := hid ((h2.1.setK hr' hp' 2).setP hr' hp' n); clear h2))
            go_ret2
            rw [HE.out]
            have hz := HZ.out
            simp only [Ev.upd_upd, Ev.upd_same, HKeep.out] at hz
            exact ⟨rfl, hz, (HG2.out.trans (grownBy_setCell _ _ _ none _)).trans (grownBy_setCell _ _ _ none _)⟩
          · have HE := hid (show bindE S d r p = (0, 71, S) by simp [bindE, hd, hrp, hR, hl])
            have hTe : takeE S d ⟨2, r, p, 0, false, false⟩ = (0, 71, S) := by unfold takeE; rw [if_neg hl]
            simp only [hTe] at hT
            have HT := hid hT
            clear hd h hT hTe hl hk hrr hR hrp
            go_enter Try.func19, Try.ntmps19
            go_wp2_with (first
      | (go_at_call 40; refine HO0.out.mono ?_; rintro e w' ⟨rfl, rfl⟩)
      | (go_at_call 38; refine HO.out.mono ?_; rintro e w1 ⟨rfl, g1⟩; have HG1 := hid g1; have H1 := hid (H.out.grow0 g1); have c0' := g1.cell c0 (by simp); have c1' := g1.cell c1 (by simp); clear g1 c0 c1)
      | (go_at_call 42; refine (HT.out _ H1.out).mono ?_; rintro e w2 ⟨rfl, h2⟩; have H2 := hid h2; clear h2))
            go_ret2
            rw [HE.out]
            exact ⟨rfl, H2.out.1, HG1.out.trans_any H2.out.2⟩
        · have hb : ((S.pt r p).r != (d : Int)) = true := by simp [hrr]
          have HE := hid (show bindE S d r p = (0, 70, S) by simp [bindE, hd, hrp, hrr])
          clear hd h hk hrr hrp
          go_enter Try.func19, Try.ntmps19
          go_wp2_with (first
      | (go_at_call 40; refine HO0.out.mono ?_; rintro e w' ⟨rfl, rfl⟩)
      | (go_at_call 38; refine HO.out.mono ?_; rintro e w1 ⟨rfl, g1⟩; have HG1 := hid g1; have H1 := hid (H.out.grow0 g1); have c0' := g1.cell c0 (by simp); have c1' := g1.cell c1 (by simp); clear g1 c0 c1))
          go_ret2
          rw [HE.out]
          exact ⟨rfl, ELeft.of H.out HG1.out⟩
      · have hb : ((S.pt r p).k != 1) = true := by simp [hk]
        have HE := hid (show bindE S d r p = (0, 70, S) by simp [bindE, hd, hrp, hk])
        clear hd h hk hrp c1
        go_enter Try.func19, Try.ntmps19
        go_wp2_with (first
      | (go_at_call 40; refine HO0.out.mono ?_; rintro e w' ⟨rfl, rfl⟩)
      | (go_at_call 38; refine HO.out.mono ?_; rintro e w1 ⟨rfl, g1⟩; have HG1 := hid g1; have H1 := hid (H.out.grow0 g1); have c0' := g1.cell c0 (by simp); clear g1 c0))
        go_ret2
        rw [HE.out]
        exact ⟨rfl, ELeft.of H.out HG1.out⟩
    · have HE := hid (show bindE S d r p = (0, 1, S) by simp only [bindE, hd, if_true]; rw [if_neg hrp])
      have HO := hid (eAt_no X r p w hrp hm)
      clear hd h hrp
      go_enter Try.func19, Try.ntmps19
      go_wp2_with (first
      | (go_at_call 40; refine HO0.out.mono ?_; rintro e w' ⟨rfl, rfl⟩)
      | (go_at_call 38; refine HO.out.mono ?_; rintro e w' ⟨rfl, rfl⟩))
      go_ret2
      rw [HE.out]
      exact ⟨rfl, ELeft.same H.out⟩
theorem eClose (X : Nat) (d p : Int) (w : World) (S : Ev) (hok : EOk S) (h : EvAt w X S) : Calls Try.prog 22 #[.pointer (some ⟨X, 0, none⟩), .int .i64 d, .int .i64 p] w fun e w' => e = .returned (.int .i64 (closeE S d p).1) ∧ ELeft X w ((closeE S d p).2) w' := by
  have hm := h.made
  have H := hid h
  by_cases hdp : edOk d = true ∧ epOk p = true
  · obtain ⟨d, rfl, hd'⟩ := edOk_nat hdp.1
    obtain ⟨n, rfl, hn'⟩ := epOk_nat hdp.2
    have HO := hid (eAt_yes X d n w hd' hn' hm)
    have c0 := h.k hd' hn'
    have hP := hok d n hd' hn'
    by_cases h0 : (S.pt d n).k = 0
    · rw [h0] at c0
      have HE := hid (show closeE S d n = (70, S) by simp [closeE, hdp, h0])
      clear h hdp hok hP h0
      go_enter Try.func22, Try.ntmps22
      go_wp2_with (go_at_call 38; refine HO.out.mono ?_; rintro e w1 ⟨rfl, g1⟩; have HG1 := hid g1; have H1 := hid (H.out.grow0 g1); have c0' := g1.cell c0 (by simp); clear g1 c0)
      go_ret
      rw [HE.out]
      exact ⟨rfl, ELeft.of H.out HG1.out⟩
    · by_cases h2 : (S.pt d n).k = 2
      · obtain ⟨r, p, hr, hp, e1, e2, e3, e4, e5, e6⟩ := hP.bound h2
        have HE := hid (show closeE S d n = (0, (S.upd r p { S.pt r p with k := 1, p := 0 }).upd d n Prt.zero) by simp [closeE, hdp, h2, loosen, e1, e2])
        have c1 := h.r hd' hn'; have c2 := h.p hd' hn'
        rw [h2] at c0; rw [e1] at c1; rw [e2] at c2
        have hr0 : (0 : Int) ≤ r := by omega
        have hr8 : (r : Int) < 8 := by omega
        have hp0 : (0 : Int) ≤ p := by omega
        have hp8 : (p : Int) < 32 := by omega
        clear h hdp hok hP h0 h2 e1 e2 e3 e4 e5 e6
        go_enter Try.func22, Try.ntmps22
        go_wp2_with (go_at_call 38; refine HO.out.mono ?_; rintro e w1 ⟨rfl, g1⟩; have HG1 := hid g1; have H1 := hid (H.out.grow0 g1); have c0' := g1.cell c0 (by simp); have c1' := g1.cell c1 (by simp); have c2' := g1.cell c2 (by simp); clear g1 c0 c1 c2)
        have z0 := H1.out.k hr hp; have z2 := H1.out.p hr hp
        have fz := fun k => H1.out.fz k
        have hz := (H1.out.setK hr hp 1).setP hr hp 0
        simp only [Ev.upd_upd, Ev.upd_same] at hz
        have HZ := hid hz
        have HGZ := hid (((HG1.out.any (some X)).trans (grownBy_setCell w1 X (1 + r * 193 + p * 6) none (.int .i64 1))).trans (grownBy_setCell _ X (1 + r * 193 + p * 6 + 2) none (.int .i64 0)))
        obtain ⟨W, hW⟩ : ∃ W, (w1.setCell ⟨X, 1 + r * 193 + p * 6, none⟩ (.int .i64 1)).setCell ⟨X, 1 + r * 193 + p * 6 + 2, none⟩ (.int .i64 0) = W := ⟨_, rfl⟩
        rw [hW] at hz HZ HGZ
        have y0 := hz.k hd' hn'; have y1 := hz.r hd' hn'; have y2 := hz.p hd' hn'; have y3 := hz.v hd' hn'; have y4 := hz.pe hd' hn'; have y5 := hz.ma hd' hn'
        have yz := fun k => hz.fz k
        have ha := hz.setAll hd' hn' Prt.zero
        unfold set6 at ha
        have HA := hid ha
        have hga := HGZ.out.trans (set6_grown W X (1 + d * 193 + n * 6) Prt.zero)
        unfold set6 at hga
        have HGA := hid hga
        clear hz ha hga
        go_region
        all_goals
          go_wp2
          go_ret
          rw [HE.out]
          exact ⟨rfl, HA.out.grow0 (grownBy_drew _ none), HGA.out.trans (grownBy_drew _ _)⟩
      · have h13 : (S.pt d n).k = 1 ∨ (S.pt d n).k = 3 := by have := hP.kind; omega
        have HE := hid (show closeE S d n = (0, S.upd d n Prt.zero) by simp [closeE, hdp, h0, loosen, h2])
        rcases h13 with h13 | h13
        all_goals
          rw [h13] at c0
          clear h hdp hok hP h0 h2 h13
          go_enter Try.func22, Try.ntmps22
          go_wp2_with (go_at_call 38; refine HO.out.mono ?_; rintro e w1 ⟨rfl, g1⟩; have HG1 := hid g1; have H1 := hid (H.out.grow0 g1); have y0 := g1.cell c0 (by simp); have y1 := H1.out.r hd' hn'; have y2 := H1.out.p hd' hn'; have y3 := H1.out.v hd' hn'; have y4 := H1.out.pe hd' hn'; have y5 := H1.out.ma hd' hn'; have yz := fun k => H1.out.fz k; have ha := ELeft.mk' (H1.out.setAll hd' hn' Prt.zero) ((grown_any g1 (some X)).trans (set6_grown w1 X (1 + d * 193 + n * 6) Prt.zero)); unfold set6 at ha; have HA := hid ha; clear g1 c0 ha)
          go_ret
          rw [HE.out]
          exact ⟨rfl, HA.out⟩
  · have HE := hid (show closeE S d p = (1, S) by unfold closeE; rw [if_neg hdp])
    have HO := hid (eAt_no X d p w hdp hm)
    clear h hdp
    go_enter Try.func22, Try.ntmps22
    go_wp2_with (go_at_call 38; refine HO.out.mono ?_; rintro e w' ⟨rfl, rfl⟩)
    go_ret
    rw [HE.out]
    exact ⟨rfl, ELeft.same H.out⟩
theorem eSend (X : Nat) (d p : Int) (w : World) (S : Ev) (hok : EOk S) (h : EvAt w X S) : Calls Try.prog 16 #[.pointer (some ⟨X, 0, none⟩), .int .i64 d, .int .i64 p] w fun e w' => e = .returned (.int .i64 (sendE S d p).1) ∧ ELeft X w ((sendE S d p).2) w' := by
  have hm := h.made
  have H := hid h
  by_cases hdp : edOk d = true ∧ epOk p = true
  · obtain ⟨d, rfl, hd'⟩ := edOk_nat hdp.1
    obtain ⟨n, rfl, hn'⟩ := epOk_nat hdp.2
    have HO := hid (eAt_yes X d n w hd' hn' hm)
    have c0 := h.k hd' hn'
    have hP := hok d n hd' hn'
    by_cases h2 : (S.pt d n).k = 2
    · obtain ⟨r, p, hr, hp, e1, e2, e3, e4, e5, e6⟩ := hP.bound h2
      have HE := hid (show sendE S d n = (0, pendE S r p) by simp [sendE, hdp, h2, e1, e2])
      have c1 := h.r hd' hn'; have c2 := h.p hd' hn'
      rw [h2] at c0; rw [e1] at c1; rw [e2] at c2
      have hr0 : (0 : Int) ≤ r := by omega
      have hr8 : (r : Int) < 8 := by omega
      have HT := hid (fun W (hW : EvAt W X S) => ePend X r p W S hr hp hW)
      clear h hdp hok hP h2 e1 e2 e3 e4 e5 e6
      go_enter Try.func16, Try.ntmps16
      go_wp2_with (go_at_call 38; refine HO.out.mono ?_; rintro e w1 ⟨rfl, g1⟩; have HG1 := hid g1; have H1 := hid (H.out.grow0 g1); have c0' := g1.cell c0 (by simp); have c1' := g1.cell c1 (by simp); have c2' := g1.cell c2 (by simp); clear g1 c0 c1 c2)
      have HD := hid (H1.out.grow0 (grownBy_drew w1 none))
      go_region_with (go_at_call 39; refine (HT.out _ HD.out).mono ?_; rintro e w2 ⟨rfl, h2⟩; have H2 := hid h2; clear h2)
      all_goals
        go_wp2
        go_ret
        rw [HE.out]
        exact ⟨rfl, H2.out.1, ((HG1.out.any _).trans (grownBy_drew _ _)).trans H2.out.2⟩
    · have hb : ((S.pt d n).k != 2) = true := by simp [h2]
      have HE := hid (show sendE S d n = (70, S) by simp [sendE, hdp, h2])
      clear h hdp hok hP h2
      go_enter Try.func16, Try.ntmps16
      go_wp2_with (go_at_call 38; refine HO.out.mono ?_; rintro e w1 ⟨rfl, g1⟩; have HG1 := hid g1; have H1 := hid (H.out.grow0 g1); have c0' := g1.cell c0 (by simp); clear g1 c0)
      go_ret
      rw [HE.out]
      exact ⟨rfl, ELeft.of H.out HG1.out⟩
  · have HE := hid (show sendE S d p = (1, S) by unfold sendE; rw [if_neg hdp])
    have HO := hid (eAt_no X d p w hdp hm)
    clear h hdp
    go_enter Try.func16, Try.ntmps16
    go_wp2_with (go_at_call 38; refine HO.out.mono ?_; rintro e w' ⟨rfl, rfl⟩)
    go_ret
    rw [HE.out]
    exact ⟨rfl, ELeft.same H.out⟩
theorem eMask (X : Nat) (d p : Int) (on : Bool) (w : World) (S : Ev) (h : EvAt w X S) : Calls Try.prog 24 #[.pointer (some ⟨X, 0, none⟩), .int .i64 d, .int .i64 p, .bool on] w fun e w' => e = .returned (.int .i64 (maskE S d p on).1) ∧ ELeft X w ((maskE S d p on).2) w' := by
  have hm := h.made
  have H := hid h
  by_cases hdp : edOk d = true ∧ epOk p = true
  · obtain ⟨d, rfl, hd'⟩ := edOk_nat hdp.1
    obtain ⟨n, rfl, hn'⟩ := epOk_nat hdp.2
    by_cases h0 : (S.pt d n).k = 0
    · have HO := hid (eUsed_free X d n w S hd' hn' h h0)
      have HE := hid (show maskE S d n on = (70, S) by simp [maskE, hdp, h0])
      clear h hdp h0
      go_enter Try.func24, Try.ntmps24
      go_wp2_with (go_at_call 45; refine HO.out.mono ?_; rintro e w1 ⟨rfl, g1⟩; have HG1 := hid g1; have H1 := hid (H.out.grow0 g1); clear g1 )
      go_ret
      rw [HE.out]
      exact ⟨rfl, ELeft.of H.out HG1.out⟩
    · have HO := hid (eUsed_yes X d n w S hd' hn' h h0)
      have hE : maskE S d n on = (0, if ((S.pt d n).ma && !on && (S.pt d n).pe) = true then (S.upd d n { S.pt d n with ma := on }).setUp d true else S.upd d n { S.pt d n with ma := on }) := by simp [maskE, hdp, h0]
      have c4 := h.pe hd' hn'; have c5 := h.ma hd' hn'; have cu := h.up hd'
      have hS1 := fun W (hW : EvAt W X S) => hW.setMa hd' hn' on
      have hS2 := fun W (hW : EvAt W X S) => (hW.setUp hd' true).setMa hd' hn' on
      have hcm : (S.setUp d true).upd d n { (S.setUp d true).pt d n with ma := on } = (S.upd d n { S.pt d n with ma := on }).setUp d true := rfl
      simp only [hcm] at hS2
      have HS1 := hid hS1; have HS2 := hid hS2
      clear h hdp h0 hS1 hS2 hcm
      cases hma : (S.pt d n).ma <;> cases on <;> cases hpe : (S.pt d n).pe <;> rw [hma, hpe] at hE <;> rw [hma] at c5 <;> rw [hpe] at c4 <;> simp only [Bool.not_true, Bool.not_false, Bool.and_self, Bool.and_true, Bool.and_false, Bool.true_and, Bool.false_and, if_true, Bool.false_eq_true, if_false] at hE
      all_goals
        have HE := hid hE
        clear hE hma hpe
        go_enter Try.func24, Try.ntmps24
        go_wp2_with (go_at_call 45; refine HO.out.mono ?_; rintro e w1 ⟨rfl, g1⟩; have HG1 := hid g1; have H1 := hid (H.out.grow0 g1); have y4 := g1.cell c4 (by simp); have y5 := g1.cell c5 (by simp); have yu := g1.cell cu (by simp); have yz := fun k => H1.out.fz k; clear g1 c4 c5 cu)
        go_ret
        rw [HE.out]
        first
          | exact ⟨rfl, HS1.out _ H1.out, (HG1.out.any _).trans (grownBy_setCell _ _ _ none _)⟩
          | exact ⟨rfl, HS2.out _ H1.out, ((HG1.out.any _).trans (grownBy_setCell _ _ _ none _)).trans (grownBy_setCell _ _ _ none _)⟩
  · have HE := hid (show maskE S d p on = (1, S) by unfold maskE; rw [if_neg hdp])
    have HO := hid (eUsed_no X d p w hdp hm)
    clear h hdp
    go_enter Try.func24, Try.ntmps24
    go_wp2_with (go_at_call 45; refine HO.out.mono ?_; rintro e w' ⟨rfl, rfl⟩)
    go_ret
    rw [HE.out]
    exact ⟨rfl, ELeft.same H.out⟩
theorem eClear (X : Nat) (d p : Int) (w : World) (S : Ev) (h : EvAt w X S) : Calls Try.prog 25 #[.pointer (some ⟨X, 0, none⟩), .int .i64 d, .int .i64 p] w fun e w' => e = .returned (.int .i64 (clearE S d p).1) ∧ ELeft X w ((clearE S d p).2) w' := by
  have hm := h.made
  have H := hid h
  by_cases hdp : edOk d = true ∧ epOk p = true
  · obtain ⟨d, rfl, hd'⟩ := edOk_nat hdp.1
    obtain ⟨n, rfl, hn'⟩ := epOk_nat hdp.2
    by_cases h0 : (S.pt d n).k = 0
    · have HO := hid (eUsed_free X d n w S hd' hn' h h0)
      have HE := hid (show clearE S d n = (70, S) by simp [clearE, hdp, h0])
      clear h hdp h0
      go_enter Try.func25, Try.ntmps25
      go_wp2_with (go_at_call 45; refine HO.out.mono ?_; rintro e w1 ⟨rfl, g1⟩; have HG1 := hid g1; have H1 := hid (H.out.grow0 g1); clear g1 )
      go_ret
      rw [HE.out]
      exact ⟨rfl, ELeft.of H.out HG1.out⟩
    · have HO := hid (eUsed_yes X d n w S hd' hn' h h0)
      have HE := hid (show clearE S d n = (0, S.upd d n { S.pt d n with pe := false }) by simp [clearE, hdp, h0])
      have c4 := h.pe hd' hn'
      have HS1 := hid (fun W (hW : EvAt W X S) => hW.setPe hd' hn' false)
      clear h hdp h0
      go_enter Try.func25, Try.ntmps25
      go_wp2_with (go_at_call 45; refine HO.out.mono ?_; rintro e w1 ⟨rfl, g1⟩; have HG1 := hid g1; have H1 := hid (H.out.grow0 g1); have y4 := g1.cell c4 (by simp); have yz := fun k => H1.out.fz k; clear g1 c4)
      go_ret
      rw [HE.out]
      exact ⟨rfl, HS1.out _ H1.out, (HG1.out.any _).trans (grownBy_setCell _ _ _ none _)⟩
  · have HE := hid (show clearE S d p = (1, S) by unfold clearE; rw [if_neg hdp])
    have HO := hid (eUsed_no X d p w hdp hm)
    clear h hdp
    go_enter Try.func25, Try.ntmps25
    go_wp2_with (go_at_call 45; refine HO.out.mono ?_; rintro e w' ⟨rfl, rfl⟩)
    go_ret
    rw [HE.out]
    exact ⟨rfl, ELeft.same H.out⟩
end Go.Proofs.Ytjgikapoohibnaa
