/-
  The reference's image: Write, Trim.
-/
import Derived.Test.YtcogchalfdeagaaImRA
set_option linter.unusedSimpArgs false
set_option linter.unusedVariables false
namespace Go.Proofs.Ytcogchalfdeagaa
open Go.RowKit Gen CM
set_option maxHeartbeats 1000000
set_option maxRecDepth 100000

abbrev CY (y r : Nat) (w w' : World) : Prop := Chg (fun k => k = y ∨ k = r) w w'
section
variable {w w' : World} {y r : Nat} {q lp : Option Addr} {cq cl : Nat} {I : Im}
theorem RI.row (h : RI w y r q lp cq cl I) (hn : I.n ≠ 0) : ∃ X, Row w r 22 I.n X := by obtain ⟨lv, hr, _⟩ := h.rows hn; exact ⟨lv, hr⟩
theorem RI.yr (h : RI w y r q lp cq cl I) (hn : I.n ≠ 0) : y ≠ r := by obtain ⟨X, hr⟩ := h.row hn; exact h.top.type_ne hr (by decide)
theorem RI.far (h : RI w y r q lp cq cl I) (hn : I.n ≠ 0) : ∀ k cur, w.heap[k]? = some (.cells cur 5 (0, 0)) → ¬ (k = y ∨ k = r) := by
  rintro k cur hk (rfl | rfl)
  · obtain ⟨c, hc, _⟩ := h.top
    rw [hc] at hk
    simp at hk
  · obtain ⟨X, c, hc, _⟩ := h.row hn
    rw [hc] at hk
    simp at hk
theorem RI.frz (h : RI w y r q lp cq cl I) (hn : I.n ≠ 0) (k : Nat) : w.frozen? ⟨r, k, none⟩ = false := by obtain ⟨X, hr⟩ := h.row hn; exact hr.frozen k
/-- a row stored into the list: 'w' then new blocks, then the store -/
theorem RI.put (h : RI w y r q lp cq cl I) {w2 : World} (hg : w.grownBy w2 none) {k : Nat} (hk : k < I.n) (o : Option (List UInt8)) (v : Value)
    (hv : (o = none ∧ v = .slice none 0 0) ∨ ∃ l p c, o = some l ∧ v = .slice p 64 c ∧ l.length = 64 ∧ BU w2 p l) :
    RI (w2.setCell ⟨r, k, none⟩ v) y r q lp cq cl { I with own := fun i => if i = k then o else I.own i } ∧ CY y r w (w2.setCell ⟨r, k, none⟩ v) := by
  have hn : I.n ≠ 0 := by omega
  have h2 := h.grown hg
  have hc : Chg (fun j => j = y ∨ j = r) w2 (w2.setCell ⟨r, k, none⟩ v) := Chg.one (grownBy_setCell w2 r k none v) (.inr rfl)
  have hfar := h2.far hn
  refine ⟨⟨(h2.top.setOther _ (h2.yr hn) v).congr fun j _ => by match j with | 0 => rfl | 1 => rfl | j + 2 => rfl, h2.b.chg hc hfar, h2.bc, h2.bn, h2.lp, fun _ => ?_⟩, (Chg.of0 (S := fun j => j = y ∨ j = r) hg).trans hc fun _ e => .inl e⟩
  obtain ⟨lv, hr, hl⟩ := h2.rows hn
  refine ⟨fun i => if i = k then v else lv i, hr.set (by simp) (fun j _ hj => by simp [hj]), fun i hi => ?_⟩
  by_cases e : i = k
  · subst e
    simp only [if_true]
    rcases hv with ⟨rfl, rfl⟩ | ⟨l, p, c, rfl, rfl, hl', hb⟩
    · exact .inl ⟨rfl, rfl⟩
    · exact .inr ⟨l, p, c, rfl, rfl, hl', hb.chg hc hfar⟩
  · have e' : ¬ (i : Int) = k := by omega
    simp only [e, e', if_false]
    rcases hl i hi with h3 | ⟨l, p, c, e1, e2, e3, h3⟩
    · exact .inl h3
    · exact .inr ⟨l, p, c, e1, e2, e3, h3.chg hc hfar⟩
/-- another number of free blocks -/
theorem RI.free (h : RI w y r q lp cq cl I) (hn : I.n ≠ 0) (u : Nat) (F : Int) (hF : F = (I.most : Int) - u) : RI (w.setCell ⟨y, 2, none⟩ (.int .i64 F)) y r q lp cq cl { I with used := u } ∧ CY y r w (w.setCell ⟨y, 2, none⟩ (.int .i64 F)) := by
  have hc : Chg (fun j => j = y ∨ j = r) w (w.setCell ⟨y, 2, none⟩ (.int .i64 F)) := Chg.one (grownBy_setCell w y 2 none _) (.inl rfl)
  have hfar := h.far hn
  have hyr := h.yr hn
  refine ⟨⟨h.top.set (by simp [rtop, hF]) (fun j hj hj2 => by match j, hj with | 0, _ => rfl | 1, _ => rfl | 2, _ => exact absurd rfl hj2), h.b.chg hc hfar, h.bc, h.bn, h.lp, fun _ => ?_⟩, hc⟩
  have hc2 : Chg (fun j => j = y) w (w.setCell ⟨y, 2, none⟩ (.int .i64 F)) := Chg.one (grownBy_setCell w y 2 none _) rfl
  exact (h.rows hn).chg hc2 (fun e => hyr e.symm) fun k cur hk e => hfar k cur hk (.inl e)
theorem own_cases (h : RI w y r q lp cq cl I) {s : Int} (hs : I.is s = true) : ∃ k : Nat, s = k ∧ k < I.n ∧ lp = some ⟨r, 0, none⟩ ∧ I.n ≠ 0 ∧ ((I.has s = false ∧ w.cell? ⟨r, k, none⟩ = some (.slice none 0 0)) ∨ (I.has s = true ∧ ∃ p c, w.cell? ⟨r, k, none⟩ = some (.slice p 64 c))) := by
  obtain ⟨e, k, rfl, hk, h'⟩ := h.at hs
  refine ⟨k, rfl, hk, e, by omega, ?_⟩
  rcases h' with ⟨e1, hc⟩ | ⟨l, p, c, e1, hc, _⟩
  · exact .inl ⟨by unfold Im.has; rw [e1]; rfl, hc⟩
  · exact .inr ⟨by unfold Im.has; rw [e1]; rfl, p, c, hc⟩
/-- Trim -/
theorem rTrim (h : RI w y r q lp cq cl I) (hok : I.ok) (s : Int) : Calls Try.prog 30 #[.pointer (some ⟨y, 0, none⟩), .int .i64 s] w fun e w' => e = .returned (.int .i64 (I.trimE s).2) ∧ RI w' y r q lp cq cl (I.trimE s).1 ∧ CY y r w w' := by
  have HI := hid (rIs h s)
  have H := hid h
  cases hs : I.is s with
  | false =>
    rw [hs] at HI
    have e : I.trimE s = (I, 1) := by unfold Im.trimE; rw [hs]; rfl
    rw [e]
    clear h hs hok e
    go_enter Try.func30, Try.ntmps30
    go_wp2_with (go_at_call 38; refine HI.out.mono ?_; rintro e w' ⟨rfl, rfl⟩)
    go_ret
    exact ⟨rfl, H.out, Chg.refl _ _⟩
  | true =>
    rw [hs] at HI
    have e : I.trimE s = (I.clr s, 0) := by unfold Im.trimE; rw [if_pos hs]
    rw [e]
    obtain ⟨k, rfl, hk, rfl, hn, h'⟩ := own_cases h hs
    have c1 := h.c1
    have c2 := h.c2
    have hk0 : (0 : Int) ≤ k := by omega
    have hk1 : (k : Int) < I.n := by omega
    have hn256 := hok.n256
    have hm := hok.most256
    have hle := hok.le
    rcases h' with ⟨hh, hc⟩ | ⟨hh, p, c, hc⟩
    · have ec : I.clr k = I := by
        unfold Im.clr
        rw [hh]
        have : (fun i : Int => if i = k then none else I.own i) = I.own := by
          funext i
          by_cases e : i = k
          · subst e; unfold Im.has at hh; simp only [if_true]; cases e2 : I.own k with | none => rfl | some _ => rw [e2] at hh; cases hh
          · simp [e]
        simp [this]
      rw [ec]
      clear h hs hok e ec hh
      go_enter Try.func30, Try.ntmps30
      go_wp2_with (go_at_call 38; refine HI.out.mono ?_; rintro e w' ⟨rfl, rfl⟩)
      go_ret
      exact ⟨rfl, H.out, Chg.refl _ _⟩
    · obtain ⟨hp1, hp2⟩ := h.put (grownBy_refl w none) hk none (.slice none 0 0) (.inl ⟨rfl, rfl⟩)
      have hfz := h.frz hn k
      have hyr := h.yr hn
      have hfy := h.top.frozen 2
      have hu : 1 ≤ I.used := by
        rw [hok.cnt]
        have := cntF_set (s := k) (f := fun i => if i = (k : Int) then none else I.own i) (g := I.own) (fun i hi => by rw [if_neg (by omega)]) (by simp) hh I.n hk
        omega
      have d1 := hp1.c1
      have d2 := hp1.c2
      have hfy2 := hp1.top.frozen 2
      obtain ⟨hq1, hq2⟩ := hp1.free hn (I.used - 1) ((I.most : Int) - I.used + 1) (show (I.most : Int) - I.used + 1 = (I.most : Int) - ((I.used - 1 : Nat) : Int) by omega)
      have HP1 := hid hq1
      have HP2 := hid (hp2.trans hq2 fun _ e => .inl e)
      have ec : I.clr k = { { I with own := fun i => if i = k then none else I.own i } with used := I.used - 1 } := by unfold Im.clr; rw [hh]; simp
      rw [ec]
      simp only at d1 d2
      clear h hs hok e ec hh hp1 hp2 hq1 hq2 H
      go_enter Try.func30, Try.ntmps30
      go_wp2_with (go_at_call 38; refine HI.out.mono ?_; rintro e w' ⟨rfl, rfl⟩)
      go_ret
      exact ⟨rfl, HP1.out, HP2.out⟩
end
end Go.Proofs.Ytcogchalfdeagaa
