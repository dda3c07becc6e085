/-
  Package image: Need.
-/
import Derived.Test.YtpjlhiagifoogaaGreatImT
set_option linter.unusedSimpArgs false
set_option linter.unusedVariables false
namespace Go.Proofs.YtpjlhiagifoogaaGreat.Imx
open Go.RowKit Gen CM
set_option maxHeartbeats 1000000

theorem iNeed_none (p : Option Addr) (x y : Int) (w : World) (h : NoI w p) : Calls Tryz.prog 131 #[.pointer p, .int .i64 x, .int .i64 y] w fun e w' => e = .returned (.tuple #[.int .i64 0, .int .i64 7]) ∧ w.grownBy w' none := by
  have HP := hid (fun (w' : World) (hg : w.grownBy w' none) => imade_no p w' (by
    rcases h with rfl | ⟨b, rfl, h⟩
    · exact .inl rfl
    · exact .inr ⟨b, rfl, hg.cell h (by simp)⟩))
  clear h
  go_enter Tryz.func131, Tryz.ntmps131
  go_wp2_with (go_at_call 109; refine (HP.out _ (((World.grownBy_alloc _ _ none).trans (World.grownBy_alloc _ _ none)).trans (World.grownBy_alloc _ _ none))).mono ?_; rintro e w' ⟨rfl, rfl⟩)
  go_ret2
  exact ⟨rfl, ((World.grownBy_alloc _ _ none).trans (World.grownBy_alloc _ _ none)).trans (World.grownBy_alloc _ _ none)⟩
def NeedP (w : World) (r : Int × Int) (e : Ending) (w' : World) : Prop := e = .returned (.tuple #[.int .i64 r.1, .int .i64 r.2]) ∧ w.grownBy w' none
section
variable {w : World} {b g m : Nat} {I : Im}
theorem iSectorsW (b g n : Nat) (c0 : w.cell? ⟨b, 0, none⟩ = some (.slice (some ⟨g, 0, none⟩) n n)) (m : Nat) (c1 : w.cell? ⟨b, 1, none⟩ = some (.map (some m))) : Calls Tryz.prog 35 #[.pointer (some ⟨b, 0, none⟩)] w fun e w' => e = .returned (.int .i64 n) ∧ w' = w := by
  go_enter Tryz.func35, Tryz.ntmps35
  go_wp2_with (go_at_call 109; refine (imade_yes _ _ _ c1).mono ?_; rintro e w' ⟨rfl, rfl⟩)
  go_ret
  exact ⟨rfl, rfl⟩
set_option maxRecDepth 100000 in
theorem iNeed (h : PI w b g m I) (hok : I.ok) (x y : Int) (hx : I64 x) (hy : I64 y) : Calls Tryz.prog 131 #[.pointer (some ⟨b, 0, none⟩), .int .i64 x, .int .i64 y] w (NeedP w (I.needE x y)) := by
  have hx1 := bounds_i64 hx
  have hy1 := bounds_i64 hy
  have hn := hok.n256
  obtain ⟨W, hW, hg, s0, s1, s2⟩ : ∃ W, ((w.alloc (.cells #[.pointer (some ⟨b, 0, none⟩)] 45)).alloc (.cells #[.int .i64 x] 3)).alloc (.cells #[.int .i64 y] 3) = W ∧ w.grownBy W none ∧
      W.cell? ⟨w.heap.size, 0, none⟩ = some (.pointer (some ⟨b, 0, none⟩)) ∧ W.cell? ⟨w.heap.size + 1, 0, none⟩ = some (.int .i64 x) ∧ W.cell? ⟨w.heap.size + 1 + 1, 0, none⟩ = some (.int .i64 y) := by
    refine ⟨_, rfl, ((World.grownBy_alloc w _ none).trans (World.grownBy_alloc _ _ none)).trans (World.grownBy_alloc _ _ none), ?_, ?_, ?_⟩ <;> simp [go_sem]
  have hH := h.grown hg
  have c0 := hH.c0
  have c1 := hH.c1
  have HG := hid hg
  have HH := hid hH
  have HOK := hid hok
  clear h hok hx hy hg hH
  unfold NeedP Im.needE
  by_cases h1 : y < 0
  · have e : I.fit x y = false := by unfold Im.fit; simp [show ¬ 0 ≤ y by omega]
    rw [e]
    clear e
    simp only [Bool.false_eq_true, if_false]
    have d1 : decide (y < 0) = true := by simpa using h1
    go_enter Tryz.func131, Tryz.ntmps131
    go_wp2_with (go_at_call 109; refine (imade_yes _ m _ c1).mono ?_; rintro e w' ⟨rfl, rfl⟩)
    clear hW
    go_quiet ((go_at_call 35; exact Calls.quiet_of_same (iSectorsW b g I.n c0 m c1)))
    go_wp2
    go_ret2
    exact ⟨rfl, HG.out.trans (grown_drewN W _)⟩
  by_cases h2 : x < 0
  · have e : I.fit x y = false := by unfold Im.fit; simp [show ¬ 0 ≤ x by omega]
    rw [e]
    clear e
    simp only [Bool.false_eq_true, if_false]
    have d1 : decide (y < 0) = false := by simpa using h1
    have d2 : decide (x < 0) = true := by simpa using h2
    go_enter Tryz.func131, Tryz.ntmps131
    go_wp2_with (go_at_call 109; refine (imade_yes _ m _ c1).mono ?_; rintro e w' ⟨rfl, rfl⟩)
    clear hW
    go_quiet ((go_at_call 35; exact Calls.quiet_of_same (iSectorsW b g I.n c0 m c1)))
    go_wp2
    go_ret2
    exact ⟨rfl, HG.out.trans (grown_drewN W _)⟩
  have hw := IntWalk.i64_in (n := (I.n : Int) - x) (by omega)
  by_cases h3 : (I.n : Int) - x < y
  · have e : I.fit x y = false := by unfold Im.fit; simp [show ¬ y ≤ I.n - x by omega]
    rw [e]
    clear e
    simp only [Bool.false_eq_true, if_false]
    have d1 : decide (y < 0) = false := by simpa using h1
    have d2 : decide (x < 0) = false := by simpa using h2
    go_enter Tryz.func131, Tryz.ntmps131
    go_wp2_with (go_at_call 109; refine (imade_yes _ m _ c1).mono ?_; rintro e w' ⟨rfl, rfl⟩)
    clear hW
    go_quiet ((go_at_call 35; exact Calls.quiet_of_same (iSectorsW b g I.n c0 m c1)))
    go_wp2
    go_ret2
    exact ⟨rfl, HG.out.trans (grown_drewN W _)⟩
  · have e : I.fit x y = true := by unfold Im.fit; simp; omega
    rw [e]
    clear e
    simp only [if_true]
    have d1 : decide (y < 0) = false := by simpa using h1
    have d2 : decide (x < 0) = false := by simpa using h2
    have h4 : y ≤ (I.n : Int) - x := by omega
    have HP := hid (fun (w' : World) (hg : W.grownBy w' none) => ipickN (HH.out.grown hg) HOK.out (w.heap.size + 1) (w.heap.size + 1 + 1) w.heap.size x y (by omega) (by omega) (by omega) (hg.cell s1 (by simp)) (hg.cell s2 (by simp)) (hg.cell s0 (by simp)))
    clear h1 h2 h3
    go_enter Tryz.func131, Tryz.ntmps131
    go_wp2_with (go_at_call 109; refine (imade_yes _ m _ c1).mono ?_; rintro e w' ⟨rfl, rfl⟩)
    clear hW
    go_quiet ((go_at_call 35; exact Calls.quiet_of_same (iSectorsW b g I.n c0 m c1)))
    go_wp2_with (go_at_call 209; refine (HP.out _ (grown_drewN W _)).mono ?_; rintro e w2 ⟨v, rfl, hv⟩; obtain ⟨pv, cv, hvs⟩ := ownsRow_slice hv.1; subst hvs; have HV := hid hv; clear hv)
    go_ret2
    exact ⟨rfl, (HG.out.trans (grown_drewN W _)).trans HV.out.2⟩
end
end Go.Proofs.YtpjlhiagifoogaaGreat.Imx
