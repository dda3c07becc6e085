/-
  Contracts of package tenementref01: Alloc, Get, Put.
-/
import Derived.Test.YtnplkifohocekaaDoorRefB
set_option linter.unusedSimpArgs false
set_option linter.unusedVariables false
namespace Go.Proofs.YtnplkifohocekaaDoor
open Go.RowKit
set_option maxHeartbeats 400000

theorem row_cellN {base : Nat} {W : World} {e : TypeId} {v : Value} {l : List Nat} (h : W.ownsRow base e 1 v l.length (icells l)) {j : Nat} (hl : j < l.length) :
    ∃ g c, v = .slice (some ⟨g, 0, none⟩) l.length c ∧ W.cell? ⟨g, j, none⟩ = some (.int .i64 (l[j] : Nat)) := by
  obtain ⟨n, hn⟩ : ∃ m, l.length = m + 1 := ⟨l.length - 1, by omega⟩
  rw [hn] at h
  obtain ⟨g, cap, rfl⟩ := ownsRow_succ h
  refine ⟨g, cap, by rw [hn], ?_⟩
  rw [h.cellAt j (by omega)]
  simp [icells, hl]

theorem rAlloc (b : Nat) (o : Int) (w : World) (M : Mach) (L : Lay) (h : RM w b M L) (hn : M.n ≤ 256) :
    Calls Tryd.prog 36 #[.pointer (some ⟨b, 0, none⟩), .int .i64 o] w (RLeft2 b L w (M.alloc o).1 (M.alloc o).2.1 (M.alloc o).2.2) := by
  have HM := hid h
  by_cases hbad : o ≠ -2 ∧ (o < 0 ∨ 8 ≤ o)
  · have H := hid (show M.alloc o = (0, 1, M) by unfold Mach.alloc; rw [if_pos hbad])
    obtain ⟨h1, h2⟩ := hbad
    have h1b : (o != -2) = true := by simp [h1]
    clear h
    go_enter Tryd.func36, Tryd.ntmps36
    go_wp2_with (go_at_call 59; refine (rDomain_no _ _ h2).mono ?_; rintro e w' ⟨rfl, rfl⟩)
    go_ret2
    rw [H.out]
    exact ⟨rfl, L, HM.out, rfl, Chg.refl _ _, fun _ h => .inl h⟩
  have hgood : (0 ≤ o ∧ o < 8) ∨ o = -2 := by omega
  cases hl : M.ownedL (-1) with
  | nil =>
    have H := hid (show M.alloc o = (0, 10, M) by unfold Mach.alloc; rw [if_neg hbad, hl])
    clear hbad h
    rcases hgood with ⟨g0, g1⟩ | rfl
    · go_enter Tryd.func36, Tryd.ntmps36
      go_wp2_with (first
        | (go_at_call 59; refine (rDomain_yes _ _ g0 g1).mono ?_; rintro e w' ⟨rfl, rfl⟩)
        | (go_at_call 60; refine (rOwned b (-1) _ M L HM.out hn).mono ?_; rw [hl]; rintro e w' ⟨v, rfl, hnew⟩; obtain ⟨p, c, rfl⟩ := newInts_slice hnew; have HG := hid hnew.2.2; clear hnew))
      go_ret2
      rw [H.out]
      exact ⟨rfl, L, HM.out.grown HG.out, rfl, Chg.of0 HG.out, fun _ h => .inl h⟩
    · go_enter Tryd.func36, Tryd.ntmps36
      go_wp2_with (first
        | (go_at_call 59; refine (rDomain_no _ _ (by omega)).mono ?_; rintro e w' ⟨rfl, rfl⟩)
        | (go_at_call 60; refine (rOwned b (-1) _ M L HM.out hn).mono ?_; rw [hl]; rintro e w' ⟨v, rfl, hnew⟩; obtain ⟨p, c, rfl⟩ := newInts_slice hnew; have HG := hid hnew.2.2; clear hnew))
      go_ret2
      rw [H.out]
      exact ⟨rfl, L, HM.out.grown HG.out, rfl, Chg.of0 HG.out, fun _ h => .inl h⟩
  | cons k r =>
    have H := hid (show M.alloc o = ((k : Int), 0, M.upd k { M.fr k with owner := o }) by unfold Mach.alloc; rw [if_neg hbad, hl])
    have hk : k < L.n := by
      have := (mem_ownedL.1 (show k ∈ M.ownedL (-1) by rw [hl]; simp)).1
      have := h.hn; omega
    have hk' : (k : Int) < L.n := by omega
    have hk0 : (0 : Int) ≤ k := by omega
    have hlen : ((k :: r).length : Int) ≥ 1 := by simp; omega
    clear hbad h
    rcases hgood with ⟨g0, g1⟩ | rfl
    · go_enter Tryd.func36, Tryd.ntmps36
      go_wp2_with (first
        | (go_at_call 59; refine (rDomain_yes _ _ g0 g1).mono ?_; rintro e w' ⟨rfl, rfl⟩)
        | (go_at_call 60; refine (rOwned b (-1) _ M L HM.out hn).mono ?_; rw [hl]; rintro e w' ⟨v, rfl, hnew⟩; obtain ⟨g, c, rfl, hc⟩ := row_cellN hnew.1 (j := 0) (by simp); rw [show (k :: r)[0] = k from rfl] at hc; have hgw := (hnew.1.lt g rfl).1; have hgf : L.fF < w.heap.size := HM.out.fr.lt; have hc2 : (w'.setCell ⟨L.fF, k * 4, none⟩ (.int .i64 o)).cell? ⟨g, 0, none⟩ = some (.int .i64 k) := (grownBy_setCell w' L.fF (k * 4) none (.int .i64 o)).cell hc (by simp; omega); have HG := hid hnew.2.2; have hM2 := HM.out.grown HG.out; have c0 := hM2.slF; have cf := hM2.fr.frozen (k * 4); have c1 := hM2.owner hk; have HM2 := hid hM2; clear hnew hM2))
      go_region
      all_goals go_wp2
      all_goals go_ret2
      all_goals rw [H.out]
      all_goals exact ⟨rfl, L, (HM2.out.setOwner hk _).grown (grownBy_drew _ none), rfl, (Chg.of0 HG.out).trans ((chgF b L _ _ _).trans (Chg.of0 (S := L.foot b) (grownBy_drew _ none)) (fun _ h => .inl h)) (fun _ h => .inl h), fun _ h => .inl h⟩
    · go_enter Tryd.func36, Tryd.ntmps36
      go_wp2_with (first
        | (go_at_call 59; refine (rDomain_no _ _ (by omega)).mono ?_; rintro e w' ⟨rfl, rfl⟩)
        | (go_at_call 60; refine (rOwned b (-1) _ M L HM.out hn).mono ?_; rw [hl]; rintro e w' ⟨v, rfl, hnew⟩; obtain ⟨g, c, rfl, hc⟩ := row_cellN hnew.1 (j := 0) (by simp); rw [show (k :: r)[0] = k from rfl] at hc; have hgw := (hnew.1.lt g rfl).1; have hgf : L.fF < w.heap.size := HM.out.fr.lt; have hc2 : (w'.setCell ⟨L.fF, k * 4, none⟩ (.int .i64 (-2))).cell? ⟨g, 0, none⟩ = some (.int .i64 k) := (grownBy_setCell w' L.fF (k * 4) none (.int .i64 (-2))).cell hc (by simp; omega); have HG := hid hnew.2.2; have hM2 := HM.out.grown HG.out; have c0 := hM2.slF; have cf := hM2.fr.frozen (k * 4); have c1 := hM2.owner hk; have HM2 := hid hM2; clear hnew hM2))
      go_region
      all_goals go_wp2
      all_goals go_ret2
      all_goals rw [H.out]
      all_goals exact ⟨rfl, L, (HM2.out.setOwner hk _).grown (grownBy_drew _ none), rfl, (Chg.of0 HG.out).trans ((chgF b L _ _ _).trans (Chg.of0 (S := L.foot b) (grownBy_drew _ none)) (fun _ h => .inl h)) (fun _ h => .inl h), fun _ h => .inl h⟩
end Go.Proofs.YtnplkifohocekaaDoor
