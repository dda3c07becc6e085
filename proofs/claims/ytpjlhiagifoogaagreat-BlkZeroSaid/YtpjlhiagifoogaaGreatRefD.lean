/-
  Contracts of package tenementref01: Get, Put.
-/
import Derived.Test.YtpjlhiagifoogaaGreatRefC
set_option linter.unusedSimpArgs false
set_option linter.unusedVariables false
namespace Go.Proofs.YtpjlhiagifoogaaGreat
open Go.RowKit
set_option maxHeartbeats 400000

theorem box4 (w : World) (a b c d : Value) : ∃ W, w.alloc (.cells #[a, b, c, d] 174) = W ∧ W.heap.size = w.heap.size + 1 ∧ W.cell? ⟨w.heap.size, 0, none⟩ = some a ∧ W.cell? ⟨w.heap.size, 1, none⟩ = some b ∧ W.cell? ⟨w.heap.size, 2, none⟩ = some c ∧ W.cell? ⟨w.heap.size, 3, none⟩ = some d := by
  have h := heap_alloc_new w (.cells #[a, b, c, d] 174)
  exact ⟨_, rfl, by simp, cell_of_row _ _ 0 _ _ _ h, cell_of_row _ _ 1 _ _ _ h, cell_of_row _ _ 2 _ _ _ h, cell_of_row _ _ 3 _ _ _ h⟩
theorem RM.nine {w : World} {b : Nat} {M : Mach} {L : Lay} (h : RM w b M L) {j : Nat} (hj : j < L.n) : w.cell? ⟨b, 0, none⟩ = some (.slice (some ⟨L.fF, 0, none⟩) L.n L.cF) ∧
    w.cell? ⟨L.fF, j * 4, none⟩ = some (.int .i64 (M.fr j).owner) ∧ w.cell? ⟨L.fF, j * 4 + 1, none⟩ = some (.int .i64 (M.fr j).ty) ∧ w.cell? ⟨L.fF, j * 4 + 2, none⟩ = some (.int .i64 (M.fr j).cnt) ∧ w.cell? ⟨L.fF, j * 4 + 3, none⟩ = some (.int .i64 (M.fr j).tot) ∧
    w.frozen? ⟨L.fF, j * 4, none⟩ = false ∧ w.frozen? ⟨L.fF, j * 4 + 1, none⟩ = false ∧ w.frozen? ⟨L.fF, j * 4 + 2, none⟩ = false ∧ w.frozen? ⟨L.fF, j * 4 + 3, none⟩ = false :=
  ⟨h.slF, h.owner hj, h.ty hj, h.cnt hj, h.tot hj, h.fr.frozen _, h.fr.frozen _, h.fr.frozen _, h.fr.frozen _⟩

theorem RM.setTy {w : World} {b : Nat} {M : Mach} {L : Lay} (h : RM w b M L) {i : Nat} (hi : i < L.n) (x : Int) : RM (w.setCell ⟨L.fF, i * 4 + 1, none⟩ (.int .i64 x)) b (M.upd i { M.fr i with ty := x }) L :=
  h.setHd (r := 1) hi (by omega) rfl (fun q _ hq => by match q, hq with | 0, _ => rfl | 1, h => exact absurd rfl h | 2, _ => rfl | 3, _ => rfl | k + 4, _ => rfl) rfl
theorem RM.setCnt {w : World} {b : Nat} {M : Mach} {L : Lay} (h : RM w b M L) {i : Nat} (hi : i < L.n) (x : Int) : RM (w.setCell ⟨L.fF, i * 4 + 2, none⟩ (.int .i64 x)) b (M.upd i { M.fr i with cnt := x }) L :=
  h.setHd (r := 2) hi (by omega) rfl (fun q _ hq => by match q, hq with | 0, _ => rfl | 1, _ => rfl | 2, h => exact absurd rfl h | 3, _ => rfl | k + 4, _ => rfl) rfl
theorem RM.setTot {w : World} {b : Nat} {M : Mach} {L : Lay} (h : RM w b M L) {i : Nat} (hi : i < L.n) (x : Int) : RM (w.setCell ⟨L.fF, i * 4 + 3, none⟩ (.int .i64 x)) b (M.upd i { M.fr i with tot := x }) L :=
  h.setHd (r := 3) hi (by omega) rfl (fun q _ hq => by match q, hq with | 0, _ => rfl | 1, _ => rfl | 2, _ => rfl | 3, h => exact absurd rfl h | k + 4, _ => rfl) rfl
/-- a frame's four numbers are laid -/
theorem RM.setAll {w W : World} {b : Nat} {M : Mach} {L : Lay} (h : RM W b M L) (hg : w.grownBy W none) {j : Nat} (hj : j < L.n) (f : Fr) (hf : f.bs = (M.fr j).bs) :
    ∃ L', RM ((((W.setCell ⟨L.fF, j * 4, none⟩ (.int .i64 f.owner)).setCell ⟨L.fF, j * 4 + 1, none⟩ (.int .i64 f.ty)).setCell ⟨L.fF, j * 4 + 2, none⟩ (.int .i64 f.cnt)).setCell ⟨L.fF, j * 4 + 3, none⟩ (.int .i64 f.tot)).drew b (M.upd j f) L' ∧ L'.n = L.n ∧
      Chg (L.foot b) w ((((W.setCell ⟨L.fF, j * 4, none⟩ (.int .i64 f.owner)).setCell ⟨L.fF, j * 4 + 1, none⟩ (.int .i64 f.ty)).setCell ⟨L.fF, j * 4 + 2, none⟩ (.int .i64 f.cnt)).setCell ⟨L.fF, j * 4 + 3, none⟩ (.int .i64 f.tot)).drew ∧ ∀ k, L'.foot b k → L.foot b k ∨ w.heap.size ≤ k := by
  have h1 := h.setOwner hj f.owner
  have h2 := h1.setTy hj f.ty
  have h3 := h2.setCnt hj f.cnt
  have h4 := h3.setTot hj f.tot
  simp only [Mach.upd_upd, Mach.upd_same] at h4
  have e : ({ owner := f.owner, ty := f.ty, cnt := f.cnt, tot := f.tot, bs := (M.fr j).bs } : Fr) = f := by rw [← hf]
  rw [e] at h4
  have st : ∀ k, L.foot b k → L.foot b k ∨ w.heap.size ≤ k := fun _ h => .inl h
  exact ⟨L, h4.grown (grownBy_drew _ none), rfl, (((((Chg.of0 hg).trans (chgF b L _ _ _) st).trans (chgF b L _ _ _) st).trans (chgF b L _ _ _) st).trans (chgF b L _ _ _) st).trans (Chg.of0 (S := L.foot b) (grownBy_drew _ none)) st, st⟩

theorem rGet (b : Nat) (i o k : Int) (w : World) (M : Mach) (L : Lay) (T : Int) (h : RM w b M L) (hok : M.ok T) (hT : T < 9223372036854775807) :
    Calls Tryz.prog 149 #[.pointer (some ⟨b, 0, none⟩), .int .i64 i, .int .i64 o, .int .i64 k] w (RLeft b L w (M.get i o k).1 (M.get i o k).2) := by
  by_cases hi : i < 0 ∨ M.n ≤ i
  · have H := hid (show M.get i o k = (1, M) by simp [Mach.get, Mach.is_no hi])
    go_enter Tryz.func149, Tryz.ntmps149
    go_wp2_with (go_at_call 216; refine (Is_no _ _ _ _ _ h hi).mono ?_; rintro e w' ⟨rfl, rfl⟩)
    go_ret
    rw [H.out]
    exact RLeft.same h
  obtain ⟨j, rfl⟩ := Int.eq_ofNat_of_zero_le (show 0 ≤ i by omega)
  have hjn : (j : Int) < M.n := by omega
  have hj : j < L.n := by have := h.hn; omega
  have his : M.is j = true := Mach.is_yes (by omega) hjn
  obtain ⟨hf, ht⟩ := hok.fr j hjn
  have hc0 := hf.c0; have hct := hf.ct
  have HM := hid h
  have hj' : (j : Int) < L.n := by omega
  have hj0 : (0 : Int) ≤ j := by omega
  clear hi hjn hf
  by_cases hk : k < 0 ∨ 3 < k
  · have H := hid (show M.get j o k = (1, M) by simp [Mach.get, his, hk])
    clear his
    rcases hk with hk | hk
    all_goals
      go_enter Tryz.func149, Tryz.ntmps149
      go_wp2_with (go_at_call 216; refine (Is_yes _ _ _ _ _ HM.out hj).mono ?_; rintro e w' ⟨rfl, rfl⟩)
      go_ret
      rw [H.out]
      exact RLeft.same HM.out
  have hk0 : 0 ≤ k := by omega
  have hk3 : k ≤ 3 := by omega
  have c0 := h.slF
  have d0 := h.owner hj; have d1 := h.ty hj; have d2 := h.cnt hj; have d3 := h.tot hj
  clear h
  by_cases hfree : (M.fr j).owner = -1
  · have H := hid (show M.get j o k = (11, M) by simp [Mach.get, his, hfree, hk])
    rw [hfree] at d0
    clear his hk hfree
    go_enter Tryz.func149, Tryz.ntmps149
    go_wp2_with (go_at_call 216; refine (Is_yes _ _ _ _ _ HM.out hj).mono ?_; rintro e w' ⟨rfl, rfl⟩)
    go_ret
    rw [H.out]
    exact ⟨rfl, L, HM.out.grown (World.grownBy_alloc _ _ none), rfl, Chg.of0 (World.grownBy_alloc _ _ none), fun _ h => .inl h⟩
  have hfb : ((M.fr j).owner == -1) = false := by simp [hfree]
  by_cases ho : (M.fr j).owner = o
  · subst ho
    have hob : ((M.fr j).owner != (M.fr j).owner) = false := by simp
    have H := hid (show M.get j (M.fr j).owner k = M.take j k by simp [Mach.get, his, hfree, hk])
    have f0 := HM.out.fr.frozen (j * 4); have f1 := HM.out.fr.frozen (j * 4 + 1); have f2 := HM.out.fr.frozen (j * 4 + 2); have f3 := HM.out.fr.frozen (j * 4 + 3)
    clear his hk hfree
    by_cases hkz : k = 0
    · subst hkz
      have H := hid (show M.get j (M.fr j).owner 0 = (0, M.upd j { M.fr j with tot := (M.fr j).tot + 1 }) by rw [H.out]; simp [Mach.take, Fr.taken])
      go_enter Tryz.func149, Tryz.ntmps149
      go_wp2_with (go_at_call 216; refine (Is_yes _ _ _ _ _ HM.out hj).mono ?_; rintro e w' ⟨rfl, rfl⟩)
      obtain ⟨W1, hW1, hs1, e0, e1, e2, e3⟩ := box4 w (.int .i64 (M.fr j).owner) (.int .i64 (M.fr j).ty) (.int .i64 (M.fr j).cnt) (.int .i64 ((M.fr j).tot + 1))
      have HM1 := hid (show RM W1 b M L from hW1 ▸ HM.out.grown (World.grownBy_alloc _ _ none))
      have HG1 := hid (show w.grownBy W1 none from hW1 ▸ World.grownBy_alloc _ _ none)
      clear c0 d0 d1 d2 d3 f0 f1 f2 f3
      obtain ⟨c0, d0, d1, d2, d3, f0, f1, f2, f3⟩ := HM1.out.nine hj
      rw [hW1]
      clear hW1
      go_region
      all_goals go_wp2
      all_goals go_ret
      all_goals rw [H.out]
      all_goals exact ⟨rfl, HM1.out.setAll HG1.out hj { M.fr j with tot := (M.fr j).tot + 1 } rfl⟩
    have hkb : (k != 0) = true := by simp [hkz]
    by_cases hcz : (M.fr j).cnt = 0
    · have H := hid (show M.get j (M.fr j).owner k = (0, M.upd j { M.fr j with ty := k, cnt := 1, tot := (M.fr j).tot + 1 }) by rw [H.out]; simp [Mach.take, Fr.taken, hkz, hcz])
      rw [hcz] at d2
      clear hkz hcz
      go_enter Tryz.func149, Tryz.ntmps149
      go_wp2_with (go_at_call 216; refine (Is_yes _ _ _ _ _ HM.out hj).mono ?_; rintro e w' ⟨rfl, rfl⟩)
      obtain ⟨W1, hW1, hs1, e0, e1, e2, e3⟩ := box4 w (.int .i64 (M.fr j).owner) (.int .i64 k) (.int .i64 1) (.int .i64 ((M.fr j).tot + 1))
      have HM1 := hid (show RM W1 b M L from hW1 ▸ HM.out.grown (World.grownBy_alloc _ _ none))
      have HG1 := hid (show w.grownBy W1 none from hW1 ▸ World.grownBy_alloc _ _ none)
      clear c0 d0 d1 d2 d3 f0 f1 f2 f3
      obtain ⟨c0, d0, d1, d2, d3, f0, f1, f2, f3⟩ := HM1.out.nine hj
      rw [hW1]
      clear hW1
      go_region
      all_goals go_wp2
      all_goals go_ret
      all_goals rw [H.out]
      all_goals exact ⟨rfl, HM1.out.setAll HG1.out hj { M.fr j with ty := k, cnt := 1, tot := (M.fr j).tot + 1 } rfl⟩
    have hcb : ((M.fr j).cnt != 0) = true := by simp [hcz]
    by_cases hty : (M.fr j).ty = k
    · have H := hid (show M.get j (M.fr j).owner k = (0, M.upd j { M.fr j with ty := k, cnt := (M.fr j).cnt + 1, tot := (M.fr j).tot + 1 }) by rw [H.out]; simp [Mach.take, Fr.taken, hkz, hty])
      have htb : (k != k) = false := by simp
      rw [hty] at d1
      clear hkz hcz hty
      go_enter Tryz.func149, Tryz.ntmps149
      go_wp2_with (go_at_call 216; refine (Is_yes _ _ _ _ _ HM.out hj).mono ?_; rintro e w' ⟨rfl, rfl⟩)
      obtain ⟨W1, hW1, hs1, e0, e1, e2, e3⟩ := box4 w (.int .i64 (M.fr j).owner) (.int .i64 k) (.int .i64 ((M.fr j).cnt + 1)) (.int .i64 ((M.fr j).tot + 1))
      have HM1 := hid (show RM W1 b M L from hW1 ▸ HM.out.grown (World.grownBy_alloc _ _ none))
      have HG1 := hid (show w.grownBy W1 none from hW1 ▸ World.grownBy_alloc _ _ none)
      clear c0 d0 d1 d2 d3 f0 f1 f2 f3
      obtain ⟨c0, d0, d1, d2, d3, f0, f1, f2, f3⟩ := HM1.out.nine hj
      rw [hW1]
      clear hW1
      go_region
      all_goals go_wp2
      all_goals go_ret
      all_goals rw [H.out]
      all_goals exact ⟨rfl, HM1.out.setAll HG1.out hj { M.fr j with ty := k, cnt := (M.fr j).cnt + 1, tot := (M.fr j).tot + 1 } rfl⟩
    · have H := hid (show M.get j (M.fr j).owner k = (13, M) by rw [H.out]; simp [Mach.take, hkz, hcz, hty])
      have htb : ((M.fr j).ty != k) = true := by simp [hty]
      clear hkz hcz hty
      go_enter Tryz.func149, Tryz.ntmps149
      go_wp2_with (go_at_call 216; refine (Is_yes _ _ _ _ _ HM.out hj).mono ?_; rintro e w' ⟨rfl, rfl⟩)
      go_ret
      rw [H.out]
      exact ⟨rfl, L, HM.out.grown (World.grownBy_alloc _ _ none), rfl, Chg.of0 (World.grownBy_alloc _ _ none), fun _ h => .inl h⟩
  · have hob : ((M.fr j).owner != o) = true := by simp [ho]
    have H := hid (show M.get j o k = (12, M) by simp [Mach.get, his, hfree, hk, ho])
    clear his hk hfree ho
    go_enter Tryz.func149, Tryz.ntmps149
    go_wp2_with (go_at_call 216; refine (Is_yes _ _ _ _ _ HM.out hj).mono ?_; rintro e w' ⟨rfl, rfl⟩)
    go_ret
    rw [H.out]
    exact ⟨rfl, L, HM.out.grown (World.grownBy_alloc _ _ none), rfl, Chg.of0 (World.grownBy_alloc _ _ none), fun _ h => .inl h⟩
end Go.Proofs.YtpjlhiagifoogaaGreat
