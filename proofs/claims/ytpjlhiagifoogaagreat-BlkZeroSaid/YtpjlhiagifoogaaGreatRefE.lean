/-
  Contracts of package tenementref01: Put.
-/
import Derived.Test.YtpjlhiagifoogaaGreatRefD
set_option linter.unusedSimpArgs false
set_option linter.unusedVariables false
namespace Go.Proofs.YtpjlhiagifoogaaGreat
open Go.RowKit
set_option maxHeartbeats 400000

theorem rPut (b : Nat) (i k : Int) (w : World) (M : Mach) (L : Lay) (T : Int) (h : RM w b M L) (hok : M.ok T) (hT : T < 9223372036854775807) :
    Calls Tryz.prog 163 #[.pointer (some ⟨b, 0, none⟩), .int .i64 i, .int .i64 k] w (RLeft b L w (M.put i k).1 (M.put i k).2) := by
  by_cases hi : i < 0 ∨ M.n ≤ i
  · have H := hid (show M.put i k = (1, M) by simp [Mach.put, Mach.is_no hi])
    go_enter Tryz.func163, Tryz.ntmps163
    go_wp2_with (go_at_call 216; refine (Is_no _ _ _ _ _ h hi).mono ?_; rintro e w' ⟨rfl, rfl⟩)
    go_ret
    rw [H.out]
    exact RLeft.same h
  obtain ⟨j, rfl⟩ := Int.eq_ofNat_of_zero_le (show 0 ≤ i by omega)
  have hjn : (j : Int) < M.n := by omega
  have hj : j < L.n := by have := h.hn; omega
  have his : M.is j = true := Mach.is_yes (by omega) hjn
  obtain ⟨hf, ht⟩ := hok.fr j hjn
  have hc0 := hf.c0; have hct := hf.ct; have hzz := hf.z
  have HM := hid h
  have hj' : (j : Int) < L.n := by omega
  have hj0 : (0 : Int) ≤ j := by omega
  clear hi hjn hf
  by_cases hk : k < 0 ∨ 3 < k
  · have H := hid (show M.put j k = (1, M) by simp [Mach.put, his, hk])
    clear his hzz
    rcases hk with hk | hk
    all_goals
      go_enter Tryz.func163, Tryz.ntmps163
      go_wp2_with (go_at_call 216; refine (Is_yes _ _ _ _ _ HM.out hj).mono ?_; rintro e w' ⟨rfl, rfl⟩)
      go_ret
      rw [H.out]
      exact RLeft.same HM.out
  have hk0 : 0 ≤ k := by omega
  have hk3 : k ≤ 3 := by omega
  obtain ⟨c0, d0, d1, d2, d3, f0, f1, f2, f3⟩ := h.nine hj
  clear h
  have H := hid (show M.put j k = M.drop j k by simp [Mach.put, his, hk])
  clear his hk
  by_cases hkz : k = 0
  · subst hkz
    by_cases htc : (M.fr j).tot = (M.fr j).cnt
    · have H := hid (show M.put j 0 = (14, M) by rw [H.out]; simp [Mach.drop, htc])
      have hb1 : ((M.fr j).cnt == (M.fr j).cnt) = true := by simp
      rw [htc] at d3
      clear hzz htc
      go_enter Tryz.func163, Tryz.ntmps163
      go_wp2_with (go_at_call 216; refine (Is_yes _ _ _ _ _ HM.out hj).mono ?_; rintro e w' ⟨rfl, rfl⟩)
      go_ret
      rw [H.out]
      exact ⟨rfl, L, HM.out.grown (World.grownBy_alloc _ _ none), rfl, Chg.of0 (World.grownBy_alloc _ _ none), fun _ h => .inl h⟩
    have htb : ((M.fr j).tot == (M.fr j).cnt) = false := by simp [htc]
    have hlt : (M.fr j).cnt < (M.fr j).tot := by omega
    by_cases hcz : (M.fr j).cnt = 0
    · have hty := hzz.1 hcz
      have H := hid (show M.put j 0 = (0, M.upd j { M.fr j with ty := 0, cnt := 0, tot := (M.fr j).tot - 1 }) by rw [H.out]; simp only [Mach.drop, Fr.dropped]; rw [if_neg (by omega)]; simp only [if_true, hty, hcz])
      have htb0 : ((M.fr j).tot == 0) = false := by rw [hcz] at htb; exact htb
      rw [hcz] at d2
      rw [hty] at d1
      clear hzz htc
      go_enter Tryz.func163, Tryz.ntmps163
      go_wp2_with (go_at_call 216; refine (Is_yes _ _ _ _ _ HM.out hj).mono ?_; rintro e w' ⟨rfl, rfl⟩)
      obtain ⟨W1, hW1, hs1, e0, e1, e2, e3⟩ := box4 w (.int .i64 (M.fr j).owner) (.int .i64 0) (.int .i64 0) (.int .i64 ((M.fr j).tot - 1))
      have HM1 := hid (show RM W1 b M L from hW1 ▸ HM.out.grown (World.grownBy_alloc _ _ none))
      have HG1 := hid (show w.grownBy W1 none from hW1 ▸ World.grownBy_alloc _ _ none)
      clear c0 d0 d1 d2 d3 f0 f1 f2 f3
      obtain ⟨c0, d0, d1, d2, d3, f0, f1, f2, f3⟩ := HM1.out.nine hj
      rw [hW1]
      clear hW1
      go_region
      all_goals go_wp2
      all_goals go_ret
      all_goals rw [H.out]
      all_goals exact ⟨rfl, HM1.out.setAll HG1.out hj { M.fr j with ty := 0, cnt := 0, tot := (M.fr j).tot - 1 } rfl⟩
    · have hcb : ((M.fr j).cnt == 0) = false := by simp [hcz]
      have H := hid (show M.put j 0 = (0, M.upd j { M.fr j with tot := (M.fr j).tot - 1 }) by rw [H.out]; simp [Mach.drop, Fr.dropped, htc])
      clear hzz htc hcz
      go_enter Tryz.func163, Tryz.ntmps163
      go_wp2_with (go_at_call 216; refine (Is_yes _ _ _ _ _ HM.out hj).mono ?_; rintro e w' ⟨rfl, rfl⟩)
      obtain ⟨W1, hW1, hs1, e0, e1, e2, e3⟩ := box4 w (.int .i64 (M.fr j).owner) (.int .i64 (M.fr j).ty) (.int .i64 (M.fr j).cnt) (.int .i64 ((M.fr j).tot - 1))
      have HM1 := hid (show RM W1 b M L from hW1 ▸ HM.out.grown (World.grownBy_alloc _ _ none))
      have HG1 := hid (show w.grownBy W1 none from hW1 ▸ World.grownBy_alloc _ _ none)
      clear c0 d0 d1 d2 d3 f0 f1 f2 f3
      obtain ⟨c0, d0, d1, d2, d3, f0, f1, f2, f3⟩ := HM1.out.nine hj
      rw [hW1]
      clear hW1
      go_region
      all_goals go_wp2
      all_goals go_ret
      all_goals rw [H.out]
      all_goals exact ⟨rfl, HM1.out.setAll HG1.out hj { M.fr j with tot := (M.fr j).tot - 1 } rfl⟩
  have hkb : (k == 0) = false := by simp [hkz]
  have hkn : (k != 0) = true := by simp [hkz]
  by_cases hty : (M.fr j).ty = k
  · have hcz : (M.fr j).cnt ≠ 0 := fun e => hkz (hty ▸ hzz.1 e)
    have hcb : ((M.fr j).cnt == 0) = false := by simp [hcz]
    have htb : (k != k) = false := by simp
    by_cases hc1 : (M.fr j).cnt = 1
    · have H := hid (show M.put j k = (0, M.upd j { M.fr j with ty := 0, cnt := 0, tot := (M.fr j).tot - 1 }) by rw [H.out]; simp [Mach.drop, Fr.dropped, hkz, hty, hc1])
      rw [hty] at d1
      rw [hc1] at d2 hct
      clear hzz hcz hkz hty hcb hc1
      go_enter Tryz.func163, Tryz.ntmps163
      go_wp2_with (go_at_call 216; refine (Is_yes _ _ _ _ _ HM.out hj).mono ?_; rintro e w' ⟨rfl, rfl⟩)
      obtain ⟨W1, hW1, hs1, e0, e1, e2, e3⟩ := box4 w (.int .i64 (M.fr j).owner) (.int .i64 0) (.int .i64 0) (.int .i64 ((M.fr j).tot - 1))
      have HM1 := hid (show RM W1 b M L from hW1 ▸ HM.out.grown (World.grownBy_alloc _ _ none))
      have HG1 := hid (show w.grownBy W1 none from hW1 ▸ World.grownBy_alloc _ _ none)
      clear c0 d0 d1 d2 d3 f0 f1 f2 f3
      obtain ⟨c0, d0, d1, d2, d3, f0, f1, f2, f3⟩ := HM1.out.nine hj
      rw [hW1]
      clear hW1
      go_region
      all_goals go_wp2
      all_goals go_ret
      all_goals rw [H.out]
      all_goals exact ⟨rfl, HM1.out.setAll HG1.out hj { M.fr j with ty := 0, cnt := 0, tot := (M.fr j).tot - 1 } rfl⟩
    · have H := hid (show M.put j k = (0, M.upd j { M.fr j with ty := k, cnt := (M.fr j).cnt - 1, tot := (M.fr j).tot - 1 }) by rw [H.out]; simp [Mach.drop, Fr.dropped, hkz, hty, hc1])
      have hc1b : ((M.fr j).cnt - 1 == 0) = false := by simp; omega
      have hcp : 1 ≤ (M.fr j).cnt := by omega
      rw [hty] at d1
      clear hzz hcz hkz hty hc1
      go_enter Tryz.func163, Tryz.ntmps163
      go_wp2_with (go_at_call 216; refine (Is_yes _ _ _ _ _ HM.out hj).mono ?_; rintro e w' ⟨rfl, rfl⟩)
      obtain ⟨W1, hW1, hs1, e0, e1, e2, e3⟩ := box4 w (.int .i64 (M.fr j).owner) (.int .i64 k) (.int .i64 ((M.fr j).cnt - 1)) (.int .i64 ((M.fr j).tot - 1))
      have HM1 := hid (show RM W1 b M L from hW1 ▸ HM.out.grown (World.grownBy_alloc _ _ none))
      have HG1 := hid (show w.grownBy W1 none from hW1 ▸ World.grownBy_alloc _ _ none)
      clear c0 d0 d1 d2 d3 f0 f1 f2 f3
      obtain ⟨c0, d0, d1, d2, d3, f0, f1, f2, f3⟩ := HM1.out.nine hj
      rw [hW1]
      clear hW1
      go_region
      all_goals go_wp2
      all_goals go_ret
      all_goals rw [H.out]
      all_goals exact ⟨rfl, HM1.out.setAll HG1.out hj { M.fr j with ty := k, cnt := (M.fr j).cnt - 1, tot := (M.fr j).tot - 1 } rfl⟩
  · have H := hid (show M.put j k = (14, M) by rw [H.out]; simp [Mach.drop, hkz, hty])
    have htb : ((M.fr j).ty != k) = true := by simp [hty]
    by_cases hcz : (M.fr j).cnt = 0
    · rw [hcz] at d2
      clear hzz hcz hkz hty
      go_enter Tryz.func163, Tryz.ntmps163
      go_wp2_with (go_at_call 216; refine (Is_yes _ _ _ _ _ HM.out hj).mono ?_; rintro e w' ⟨rfl, rfl⟩)
      go_ret
      rw [H.out]
      exact ⟨rfl, L, HM.out.grown (World.grownBy_alloc _ _ none), rfl, Chg.of0 (World.grownBy_alloc _ _ none), fun _ h => .inl h⟩
    · have hcb : ((M.fr j).cnt == 0) = false := by simp [hcz]
      clear hzz hcz hkz hty
      go_enter Tryz.func163, Tryz.ntmps163
      go_wp2_with (go_at_call 216; refine (Is_yes _ _ _ _ _ HM.out hj).mono ?_; rintro e w' ⟨rfl, rfl⟩)
      go_ret
      rw [H.out]
      exact ⟨rfl, L, HM.out.grown (World.grownBy_alloc _ _ none), rfl, Chg.of0 (World.grownBy_alloc _ _ none), fun _ h => .inl h⟩
end Go.Proofs.YtpjlhiagifoogaaGreat
