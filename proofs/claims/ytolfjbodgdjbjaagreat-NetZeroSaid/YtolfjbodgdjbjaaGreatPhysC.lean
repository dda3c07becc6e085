/-
  Contracts of package phys: Get, Put, Give, over a whole machine.
-/
import Derived.Test.YtolfjbodgdjbjaaGreatPhysB
import Derived.Test.YtolfjbodgdjbjaaGreatSpec
set_option linter.unusedSimpArgs false
set_option linter.unusedVariables false
namespace Go.Proofs.YtolfjbodgdjbjaaGreat
open Go.RowKit
set_option maxHeartbeats 400000

theorem grownBy_drewN (w : World) (n : Nat) (row : Option Nat) : w.grownBy (w.drewN n) row := ⟨rfl, rfl, rfl, Nat.le_refl _, fun _ _ _ => rfl⟩
theorem PM.drewN {w : World} {b : Nat} {M : Mach} (h : PM w b M) (n : Nat) : PM (w.drewN n) b M := h.grown (grownBy_drewN w n none) (by simp)

/-- what a call on the machine leaves -/
def Left (b : Nat) (w : World) (r : Int) (M' : Mach) (e : Ending) (w' : World) : Prop := e = .returned (.int .i64 r) ∧ PM w' b M' ∧ w.grownBy w' (some b)

theorem drop_any (b i : Nat) (k : Int) (w : World) (M : Mach) (T : Int) (hM : PM w b M) (hi : i < 256) (hf : (M.fr i).ok) (ht : (M.fr i).tot ≤ T) (hT : T < 9223372036854775807) (hk0 : 0 ≤ k) (hk3 : k ≤ 3) :
    Calls Tryz.prog 85 #[.pointer (some ⟨b, 1 + i * 260, none⟩), .int .i64 k] w
      (Left b w (M.drop i k).1 (M.drop i k).2) := by
  unfold Mach.drop
  have c0 := hf.c0; have ct := hf.ct; have z := hf.z
  have h1 := hM.ty hi; have h2 := hM.cnt hi; have h3 := hM.tot hi
  have f1 := hM.frozen (1 + i * 260 + 1); have f2 := hM.frozen (1 + i * 260 + 2); have f3 := hM.frozen (1 + i * 260 + 3)
  by_cases hk : k = 0
  · subst hk
    by_cases hx : (M.fr i).tot = (M.fr i).cnt
    · rw [hx] at h3
      refine (drop_no_none b _ _ w h2 h3).mono ?_
      rintro e w' ⟨rfl, n, rfl⟩
      rw [if_pos (.inl ⟨rfl, hx⟩)]
      exact ⟨rfl, hM.drewN n, grownBy_drewN _ _ _⟩
    · refine (drop_none b _ _ _ w h2 h3 f3 (by simp [hx]) (by omega) (by omega)).mono ?_
      rintro e w' ⟨rfl, n, rfl⟩
      refine ⟨by simp [hx], ?_, (grownBy_drewN _ n _).trans (grownBy_setCell _ _ _ _ _)⟩
      simpa [Fr.dropped, hx] using (hM.drewN n).setTot hi ((M.fr i).tot - 1)
  · have hkb : (k == 0) = false := by simp [hk]
    by_cases hty : (M.fr i).ty = k
    · rw [hty] at h1
      by_cases hc : (M.fr i).cnt = 1
      · rw [hc] at h2
        refine (drop_last b _ _ k w h1 h2 h3 f1 f2 f3 (by omega) (by omega) hkb).mono ?_
        rintro e w' ⟨rfl, rfl⟩
        refine ⟨by simp [hk, hty], ?_, ((grownBy_setCell _ _ _ _ _).trans (grownBy_setCell _ _ _ _ _)).trans (grownBy_setCell _ _ _ _ _)⟩
        have a1 := hM.setTot hi ((M.fr i).tot - 1)
        have a2 := a1.setCnt hi 0
        have a3 := a2.setTy hi 0
        simpa [Fr.dropped, hk, hc, hty, Mach.upd_upd, Mach.upd_same] using a3
      · refine (drop_more b _ _ _ k w h1 h2 h3 f1 f2 f3 (by omega) (by omega) (by omega) (by omega) hkb).mono ?_
        rintro e w' ⟨rfl, rfl⟩
        refine ⟨by simp [hk, hty], ?_, (grownBy_setCell _ _ _ _ _).trans (grownBy_setCell _ _ _ _ _)⟩
        have a1 := hM.setTot hi ((M.fr i).tot - 1)
        have a2 := a1.setCnt hi ((M.fr i).cnt - 1)
        simpa [Fr.dropped, hk, hc, hty, Mach.upd_upd, Mach.upd_same] using a2
    · refine (drop_no_kind b _ _ k w h1 hkb (by simp [hty])).mono ?_
      rintro e w' ⟨rfl, rfl⟩
      rw [if_pos (.inr ⟨hk, hty⟩)]
      exact ⟨rfl, hM, World.grownBy.refl _ _⟩

/-- Put -/
theorem Put_any (b : Nat) (i k : Int) (w : World) (M : Mach) (T : Int) (hM : PM w b M) (hok : M.ok T) (hT : T < 9223372036854775807) :
    Calls Tryz.prog 76 #[.pointer (some ⟨b, 0, none⟩), .int .i64 i, .int .i64 k] w (Left b w (M.put i k).1 (M.put i k).2) := by
  have hn1 := hok.n1; have hn2 := hok.n2; have hsz := hM.size
  by_cases hi : i < 0 ∨ M.n ≤ i
  · have H := hid (show M.put i k = (1, M) by simp [Mach.put, Mach.is_no hi])
    go_enter Tryz.func76, Tryz.ntmps76
    go_wp2_with (go_at_call 51; refine (at_no _ _ _ _ hn1 hi hsz).mono ?_; rintro e w' ⟨rfl, rfl⟩)
    go_ret
    rw [H.out]
    exact ⟨rfl, hM, World.grownBy.refl _ _⟩
  obtain ⟨j, rfl⟩ := Int.eq_ofNat_of_zero_le (show 0 ≤ i by omega)
  have hj : (j : Int) < M.n := by omega
  have his : M.is j = true := Mach.is_yes (by omega) hj
  have hj' : j < 256 := by omega
  obtain ⟨hf, ht⟩ := hok.fr j hj
  clear hi
  by_cases hk : k < 0 ∨ 3 < k
  · have H := hid (show M.put j k = (1, M) by simp [Mach.put, his, hk])
    clear his
    go_enter Tryz.func76, Tryz.ntmps76
    go_wp2_with (first | (go_at_call 51; refine (at_yes _ M.n j _ hn2 hj hsz).mono ?_; rintro e w' ⟨rfl, rfl⟩) | (go_at_call 84; refine (isKind_no _ _ hk).mono ?_; rintro e w' ⟨rfl, rfl⟩))
    go_ret
    rw [H.out]
    exact ⟨rfl, hM, World.grownBy.refl _ _⟩
  have hk0 : 0 ≤ k := by omega
  have hk3 : k ≤ 3 := by omega
  have H := hid (show M.put j k = M.drop j k by simp [Mach.put, his, hk])
  have HT := hid (drop_any b j k w M T hM hj' hf ht hT hk0 hk3)
  clear his hk
  go_enter Tryz.func76, Tryz.ntmps76
  go_wp2_with (first | (go_at_call 51; refine (at_yes _ M.n j _ hn2 hj hsz).mono ?_; rintro e w' ⟨rfl, rfl⟩) | (go_at_call 84; refine (isKind_yes _ _ hk0 hk3).mono ?_; rintro e w' ⟨rfl, rfl⟩) | (go_at_call 85; refine HT.out.mono ?_; rintro e w' ⟨rfl, HP⟩; have HQ := hid HP; clear HP))
  go_ret
  rw [H.out]
  exact ⟨rfl, HQ.out⟩

end Go.Proofs.YtolfjbodgdjbjaaGreat
