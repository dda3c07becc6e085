/-
  Contracts of package phys: Get, Put, Give, over a whole machine.
-/
import Derived.Test.YtpjlhiagifoogaaGreatPhysB
import Derived.Test.YtpjlhiagifoogaaGreatSpec
set_option linter.unusedSimpArgs false
set_option linter.unusedVariables false
namespace Go.Proofs.YtpjlhiagifoogaaGreat
open Go.RowKit
set_option maxHeartbeats 400000

theorem grownBy_drewN (w : World) (n : Nat) (row : Option Nat) : w.grownBy (w.drewN n) row := ⟨rfl, rfl, rfl, Nat.le_refl _, fun _ _ _ => rfl⟩
theorem PM.drewN {w : World} {b : Nat} {M : Mach} (h : PM w b M) (n : Nat) : PM (w.drewN n) b M := h.grown (grownBy_drewN w n none) (by simp)

/-- what a call on the machine leaves -/
def Left (b : Nat) (w : World) (r : Int) (M' : Mach) (e : Ending) (w' : World) : Prop := e = .returned (.int .i64 r) ∧ PM w' b M' ∧ w.grownBy w' (some b)

theorem take_any (b i : Nat) (k : Int) (w : World) (M : Mach) (T : Int) (hM : PM w b M) (hi : i < 256) (hf : (M.fr i).ok) (ht : (M.fr i).tot ≤ T) (hT : T < 9223372036854775807) (hk0 : 0 ≤ k) (hk3 : k ≤ 3) :
    Calls Tryz.prog 215 #[.pointer (some ⟨b, 1 + i * 260, none⟩), .int .i64 k] w
      (Left b w (M.take i k).1 (M.take i k).2) := by
  unfold Mach.take
  have c0 := hf.c0; have ct := hf.ct; have z := hf.z
  have h1 := hM.ty hi; have h2 := hM.cnt hi; have h3 := hM.tot hi
  have f1 := hM.frozen (1 + i * 260 + 1); have f2 := hM.frozen (1 + i * 260 + 2); have f3 := hM.frozen (1 + i * 260 + 3)
  by_cases hk : k = 0
  · subst hk
    refine (take_none b _ _ w h3 f3 (by omega) (by omega)).mono ?_
    rintro e w' ⟨rfl, rfl⟩
    refine ⟨by simp, ?_, grownBy_setCell _ _ _ _ _⟩
    simpa [Fr.taken] using hM.setTot hi ((M.fr i).tot + 1)
  · have hkb : (k == 0) = false := by simp [hk]
    by_cases hc : (M.fr i).cnt = 0
    · rw [hc] at h2
      refine (take_first b _ _ _ k w h1 h2 h3 f1 f2 f3 (by omega) (by omega) hkb).mono ?_
      rintro e w' ⟨rfl, rfl⟩
      refine ⟨by simp [hc], ?_, ((grownBy_setCell _ _ _ _ _).trans (grownBy_setCell _ _ _ _ _)).trans (grownBy_setCell _ _ _ _ _)⟩
      have a1 := hM.setTy hi k
      have a2 := a1.setCnt hi 1
      have a3 := a2.setTot hi ((M.fr i).tot + 1)
      simpa [Fr.taken, hk, hc, Mach.upd_upd, Mach.upd_same] using a3
    · by_cases hty : (M.fr i).ty = k
      · rw [hty] at h1
        refine (take_more b _ _ _ k w h1 h2 h3 f1 f2 f3 (by omega) (by omega) (by omega) (by omega) hkb (by simp [hc])).mono ?_
        rintro e w' ⟨rfl, rfl⟩
        refine ⟨by simp [hty], ?_, ((grownBy_setCell _ _ _ _ _).trans (grownBy_setCell _ _ _ _ _)).trans (grownBy_setCell _ _ _ _ _)⟩
        have a1 := hM.setTy hi k
        have a2 := a1.setCnt hi ((M.fr i).cnt + 1)
        have a3 := a2.setTot hi ((M.fr i).tot + 1)
        simpa [Fr.taken, hk, hc, hty, Mach.upd_upd, Mach.upd_same] using a3
      · refine (take_type b _ _ _ k w h1 h2 hkb (by simp [hc]) (by simp [hty])).mono ?_
        rintro e w' ⟨rfl, rfl⟩
        rw [if_pos ⟨hk, hc, hty⟩]
        exact ⟨rfl, hM, World.grownBy.refl _ _⟩

theorem drop_any (b i : Nat) (k : Int) (w : World) (M : Mach) (T : Int) (hM : PM w b M) (hi : i < 256) (hf : (M.fr i).ok) (ht : (M.fr i).tot ≤ T) (hT : T < 9223372036854775807) (hk0 : 0 ≤ k) (hk3 : k ≤ 3) :
    Calls Tryz.prog 222 #[.pointer (some ⟨b, 1 + i * 260, none⟩), .int .i64 k] w
      (Left b w (M.drop i k).1 (M.drop i k).2) := by
  unfold Mach.drop
  have c0 := hf.c0; have ct := hf.ct; have z := hf.z
  have h1 := hM.ty hi; have h2 := hM.cnt hi; have h3 := hM.tot hi
  have f1 := hM.frozen (1 + i * 260 + 1); have f2 := hM.frozen (1 + i * 260 + 2); have f3 := hM.frozen (1 + i * 260 + 3)
  by_cases hk : k = 0
  · subst hk
    by_cases hx : (M.fr i).tot = (M.fr i).cnt
    · rw [hx] at h3
      refine (drop_no_none b _ _ w h2 h3).mono ?_
      rintro e w' ⟨rfl, n, rfl⟩
      rw [if_pos (.inl ⟨rfl, hx⟩)]
      exact ⟨rfl, hM.drewN n, grownBy_drewN _ _ _⟩
    · refine (drop_none b _ _ _ w h2 h3 f3 (by simp [hx]) (by omega) (by omega)).mono ?_
      rintro e w' ⟨rfl, n, rfl⟩
      refine ⟨by simp [hx], ?_, (grownBy_drewN _ n _).trans (grownBy_setCell _ _ _ _ _)⟩
      simpa [Fr.dropped, hx] using (hM.drewN n).setTot hi ((M.fr i).tot - 1)
  · have hkb : (k == 0) = false := by simp [hk]
    by_cases hty : (M.fr i).ty = k
    · rw [hty] at h1
      by_cases hc : (M.fr i).cnt = 1
      · rw [hc] at h2
        refine (drop_last b _ _ k w h1 h2 h3 f1 f2 f3 (by omega) (by omega) hkb).mono ?_
        rintro e w' ⟨rfl, rfl⟩
        refine ⟨by simp [hk, hty], ?_, ((grownBy_setCell _ _ _ _ _).trans (grownBy_setCell _ _ _ _ _)).trans (grownBy_setCell _ _ _ _ _)⟩
        have a1 := hM.setTot hi ((M.fr i).tot - 1)
        have a2 := a1.setCnt hi 0
        have a3 := a2.setTy hi 0
        simpa [Fr.dropped, hk, hc, hty, Mach.upd_upd, Mach.upd_same] using a3
      · refine (drop_more b _ _ _ k w h1 h2 h3 f1 f2 f3 (by omega) (by omega) (by omega) (by omega) hkb).mono ?_
        rintro e w' ⟨rfl, rfl⟩
        refine ⟨by simp [hk, hty], ?_, (grownBy_setCell _ _ _ _ _).trans (grownBy_setCell _ _ _ _ _)⟩
        have a1 := hM.setTot hi ((M.fr i).tot - 1)
        have a2 := a1.setCnt hi ((M.fr i).cnt - 1)
        simpa [Fr.dropped, hk, hc, hty, Mach.upd_upd, Mach.upd_same] using a2
    · refine (drop_no_kind b _ _ k w h1 hkb (by simp [hty])).mono ?_
      rintro e w' ⟨rfl, rfl⟩
      rw [if_pos (.inr ⟨hk, hty⟩)]
      exact ⟨rfl, hM, World.grownBy.refl _ _⟩

/-- Get -/
theorem Get_any (b : Nat) (i o k : Int) (w : World) (M : Mach) (T : Int) (hM : PM w b M) (hok : M.ok T) (hT : T < 9223372036854775807) :
    Calls Tryz.prog 142 #[.pointer (some ⟨b, 0, none⟩), .int .i64 i, .int .i64 o, .int .i64 k] w (Left b w (M.get i o k).1 (M.get i o k).2) := by
  have hn1 := hok.n1; have hn2 := hok.n2; have hsz := hM.size
  by_cases hi : i < 0 ∨ M.n ≤ i
  · have H := hid (show M.get i o k = (1, M) by simp [Mach.get, Mach.is_no hi])
    go_enter Tryz.func142, Tryz.ntmps142
    go_wp2_with (go_at_call 120; refine (at_no _ _ _ _ hn1 hi hsz).mono ?_; rintro e w' ⟨rfl, rfl⟩)
    go_ret
    rw [H.out]
    exact ⟨rfl, hM, World.grownBy.refl _ _⟩
  obtain ⟨j, rfl⟩ := Int.eq_ofNat_of_zero_le (show 0 ≤ i by omega)
  have hj : (j : Int) < M.n := by omega
  have his : M.is j = true := Mach.is_yes (by omega) hj
  have hj' : j < 256 := by omega
  have hown := hM.owner hj'
  obtain ⟨hf, ht⟩ := hok.fr j hj
  clear hi
  by_cases hk : k < 0 ∨ 3 < k
  · have H := hid (show M.get j o k = (1, M) by simp [Mach.get, his, hk])
    clear his
    go_enter Tryz.func142, Tryz.ntmps142
    go_wp2_with (first | (go_at_call 120; refine (at_yes _ M.n j _ hn2 hj hsz).mono ?_; rintro e w' ⟨rfl, rfl⟩) | (go_at_call 214; refine (isKind_no _ _ hk).mono ?_; rintro e w' ⟨rfl, rfl⟩))
    go_ret
    rw [H.out]
    exact ⟨rfl, hM, World.grownBy.refl _ _⟩
  have hk0 : 0 ≤ k := by omega
  have hk3 : k ≤ 3 := by omega
  by_cases hfree : (M.fr j).owner = -1
  · have H := hid (show M.get j o k = (11, M) by simp [Mach.get, his, hfree, hk])
    rw [hfree] at hown
    clear his hfree hk
    go_enter Tryz.func142, Tryz.ntmps142
    go_wp2_with (first | (go_at_call 120; refine (at_yes _ M.n j _ hn2 hj hsz).mono ?_; rintro e w' ⟨rfl, rfl⟩) | (go_at_call 214; refine (isKind_yes _ _ hk0 hk3).mono ?_; rintro e w' ⟨rfl, rfl⟩))
    go_ret
    rw [H.out]
    exact ⟨rfl, hM, World.grownBy.refl _ _⟩
  have hfb : ((M.fr j).owner == -1) = false := by simp [hfree]
  by_cases ho : (M.fr j).owner = o
  · subst ho
    have hob : ((M.fr j).owner != (M.fr j).owner) = false := by simp
    have H := hid (show M.get j (M.fr j).owner k = M.take j k by simp [Mach.get, his, hfree, hk])
    have hta := take_any b j k w M T hM hj' hf ht hT hk0 hk3
    have HT := hid hta
    clear his hfree hk hta
    go_enter Tryz.func142, Tryz.ntmps142
    go_wp2_with (first | (go_at_call 120; refine (at_yes _ M.n j _ hn2 hj hsz).mono ?_; rintro e w' ⟨rfl, rfl⟩) | (go_at_call 214; refine (isKind_yes _ _ hk0 hk3).mono ?_; rintro e w' ⟨rfl, rfl⟩) | (go_at_call 215; refine HT.out.mono ?_; rintro e w' ⟨rfl, HP⟩; have HQ := hid HP; clear HP))
    go_ret
    rw [H.out]
    exact ⟨rfl, HQ.out⟩
  · have hob : ((M.fr j).owner != o) = true := by simp [ho]
    have H := hid (show M.get j o k = (12, M) by simp [Mach.get, his, hfree, hk, ho])
    clear his hfree hk ho
    go_enter Tryz.func142, Tryz.ntmps142
    go_wp2_with (first | (go_at_call 120; refine (at_yes _ M.n j _ hn2 hj hsz).mono ?_; rintro e w' ⟨rfl, rfl⟩) | (go_at_call 214; refine (isKind_yes _ _ hk0 hk3).mono ?_; rintro e w' ⟨rfl, rfl⟩))
    go_ret
    rw [H.out]
    exact ⟨rfl, hM, World.grownBy.refl _ _⟩

/-- Put -/
theorem Put_any (b : Nat) (i k : Int) (w : World) (M : Mach) (T : Int) (hM : PM w b M) (hok : M.ok T) (hT : T < 9223372036854775807) :
    Calls Tryz.prog 162 #[.pointer (some ⟨b, 0, none⟩), .int .i64 i, .int .i64 k] w (Left b w (M.put i k).1 (M.put i k).2) := by
  have hn1 := hok.n1; have hn2 := hok.n2; have hsz := hM.size
  by_cases hi : i < 0 ∨ M.n ≤ i
  · have H := hid (show M.put i k = (1, M) by simp [Mach.put, Mach.is_no hi])
    go_enter Tryz.func162, Tryz.ntmps162
    go_wp2_with (go_at_call 120; refine (at_no _ _ _ _ hn1 hi hsz).mono ?_; rintro e w' ⟨rfl, rfl⟩)
    go_ret
    rw [H.out]
    exact ⟨rfl, hM, World.grownBy.refl _ _⟩
  obtain ⟨j, rfl⟩ := Int.eq_ofNat_of_zero_le (show 0 ≤ i by omega)
  have hj : (j : Int) < M.n := by omega
  have his : M.is j = true := Mach.is_yes (by omega) hj
  have hj' : j < 256 := by omega
  obtain ⟨hf, ht⟩ := hok.fr j hj
  clear hi
  by_cases hk : k < 0 ∨ 3 < k
  · have H := hid (show M.put j k = (1, M) by simp [Mach.put, his, hk])
    clear his
    go_enter Tryz.func162, Tryz.ntmps162
    go_wp2_with (first | (go_at_call 120; refine (at_yes _ M.n j _ hn2 hj hsz).mono ?_; rintro e w' ⟨rfl, rfl⟩) | (go_at_call 214; refine (isKind_no _ _ hk).mono ?_; rintro e w' ⟨rfl, rfl⟩))
    go_ret
    rw [H.out]
    exact ⟨rfl, hM, World.grownBy.refl _ _⟩
  have hk0 : 0 ≤ k := by omega
  have hk3 : k ≤ 3 := by omega
  have H := hid (show M.put j k = M.drop j k by simp [Mach.put, his, hk])
  have HT := hid (drop_any b j k w M T hM hj' hf ht hT hk0 hk3)
  clear his hk
  go_enter Tryz.func162, Tryz.ntmps162
  go_wp2_with (first | (go_at_call 120; refine (at_yes _ M.n j _ hn2 hj hsz).mono ?_; rintro e w' ⟨rfl, rfl⟩) | (go_at_call 214; refine (isKind_yes _ _ hk0 hk3).mono ?_; rintro e w' ⟨rfl, rfl⟩) | (go_at_call 222; refine HT.out.mono ?_; rintro e w' ⟨rfl, HP⟩; have HQ := hid HP; clear HP))
  go_ret
  rw [H.out]
  exact ⟨rfl, HQ.out⟩

/-- Give -/
theorem Give_any (b : Nat) (i to : Int) (w : World) (M : Mach) (T : Int) (hM : PM w b M) (hok : M.ok T) :
    Calls Tryz.prog 226 #[.pointer (some ⟨b, 0, none⟩), .int .i64 i, .int .i64 to] w (Left b w (M.give i to).1 (M.give i to).2) := by
  have hn1 := hok.n1; have hn2 := hok.n2; have hsz := hM.size
  by_cases hi : i < 0 ∨ M.n ≤ i
  · have H := hid (show M.give i to = (1, M) by simp [Mach.give, Mach.is_no hi])
    go_enter Tryz.func226, Tryz.ntmps226
    go_wp2_with (go_at_call 120; refine (at_no _ _ _ _ hn1 hi hsz).mono ?_; rintro e w' ⟨rfl, rfl⟩)
    go_ret
    rw [H.out]
    exact ⟨rfl, hM, World.grownBy.refl _ _⟩
  obtain ⟨j, rfl⟩ := Int.eq_ofNat_of_zero_le (show 0 ≤ i by omega)
  have hj : (j : Int) < M.n := by omega
  have his : M.is j = true := Mach.is_yes (by omega) hj
  have hj' : j < 256 := by omega
  have hown := hM.owner hj'
  have htot := hM.tot hj'
  have hfz := hM.frozen (1 + j * 260)
  obtain ⟨hf, -⟩ := hok.fr j hj
  clear hi
  by_cases hk : to < 0 ∨ 8 ≤ to
  · have H := hid (show M.give j to = (1, M) by simp [Mach.give, his, hk])
    clear his
    go_enter Tryz.func226, Tryz.ntmps226
    go_wp2_with (first | (go_at_call 120; refine (at_yes _ M.n j _ hn2 hj hsz).mono ?_; rintro e w' ⟨rfl, rfl⟩) | (go_at_call 134; refine (isDomain_no _ _ hk).mono ?_; rintro e w' ⟨rfl, rfl⟩))
    go_ret
    rw [H.out]
    exact ⟨rfl, hM, World.grownBy.refl _ _⟩
  have hk0 : 0 ≤ to := by omega
  have hk3 : to < 8 := by omega
  by_cases hfree : (M.fr j).owner = -1
  · have H := hid (show M.give j to = (11, M) by simp [Mach.give, his, hfree, hk])
    rw [hfree] at hown
    clear his hfree hk
    go_enter Tryz.func226, Tryz.ntmps226
    go_wp2_with (first | (go_at_call 120; refine (at_yes _ M.n j _ hn2 hj hsz).mono ?_; rintro e w' ⟨rfl, rfl⟩) | (go_at_call 134; refine (isDomain_yes _ _ hk0 hk3).mono ?_; rintro e w' ⟨rfl, rfl⟩) | (go_at_call 242; refine (idle_free _ _ _ hown).mono ?_; rintro e w' ⟨rfl, rfl⟩))
    go_ret
    rw [H.out]
    exact ⟨rfl, hM, World.grownBy.refl _ _⟩
  have hfb : ((M.fr j).owner == -1) = false := by simp [hfree]
  by_cases hb : (M.fr j).tot = 0
  · have H := hid (show M.give j to = (0, M.upd j { M.fr j with owner := to }) by simp [Mach.give, his, hfree, hk, hb])
    rw [hb] at htot
    clear his hfree hk hb
    go_enter Tryz.func226, Tryz.ntmps226
    go_wp2_with (first | (go_at_call 120; refine (at_yes _ M.n j _ hn2 hj hsz).mono ?_; rintro e w' ⟨rfl, rfl⟩) | (go_at_call 134; refine (isDomain_yes _ _ hk0 hk3).mono ?_; rintro e w' ⟨rfl, rfl⟩) | (go_at_call 242; refine (idle_yes _ _ _ _ hown htot hfb).mono ?_; rintro e w' ⟨rfl, rfl⟩))
    go_ret
    rw [H.out]
    exact ⟨rfl, hM.setOwner hj' to, grownBy_setCell _ _ _ _ _⟩
  · have htb : ((M.fr j).tot != 0) = true := by simp [hb]
    have H := hid (show M.give j to = (9, M) by simp [Mach.give, his, hfree, hk, hb])
    clear his hfree hk hb
    go_enter Tryz.func226, Tryz.ntmps226
    go_wp2_with (first | (go_at_call 120; refine (at_yes _ M.n j _ hn2 hj hsz).mono ?_; rintro e w' ⟨rfl, rfl⟩) | (go_at_call 134; refine (isDomain_yes _ _ hk0 hk3).mono ?_; rintro e w' ⟨rfl, rfl⟩) | (go_at_call 242; refine (idle_busy _ _ _ _ _ hown htot hfb htb).mono ?_; rintro e w' ⟨rfl, rfl⟩))
    go_ret
    rw [H.out]
    exact ⟨rfl, hM, World.grownBy.refl _ _⟩

end Go.Proofs.YtpjlhiagifoogaaGreat
