/-
  Contracts of the functions of package phys on one frame.
-/
import Derived.Test.YtbbaplcfhofeeaaK03
import Derived.Test.YtbbaplcfhofeeaaK01
import Derived.Test.YtbbaplcfhofeeaaChecked
import Derived.Test.YtbbaplcfhofeeaaRows
import Derived.WalkKit
set_option linter.unusedSimpArgs false
set_option linter.unusedVariables false
namespace Go.Proofs.Ytbbaplcfhofeeaa
open Go.RowKit
set_option maxHeartbeats 400000

theorem idle_free (b o : Nat) (w : World) (h : w.cell? ⟨b, o, none⟩ = some (.int .i64 (-1))) :
    Calls Try.prog 40 #[.pointer (some ⟨b, o, none⟩)] w fun e w' => e = .returned (.int .i64 11) ∧ w = w' := by
  go_enter Try.func40, Try.ntmps40
  go_wp2
  go_ret
  exact ⟨rfl, rfl⟩
theorem idle_busy (b o : Nat) (ow t : Int) (w : World) (h : w.cell? ⟨b, o, none⟩ = some (.int .i64 ow)) (h3 : w.cell? ⟨b, o + 3, none⟩ = some (.int .i64 t)) (ho : (ow == -1) = false) (ht : (t != 0) = true) :
    Calls Try.prog 40 #[.pointer (some ⟨b, o, none⟩)] w fun e w' => e = .returned (.int .i64 9) ∧ w = w' := by
  go_enter Try.func40, Try.ntmps40
  go_wp2
  go_ret
  exact ⟨rfl, rfl⟩
theorem idle_yes (b o : Nat) (ow : Int) (w : World) (h : w.cell? ⟨b, o, none⟩ = some (.int .i64 ow)) (h3 : w.cell? ⟨b, o + 3, none⟩ = some (.int .i64 0)) (ho : (ow == -1) = false) :
    Calls Try.prog 40 #[.pointer (some ⟨b, o, none⟩)] w fun e w' => e = .returned (.int .i64 0) ∧ w = w' := by
  go_enter Try.func40, Try.ntmps40
  go_wp2
  go_ret
  exact ⟨rfl, rfl⟩

theorem has_none (b o : Nat) (c t : Int) (w : World) (h2 : w.cell? ⟨b, o + 2, none⟩ = some (.int .i64 c)) (h3 : w.cell? ⟨b, o + 3, none⟩ = some (.int .i64 t)) :
    Calls Try.prog 63 #[.pointer (some ⟨b, o, none⟩), .int .i64 0] w fun e w' => e = .returned (.bool (t != c)) ∧ ∃ n, w' = w.drewN n := by
  go_enter Try.func63, Try.ntmps63
  go_wp2
  go_quiet (fail)
  go_wp2
  go_ret
  exact ⟨rfl, _, rfl⟩
theorem has_kind (b o : Nat) (ty k : Int) (w : World) (h1 : w.cell? ⟨b, o + 1, none⟩ = some (.int .i64 ty)) (hk : (k == 0) = false) :
    Calls Try.prog 63 #[.pointer (some ⟨b, o, none⟩), .int .i64 k] w fun e w' => e = .returned (.bool (ty == k)) ∧ w = w' := by
  go_enter Try.func63, Try.ntmps63
  go_wp2
  go_ret
  exact ⟨rfl, rfl⟩

theorem take_none (b o : Nat) (t : Int) (w : World) (h3 : w.cell? ⟨b, o + 3, none⟩ = some (.int .i64 t)) (f3 : w.frozen? ⟨b, o + 3, none⟩ = false) (h0 : -9223372036854775808 ≤ t) (ht : t < 9223372036854775807) :
    Calls Try.prog 58 #[.pointer (some ⟨b, o, none⟩), .int .i64 0] w fun e w' => e = .returned (.int .i64 0) ∧ w' = w.setCell ⟨b, o + 3, none⟩ (.int .i64 (t + 1)) := by
  go_enter Try.func58, Try.ntmps58
  go_wp2
  go_ret
  exact ⟨rfl, rfl⟩
theorem take_type (b o : Nat) (ty c k : Int) (w : World) (h1 : w.cell? ⟨b, o + 1, none⟩ = some (.int .i64 ty)) (h2 : w.cell? ⟨b, o + 2, none⟩ = some (.int .i64 c)) (hk : (k == 0) = false) (hc : (c != 0) = true) (ht : (ty != k) = true) :
    Calls Try.prog 58 #[.pointer (some ⟨b, o, none⟩), .int .i64 k] w fun e w' => e = .returned (.int .i64 13) ∧ w = w' := by
  go_enter Try.func58, Try.ntmps58
  go_wp2
  go_ret
  exact ⟨rfl, rfl⟩
theorem take_first (b o : Nat) (ty t k : Int) (w : World) (h1 : w.cell? ⟨b, o + 1, none⟩ = some (.int .i64 ty)) (h2 : w.cell? ⟨b, o + 2, none⟩ = some (.int .i64 0)) (h3 : w.cell? ⟨b, o + 3, none⟩ = some (.int .i64 t))
    (f1 : w.frozen? ⟨b, o + 1, none⟩ = false) (f2 : w.frozen? ⟨b, o + 2, none⟩ = false) (f3 : w.frozen? ⟨b, o + 3, none⟩ = false) (h0 : -9223372036854775808 ≤ t) (ht : t < 9223372036854775807) (hk : (k == 0) = false) :
    Calls Try.prog 58 #[.pointer (some ⟨b, o, none⟩), .int .i64 k] w fun e w' => e = .returned (.int .i64 0) ∧
      w' = ((w.setCell ⟨b, o + 1, none⟩ (.int .i64 k)).setCell ⟨b, o + 2, none⟩ (.int .i64 1)).setCell ⟨b, o + 3, none⟩ (.int .i64 (t + 1)) := by
  go_enter Try.func58, Try.ntmps58
  go_wp2
  go_ret
  exact ⟨rfl, rfl⟩
theorem take_more (b o : Nat) (c t k : Int) (w : World) (h1 : w.cell? ⟨b, o + 1, none⟩ = some (.int .i64 k)) (h2 : w.cell? ⟨b, o + 2, none⟩ = some (.int .i64 c)) (h3 : w.cell? ⟨b, o + 3, none⟩ = some (.int .i64 t))
    (f1 : w.frozen? ⟨b, o + 1, none⟩ = false) (f2 : w.frozen? ⟨b, o + 2, none⟩ = false) (f3 : w.frozen? ⟨b, o + 3, none⟩ = false) (h0 : -9223372036854775808 ≤ t) (ht : t < 9223372036854775807) (hc0 : -9223372036854775808 ≤ c) (hc : c < 9223372036854775807) (hk : (k == 0) = false) (hcc : (c != 0) = true) :
    Calls Try.prog 58 #[.pointer (some ⟨b, o, none⟩), .int .i64 k] w fun e w' => e = .returned (.int .i64 0) ∧
      w' = ((w.setCell ⟨b, o + 1, none⟩ (.int .i64 k)).setCell ⟨b, o + 2, none⟩ (.int .i64 (c + 1))).setCell ⟨b, o + 3, none⟩ (.int .i64 (t + 1)) := by
  go_enter Try.func58, Try.ntmps58
  go_wp2
  go_ret
  exact ⟨rfl, rfl⟩

theorem drop_no_none (b o : Nat) (c : Int) (w : World) (h2 : w.cell? ⟨b, o + 2, none⟩ = some (.int .i64 c)) (h3 : w.cell? ⟨b, o + 3, none⟩ = some (.int .i64 c)) :
    Calls Try.prog 51 #[.pointer (some ⟨b, o, none⟩), .int .i64 0] w fun e w' => e = .returned (.int .i64 14) ∧ ∃ n, w' = w.drewN n := by
  have hx : (c != c) = false := by simp
  go_enter Try.func51, Try.ntmps51
  go_wp2_with (go_at_call 63; refine (has_none _ _ c c _ h2 h3).mono ?_; rintro e w' ⟨rfl, n, rfl⟩)
  go_ret
  exact ⟨rfl, _, rfl⟩
theorem drop_no_kind (b o : Nat) (ty k : Int) (w : World) (h1 : w.cell? ⟨b, o + 1, none⟩ = some (.int .i64 ty)) (hk : (k == 0) = false) (ht : (ty == k) = false) :
    Calls Try.prog 51 #[.pointer (some ⟨b, o, none⟩), .int .i64 k] w fun e w' => e = .returned (.int .i64 14) ∧ w = w' := by
  go_enter Try.func51, Try.ntmps51
  go_wp2_with (go_at_call 63; refine (has_kind _ _ ty k _ h1 hk).mono ?_; rintro e w' ⟨rfl, rfl⟩)
  go_ret
  exact ⟨rfl, rfl⟩
theorem drop_none (b o : Nat) (c t : Int) (w : World) (h2 : w.cell? ⟨b, o + 2, none⟩ = some (.int .i64 c)) (h3 : w.cell? ⟨b, o + 3, none⟩ = some (.int .i64 t)) (f3 : w.frozen? ⟨b, o + 3, none⟩ = false) (hx : (t != c) = true) (h0 : 1 ≤ t) (ht : t ≤ 9223372036854775807) :
    Calls Try.prog 51 #[.pointer (some ⟨b, o, none⟩), .int .i64 0] w fun e w' => e = .returned (.int .i64 0) ∧ ∃ n, w' = (w.drewN n).setCell ⟨b, o + 3, none⟩ (.int .i64 (t - 1)) := by
  go_enter Try.func51, Try.ntmps51
  go_wp2_with (go_at_call 63; refine (has_none _ _ c t _ h2 h3).mono ?_; rintro e w' ⟨rfl, n, rfl⟩)
  go_ret
  exact ⟨rfl, _, rfl⟩
theorem drop_more (b o : Nat) (c t k : Int) (w : World) (h1 : w.cell? ⟨b, o + 1, none⟩ = some (.int .i64 k)) (h2 : w.cell? ⟨b, o + 2, none⟩ = some (.int .i64 c)) (h3 : w.cell? ⟨b, o + 3, none⟩ = some (.int .i64 t))
    (f1 : w.frozen? ⟨b, o + 1, none⟩ = false) (f2 : w.frozen? ⟨b, o + 2, none⟩ = false) (f3 : w.frozen? ⟨b, o + 3, none⟩ = false) (h0 : 1 ≤ t) (ht : t ≤ 9223372036854775807) (hc0 : 2 ≤ c) (hc : c ≤ 9223372036854775807) (hk : (k == 0) = false) :
    Calls Try.prog 51 #[.pointer (some ⟨b, o, none⟩), .int .i64 k] w fun e w' => e = .returned (.int .i64 0) ∧
      w' = (w.setCell ⟨b, o + 3, none⟩ (.int .i64 (t - 1))).setCell ⟨b, o + 2, none⟩ (.int .i64 (c - 1)) := by
  have hx : (k == k) = true := by simp
  go_enter Try.func51, Try.ntmps51
  go_wp2_with (go_at_call 63; refine (has_kind _ _ k k _ h1 hk).mono ?_; rintro e w' ⟨rfl, rfl⟩)
  go_ret
  exact ⟨rfl, rfl⟩
theorem drop_last (b o : Nat) (t k : Int) (w : World) (h1 : w.cell? ⟨b, o + 1, none⟩ = some (.int .i64 k)) (h2 : w.cell? ⟨b, o + 2, none⟩ = some (.int .i64 1)) (h3 : w.cell? ⟨b, o + 3, none⟩ = some (.int .i64 t))
    (f1 : w.frozen? ⟨b, o + 1, none⟩ = false) (f2 : w.frozen? ⟨b, o + 2, none⟩ = false) (f3 : w.frozen? ⟨b, o + 3, none⟩ = false) (h0 : 1 ≤ t) (ht : t ≤ 9223372036854775807) (hk : (k == 0) = false) :
    Calls Try.prog 51 #[.pointer (some ⟨b, o, none⟩), .int .i64 k] w fun e w' => e = .returned (.int .i64 0) ∧
      w' = ((w.setCell ⟨b, o + 3, none⟩ (.int .i64 (t - 1))).setCell ⟨b, o + 2, none⟩ (.int .i64 0)).setCell ⟨b, o + 1, none⟩ (.int .i64 0) := by
  have hx : (k == k) = true := by simp
  go_enter Try.func51, Try.ntmps51
  go_wp2_with (go_at_call 63; refine (has_kind _ _ k k _ h1 hk).mono ?_; rintro e w' ⟨rfl, rfl⟩)
  go_ret
  exact ⟨rfl, rfl⟩

end Go.Proofs.Ytbbaplcfhofeeaa

/-
  Contracts of package phys: Get, Put, Give, over a whole machine.
-/
set_option linter.unusedSimpArgs false
set_option linter.unusedVariables false
namespace Go.Proofs.Ytbbaplcfhofeeaa
open Go.RowKit
set_option maxHeartbeats 400000

theorem grownBy_drewN (w : World) (n : Nat) (row : Option Nat) : w.grownBy (w.drewN n) row := ⟨rfl, rfl, rfl, Nat.le_refl _, fun _ _ _ => rfl⟩
theorem PM.drewN {w : World} {b : Nat} {M : Mach} (h : PM w b M) (n : Nat) : PM (w.drewN n) b M := h.grown (grownBy_drewN w n none) (by simp)

/-- what a call on the machine leaves -/
def Left (b : Nat) (w : World) (r : Int) (M' : Mach) (e : Ending) (w' : World) : Prop := e = .returned (.int .i64 r) ∧ PM w' b M' ∧ w.grownBy w' (some b)

theorem take_any (b i : Nat) (k : Int) (w : World) (M : Mach) (T : Int) (hM : PM w b M) (hi : i < 256) (hf : (M.fr i).ok) (ht : (M.fr i).tot ≤ T) (hT : T < 9223372036854775807) (hk0 : 0 ≤ k) (hk3 : k ≤ 3) :
    Calls Try.prog 58 #[.pointer (some ⟨b, 1 + i * 260, none⟩), .int .i64 k] w
      (Left b w (M.take i k).1 (M.take i k).2) := by
  unfold Mach.take
  have c0 := hf.c0; have ct := hf.ct; have z := hf.z
  have h1 := hM.ty hi; have h2 := hM.cnt hi; have h3 := hM.tot hi
  have f1 := hM.frozen (1 + i * 260 + 1); have f2 := hM.frozen (1 + i * 260 + 2); have f3 := hM.frozen (1 + i * 260 + 3)
  by_cases hk : k = 0
  · subst hk
    refine (take_none b _ _ w h3 f3 (by omega) (by omega)).mono ?_
    rintro e w' ⟨rfl, rfl⟩
    refine ⟨by simp, ?_, grownBy_setCell _ _ _ _ _⟩
    simpa [Fr.taken] using hM.setTot hi ((M.fr i).tot + 1)
  · have hkb : (k == 0) = false := by simp [hk]
    by_cases hc : (M.fr i).cnt = 0
    · rw [hc] at h2
      refine (take_first b _ _ _ k w h1 h2 h3 f1 f2 f3 (by omega) (by omega) hkb).mono ?_
      rintro e w' ⟨rfl, rfl⟩
      refine ⟨by simp [hc], ?_, ((grownBy_setCell _ _ _ _ _).trans (grownBy_setCell _ _ _ _ _)).trans (grownBy_setCell _ _ _ _ _)⟩
      have a1 := hM.setTy hi k
      have a2 := a1.setCnt hi 1
      have a3 := a2.setTot hi ((M.fr i).tot + 1)
      simpa [Fr.taken, hk, hc, Mach.upd_upd, Mach.upd_same] using a3
    · by_cases hty : (M.fr i).ty = k
      · rw [hty] at h1
        refine (take_more b _ _ _ k w h1 h2 h3 f1 f2 f3 (by omega) (by omega) (by omega) (by omega) hkb (by simp [hc])).mono ?_
        rintro e w' ⟨rfl, rfl⟩
        refine ⟨by simp [hty], ?_, ((grownBy_setCell _ _ _ _ _).trans (grownBy_setCell _ _ _ _ _)).trans (grownBy_setCell _ _ _ _ _)⟩
        have a1 := hM.setTy hi k
        have a2 := a1.setCnt hi ((M.fr i).cnt + 1)
        have a3 := a2.setTot hi ((M.fr i).tot + 1)
        simpa [Fr.taken, hk, hc, hty, Mach.upd_upd, Mach.upd_same] using a3
      · refine (take_type b _ _ _ k w h1 h2 hkb (by simp [hc]) (by simp [hty])).mono ?_
        rintro e w' ⟨rfl, rfl⟩
        rw [if_pos ⟨hk, hc, hty⟩]
        exact ⟨rfl, hM, World.grownBy.refl _ _⟩

theorem drop_any (b i : Nat) (k : Int) (w : World) (M : Mach) (T : Int) (hM : PM w b M) (hi : i < 256) (hf : (M.fr i).ok) (ht : (M.fr i).tot ≤ T) (hT : T < 9223372036854775807) (hk0 : 0 ≤ k) (hk3 : k ≤ 3) :
    Calls Try.prog 51 #[.pointer (some ⟨b, 1 + i * 260, none⟩), .int .i64 k] w
      (Left b w (M.drop i k).1 (M.drop i k).2) := by
  unfold Mach.drop
  have c0 := hf.c0; have ct := hf.ct; have z := hf.z
  have h1 := hM.ty hi; have h2 := hM.cnt hi; have h3 := hM.tot hi
  have f1 := hM.frozen (1 + i * 260 + 1); have f2 := hM.frozen (1 + i * 260 + 2); have f3 := hM.frozen (1 + i * 260 + 3)
  by_cases hk : k = 0
  · subst hk
    by_cases hx : (M.fr i).tot = (M.fr i).cnt
    · rw [hx] at h3
      refine (drop_no_none b _ _ w h2 h3).mono ?_
      rintro e w' ⟨rfl, n, rfl⟩
      rw [if_pos (.inl ⟨rfl, hx⟩)]
      exact ⟨rfl, hM.drewN n, grownBy_drewN _ _ _⟩
    · refine (drop_none b _ _ _ w h2 h3 f3 (by simp [hx]) (by omega) (by omega)).mono ?_
      rintro e w' ⟨rfl, n, rfl⟩
      refine ⟨by simp [hx], ?_, (grownBy_drewN _ n _).trans (grownBy_setCell _ _ _ _ _)⟩
      simpa [Fr.dropped, hx] using (hM.drewN n).setTot hi ((M.fr i).tot - 1)
  · have hkb : (k == 0) = false := by simp [hk]
    by_cases hty : (M.fr i).ty = k
    · rw [hty] at h1
      by_cases hc : (M.fr i).cnt = 1
      · rw [hc] at h2
        refine (drop_last b _ _ k w h1 h2 h3 f1 f2 f3 (by omega) (by omega) hkb).mono ?_
        rintro e w' ⟨rfl, rfl⟩
        refine ⟨by simp [hk, hty], ?_, ((grownBy_setCell _ _ _ _ _).trans (grownBy_setCell _ _ _ _ _)).trans (grownBy_setCell _ _ _ _ _)⟩
        have a1 := hM.setTot hi ((M.fr i).tot - 1)
        have a2 := a1.setCnt hi 0
        have a3 := a2.setTy hi 0
        simpa [Fr.dropped, hk, hc, hty, Mach.upd_upd, Mach.upd_same] using a3
      · refine (drop_more b _ _ _ k w h1 h2 h3 f1 f2 f3 (by omega) (by omega) (by omega) (by omega) hkb).mono ?_
        rintro e w' ⟨rfl, rfl⟩
        refine ⟨by simp [hk, hty], ?_, (grownBy_setCell _ _ _ _ _).trans (grownBy_setCell _ _ _ _ _)⟩
        have a1 := hM.setTot hi ((M.fr i).tot - 1)
        have a2 := a1.setCnt hi ((M.fr i).cnt - 1)
        simpa [Fr.dropped, hk, hc, hty, Mach.upd_upd, Mach.upd_same] using a2
    · refine (drop_no_kind b _ _ k w h1 hkb (by simp [hty])).mono ?_
      rintro e w' ⟨rfl, rfl⟩
      rw [if_pos (.inr ⟨hk, hty⟩)]
      exact ⟨rfl, hM, World.grownBy.refl _ _⟩

/-- Get -/
theorem Get_any (b : Nat) (i o k : Int) (w : World) (M : Mach) (T : Int) (hM : PM w b M) (hok : M.ok T) (hT : T < 9223372036854775807) :
    Calls Try.prog 46 #[.pointer (some ⟨b, 0, none⟩), .int .i64 i, .int .i64 o, .int .i64 k] w (Left b w (M.get i o k).1 (M.get i o k).2) := by
  have hn1 := hok.n1; have hn2 := hok.n2; have hsz := hM.size
  by_cases hi : i < 0 ∨ M.n ≤ i
  · have H := hid (show M.get i o k = (1, M) by simp [Mach.get, Mach.is_no hi])
    go_enter Try.func46, Try.ntmps46
    go_wp2_with (go_at_call 39; refine (at_no _ _ _ _ hn1 hi hsz).mono ?_; rintro e w' ⟨rfl, rfl⟩)
    go_ret
    rw [H.out]
    exact ⟨rfl, hM, World.grownBy.refl _ _⟩
  obtain ⟨j, rfl⟩ := Int.eq_ofNat_of_zero_le (show 0 ≤ i by omega)
  have hj : (j : Int) < M.n := by omega
  have his : M.is j = true := Mach.is_yes (by omega) hj
  have hj' : j < 256 := by omega
  have hown := hM.owner hj'
  obtain ⟨hf, ht⟩ := hok.fr j hj
  clear hi
  by_cases hk : k < 0 ∨ 3 < k
  · have H := hid (show M.get j o k = (1, M) by simp [Mach.get, his, hk])
    clear his
    go_enter Try.func46, Try.ntmps46
    go_wp2_with (first | (go_at_call 39; refine (at_yes _ M.n j _ hn2 hj hsz).mono ?_; rintro e w' ⟨rfl, rfl⟩) | (go_at_call 50; refine (isKind_no _ _ hk).mono ?_; rintro e w' ⟨rfl, rfl⟩))
    go_ret
    rw [H.out]
    exact ⟨rfl, hM, World.grownBy.refl _ _⟩
  have hk0 : 0 ≤ k := by omega
  have hk3 : k ≤ 3 := by omega
  by_cases hfree : (M.fr j).owner = -1
  · have H := hid (show M.get j o k = (11, M) by simp [Mach.get, his, hfree, hk])
    rw [hfree] at hown
    clear his hfree hk
    go_enter Try.func46, Try.ntmps46
    go_wp2_with (first | (go_at_call 39; refine (at_yes _ M.n j _ hn2 hj hsz).mono ?_; rintro e w' ⟨rfl, rfl⟩) | (go_at_call 50; refine (isKind_yes _ _ hk0 hk3).mono ?_; rintro e w' ⟨rfl, rfl⟩))
    go_ret
    rw [H.out]
    exact ⟨rfl, hM, World.grownBy.refl _ _⟩
  have hfb : ((M.fr j).owner == -1) = false := by simp [hfree]
  by_cases ho : (M.fr j).owner = o
  · subst ho
    have hob : ((M.fr j).owner != (M.fr j).owner) = false := by simp
    have H := hid (show M.get j (M.fr j).owner k = M.take j k by simp [Mach.get, his, hfree, hk])
    have hta := take_any b j k w M T hM hj' hf ht hT hk0 hk3
    have HT := hid hta
    clear his hfree hk hta
    go_enter Try.func46, Try.ntmps46
    go_wp2_with (first | (go_at_call 39; refine (at_yes _ M.n j _ hn2 hj hsz).mono ?_; rintro e w' ⟨rfl, rfl⟩) | (go_at_call 50; refine (isKind_yes _ _ hk0 hk3).mono ?_; rintro e w' ⟨rfl, rfl⟩) | (go_at_call 58; refine HT.out.mono ?_; rintro e w' ⟨rfl, HP⟩; have HQ := hid HP; clear HP))
    go_ret
    rw [H.out]
    exact ⟨rfl, HQ.out⟩
  · have hob : ((M.fr j).owner != o) = true := by simp [ho]
    have H := hid (show M.get j o k = (12, M) by simp [Mach.get, his, hfree, hk, ho])
    clear his hfree hk ho
    go_enter Try.func46, Try.ntmps46
    go_wp2_with (first | (go_at_call 39; refine (at_yes _ M.n j _ hn2 hj hsz).mono ?_; rintro e w' ⟨rfl, rfl⟩) | (go_at_call 50; refine (isKind_yes _ _ hk0 hk3).mono ?_; rintro e w' ⟨rfl, rfl⟩))
    go_ret
    rw [H.out]
    exact ⟨rfl, hM, World.grownBy.refl _ _⟩

/-- Put -/
theorem Put_any (b : Nat) (i k : Int) (w : World) (M : Mach) (T : Int) (hM : PM w b M) (hok : M.ok T) (hT : T < 9223372036854775807) :
    Calls Try.prog 38 #[.pointer (some ⟨b, 0, none⟩), .int .i64 i, .int .i64 k] w (Left b w (M.put i k).1 (M.put i k).2) := by
  have hn1 := hok.n1; have hn2 := hok.n2; have hsz := hM.size
  by_cases hi : i < 0 ∨ M.n ≤ i
  · have H := hid (show M.put i k = (1, M) by simp [Mach.put, Mach.is_no hi])
    go_enter Try.func38, Try.ntmps38
    go_wp2_with (go_at_call 39; refine (at_no _ _ _ _ hn1 hi hsz).mono ?_; rintro e w' ⟨rfl, rfl⟩)
    go_ret
    rw [H.out]
    exact ⟨rfl, hM, World.grownBy.refl _ _⟩
  obtain ⟨j, rfl⟩ := Int.eq_ofNat_of_zero_le (show 0 ≤ i by omega)
  have hj : (j : Int) < M.n := by omega
  have his : M.is j = true := Mach.is_yes (by omega) hj
  have hj' : j < 256 := by omega
  obtain ⟨hf, ht⟩ := hok.fr j hj
  clear hi
  by_cases hk : k < 0 ∨ 3 < k
  · have H := hid (show M.put j k = (1, M) by simp [Mach.put, his, hk])
    clear his
    go_enter Try.func38, Try.ntmps38
    go_wp2_with (first | (go_at_call 39; refine (at_yes _ M.n j _ hn2 hj hsz).mono ?_; rintro e w' ⟨rfl, rfl⟩) | (go_at_call 50; refine (isKind_no _ _ hk).mono ?_; rintro e w' ⟨rfl, rfl⟩))
    go_ret
    rw [H.out]
    exact ⟨rfl, hM, World.grownBy.refl _ _⟩
  have hk0 : 0 ≤ k := by omega
  have hk3 : k ≤ 3 := by omega
  have H := hid (show M.put j k = M.drop j k by simp [Mach.put, his, hk])
  have HT := hid (drop_any b j k w M T hM hj' hf ht hT hk0 hk3)
  clear his hk
  go_enter Try.func38, Try.ntmps38
  go_wp2_with (first | (go_at_call 39; refine (at_yes _ M.n j _ hn2 hj hsz).mono ?_; rintro e w' ⟨rfl, rfl⟩) | (go_at_call 50; refine (isKind_yes _ _ hk0 hk3).mono ?_; rintro e w' ⟨rfl, rfl⟩) | (go_at_call 51; refine HT.out.mono ?_; rintro e w' ⟨rfl, HP⟩; have HQ := hid HP; clear HP))
  go_ret
  rw [H.out]
  exact ⟨rfl, HQ.out⟩

end Go.Proofs.Ytbbaplcfhofeeaa

/-
  What the program's own check says of a type's zero value: it is made of its parts' zero values. Nothing is computed here.
-/
set_option linter.unusedSimpArgs false
set_option linter.unusedVariables false
namespace Go.Proofs.Ytbbaplcfhofeeaa

theorem bind_ok {ε α β : Type} {x : Except ε α} {f : α → Except ε β} {b : β} (h : (x >>= f) = .ok b) : ∃ a, x = .ok a ∧ f a = .ok b := by
  cases x with
  | error e => cases h
  | ok a => exact ⟨a, rfl, h⟩
theorem req_ok {b : Bool} {m : String} {u : Unit} (h : Check.require b m = .ok u) : b = true := by
  unfold Check.require at h
  split at h
  · assumption
  · cases h
theorem same_eq {a b : Value} (h : Check.sameZero a b = true) : a = b := by
  unfold Check.sameZero at h
  split at h <;> first | rfl | (simp at h; simp [h]; done) | (cases h; done) | skip
  rename_i s s'
  simp only [Bool.and_eq_true] at h
  have e : ∀ x : ByteArray, x.isEmpty = true → x = ByteArray.empty := fun x hx => by
    cases x with | mk d =>
    simp only [ByteArray.isEmpty, ByteArray.size, beq_iff_eq] at hx
    have : d = #[] := Array.eq_empty_of_size_eq_zero hx
    rw [this]; rfl
  rw [e s h.1, e s' h.2]
def partZero (p : Tables) (u : TypeId) : List Value := (Option.map (fun x => x.cells.toList) (p.types[u]?.getD default).zero).getD []
theorem list_eq_of_same : ∀ (a b : List Value), a.length = b.length → ((a.zip b).all fun x => Check.sameZero x.1 x.2) = true → a = b
  | [], [], _, _ => rfl
  | x :: a, y :: b, hl, h => by
    simp only [List.zip_cons_cons, List.all_cons, Bool.and_eq_true] at h
    rw [same_eq h.1, list_eq_of_same a b (by simpa using hl) h.2]
theorem made_eq {z : Value} {w : List Value} {size : Nat} (h : (z.cells.size == size && w.length == size && (z.cells.toList.zip w).all fun x => Check.sameZero x.1 x.2) = true) : z.cells.toList = w := by
  simp only [Bool.and_eq_true, beq_iff_eq] at h
  exact list_eq_of_same _ _ (by simp [h.1.1, h.1.2]) h.2
theorem type_array {p : Tables} {nf i : Nat} {t : TypeInfo} {z : Value} {n : Nat} {e : TypeId} (h : Check.type p nf i t = .ok ()) (hz : t.zero = some z) (hd : t.desc = .array n e) :
    z.cells.toList = (List.replicate (if ((p.types[e]?.getD default).size == 0) = true then 0 else n) e).flatMap (partZero p) := by
  unfold Check.type at h
  simp only [hz, hd] at h
  obtain ⟨size, -, h⟩ := bind_ok h
  obtain ⟨_, -, h⟩ := bind_ok h
  obtain ⟨_, -, h⟩ := bind_ok h
  obtain ⟨_, -, h⟩ := bind_ok h
  obtain ⟨_, -, h⟩ := bind_ok h
  obtain ⟨_, -, h⟩ := bind_ok h
  obtain ⟨_, -, h⟩ := bind_ok h
  obtain ⟨_, hw, -⟩ := bind_ok h
  obtain ⟨_, -, hw⟩ := bind_ok hw
  obtain ⟨_, -, hw⟩ := bind_ok hw
  exact made_eq (req_ok hw)
theorem type_struct {p : Tables} {nf i : Nat} {t : TypeInfo} {z : Value} {fs : Array Field} (h : Check.type p nf i t = .ok ()) (hz : t.zero = some z) (hd : t.desc = .struct fs) :
    z.cells.toList = (fs.toList.map (·.type)).flatMap (partZero p) := by
  unfold Check.type at h
  simp only [hz, hd] at h
  obtain ⟨size, -, h⟩ := bind_ok h
  obtain ⟨_, -, h⟩ := bind_ok h
  obtain ⟨_, -, h⟩ := bind_ok h
  obtain ⟨_, -, h⟩ := bind_ok h
  obtain ⟨_, -, h⟩ := bind_ok h
  obtain ⟨_, -, h⟩ := bind_ok h
  obtain ⟨_, -, h⟩ := bind_ok h
  obtain ⟨_, hw, -⟩ := bind_ok h
  obtain ⟨_, -, hw⟩ := bind_ok hw
  obtain ⟨_, -, hw⟩ := bind_ok hw
  exact made_eq (req_ok hw)
theorem type_named {p : Tables} {nf i : Nat} {t : TypeInfo} {z : Value} {n : String} {u : TypeId} (h : Check.type p nf i t = .ok ()) (hz : t.zero = some z) (hd : t.desc = .named n u) :
    z.cells.toList = partZero p u := by
  unfold Check.type at h
  simp only [hz, hd] at h
  split at h
  · obtain ⟨_, hx, -⟩ := bind_ok h
    cases hx
  obtain ⟨size, -, h⟩ := bind_ok h
  obtain ⟨_, -, h⟩ := bind_ok h
  obtain ⟨_, -, h⟩ := bind_ok h
  obtain ⟨_, -, h⟩ := bind_ok h
  obtain ⟨_, -, h⟩ := bind_ok h
  obtain ⟨_, -, h⟩ := bind_ok h
  obtain ⟨_, -, h⟩ := bind_ok h
  obtain ⟨_, hw, -⟩ := bind_ok h
  obtain ⟨_, -, hw⟩ := bind_ok hw
  obtain ⟨_, -, hw⟩ := bind_ok hw
  simpa [partZero] using made_eq (req_ok hw)
theorem forM_all {α : Type} {f : α → Except String Unit} : ∀ (l : List α), l.forM f = .ok () → ∀ x ∈ l, f x = .ok ()
  | [], _, x, hx => by cases hx
  | y :: l, h, x, hx => by
    have h' : (f y >>= fun _ => l.forM f) = .ok () := h
    obtain ⟨u, h1, h2⟩ := bind_ok h'
    cases hx with
    | head => exact h1
    | tail _ hm => exact forM_all l h2 x hm
/-- every type of the program has passed its check -/
def WfTypes (p : Source) : Prop := ∀ i t, p.types[i]? = some t → Check.type p.toTables p.decls.size i t = .ok ()
theorem wfTypes : WfTypes Try.src := by
  intro i t ht
  have hi : i < Try.src.types.size := (Array.getElem?_eq_some_iff.1 ht).1
  have h := forM_all _ Try.wf.types i (by simpa using hi)
  unfold Check.typeAt at h
  rw [ht] at h
  simp only [Option.getD_some] at h
  cases hc : Check.type Try.src.toTables Try.src.decls.size i t with
  | ok u => rfl
  | error e => rw [hc] at h; cases h
section
variable {p : Source} {i : Nat} {t : TypeInfo} {cs : Array Value}
theorem zero_named (hp : WfTypes p) {n : String} {u : TypeId} (ht : p.types[i]? = some t) (hz : t.zero = some (.agg cs)) (hd : t.desc = .named n u) : cs.toList = partZero p.toTables u := type_named (hp i t ht) hz hd
theorem zero_struct (hp : WfTypes p) {fs : Array Field} (ht : p.types[i]? = some t) (hz : t.zero = some (.agg cs)) (hd : t.desc = .struct fs) : cs.toList = (fs.toList.map (·.type)).flatMap (partZero p.toTables) := type_struct (hp i t ht) hz hd
theorem zero_array (hp : WfTypes p) {n : Nat} {e : TypeId} (ht : p.types[i]? = some t) (hz : t.zero = some (.agg cs)) (hd : t.desc = .array n e) {s : Nat} (hs : (p.types[e]?.getD default).size = s) (h0 : (s == 0) = false) :
    cs.toList = (List.replicate n (partZero p.toTables e)).flatten := by
  have h := type_array (hp i t ht) hz hd
  rw [hs, h0] at h
  simp only [Value.cells, Bool.false_eq_true, if_false] at h
  rw [h, List.flatMap_replicate]
end
theorem partZero_of {p : Tables} {u : TypeId} {cs : Array Value} (h : (p.info? u).bind (·.zero) = some (.agg cs)) (hu : u < p.types.size) : partZero p u = cs.toList := by
  unfold Tables.info? at h
  rw [if_pos hu] at h
  unfold partZero
  cases ht : p.types[u]? with
  | none => rw [ht] at h; cases h
  | some t =>
    rw [ht] at h
    simp only [Option.bind_some] at h
    simp [h, Value.cells]
theorem getElem?_flatten_rep {α : Type} (l : List α) (s : Nat) (hl : l.length = s) : ∀ (n k : Nat), k < n * s → (List.replicate n l).flatten[k]? = l[k % s]?
  | 0, k, h => by omega
  | n + 1, k, h => by
    rw [List.replicate_succ, List.flatten_cons]
    by_cases hk : k < s
    · rw [List.getElem?_append_left (by omega), Nat.mod_eq_of_lt hk]
    · rw [List.getElem?_append_right (by omega), hl, getElem?_flatten_rep l s hl n (k - s) (by rw [Nat.add_mul] at h; omega)]
      congr 1
      rw [Nat.mod_eq_sub_mod (by omega : k ≥ s)]
theorem length_flatten_rep {α : Type} (l : List α) (s : Nat) (hl : l.length = s) : ∀ n : Nat, (List.replicate n l).flatten.length = n * s
  | 0 => by simp
  | n + 1 => by rw [List.replicate_succ, List.flatten_cons, List.length_append, hl, length_flatten_rep l s hl n, Nat.add_mul]; omega

end Go.Proofs.Ytbbaplcfhofeeaa

/-
  The zero values of a frame and of a machine; a frame as cells; a frame stored whole.
-/
set_option linter.unusedSimpArgs false
set_option linter.unusedVariables false
namespace Go.Proofs.Ytbbaplcfhofeeaa
open Go.RowKit

def isZ64 : Value → Bool
  | .int .i64 (.ofNat 0) => true
  | _ => false
def isZ8 : Value → Bool
  | .int .u8 (.ofNat 0) => true
  | _ => false
theorem isZ64_eq {v : Value} (h : isZ64 v = true) : v = .int .i64 0 := by
  unfold isZ64 at h; split at h
  · rfl
  · cases h
theorem isZ8_eq {v : Value} (h : isZ8 v = true) : v = .int .u8 0 := by
  unfold isZ8 at h; split at h
  · rfl
  · cases h
def eat (p : Value → Bool) : Nat → List Value → Option (List Value)
  | 0, l => some l
  | n + 1, v :: l => match p v with | true => eat p n l | false => none
  | _ + 1, [] => none
theorem eat_spec {p : Value → Bool} : ∀ (n : Nat) (l r : List Value), eat p n l = some r → ∃ a, l = a ++ r ∧ a.length = n ∧ ∀ v ∈ a, p v = true
  | 0, l, r, h => ⟨[], by simp [eat] at h; simp [h], rfl, by simp⟩
  | n + 1, v :: l, r, h => by
    cases hp : p v with
    | false => simp [eat, hp] at h
    | true =>
      simp only [eat, hp] at h
      obtain ⟨a, ha, hl, hv⟩ := eat_spec n l r h
      exact ⟨v :: a, by simp [ha], by simp [hl], by simp; exact ⟨hp, hv⟩⟩
  | n + 1, [], r, h => by simp [eat] at h
def eatFr (l : List Value) : Option (List Value) := match eat isZ64 4 l with | some r => eat isZ8 256 r | none => none
def zeroFr : Fr := ⟨0, 0, 0, 0, fun _ => 0⟩
def Fr.cells (f : Fr) : Array Value := ⟨(List.range 260).map f.cell⟩
theorem Fr.size_cells (f : Fr) : f.cells.size = 260 := by simp [Fr.cells]
theorem Fr.get_cells (f : Fr) (r : Nat) (h : r < 260) : f.cells[r]? = some (f.cell r) := by simp [Fr.cells, h]
theorem Fr.one_cell (f : Fr) (r : Nat) : (f.cell r).oneCell' = true := by
  unfold Fr.cell; split <;> rfl
theorem Fr.all_one (f : Fr) : ∀ v ∈ f.cells.toList, v.oneCell' = true := by
  intro v hv
  simp only [Fr.cells, List.mem_map] at hv
  obtain ⟨r, _, rfl⟩ := hv
  exact f.one_cell r

theorem eatFr_spec {l r : List Value} (h : eatFr l = some r) : l = zeroFr.cells.toList ++ r := by
  unfold eatFr at h
  split at h
  · rename_i r1 h1
    obtain ⟨a, rfl, hl, hv⟩ := eat_spec _ _ _ h1
    obtain ⟨c, rfl, hl2, hv2⟩ := eat_spec _ _ _ h
    rw [← List.append_assoc]
    congr 1
    apply List.ext_getElem?
    intro k
    by_cases hk : k < 4
    · rw [List.getElem?_append_left (by omega)]
      have hg := List.getElem?_eq_getElem (l := a) (i := k) (by omega)
      rw [hg, isZ64_eq (hv _ (List.getElem_mem (by omega)))]
      have := zeroFr.get_cells k (by omega)
      simp only [Array.getElem?_toList, this]
      match k, hk with | 0, _ => rfl | 1, _ => rfl | 2, _ => rfl | 3, _ => rfl
    · by_cases hk2 : k < 260
      · rw [List.getElem?_append_right (by omega)]
        have hg := List.getElem?_eq_getElem (l := c) (i := k - a.length) (by omega)
        rw [hg, isZ8_eq (hv2 _ (List.getElem_mem (by omega)))]
        have := zeroFr.get_cells k (by omega)
        simp only [Array.getElem?_toList, this]
        match k, hk with | k + 4, _ => rfl
      · rw [List.getElem?_eq_none (by simp; omega), List.getElem?_eq_none (by simp [zeroFr.size_cells]; omega)]
  · cases h
attribute [irreducible] Fr.cells

/-- a machine whose frames are all one frame -/
def flatMach (n : Int) (f : Fr) : Mach := ⟨n, fun _ => f⟩
theorem okZero55_eq : (match (Try.prog.info? 65).bind (·.zero) with | some (.agg cs) => (match eatFr cs.toList with | some [] => true | _ => false) | _ => false) = true := by kernel_rfl
set_option maxRecDepth 100000 in
theorem zero55 : (Try.prog.info? 65).bind (·.zero) = some (.agg zeroFr.cells) := by
  have h := okZero55_eq
  split at h
  · rename_i cs hc
    split at h
    · rename_i h1
      have := eatFr_spec h1
      rw [hc]
      congr 2
      apply Array.toList_inj.1
      simpa using this
    · cases h
  · cases h
set_option maxRecDepth 100000 in
theorem zero58 : (Try.prog.info? 68).bind (·.zero) = some (.agg (flatMach 0 zeroFr).cells) := by
  obtain ⟨t, ht, hz⟩ : ∃ t, Try.src.types[68]? = some t ∧ ∃ cs, t.zero = some (.agg cs) := ⟨_, rfl, _, rfl⟩
  obtain ⟨cs, hz⟩ := hz
  have e58 := zero_named (p := Try.src) wfTypes (u := 67) ht hz (by have : Try.src.types[68]?.map (·.desc) = some (.named "tenement/phys.Machine" 67) := rfl; rw [ht] at this; simpa using this)
  obtain ⟨t7, ht7, cs7, hz7⟩ : ∃ t, Try.src.types[67]? = some t ∧ ∃ cs, t.zero = some (.agg cs) := ⟨_, rfl, _, rfl⟩
  have e57 := zero_struct (p := Try.src) wfTypes ht7 hz7 (fs := _) (by have : Try.src.types[67]?.map (·.desc) = some (.struct #[{ name := "size", type := 3, offset := 0, embedded := false, tag := "", pkgPath := "tenement/phys", byteOffset := 0 }, { name := "frames", type := 66, offset := 1, embedded := false, tag := "", pkgPath := "tenement/phys", byteOffset := 8 }]) := rfl; rw [ht7] at this; simpa using this)
  obtain ⟨t6, ht6, cs6, hz6⟩ : ∃ t, Try.src.types[66]? = some t ∧ ∃ cs, t.zero = some (.agg cs) := ⟨_, rfl, _, rfl⟩
  have e56 := zero_array (p := Try.src) wfTypes (n := 256) (e := 65) ht6 hz6 (by have : Try.src.types[66]?.map (·.desc) = some (.array 256 65) := rfl; rw [ht6] at this; simpa using this) (s := 260) rfl (by decide)
  have p55 : partZero Try.src.toTables 65 = zeroFr.cells.toList := partZero_of (show (Try.src.info? 65).bind (·.zero) = _ from zero55) (by decide)
  have p3 : partZero Try.src.toTables 3 = [.int .i64 0] := rfl
  have p56 : partZero Try.src.toTables 66 = cs6.toList := by simp [partZero, ht6, hz6, Value.cells]
  have p57 : partZero Try.src.toTables 67 = cs7.toList := by simp [partZero, ht7, hz7, Value.cells]
  simp only [List.map_cons, List.map_nil, List.flatMap_cons, List.flatMap_nil, List.append_nil, p3, p56] at e57
  rw [p57, e57, e56, p55] at e58
  have hcs : cs = (flatMach 0 zeroFr).cells := by
    have hl : cs.toList.length = 1 + 256 * 260 := by
      rw [e58, List.length_append, List.length_singleton, length_flatten_rep _ 260 (by rw [Array.length_toList, zeroFr.size_cells])]
    refine Mach.cells_ext (by rw [← Array.length_toList, hl, cellsN_eq]) fun k hk => ?_
    rw [← Array.getElem?_toList, e58]
    cases k with
    | zero => rfl
    | succ k =>
      rw [cellsN_eq] at hk
      rw [List.getElem?_append_right (by simp), List.length_singleton, Nat.add_sub_cancel]
      rw [getElem?_flatten_rep zeroFr.cells.toList 260 (by rw [Array.length_toList, zeroFr.size_cells]) 256 k (by omega), Array.getElem?_toList, zeroFr.get_cells (k % 260) (by omega)]
      rfl
  rw [← hcs]
  show (Try.src.types[68]?).bind (·.zero) = _
  rw [ht]
  exact hz
theorem size58 : (Try.prog.info? 68).map (·.size) = some cellsN := by rw [cellsN_eq]; kernel_rfl
theorem size55 : (Try.prog.info? 65).map (·.size) = some 260 := by kernel_rfl

end Go.Proofs.Ytbbaplcfhofeeaa
