/-
  Contracts of package tenementref01: Free.
-/
import Derived.Test.YtkdoaidcmmehoaaRefE
set_option linter.unusedSimpArgs false
set_option linter.unusedVariables false
namespace Go.Proofs.Ytkdoaidcmmehoaa
open Go.RowKit
set_option maxHeartbeats 400000

/-- a new page -/
def zeros : Array Value := madeCells #[.int .u8 0] 256
theorem zeros_size : zeros.size = 256 := size_madeCells _ _
theorem zeros_at (k : Nat) (h : k < 256) : zeros[k]? = some (.int .u8 0) := by
  unfold zeros
  simp [madeCells, h, Nat.mod_one]
attribute [irreducible] zeros
theorem make_zeros (W : World) : (Instr.makeSlice 31 (.int .i64 256) (.int .i64 256)).run Try.prog W = .ok (.slice (some ⟨W.heap.size, 0, none⟩) 256 256) (W.alloc (.cells zeros 5)) := by
  have := u8_make W 256 (by omega)
  unfold zeros
  exact this
theorem zeros_row (W : World) : Row (W.alloc (.cells zeros 5)) W.heap.size 5 256 (byt blankFr) :=
  ⟨zeros, heap_alloc_new W _, by rw [zeros_size]; omega, fun k hk => by rw [zeros_at k hk]; rfl⟩

theorem free_left {w W : World} {b : Nat} {M : Mach} {L : Lay} {j : Nat} (h : RM W b (M.upd j { M.fr j with owner := -1 }) L) (hc : Chg (L.foot b) w W) (hj : j < L.n) (h1 : (M.fr j).ty = 0) (h2 : (M.fr j).cnt = 0) (h3 : (M.fr j).tot = 0) :
    ∃ L', RM ((W.alloc (.cells zeros 5)).setCell ⟨L.fB, j, none⟩ (.slice (some ⟨W.heap.size, 0, none⟩) 256 256)).drew b (M.upd j blankFr) L' ∧ L'.n = L.n ∧
      Chg (L.foot b) w ((W.alloc (.cells zeros 5)).setCell ⟨L.fB, j, none⟩ (.slice (some ⟨W.heap.size, 0, none⟩) 256 256)).drew ∧ ∀ k, L'.foot b k → L.foot b k ∨ w.heap.size ≤ k := by
  have h' := (h.grown (World.grownBy_alloc W (.cells zeros 5) none)).setRow hj (f := blankFr) (G := W.heap.size) (c := 256) (by omega) (zeros_row W) (fun i hi e => by
    have := (h.row i hi).lt
    omega) (fun q hq => by
    rw [Mach.upd_same]
    match q, hq with
    | 0, _ => rfl
    | 1, _ => simp [Fr.cell, blankFr, h1]
    | 2, _ => simp [Fr.cell, blankFr, h2]
    | 3, _ => simp [Fr.cell, blankFr, h3])
  rw [Mach.upd_upd] at h'
  have st : ∀ k, L.foot b k → L.foot b k ∨ w.heap.size ≤ k := fun _ h => .inl h
  refine ⟨_, h'.grown (grownBy_drew _ none), rfl, ((hc.trans (Chg.of0 (S := L.foot b) (World.grownBy_alloc W (.cells zeros 5) none)) st).trans (Chg.of (S := L.foot b) (grownBy_setCell _ L.fB j none _) fun k e => .inl (.inr (.inr (.inl (Option.some.inj e).symm)))) st).trans (Chg.of0 (S := L.foot b) (grownBy_drew _ none)) st, fun k hk => ?_⟩
  rcases hk with rfl | rfl | rfl | ⟨i, hi, rfl⟩
  · exact .inl (.inl rfl)
  · exact .inl (.inr (.inl rfl))
  · exact .inl (.inr (.inr (.inl rfl)))
  · simp only
    split
    · exact .inr hc.size
    · exact .inl (.inr (.inr (.inr ⟨i, hi, rfl⟩)))

set_option maxRecDepth 100000 in
theorem rFree (b : Nat) (i : Int) (w : World) (M : Mach) (L : Lay) (T : Int) (h : RM w b M L) (hok : M.ok T) :
    Calls Try.prog 72 #[.pointer (some ⟨b, 0, none⟩), .int .i64 i] w (RLeft b L w (M.free i).1 (M.free i).2) := by
  by_cases hi : i < 0 ∨ M.n ≤ i
  · have H := hid (show M.free i = (1, M) by simp [Mach.free, Mach.is_no hi])
    go_enter Try.func72, Try.ntmps72
    go_wp2_with (go_at_call 131; refine (Is_no _ _ _ _ _ h hi).mono ?_; rintro e w' ⟨rfl, rfl⟩)
    go_ret
    rw [H.out]
    exact RLeft.same h
  obtain ⟨j, rfl⟩ := Int.eq_ofNat_of_zero_le (show 0 ≤ i by omega)
  have hjn : (j : Int) < M.n := by omega
  have hj : j < L.n := by have := h.hn; omega
  have his : M.is j = true := Mach.is_yes (by omega) hjn
  obtain ⟨hf, ht⟩ := hok.fr j hjn
  have hc0 := hf.c0; have hct := hf.ct; have hzz := hf.z
  have HM := hid h
  have hj' : (j : Int) < L.n := by omega
  have hj0 : (0 : Int) ≤ j := by omega
  clear hi hjn hf
  by_cases hfree : (M.fr j).owner = -1
  · have H := hid (show M.free j = (11, M) by simp [Mach.free, his, hfree])
    have HO := hid hfree
    clear his hfree hzz
    go_enter Try.func72, Try.ntmps72
    go_wp2_with (first | (go_at_call 131; refine (Is_yes _ _ _ _ _ HM.out hj).mono ?_; rintro e w' ⟨rfl, rfl⟩) | (go_at_call 132; refine (still_free _ _ _ _ _ HM.out hj HO.out).mono ?_; rintro e w' ⟨rfl, rfl⟩))
    go_ret
    rw [H.out]
    exact RLeft.same HM.out
  have hfb := hid (show ((M.fr j).owner == -1) = false by simp [hfree])
  by_cases hb : (M.fr j).tot = 0
  · have H := hid (show M.free j = (0, M.upd j blankFr) by simp [Mach.free, his, hfree, hb])
    have HB := hid hb
    have hcz : (M.fr j).cnt = 0 := by omega
    have hty := hzz.1 hcz
    have hb0 : (M.fr j).ty = 0 ∧ (M.fr j).cnt = 0 ∧ (M.fr j).tot = 0 := ⟨hty, hcz, hb⟩
    have HB0 := hid hb0
    clear hb0 hty hcz
    obtain ⟨c0, d0, d1, d2, d3, f0, f1, f2, f3⟩ := h.nine hj
    have cB := h.slB; have cb := h.sl hj; have fb := h.bs.frozen j
    have hBF := h.fr.type_ne h.bs (by decide)
    clear his hfree hb hzz h
    go_enter Try.func72, Try.ntmps72
    go_wp2_with (first | (go_at_call 131; refine (Is_yes _ _ _ _ _ HM.out hj).mono ?_; rintro e w' ⟨rfl, rfl⟩) | (go_at_call 132; refine (still_no _ _ _ _ _ HM.out hj hfb.out HB.out).mono ?_; rintro e w' ⟨rfl, rfl⟩))
    obtain ⟨W1, hW1⟩ : ∃ W1, w.setCell ⟨L.fF, j * 4, none⟩ (.int .i64 (-1)) = W1 := ⟨_, rfl⟩
    have HM1 := hid (show RM W1 b (M.upd j { M.fr j with owner := -1 }) L from hW1 ▸ HM.out.setOwner hj (-1))
    have HC1 := hid (show Chg (L.foot b) w W1 from hW1 ▸ chgF b L w _ _)
    rw [hW1]
    clear c0 d0 d1 d2 d3 f0 f1 f2 f3 cB cb fb hW1
    have c0 := HM1.out.slB; have c1 := HM1.out.sl hj; have f1 := HM1.out.bs.frozen j
    have hmk := make_zeros
    have HM2 := hid (HM1.out.grown (World.grownBy_alloc W1 (.cells zeros 5) none))
    have c0' := HM2.out.slB; have c1' := HM2.out.sl hj; have f1' := HM2.out.bs.frozen j
    go_region
    all_goals go_wp2
    all_goals go_ret
    all_goals rw [H.out]
    all_goals exact ⟨rfl, free_left HM1.out HC1.out hj HB0.out.1 HB0.out.2.1 HB0.out.2.2⟩
  · have htb := hid (show ((M.fr j).tot != 0) = true by simp [hb])
    have H := hid (show M.free j = (9, M) by simp [Mach.free, his, hfree, hb])
    clear his hfree hb hzz
    go_enter Try.func72, Try.ntmps72
    go_wp2_with (first | (go_at_call 131; refine (Is_yes _ _ _ _ _ HM.out hj).mono ?_; rintro e w' ⟨rfl, rfl⟩) | (go_at_call 132; refine (still_busy _ _ _ _ _ HM.out hj hfb.out htb.out).mono ?_; rintro e w' ⟨rfl, rfl⟩))
    go_ret
    rw [H.out]
    exact RLeft.same HM.out
end Go.Proofs.Ytkdoaidcmmehoaa
