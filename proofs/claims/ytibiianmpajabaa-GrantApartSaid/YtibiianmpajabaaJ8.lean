/-
  Contracts of package tenementref01: Put.
-/
import Derived.Test.YtibiianmpajabaaRefD
import Derived.Deep.AppendLies
import Derived.Deep.RegionLaw
set_option linter.unusedSimpArgs false
set_option linter.unusedVariables false
namespace Go.Proofs.Ytibiianmpajabaa
open Go.RowKit
set_option maxHeartbeats 400000

theorem rPut (b : Nat) (i k : Int) (w : World) (M : Mach) (L : Lay) (T : Int) (h : RM w b M L) (hok : M.ok T) (hT : T < 9223372036854775807) :
    Calls Try.prog 72 #[.pointer (some ⟨b, 0, none⟩), .int .i64 i, .int .i64 k] w (RLeft b L w (M.put i k).1 (M.put i k).2) := by
  by_cases hi : i < 0 ∨ M.n ≤ i
  · have H := hid (show M.put i k = (1, M) by simp [Mach.put, Mach.is_no hi])
    go_enter Try.func72, Try.ntmps72
    go_wp2_with (go_at_call 124; refine (Is_no _ _ _ _ _ h hi).mono ?_; rintro e w' ⟨rfl, rfl⟩)
    go_ret
    rw [H.out]
    exact RLeft.same h
  obtain ⟨j, rfl⟩ := Int.eq_ofNat_of_zero_le (show 0 ≤ i by omega)
  have hjn : (j : Int) < M.n := by omega
  have hj : j < L.n := by have := h.hn; omega
  have his : M.is j = true := Mach.is_yes (by omega) hjn
  obtain ⟨hf, ht⟩ := hok.fr j hjn
  have hc0 := hf.c0; have hct := hf.ct; have hzz := hf.z
  have HM := hid h
  have hj' : (j : Int) < L.n := by omega
  have hj0 : (0 : Int) ≤ j := by omega
  clear hi hjn hf
  by_cases hk : k < 0 ∨ 3 < k
  · have H := hid (show M.put j k = (1, M) by simp [Mach.put, his, hk])
    clear his hzz
    rcases hk with hk | hk
    all_goals
      go_enter Try.func72, Try.ntmps72
      go_wp2_with (go_at_call 124; refine (Is_yes _ _ _ _ _ HM.out hj).mono ?_; rintro e w' ⟨rfl, rfl⟩)
      go_ret
      rw [H.out]
      exact RLeft.same HM.out
  have hk0 : 0 ≤ k := by omega
  have hk3 : k ≤ 3 := by omega
  obtain ⟨c0, d0, d1, d2, d3, f0, f1, f2, f3⟩ := h.nine hj
  clear h
  have H := hid (show M.put j k = M.drop j k by simp [Mach.put, his, hk])
  clear his hk
  by_cases hkz : k = 0
  · subst hkz
    by_cases htc : (M.fr j).tot = (M.fr j).cnt
    · have H := hid (show M.put j 0 = (14, M) by rw [H.out]; simp [Mach.drop, htc])
      have hb1 : ((M.fr j).cnt == (M.fr j).cnt) = true := by simp
      rw [htc] at d3
      clear hzz htc
      go_enter Try.func72, Try.ntmps72
      go_wp2_with (go_at_call 124; refine (Is_yes _ _ _ _ _ HM.out hj).mono ?_; rintro e w' ⟨rfl, rfl⟩)
      go_ret
      rw [H.out]
      exact ⟨rfl, L, HM.out.grown (World.grownBy_alloc _ _ none), rfl, Chg.of0 (World.grownBy_alloc _ _ none), fun _ h => .inl h⟩
    have htb : ((M.fr j).tot == (M.fr j).cnt) = false := by simp [htc]
    have hlt : (M.fr j).cnt < (M.fr j).tot := by omega
    by_cases hcz : (M.fr j).cnt = 0
    · have hty := hzz.1 hcz
      have H := hid (show M.put j 0 = (0, M.upd j { M.fr j with ty := 0, cnt := 0, tot := (M.fr j).tot - 1 }) by rw [H.out]; simp only [Mach.drop, Fr.dropped]; rw [if_neg (by omega)]; simp only [if_true, hty, hcz])
      have htb0 : ((M.fr j).tot == 0) = false := by rw [hcz] at htb; exact htb
      rw [hcz] at d2
      rw [hty] at d1
      clear hzz htc
      go_enter Try.func72, Try.ntmps72
      go_wp2_with (go_at_call 124; refine (Is_yes _ _ _ _ _ HM.out hj).mono ?_; rintro e w' ⟨rfl, rfl⟩)
      obtain ⟨W1, hW1, hs1, e0, e1, e2, e3⟩ := box4 w (.int .i64 (M.fr j).owner) (.int .i64 0) (.int .i64 0) (.int .i64 ((M.fr j).tot - 1))
      have HM1 := hid (show RM W1 b M L from hW1 ▸ HM.out.grown (World.grownBy_alloc _ _ none))
      have HG1 := hid (show w.grownBy W1 none from hW1 ▸ World.grownBy_alloc _ _ none)
      clear c0 d0 d1 d2 d3 f0 f1 f2 f3
      obtain ⟨c0, d0, d1, d2, d3, f0, f1, f2, f3⟩ := HM1.out.nine hj
      rw [hW1]
      clear hW1
      go_region
      all_goals go_wp2
      all_goals go_ret
      all_goals rw [H.out]
      all_goals exact ⟨rfl, HM1.out.setAll HG1.out hj { M.fr j with ty := 0, cnt := 0, tot := (M.fr j).tot - 1 } rfl⟩
    · have hcb : ((M.fr j).cnt == 0) = false := by simp [hcz]
      have H := hid (show M.put j 0 = (0, M.upd j { M.fr j with tot := (M.fr j).tot - 1 }) by rw [H.out]; simp [Mach.drop, Fr.dropped, htc])
      clear hzz htc hcz
      go_enter Try.func72, Try.ntmps72
      go_wp2_with (go_at_call 124; refine (Is_yes _ _ _ _ _ HM.out hj).mono ?_; rintro e w' ⟨rfl, rfl⟩)
      obtain ⟨W1, hW1, hs1, e0, e1, e2, e3⟩ := box4 w (.int .i64 (M.fr j).owner) (.int .i64 (M.fr j).ty) (.int .i64 (M.fr j).cnt) (.int .i64 ((M.fr j).tot - 1))
      have HM1 := hid (show RM W1 b M L from hW1 ▸ HM.out.grown (World.grownBy_alloc _ _ none))
      have HG1 := hid (show w.grownBy W1 none from hW1 ▸ World.grownBy_alloc _ _ none)
      clear c0 d0 d1 d2 d3 f0 f1 f2 f3
      obtain ⟨c0, d0, d1, d2, d3, f0, f1, f2, f3⟩ := HM1.out.nine hj
      rw [hW1]
      clear hW1
      go_region
      all_goals go_wp2
      all_goals go_ret
      all_goals rw [H.out]
      all_goals exact ⟨rfl, HM1.out.setAll HG1.out hj { M.fr j with tot := (M.fr j).tot - 1 } rfl⟩
  have hkb : (k == 0) = false := by simp [hkz]
  have hkn : (k != 0) = true := by simp [hkz]
  by_cases hty : (M.fr j).ty = k
  · have hcz : (M.fr j).cnt ≠ 0 := fun e => hkz (hty ▸ hzz.1 e)
    have hcb : ((M.fr j).cnt == 0) = false := by simp [hcz]
    have htb : (k != k) = false := by simp
    by_cases hc1 : (M.fr j).cnt = 1
    · have H := hid (show M.put j k = (0, M.upd j { M.fr j with ty := 0, cnt := 0, tot := (M.fr j).tot - 1 }) by rw [H.out]; simp [Mach.drop, Fr.dropped, hkz, hty, hc1])
      rw [hty] at d1
      rw [hc1] at d2 hct
      clear hzz hcz hkz hty hcb hc1
      go_enter Try.func72, Try.ntmps72
      go_wp2_with (go_at_call 124; refine (Is_yes _ _ _ _ _ HM.out hj).mono ?_; rintro e w' ⟨rfl, rfl⟩)
      obtain ⟨W1, hW1, hs1, e0, e1, e2, e3⟩ := box4 w (.int .i64 (M.fr j).owner) (.int .i64 0) (.int .i64 0) (.int .i64 ((M.fr j).tot - 1))
      have HM1 := hid (show RM W1 b M L from hW1 ▸ HM.out.grown (World.grownBy_alloc _ _ none))
      have HG1 := hid (show w.grownBy W1 none from hW1 ▸ World.grownBy_alloc _ _ none)
      clear c0 d0 d1 d2 d3 f0 f1 f2 f3
      obtain ⟨c0, d0, d1, d2, d3, f0, f1, f2, f3⟩ := HM1.out.nine hj
      rw [hW1]
      clear hW1
      go_region
      all_goals go_wp2
      all_goals go_ret
      all_goals rw [H.out]
      all_goals exact ⟨rfl, HM1.out.setAll HG1.out hj { M.fr j with ty := 0, cnt := 0, tot := (M.fr j).tot - 1 } rfl⟩
    · have H := hid (show M.put j k = (0, M.upd j { M.fr j with ty := k, cnt := (M.fr j).cnt - 1, tot := (M.fr j).tot - 1 }) by rw [H.out]; simp [Mach.drop, Fr.dropped, hkz, hty, hc1])
      have hc1b : ((M.fr j).cnt - 1 == 0) = false := by simp; omega
      have hcp : 1 ≤ (M.fr j).cnt := by omega
      rw [hty] at d1
      clear hzz hcz hkz hty hc1
      go_enter Try.func72, Try.ntmps72
      go_wp2_with (go_at_call 124; refine (Is_yes _ _ _ _ _ HM.out hj).mono ?_; rintro e w' ⟨rfl, rfl⟩)
      obtain ⟨W1, hW1, hs1, e0, e1, e2, e3⟩ := box4 w (.int .i64 (M.fr j).owner) (.int .i64 k) (.int .i64 ((M.fr j).cnt - 1)) (.int .i64 ((M.fr j).tot - 1))
      have HM1 := hid (show RM W1 b M L from hW1 ▸ HM.out.grown (World.grownBy_alloc _ _ none))
      have HG1 := hid (show w.grownBy W1 none from hW1 ▸ World.grownBy_alloc _ _ none)
      clear c0 d0 d1 d2 d3 f0 f1 f2 f3
      obtain ⟨c0, d0, d1, d2, d3, f0, f1, f2, f3⟩ := HM1.out.nine hj
      rw [hW1]
      clear hW1
      go_region
      all_goals go_wp2
      all_goals go_ret
      all_goals rw [H.out]
      all_goals exact ⟨rfl, HM1.out.setAll HG1.out hj { M.fr j with ty := k, cnt := (M.fr j).cnt - 1, tot := (M.fr j).tot - 1 } rfl⟩
  · have H := hid (show M.put j k = (14, M) by rw [H.out]; simp [Mach.drop, hkz, hty])
    have htb : ((M.fr j).ty != k) = true := by simp [hty]
    by_cases hcz : (M.fr j).cnt = 0
    · rw [hcz] at d2
      clear hzz hcz hkz hty
      go_enter Try.func72, Try.ntmps72
      go_wp2_with (go_at_call 124; refine (Is_yes _ _ _ _ _ HM.out hj).mono ?_; rintro e w' ⟨rfl, rfl⟩)
      go_ret
      rw [H.out]
      exact ⟨rfl, L, HM.out.grown (World.grownBy_alloc _ _ none), rfl, Chg.of0 (World.grownBy_alloc _ _ none), fun _ h => .inl h⟩
    · have hcb : ((M.fr j).cnt == 0) = false := by simp [hcz]
      clear hzz hcz hkz hty
      go_enter Try.func72, Try.ntmps72
      go_wp2_with (go_at_call 124; refine (Is_yes _ _ _ _ _ HM.out hj).mono ?_; rintro e w' ⟨rfl, rfl⟩)
      go_ret
      rw [H.out]
      exact ⟨rfl, L, HM.out.grown (World.grownBy_alloc _ _ none), rfl, Chg.of0 (World.grownBy_alloc _ _ none), fun _ h => .inl h⟩
end Go.Proofs.Ytibiianmpajabaa

/-
  Contracts of package tenementref01: Free.
-/
set_option linter.unusedSimpArgs false
set_option linter.unusedVariables false
namespace Go.Proofs.Ytibiianmpajabaa
open Go.RowKit
set_option maxHeartbeats 400000

/-- a new page -/
def zeros : Array Value := madeCells #[.int .u8 0] 256
theorem zeros_size : zeros.size = 256 := size_madeCells _ _
theorem zeros_at (k : Nat) (h : k < 256) : zeros[k]? = some (.int .u8 0) := by
  unfold zeros
  simp [madeCells, h, Nat.mod_one]
attribute [irreducible] zeros
theorem make_zeros (W : World) : (Instr.makeSlice 31 (.int .i64 256) (.int .i64 256)).run Try.prog W = .ok (.slice (some ⟨W.heap.size, 0, none⟩) 256 256) (W.alloc (.cells zeros 5)) := by
  have := u8_make W 256 (by omega)
  unfold zeros
  exact this
theorem zeros_row (W : World) : Row (W.alloc (.cells zeros 5)) W.heap.size 5 256 (byt blankFr) :=
  ⟨zeros, heap_alloc_new W _, by rw [zeros_size]; omega, fun k hk => by rw [zeros_at k hk]; rfl⟩

theorem free_left {w W : World} {b : Nat} {M : Mach} {L : Lay} {j : Nat} (h : RM W b (M.upd j { M.fr j with owner := -1 }) L) (hc : Chg (L.foot b) w W) (hj : j < L.n) (h1 : (M.fr j).ty = 0) (h2 : (M.fr j).cnt = 0) (h3 : (M.fr j).tot = 0) :
    ∃ L', RM ((W.alloc (.cells zeros 5)).setCell ⟨L.fB, j, none⟩ (.slice (some ⟨W.heap.size, 0, none⟩) 256 256)).drew b (M.upd j blankFr) L' ∧ L'.n = L.n ∧
      Chg (L.foot b) w ((W.alloc (.cells zeros 5)).setCell ⟨L.fB, j, none⟩ (.slice (some ⟨W.heap.size, 0, none⟩) 256 256)).drew ∧ ∀ k, L'.foot b k → L.foot b k ∨ w.heap.size ≤ k := by
  have h' := (h.grown (World.grownBy_alloc W (.cells zeros 5) none)).setRow hj (f := blankFr) (G := W.heap.size) (c := 256) (by omega) (zeros_row W) (fun i hi e => by
    have := (h.row i hi).lt
    omega) (fun q hq => by
    rw [Mach.upd_same]
    match q, hq with
    | 0, _ => rfl
    | 1, _ => simp [Fr.cell, blankFr, h1]
    | 2, _ => simp [Fr.cell, blankFr, h2]
    | 3, _ => simp [Fr.cell, blankFr, h3])
  rw [Mach.upd_upd] at h'
  have st : ∀ k, L.foot b k → L.foot b k ∨ w.heap.size ≤ k := fun _ h => .inl h
  refine ⟨_, h'.grown (grownBy_drew _ none), rfl, ((hc.trans (Chg.of0 (S := L.foot b) (World.grownBy_alloc W (.cells zeros 5) none)) st).trans (Chg.of (S := L.foot b) (grownBy_setCell _ L.fB j none _) fun k e => .inl (.inr (.inr (.inl (Option.some.inj e).symm)))) st).trans (Chg.of0 (S := L.foot b) (grownBy_drew _ none)) st, fun k hk => ?_⟩
  rcases hk with rfl | rfl | rfl | ⟨i, hi, rfl⟩
  · exact .inl (.inl rfl)
  · exact .inl (.inr (.inl rfl))
  · exact .inl (.inr (.inr (.inl rfl)))
  · simp only
    split
    · exact .inr hc.size
    · exact .inl (.inr (.inr (.inr ⟨i, hi, rfl⟩)))

set_option maxRecDepth 100000 in
theorem rFree (b : Nat) (i : Int) (w : World) (M : Mach) (L : Lay) (T : Int) (h : RM w b M L) (hok : M.ok T) :
    Calls Try.prog 66 #[.pointer (some ⟨b, 0, none⟩), .int .i64 i] w (RLeft b L w (M.free i).1 (M.free i).2) := by
  by_cases hi : i < 0 ∨ M.n ≤ i
  · have H := hid (show M.free i = (1, M) by simp [Mach.free, Mach.is_no hi])
    go_enter Try.func66, Try.ntmps66
    go_wp2_with (go_at_call 124; refine (Is_no _ _ _ _ _ h hi).mono ?_; rintro e w' ⟨rfl, rfl⟩)
    go_ret
    rw [H.out]
    exact RLeft.same h
  obtain ⟨j, rfl⟩ := Int.eq_ofNat_of_zero_le (show 0 ≤ i by omega)
  have hjn : (j : Int) < M.n := by omega
  have hj : j < L.n := by have := h.hn; omega
  have his : M.is j = true := Mach.is_yes (by omega) hjn
  obtain ⟨hf, ht⟩ := hok.fr j hjn
  have hc0 := hf.c0; have hct := hf.ct; have hzz := hf.z
  have HM := hid h
  have hj' : (j : Int) < L.n := by omega
  have hj0 : (0 : Int) ≤ j := by omega
  clear hi hjn hf
  by_cases hfree : (M.fr j).owner = -1
  · have H := hid (show M.free j = (11, M) by simp [Mach.free, his, hfree])
    have HO := hid hfree
    clear his hfree hzz
    go_enter Try.func66, Try.ntmps66
    go_wp2_with (first | (go_at_call 124; refine (Is_yes _ _ _ _ _ HM.out hj).mono ?_; rintro e w' ⟨rfl, rfl⟩) | (go_at_call 125; refine (still_free _ _ _ _ _ HM.out hj HO.out).mono ?_; rintro e w' ⟨rfl, rfl⟩))
    go_ret
    rw [H.out]
    exact RLeft.same HM.out
  have hfb := hid (show ((M.fr j).owner == -1) = false by simp [hfree])
  by_cases hb : (M.fr j).tot = 0
  · have H := hid (show M.free j = (0, M.upd j blankFr) by simp [Mach.free, his, hfree, hb])
    have HB := hid hb
    have hcz : (M.fr j).cnt = 0 := by omega
    have hty := hzz.1 hcz
    have hb0 : (M.fr j).ty = 0 ∧ (M.fr j).cnt = 0 ∧ (M.fr j).tot = 0 := ⟨hty, hcz, hb⟩
    have HB0 := hid hb0
    clear hb0 hty hcz
    obtain ⟨c0, d0, d1, d2, d3, f0, f1, f2, f3⟩ := h.nine hj
    have cB := h.slB; have cb := h.sl hj; have fb := h.bs.frozen j
    have hBF := h.fr.type_ne h.bs (by decide)
    clear his hfree hb hzz h
    go_enter Try.func66, Try.ntmps66
    go_wp2_with (first | (go_at_call 124; refine (Is_yes _ _ _ _ _ HM.out hj).mono ?_; rintro e w' ⟨rfl, rfl⟩) | (go_at_call 125; refine (still_no _ _ _ _ _ HM.out hj hfb.out HB.out).mono ?_; rintro e w' ⟨rfl, rfl⟩))
    obtain ⟨W1, hW1⟩ : ∃ W1, w.setCell ⟨L.fF, j * 4, none⟩ (.int .i64 (-1)) = W1 := ⟨_, rfl⟩
    have HM1 := hid (show RM W1 b (M.upd j { M.fr j with owner := -1 }) L from hW1 ▸ HM.out.setOwner hj (-1))
    have HC1 := hid (show Chg (L.foot b) w W1 from hW1 ▸ chgF b L w _ _)
    rw [hW1]
    clear c0 d0 d1 d2 d3 f0 f1 f2 f3 cB cb fb hW1
    have c0 := HM1.out.slB; have c1 := HM1.out.sl hj; have f1 := HM1.out.bs.frozen j
    have hmk := make_zeros
    have HM2 := hid (HM1.out.grown (World.grownBy_alloc W1 (.cells zeros 5) none))
    have c0' := HM2.out.slB; have c1' := HM2.out.sl hj; have f1' := HM2.out.bs.frozen j
    go_region
    all_goals go_wp2
    all_goals go_ret
    all_goals rw [H.out]
    all_goals exact ⟨rfl, free_left HM1.out HC1.out hj HB0.out.1 HB0.out.2.1 HB0.out.2.2⟩
  · have htb := hid (show ((M.fr j).tot != 0) = true by simp [hb])
    have H := hid (show M.free j = (9, M) by simp [Mach.free, his, hfree, hb])
    clear his hfree hb hzz
    go_enter Try.func66, Try.ntmps66
    go_wp2_with (first | (go_at_call 124; refine (Is_yes _ _ _ _ _ HM.out hj).mono ?_; rintro e w' ⟨rfl, rfl⟩) | (go_at_call 125; refine (still_busy _ _ _ _ _ HM.out hj hfb.out htb.out).mono ?_; rintro e w' ⟨rfl, rfl⟩))
    go_ret
    rw [H.out]
    exact RLeft.same HM.out
end Go.Proofs.Ytibiianmpajabaa

/-
  Contracts of package tenementref01: Read, Write.
-/
set_option linter.unusedSimpArgs false
set_option linter.unusedVariables false
namespace Go.Proofs.Ytibiianmpajabaa
open Go.RowKit
set_option maxHeartbeats 400000

/-- bytes in memory of their own -/
def OutBytes (w : World) (l : List UInt8) (v : Value) (w' : World) : Prop := ∃ p c, v = .slice p l.length c ∧ InBytes w' p l ∧ w.grownBy w' none
theorem info_u8 : (Try.prog.info? 5).map (fun i => (i.zero, i.size, i.bytes)) = some (some (.int .u8 0), 1, 1) := by kernel_rfl

theorem outBytes_of {w w' : World} {base n : Nat} {v : Value} {l : List UInt8} (h : w'.ownsRow base 5 1 v n (bcells l)) (hn : l.length = n) (hg : w.grownBy w' none) : OutBytes w l v w' := by
  subst hn
  obtain ⟨p, c, rfl⟩ := ownsRow_slice h
  refine ⟨p, c, rfl, ?_, hg⟩
  by_cases hl : l = []
  · exact .inl hl
  · obtain ⟨m, hm⟩ : ∃ m, l.length = m + 1 := ⟨l.length - 1, by have := List.length_pos_iff.2 hl; omega⟩
    have h' := h
    rw [hm] at h'
    obtain ⟨g, cap, e⟩ := ownsRow_succ h'
    cases e
    have hb := (h.lt g rfl).2
    refine .inr ⟨g, 0, rfl, hb, fun k hk => ?_⟩
    rw [Nat.zero_add, h'.cellAt k (by omega), bcells_get, List.getElem?_eq_getElem hk]
    simp [List.getD, List.getElem?_eq_getElem hk]
theorem part_cells {w : World} {b : Nat} {M : Mach} {L : Lay} (h : RM w b M L) {j off n : Nat} (hj : j < L.n) (hp : off + n ≤ 256) (k : Nat) (u : Value) (hu : (bcells ((M.fr j).part off n))[k]? = some u) :
    w.cell? ((⟨L.g j, off, none⟩ : Addr).add k) = some u := by
  rw [bcells_get, Fr.part_get] at hu
  split at hu
  · cases hu
    have e : (⟨L.g j, off, none⟩ : Addr).add k = ⟨L.g j, off + k, none⟩ := by unfold Addr.add; split <;> simp_all
    rw [e]
    exact h.byte hj (by omega)
  · cases hu

theorem rRead_no (b : Nat) (i off n : Int) (w : World) (M : Mach) (L : Lay) (h : RM w b M L) (hn : n ≤ 9223372036854775807) (hi : M.is i = false ∨ inP off n = false) :
    Calls Try.prog 73 #[.pointer (some ⟨b, 0, none⟩), .int .i64 i, .int .i64 off, .int .i64 n] w fun e w' => e = .returned (.tuple #[.slice none 0 0, .int .i64 1]) ∧ w = w' := by
  go_enter Try.func73, Try.ntmps73
  go_wp2_with (go_at_call 129; refine (In_no _ _ _ _ _ _ _ h hn hi).mono ?_; rintro e w' ⟨rfl, rfl⟩)
  go_ret2
  exact ⟨rfl, rfl⟩
theorem rRead_yes (b j off n : Nat) (w : World) (M : Mach) (L : Lay) (h : RM w b M L) (hj : j < L.n) (hp : off + n ≤ 256) :
    Calls Try.prog 73 #[.pointer (some ⟨b, 0, none⟩), .int .i64 j, .int .i64 off, .int .i64 n] w fun e w' => ∃ v, e = .returned (.tuple #[v, .int .i64 0]) ∧ OutBytes w ((M.fr j).part off n) v w' := by
  have HM := hid h
  have hcg := h.cap j hj
  have c0 := h.slB; have c1 := h.sl hj
  have hj' : (j : Int) < L.n := by omega
  have hj0 : (0 : Int) ≤ j := by omega
  have h0 : (0 : Int) ≤ off := by omega
  have h1 : (0 : Int) ≤ n := by omega
  have h2 : (off : Int) + n ≤ 256 := by omega
  have h3 : (off : Int) + n ≤ L.cg j := by omega
  obtain ⟨i0, hi, hz0, hz1, hz2⟩ := info_parts info_u8
  have Hi := hid hi; have Hz0 := hid hz0; have Hz1 := hid hz1; have Hz2 := hid hz2
  clear hi hz0 hz1 hz2 h
  have HM2 := hid (HM.out.grown (World.grownBy_alloc w (.cells #[] 5) none))
  have c0' := HM2.out.slB; have c1' := HM2.out.sl hj
  by_cases he : L.cg j = off
  · obtain rfl : off = 256 := by omega
    obtain rfl : n = 0 := by omega
    go_enter Try.func73, Try.ntmps73
    go_wp2_with (first
      | (go_at_call 129; refine (In_yes _ _ _ _ _ _ _ HM.out hj hp).mono ?_; rintro e w' ⟨rfl, rfl⟩)
      | (at_builtin; refine wpList_append_own _ rfl _ _ 31 rfl w.heap.size 5 i0 (.int .u8 0) 1 1 Try.underlying31 Hi.out Hz0.out Hz1.out Hz2.out rfl (by decide) _ 0 [] rfl (World.ownsRow_made w #[] 0 (Nat.le_refl _) (by unfold maxLen; omega) (by simp)) _ 0 _ (bcells ((M.fr j).part 256 0)) rfl (by rw [bcells_len, part_len]) (fun k u hu => by rw [bcells_get] at hu; simp [Fr.part] at hu) (bcells_one _) (by unfold maxLen; omega) (by omega) (by simp) ?_; intro v' w2 hown' hgrow hnil; simp only [Nat.zero_add, List.nil_append] at hown'; have HO := hid hown'; have HG := hid ((World.grownBy_alloc w (.cells #[] 5) none).andThen hgrow (fun j hj => by cases hj; exact .inl (Nat.le_refl _))); clear hown' hgrow hnil))
    go_ret2
    exact ⟨_, rfl, outBytes_of HO.out (part_len _ _ _) HG.out⟩
  · go_enter Try.func73, Try.ntmps73
    go_wp2_with (first
      | (go_at_call 129; refine (In_yes _ _ _ _ _ _ _ HM.out hj hp).mono ?_; rintro e w' ⟨rfl, rfl⟩)
      | (at_builtin; refine wpList_append_own _ rfl _ _ 31 rfl w.heap.size 5 i0 (.int .u8 0) 1 1 Try.underlying31 Hi.out Hz0.out Hz1.out Hz2.out rfl (by decide) _ 0 [] rfl (World.ownsRow_made w #[] 0 (Nat.le_refl _) (by unfold maxLen; omega) (by simp)) ⟨L.g j, off, none⟩ (off + n - off) _ (bcells ((M.fr j).part off n)) rfl (by simp [bcells_len, part_len]) (fun k u hu => part_cells HM2.out hj hp k u hu) (bcells_one _) (by unfold maxLen; omega) (by omega) (by simp) ?_; intro v' w2 hown' hgrow hnil; simp only [Nat.zero_add, List.nil_append] at hown'; have HO := hid hown'; have HG := hid ((World.grownBy_alloc w (.cells #[] 5) none).andThen hgrow (fun j hj => by cases hj; exact .inl (Nat.le_refl _))); clear hown' hgrow hnil))
    go_ret2
    exact ⟨_, rfl, outBytes_of HO.out (by rw [part_len]; omega) HG.out⟩
end Go.Proofs.Ytibiianmpajabaa

/-
  Contracts of package tenementref01: Write.
-/
set_option linter.unusedSimpArgs false
set_option linter.unusedVariables false
namespace Go.Proofs.Ytibiianmpajabaa
open Go.RowKit
set_option maxHeartbeats 400000

theorem laid_at (f : Fr) (off : Nat) (l : List UInt8) (k : Nat) (hk : k < l.length) : (f.laid off (l.take (k + 1))).bs (off + k) = l.getD k 0 := by
  have h1 : (l.take (k + 1)).length = k + 1 := by simp; omega
  unfold Fr.laid
  simp only [h1]
  rw [if_pos (by omega), show off + k - off = k by omega]
  simp [List.getD, List.getElem?_take]
theorem laid_else (f : Fr) (off : Nat) (l : List UInt8) (k q : Nat) (hk : k < l.length) (hq : q ≠ off + k) : (f.laid off (l.take (k + 1))).bs q = (f.laid off (l.take k)).bs q := by
  have h1 : (l.take (k + 1)).length = k + 1 := by simp; omega
  have h2 : (l.take k).length = k := by simp; omega
  unfold Fr.laid
  simp only [h1, h2]
  by_cases h : off ≤ q ∧ q < off + k
  · rw [if_pos (by omega), if_pos h]
    have e1 : q - off < k + 1 := by omega
    have e2 : q - off < k := by omega
    simp [List.getD, List.getElem?_take, e1, e2]
  · rw [if_neg (by omega), if_neg h]
theorem laid_hd (f : Fr) (off : Nat) (l : List UInt8) (q : Nat) (hq : q < 4) : (f.laid off l).cell q = f.cell q := by
  match q, hq with
  | 0, _ => rfl
  | 1, _ => rfl
  | 2, _ => rfl
  | 3, _ => rfl
/-- bytes that lie apart from the ref machine -/
def Apart (w : World) (L : Lay) (b : Nat) (pa : Option Addr) (l : List UInt8) : Prop :=
  ∀ k, k < l.length → ∃ sb so, pa = some ⟨sb, so, none⟩ ∧ ¬ L.foot b sb ∧ w.cell? ⟨sb, so + k, none⟩ = some (.int .u8 (l.getD k 0).toNat)
theorem write_step {w : World} {b j off k : Nat} {M : Mach} {L : Lay} {l : List UInt8} (h : RM w b (M.upd j ((M.fr j).laid off (l.take k))) L) (hj : j < L.n) (hk : k < l.length) :
    RM (w.setCell ⟨L.g j, off + k, none⟩ (.int .u8 (l.getD k 0).toNat)) b (M.upd j ((M.fr j).laid off (l.take (k + 1)))) L := by
  have := h.setByte hj (k := off + k) (x := l.getD k 0) (f := (M.fr j).laid off (l.take (k + 1))) (laid_at _ _ _ _ hk) (fun q _ hq => by rw [Mach.upd_same]; exact laid_else _ _ _ _ _ hk hq) (fun q hq => by rw [Mach.upd_same, laid_hd _ _ _ _ hq, laid_hd _ _ _ _ hq])
  rwa [Mach.upd_upd] at this
theorem chgG {L : Lay} {b j : Nat} (hj : j < L.n) (w : World) (k : Nat) (v : Value) : Chg (L.foot b) w (w.setCell ⟨L.g j, k, none⟩ v) := Chg.of (grownBy_setCell w (L.g j) k none v) fun i e => .inl (.inr (.inr (.inr ⟨j, hj, (Option.some.inj e).symm⟩)))

theorem rWrite (b : Nat) (i off : Int) (pa : Option Addr) (cap : Nat) (l : List UInt8) (w : World) (M : Mach) (L : Lay) (h : RM w b M L) (hmax : l.length ≤ 9223372036854775807) (hl : Apart w L b pa l) :
    Calls Try.prog 74 #[.pointer (some ⟨b, 0, none⟩), .int .i64 i, .int .i64 off, .slice pa l.length cap] w (RLeft b L w (M.write i off l).1 (M.write i off l).2) := by
  have HM := hid h
  have HA := hid hl
  have hmax' : (l.length : Int) ≤ 9223372036854775807 := by omega
  clear hl
  by_cases hbad : M.is i = false ∨ inP off l.length = false
  · have H := hid (show M.write i off l = (1, M) by
      rcases hbad with e | e
      · simp [Mach.write, e]
      · simp [Mach.write, e])
    go_enter Try.func74, Try.ntmps74
    go_wp2_with (go_at_call 129; refine (In_no _ _ _ _ _ _ _ HM.out hmax' hbad).mono ?_; rintro e w' ⟨rfl, rfl⟩)
    go_ret
    rw [H.out]
    exact RLeft.same HM.out
  have his : M.is i = true := by cases e : M.is i with | true => rfl | false => exact absurd (.inl e) hbad
  have hin : inP off l.length = true := by cases e : inP off l.length with | true => rfl | false => exact absurd (.inr e) hbad
  obtain ⟨i0, i1⟩ := Mach.is_iff.1 his
  obtain ⟨p0, p1, p2⟩ := inP_iff.1 hin
  obtain ⟨j, rfl⟩ := Int.eq_ofNat_of_zero_le i0
  obtain ⟨q, rfl⟩ := Int.eq_ofNat_of_zero_le p0
  have hj : j < L.n := by have := h.hn; omega
  have hp : q + l.length ≤ 256 := by omega
  have hj' : (j : Int) < L.n := by omega
  have c0 := h.slF
  have hown := h.owner hj
  clear hbad h
  by_cases hfree : (M.fr j).owner = -1
  · have H := hid (show M.write j q l = (11, M) by simp [Mach.write, his, hin, hfree])
    rw [hfree] at hown
    clear his hin hfree i1 p1 p2
    go_enter Try.func74, Try.ntmps74
    go_wp2_with (go_at_call 129; refine (In_yes _ _ _ _ _ _ _ HM.out hj hp).mono ?_; rintro e w' ⟨rfl, rfl⟩)
    go_ret
    rw [H.out]
    exact RLeft.same HM.out
  · have hfb : ((M.fr j).owner == -1) = false := by simp [hfree]
    have H := hid (show M.write j q l = (0, M.upd j ((M.fr j).laid q l)) by simp [Mach.write, his, hin, hfree])
    clear his hin hfree i1 p1 p2
    go_enter Try.func74, Try.ntmps74
    go_wp2_with (go_at_call 129; refine (In_yes _ _ _ _ _ _ _ HM.out hj hp).mono ?_; rintro e w' ⟨rfl, rfl⟩)
    clear c0 hown
    go_loopw [9] (fun i wr => ∃ k : Nat, i = .int .i64 k ∧ k ≤ l.length ∧ RM wr b (M.upd j ((M.fr j).laid q (l.take k))) L ∧ Chg (L.foot b) w wr) (fun i _ => l.length - (intOf i).toNat)
    case atStart => exact ⟨0, rfl, by omega, by rw [List.take_zero, laid_nil]; exact HM.out, Chg.refl _ _⟩
    case round =>
      obtain ⟨k, rfl, hk, hM, hc⟩ := hrel
      by_cases hlt : k < l.length
      · have hlt' : (k : Int) < l.length := by omega
        have hk0 : (0 : Int) ≤ k := by omega
        obtain ⟨sb, so, rfl, hsb, hcell⟩ := HA.out k hlt
        have cs := hc.cell hcell hsb
        have HS := hid hM; have HC := hid hc
        have c0 := hM.slB; have c1 := hM.sl hj; have c2 := hM.byte hj (k := q + k) (by omega); have f2 := (hM.row j hj).frozen (q + k)
        have hX := write_step hM hj hlt
        generalize l.getD k 0 = x at cs hX
        have HX := hid hX
        have hqk : (q : Int) + k < 256 := by omega
        have hqk0 : (0 : Int) ≤ (q : Int) + k := by omega
        clear hcell hM hc hX
        go_wp2
        go_region
        all_goals go_wp2
        all_goals go_roundw
        case rel => exact ⟨k + 1, by go_num, by omega, HX.out.grown (grownBy_drew _ none), (HC.out.trans (chgG hj _ _ _) (fun _ h => .inl h)).trans (Chg.of0 (S := L.foot b) (grownBy_drew _ none)) (fun _ h => .inl h)⟩
        case measure => simp [intOf]; omega
      · have hge : (l.length : Int) ≤ k := by omega
        obtain rfl : k = l.length := by omega
        have HS := hid hM; have HC := hid hc
        clear hM hc
        go_wp2
        go_ret
        rw [H.out]
        exact ⟨rfl, L, by have := HS.out; rwa [List.take_length] at this, rfl, HC.out, fun _ h => .inl h⟩
end Go.Proofs.Ytibiianmpajabaa

/-
  Contracts of package tenementref01: New.
-/
set_option linter.unusedSimpArgs false
set_option linter.unusedVariables false
namespace Go.Proofs.Ytibiianmpajabaa
open Go.RowKit
set_option maxHeartbeats 400000

theorem info_frame : (Try.prog.info? 100).map (fun i => (i.zero, i.size, i.bytes)) = some (some (.agg #[.int .i64 0, .int .i64 0, .int .i64 0, .int .i64 0]), 4, 32) := by kernel_rfl
theorem info_bytes : (Try.prog.info? 31).map (fun i => (i.zero, i.size, i.bytes)) = some (some (.slice none 0 0), 1, 24) := by kernel_rfl
/-- k frames' numbers, all free -/
def frs (k : Nat) : List Value := (List.range (k * 4)).map fun q => blankFr.cell (q % 4)
theorem frs_succ (k : Nat) : frs (k + 1) = frs k ++ [.int .i64 (-1), .int .i64 0, .int .i64 0, .int .i64 0] := by
  unfold frs
  rw [show (k + 1) * 4 = k * 4 + 1 + 1 + 1 + 1 by omega]
  simp only [List.range_succ, List.map_append, List.map_cons, List.map_nil, List.append_assoc, List.cons_append, List.nil_append]
  rw [show (k * 4) % 4 = 0 by omega, show (k * 4 + 1) % 4 = 1 by omega, show (k * 4 + 1 + 1) % 4 = 2 by omega, show (k * 4 + 1 + 1 + 1) % 4 = 3 by omega]
  rfl
theorem frs_len (k : Nat) : (frs k).length = k * 4 := by simp [frs]
/-- k slices of bytes -/
def sls (g cg : Nat → Nat) (k : Nat) : List Value := (List.range k).map fun i => .slice (some ⟨g i, 0, none⟩) 256 (cg i)
theorem sls_succ (g cg : Nat → Nat) (k G c : Nat) : sls (fun j => if j = k then G else g j) (fun j => if j = k then c else cg j) (k + 1) = sls g cg k ++ [.slice (some ⟨G, 0, none⟩) 256 c] := by
  unfold sls
  rw [List.range_succ, List.map_append]
  congr 1
  · refine List.map_congr_left fun i hi => ?_
    have : i ≠ k := by have := List.mem_range.1 hi; omega
    simp [this]
  · simp
theorem sls_len (g cg : Nat → Nat) (k : Nat) : (sls g cg k).length = k := by simp [sls]
def top2 (vF vB : Value) : Nat → Value
  | 0 => vF
  | _ => vB
/-- a slice that owns a row is one head of a block -/
theorem ownsRow_row {W : World} {base : Nat} {e : TypeId} {size n : Nat} {v : Value} {xs : List Value} (h : W.ownsRow base e size v (n + 1) xs) :
    ∃ g c, v = .slice (some ⟨g, 0, none⟩) (n + 1) c ∧ base ≤ g ∧ Row W g e ((n + 1) * size) (fun k => xs.getD k undef) := by
  rcases h.2 with ⟨_, h0⟩ | ⟨g, cap, cur, rfl, hb, hg, hn, hcap, hsz, htake⟩
  · omega
  · refine ⟨g, cap, rfl, hb, cur, hg, ?_, fun k hk => ?_⟩
    · rw [hsz]; exact Nat.mul_le_mul_right _ hn
    · have hl := h.1
      have h1 : (cur.toList.take ((n + 1) * size))[k]? = xs[k]? := by rw [htake]
      rw [List.getElem?_take, if_pos hk] at h1
      have hx : k < xs.length := by omega
      rw [List.getElem?_eq_getElem hx] at h1
      simpa [List.getD, List.getElem?_eq_getElem hx] using h1

theorem none_row' (v : Value) : v.ownBlock = none ∨ v.ownBlock ≠ none := by cases v.ownBlock <;> simp
theorem own_ne_row {W : World} {base : Nat} {e : TypeId} {size n : Nat} {v : Value} {xs : List Value} (h : W.ownsRow base e size v n xs) {x : Nat} {t : TypeId} {N : Nat} {X : Nat → Value} (hr : Row W x t N X) (ht : t ≠ e) : some x ≠ v.ownBlock := by
  intro e'
  rcases h.2 with ⟨rfl, _⟩ | ⟨g, cap, cur, rfl, _, hg, _⟩
  · simp [Value.ownBlock] at e'
  · obtain rfl : x = g := by simpa [Value.ownBlock] using e'
    obtain ⟨c, hc, _⟩ := hr
    rw [hc] at hg; cases hg; exact ht rfl
theorem own_ne_own {W : World} {base base' : Nat} {e e' : TypeId} {size size' n n' : Nat} {v v' : Value} {xs xs' : List Value} (h : W.ownsRow base e size v n xs) (h' : W.ownsRow base' e' size' v' n' xs') (ht : e ≠ e') : v.ownBlock = none ∨ v.ownBlock ≠ v'.ownBlock := by
  rcases h.2 with ⟨rfl, _⟩ | ⟨g, cap, cur, rfl, _, hg, _⟩
  · exact .inl rfl
  · refine .inr fun e0 => ?_
    rcases h'.2 with ⟨rfl, _⟩ | ⟨g', cap', cur', rfl, _, hg', _⟩
    · simp [Value.ownBlock] at e0
    · obtain rfl : g = g' := by simpa [Value.ownBlock] using e0
      rw [hg] at hg'; cases hg'; exact ht rfl
/-- New (and Copy) under way: kF frames, kB rows of bytes; f i are the bytes -/
structure NewSt (w W : World) (b kF kB : Nat) (fc : Nat → List Value) (f : Nat → Fr) (g cg : Nat → Nat) (vF vB : Value) : Prop where
  top : Row W b 137 2 (top2 vF vB)
  fr : W.ownsRow (b + 1) 100 4 vF kF (fc kF)
  bs : W.ownsRow (b + 1) 31 1 vB kB (sls g cg kB)
  row : ∀ i, i < kB → Row W (g i) 5 256 (byt (f i)) ∧ b < g i
  cap : ∀ i, i < kB → 256 ≤ cg i
  inj : ∀ i j, i < kB → j < kB → g i = g j → i = j
  hb : w.heap.size ≤ b
  grown : w.grownBy W none
theorem NewSt.ext {w W X : World} {b kF kB : Nat} {fc : Nat → List Value} {f : Nat → Fr} {g cg : Nat → Nat} {vF vB : Value} (h : NewSt w W b kF kB fc f g cg vF vB) (hX : W.grownBy X none) : NewSt w X b kF kB fc f g cg vF vB :=
  ⟨h.top.grown hX (by simp), h.fr.kept hX (none_row' _), h.bs.kept hX (none_row' _), fun i hi => ⟨(h.row i hi).1.grown hX (by simp), (h.row i hi).2⟩, h.cap, h.inj, h.hb, h.grown.trans hX⟩
theorem NewSt.stepF {w X w1 : World} {b kF kB m : Nat} {fc : Nat → List Value} {f : Nat → Fr} {g cg : Nat → Nat} {vF vB v' : Value} (h : NewSt w X b kF kB fc f g cg vF vB) (hgrow : X.grownBy w1 vF.ownBlock)
    (hown : w1.ownsRow (b + 1) 100 4 v' m (fc m)) : NewSt w (w1.setCell ⟨b, 0, none⟩ v') b m kB fc f g cg v' vB := by
  have h1 := h.top.grown hgrow (own_ne_row h.fr h.top (by decide))
  have hB := h.bs.kept hgrow (own_ne_own h.bs h.fr (by decide))
  have hs := grownBy_setCell w1 b 0 none v'
  refine ⟨h1.set rfl fun j hj h0 => ?_, hown.kept hs (own_ne hown (by omega)), hB.kept hs (own_ne hB (by omega)), fun i hi => ⟨?_, (h.row i hi).2⟩, h.cap, h.inj, h.hb, (h.grown.andThen hgrow fun j e => .inl ?_).andThen hs fun j e => .inl ?_⟩
  · match j, h0 with
    | 0, h0 => exact absurd rfl h0
    | j + 1, _ => rfl
  · have := (h.row i hi).2
    exact ((h.row i hi).1.grown hgrow (own_ne_row h.fr (h.row i hi).1 (by decide))).grown hs (by simp; omega)
  · have := (h.fr.lt j e).1; have := h.hb; omega
  · cases e; exact h.hb
theorem NewSt.stepB {w X w1 : World} {b kF k Z c : Nat} {fc : Nat → List Value} {f : Nat → Fr} {g cg : Nat → Nat} {vF vB v' : Value} (h : NewSt w X b kF k fc f g cg vF vB) (hZ : Row X Z 5 256 (byt (f k))) (hbZ : b < Z) (hZg : ∀ i, i < k → g i ≠ Z) (hc : 256 ≤ c)
    (hgrow : X.grownBy w1 vB.ownBlock) (hown : w1.ownsRow (b + 1) 31 1 v' (k + 1) (sls g cg k ++ [.slice (some ⟨Z, 0, none⟩) 256 c])) :
    NewSt w (w1.setCell ⟨b, 1, none⟩ v') b kF (k + 1) fc f (fun j => if j = k then Z else g j) (fun j => if j = k then c else cg j) vF v' := by
  have h1 := h.top.grown hgrow (own_ne_row h.bs h.top (by decide))
  have hF := h.fr.kept hgrow (own_ne_own h.fr h.bs (by decide))
  have hs := grownBy_setCell w1 b 1 none v'
  have hrow : ∀ x f', Row X x 5 256 (byt f') → b < x → Row (w1.setCell ⟨b, 1, none⟩ v') x 5 256 (byt f') := fun x f' hx hbx => (hx.grown hgrow (own_ne_row h.bs hx (by decide))).grown hs (by simp; omega)
  refine ⟨h1.set rfl fun j hj h0 => ?_, hF.kept hs (own_ne hF (by omega)), by rw [sls_succ]; exact hown.kept hs (own_ne hown (by omega)), fun i hi => ?_, fun i hi => ?_, fun i j hi hj e => ?_, h.hb, (h.grown.andThen hgrow fun j e => .inl ?_).andThen hs fun j e => .inl ?_⟩
  · match j, hj, h0 with
    | 0, _, _ => rfl
    | 1, _, h0 => exact absurd rfl h0
  · split
    · rename_i e; subst e; exact ⟨hrow _ _ hZ hbZ, hbZ⟩
    · exact ⟨hrow _ _ (h.row i (by omega)).1 (h.row i (by omega)).2, (h.row i (by omega)).2⟩
  · split
    · exact hc
    · exact h.cap i (by omega)
  · split at e
    · split at e
      · omega
      · exact absurd e.symm (hZg j (by omega))
    · split at e
      · exact absurd e (hZg i (by omega))
      · exact h.inj i j (by omega) (by omega) e
  · have := (h.bs.lt j e).1; have := h.hb; omega
  · cases e; exact h.hb
/-- done: a machine -/
def NewRef (w : World) (M : Mach) (v : Value) (w' : World) : Prop := ∃ b L, v = .pointer (some ⟨b, 0, none⟩) ∧ RM w' b M L ∧ w.grownBy w' none ∧ ∀ k, L.foot b k → w.heap.size ≤ k
theorem NewSt.done {w W : World} {b n : Nat} {fc : Nat → List Value} {M : Mach} {g cg : Nat → Nat} {vF vB : Value} (h : NewSt w W b (n + 1) (n + 1) fc M.fr g cg vF vB) (hn : M.n = ((n + 1 : Nat) : Int)) (hfc : ∀ k, k < (n + 1) * 4 → (fc (n + 1)).getD k undef = hd M k) :
    NewRef w M (.pointer (some ⟨b, 0, none⟩)) W := by
  obtain ⟨fF, cF, rfl, hbF, hF⟩ := ownsRow_row h.fr
  obtain ⟨fB, cB, rfl, hbB, hB⟩ := ownsRow_row h.bs
  refine ⟨b, ⟨n + 1, fF, cF, fB, cB, g, cg⟩, rfl, ⟨hn, h.top.congr fun k hk => ?_, hF.congr fun k hk => (hfc k hk).symm, ?_, fun i hi => (h.row i hi).1, h.cap, h.inj⟩, h.grown, fun k hk => ?_⟩
  · match k, hk with
    | 0, _ => rfl
    | 1, _ => rfl
  · rw [Nat.mul_one] at hB
    exact hB.congr fun k hk => by simp [bslice, sls, List.getD, hk]
  · have := h.hb
    rcases hk with rfl | rfl | rfl | ⟨i, hi, rfl⟩
    · exact h.hb
    · omega
    · omega
    · have := (h.row i hi).2; show w.heap.size ≤ g i; omega

end Go.Proofs.Ytibiianmpajabaa

/-
  Contracts of package tenementref01: New.
-/
set_option linter.unusedSimpArgs false
set_option linter.unusedVariables false
namespace Go.Proofs.Ytibiianmpajabaa
open Go.RowKit
set_option maxHeartbeats 400000

theorem rNew_no (n : Int) (w : World) (h : n < 1 ∨ 256 < n) : Calls Try.prog 12 #[.int .i64 n] w fun e w' => e = .returned (.tuple #[.pointer none, .int .i64 1]) ∧ w = w' := by
  by_cases h1 : n < 1
  · clear h
    go_enter Try.func12, Try.ntmps12
    go_wp2
    go_ret2
    exact ⟨rfl, rfl⟩
  · have h2 : 256 < n := by omega
    clear h
    go_enter Try.func12, Try.ntmps12
    go_wp2
    go_ret2
    exact ⟨rfl, rfl⟩
theorem zeroRef : (Try.prog.info? 137).map (fun i => (i.zero, i.size)) = some (some (.agg #[.slice none 0 0, .slice none 0 0]), 2) := by kernel_rfl

theorem NewSt.cong {w W : World} {b kF kB : Nat} {fc : Nat → List Value} {f f' : Nat → Fr} {g cg : Nat → Nat} {vF vB : Value} (h : NewSt w W b kF kB fc f g cg vF vB) (he : ∀ i, i < kB → f' i = f i) : NewSt w W b kF kB fc f' g cg vF vB :=
  ⟨h.top, h.fr, h.bs, fun i hi => by rw [he i hi]; exact h.row i hi, h.cap, h.inj, h.hb, h.grown⟩
set_option maxRecDepth 100000 in
theorem rNew_yes (n : Nat) (w : World) (h1 : 1 ≤ n) (h2 : n ≤ 256) : Calls Try.prog 12 #[.int .i64 n] w fun e w' => ∃ v, e = .returned (.tuple #[v, .int .i64 0]) ∧ NewRef w (upTo n n) v w' := by
  have g1 : (1 : Int) ≤ n := by omega
  have g2 : (n : Int) ≤ 256 := by omega
  obtain ⟨i4, hi, hz0, hz1, hz2⟩ := info_parts info_frame
  have Hi := hid hi; have Hz0 := hid hz0; have Hz1 := hid hz1; have Hz2 := hid hz2
  clear hi hz0 hz1 hz2
  obtain ⟨i3, hi, hz0, hz1, hz2⟩ := info_parts info_bytes
  have Ji := hid hi; have Jz0 := hid hz0; have Jz1 := hid hz1; have Jz2 := hid hz2
  clear hi hz0 hz1 hz2
  go_enter Try.func12, Try.ntmps12
  go_wp2
  obtain ⟨W0, hW0⟩ : ∃ W0, w.alloc (.cells #[.slice none 0 0, .slice none 0 0] 137) = W0 := ⟨_, rfl⟩
  have HS0 := hid (show NewSt w W0 w.heap.size 0 0 frs (fun _ => blankFr) (fun _ => 0) (fun _ => 0) (.slice none 0 0) (.slice none 0 0) from by
    rw [← hW0]
    refine ⟨⟨_, heap_alloc_new w _, by simp, fun k hk => ?_⟩, World.ownsRow_nil _ _ _ _, World.ownsRow_nil _ _ _ _, fun i hi => by omega, fun i hi => by omega, fun i j hi => by omega, Nat.le_refl _, World.grownBy_alloc w _ none⟩
    match k, hk with
    | 0, _ => rfl
    | 1, _ => rfl)
  rw [hW0]
  clear hW0
  go_loopw [5] (fun i wr => ∃ (k : Nat) (g cg : Nat → Nat) (vF vB : Value), i = .int .i64 k ∧ k ≤ n ∧ NewSt w wr w.heap.size k k frs (fun _ => blankFr) g cg vF vB) (fun i _ => n - (intOf i).toNat)
  case atStart => exact ⟨0, _, _, _, _, rfl, by omega, HS0.out⟩
  case round =>
    obtain ⟨k, g, cg, vF, vB, rfl, hk, hst⟩ := hrel
    by_cases hlt : k < n
    · have hlt' : (k : Int) < n := by omega
      have hk256 : k < 256 := by omega
      have HS := hid hst
      have cF := hst.top.cell (k := 0) (by omega)
      have fF := hst.top.frozen 0
      have HX := hid (hst.ext (World.grownBy_alloc wr (.cells #[.int .i64 (-1), .int .i64 0, .int .i64 0, .int .i64 0] 100) none))
      have HBs := hid (show w.heap.size + 1 ≤ (wr.alloc (.cells #[.int .i64 (-1), .int .i64 0, .int .i64 0, .int .i64 0] 100)).heap.size from by have := hst.top.lt; simp; omega)
      have cF' := HX.out.top.cell (k := 0) (by omega)
      simp only [top2] at cF cF'
      clear hst
      go_wp2_with (at_builtin; refine wpList_append_own _ rfl _ _ 134 rfl (w.heap.size + 1) 100 i4 (.agg #[.int .i64 0, .int .i64 0, .int .i64 0, .int .i64 0]) 4 32 Try.underlying134 Hi.out Hz0.out Hz1.out Hz2.out rfl (by decide) _ _ _ rfl HX.out.fr ⟨wr.heap.size, 0, none⟩ 1 1 [.int .i64 (-1), .int .i64 0, .int .i64 0, .int .i64 0] rfl rfl (World.news_of_block (heap_alloc_new wr _)) (by simp [Value.oneCell']) (by unfold maxLen; omega) (by omega) HBs.out ?_; intro v' w1 hown' hgrow hnil; clear hnil; obtain ⟨gf, cf, rfl⟩ := ownsRow_succ hown'; rw [← frs_succ] at hown'; have HS1 := hid (HX.out.stepF hgrow hown'); have cF1 := (HX.out.top.grown hgrow (own_ne_row HX.out.fr HX.out.top (by decide))).cell (k := 0) (by omega); have fF1 := (HX.out.top.grown hgrow (own_ne_row HX.out.fr HX.out.top (by decide))).frozen 0; simp only [top2] at cF1; clear hown' hgrow)
      obtain ⟨W1, hW1⟩ : ∃ W1, w1.setCell ⟨w.heap.size, 0, none⟩ (.slice (some ⟨gf, 0, none⟩) (k + 1) cf) = W1 := ⟨_, rfl⟩
      have HS2 := hid (show NewSt w W1 w.heap.size (k + 1) k frs (fun _ => blankFr) g cg (.slice (some ⟨gf, 0, none⟩) (k + 1) cf) vB from hW1 ▸ HS1.out)
      rw [hW1]
      clear hW1 cF cF' fF cF1 fF1
      have hmk := make_zeros
      have HZ1 := hid (HS2.out.ext (World.grownBy_alloc W1 (.cells zeros 5) none))
      obtain ⟨X, hX⟩ : ∃ X, (W1.alloc (.cells zeros 5)).alloc (.cells #[.slice (some ⟨W1.heap.size, 0, none⟩) 256 256] 31) = X := ⟨_, rfl⟩
      have hXg : (W1.alloc (.cells zeros 5)).grownBy X none := hX ▸ World.grownBy_alloc _ _ none
      have HZ2 := hid (HZ1.out.ext hXg)
      have HZr := hid (show Row X W1.heap.size 5 256 (byt blankFr) from (zeros_row W1).grown hXg (by simp))
      have HXs := hid (show X.heap.size = W1.heap.size + 2 by rw [← hX]; simp)
      have HXn := hid (show X.heap[W1.heap.size + 1]? = some (.cells #[.slice (some ⟨W1.heap.size, 0, none⟩) 256 256] 31 (0, 0)) from by rw [← hX]; have := heap_alloc_new (W1.alloc (.cells zeros 5)) (.cells #[.slice (some ⟨W1.heap.size, 0, none⟩) 256 256] 31); simpa using this)
      have c1 := HS2.out.top.cell (k := 1) (by omega)
      have c1' := HZ1.out.top.cell (k := 1) (by omega)
      have c1'' := HZ2.out.top.cell (k := 1) (by omega)
      simp only [top2] at c1 c1' c1''
      have HbX := hid (show w.heap.size + 1 ≤ X.heap.size from by have := HZ2.out.top.lt; omega)
      clear hXg
      go_region_law (refine step_append_lies _ (by rfl) _ _ 135 (by rfl) (w.heap.size + 1) 31 i3 (.slice none 0 0) 1 24 Try.underlying135 Ji.out Jz0.out Jz1.out Jz2.out rfl (by decide) vB k (sls g cg k) (by rfl) HZ2.out.bs ⟨W1.heap.size + 1, 0, none⟩ 1 1 [.slice (some ⟨W1.heap.size, 0, none⟩) 256 256] (by rfl) rfl (World.news_of_block HXn.out) (by simp [Value.oneCell']) (by omega) (by unfold maxLen; omega) (by omega) HbX.out (W1.heap.size + 2) HXs.out ?_; intro gb cb w2 hown' hgrow hat hlt2; have hgrow2 : X.grownBy w2 vB.ownBlock := (by first | exact hgrow | exact (grownBy_drew X _).trans hgrow); have hc2 := (HZ2.out.top.grown hgrow2 (own_ne_row HZ2.out.bs HZ2.out.top (by decide))).cell (k := 1) (by omega); have hf2 := (HZ2.out.top.grown hgrow2 (own_ne_row HZ2.out.bs HZ2.out.top (by decide))).frozen 1; simp only [top2] at hc2; have HS3 := hid (HZ2.out.stepB HZr.out HS2.out.top.lt (fun i hi e => Nat.lt_irrefl _ (e ▸ (HS2.out.row i hi).1.lt)) (Nat.le_refl 256) hgrow2 hown'); clear hown' hgrow hat hlt2 hgrow2)
      all_goals clear hmk hX c1 c1' c1''
      all_goals go_wp2
      all_goals go_roundw
      all_goals first
        | exact ⟨k + 1, _, _, _, _, by go_num, by omega, HS3.out⟩
        | exact ⟨k + 1, _, _, _, _, by go_num, by omega, HS3.out.ext (grownBy_drew _ none)⟩
        | (simp [intOf]; omega)
    · have hge : (n : Int) ≤ k := by omega
      obtain rfl : k = n := by omega
      have HS := hid hst
      clear hst
      go_wp2
      go_ret2
      obtain ⟨m, rfl⟩ : ∃ m, k = m + 1 := ⟨k - 1, by omega⟩
      exact ⟨_, rfl, NewSt.done (M := upTo ((m + 1 : Nat) : Int) (m + 1)) (HS.out.cong fun i hi => by simp [upTo, hi]) rfl fun q hq => by
        have h4 : q / 4 < m + 1 := by omega
        simp [frs, hd, upTo, List.getD, hq, h4]⟩
end Go.Proofs.Ytibiianmpajabaa
