/-
  PhysParts: for every size and every row of calls the law returns true, and what was there stays. No condition.
-/
import Derived.Test.YtfifhaajjjamcaaLawLeast
import Derived.IntWalk
namespace Go.Proofs.Ytfifhaajjjamcaa.lawParts
open Go.ChangeShapes Go.WideShapes Go.ChangeAt Go.RowKit
open Go.Proofs.Ytfifhaajjjamcaa.lawLeast (Script upTo_ok)
set_option maxHeartbeats 6000000

theorem own : ownKnob Try.prog.godebug = none := by kernel_rfl
theorem laidOut : laidOutB Try.prog = true := by kernel_rfl

/-- how many frames have an owner below o -/
def below (M : Mach) (o : Int) : Nat := ((List.range M.n.toNat).filter fun k => decide ((M.fr k).owner < o)).length
theorem filt_succ (f : Nat → Int) (o : Int) : ∀ l : List Nat, (l.filter fun k => decide (f k < o + 1)).length = (l.filter fun k => decide (f k < o)).length + (l.filter fun k => f k == o).length
  | [] => rfl
  | x :: l => by
    have ih := filt_succ f o l
    simp only [List.filter_cons]
    rcases Int.lt_trichotomy (f x) o with h | h | h
    · simp [show f x < o + 1 by omega, h, show f x ≠ o by omega, ih]; omega
    · subst h; simp [show f x < f x + 1 by omega, ih]; omega
    · simp [show ¬ f x < o + 1 by omega, show ¬ f x < o by omega, show f x ≠ o by omega, ih]
theorem below_succ (M : Mach) (o : Int) : below M (o + 1) = below M o + (M.ownedL o).length := filt_succ _ o _
theorem below_lo {M : Mach} {T : Int} (h : M.ok T) : below M (-2) = 0 := by
  unfold below
  rw [List.length_eq_zero_iff, List.filter_eq_nil_iff]
  intro k hk
  have := (h.fr k (by have := List.mem_range.1 hk; have := h.n1; omega)).1.lo
  simp; omega
theorem below_hi {M : Mach} {T : Int} (h : M.ok T) : below M 8 = M.n.toNat := by
  unfold below
  rw [List.filter_eq_self.2, List.length_range]
  intro k hk
  have := (h.fr k (by have := List.mem_range.1 hk; have := h.n1; omega)).1.hi
  simp; omega
theorem below_le (M : Mach) (o : Int) : below M o ≤ M.n.toNat := by
  have := List.length_filter_le (fun k => decide ((M.fr k).owner < o)) (List.range M.n.toNat)
  simpa [below] using this
theorem rising (M : Mach) (o : Int) (k : Nat) (h : k + 1 < (M.ownedL o).length) : (M.ownedL o)[k] < (M.ownedL o)[k + 1] := by
  have hp : (M.ownedL o).Pairwise (· < ·) := List.pairwise_lt_range.filter _
  exact List.pairwise_iff_getElem.1 hp k (k + 1) (by omega) h (by omega)
set_option maxRecDepth 100000 in
theorem walk_no (n : Int) (hn : n < 1 ∨ 256 < n) (p : Option Addr) (len cap : Nat) (w : World) :
    Calls Try.prog 4 #[.int .i64 n, .slice p len cap] w fun e w' => e = .returned (.bool true) ∧ w.grownBy w' none := by
  go_enter Try.func4, Try.ntmps4
  go_wp2_with (first
    | (go_at_call 10; refine (New_no n _ hn).mono ?_; rintro e w1 ⟨rfl, rfl⟩)
    | (go_at_call 12; refine (awake_yes _).mono ?_; rintro e w3 ⟨rfl, hg3⟩; have HG3 := hid hg3; clear hg3))
  go_ret
  exact ⟨rfl, HG3.out⟩

set_option maxRecDepth 100000 in
theorem walk_yes (n : Nat) (h1 : 1 ≤ n) (h2 : n ≤ 256) (p : Option Addr) (len cap : Nat) (w : World) (hlen : len ≤ 9223372036854775806) (hs : Script w p len) :
    Calls Try.prog 4 #[.int .i64 n, .slice p len cap] w fun e w' => e = .returned (.bool true) ∧ w.grownBy w' none := by
  have HS := hid hs
  have HOK := hid (upTo_ok n h1 h2)
  clear hs
  go_enter Try.func4, Try.ntmps4
  go_wp2_with (first
    | (go_at_call 10; refine (New_yes n _ h1 h2).mono ?_; rintro e w1 ⟨v, rfl, B, rfl, hB, hM1, hg1⟩; have HM1 := hid hM1; have HG1 := hid hg1; clear hM1 hg1)
    | (go_at_call 11; refine (rNew_yes n _ h1 h2).mono ?_; rintro e w2 ⟨v, rfl, b, L, rfl, hr, hg2, hf⟩; have HP := hid (Pair.mk (HM1.out.grown hg2 (by simp)) hr); have HG2 := hid (HG1.out.trans hg2); have HF := hid (fun k hk => Nat.le_trans HG1.out.size (hf k hk)); clear hr hg2 hf))
  go_loopw [9] (fun i wr => ∃ (k : Nat) (M : Mach) (L : Lay), i = .int .i64 k ∧ k ≤ len ∧ Pair wr B b M L ∧ M.ok k ∧ M.n = n ∧ w.grownBy wr none ∧ ∀ j, L.foot b j → w.heap.size ≤ j) (fun i _ => len - (intOf i).toNat)
  case atStart => exact ⟨0, _, L, rfl, by omega, HP.out, HOK.out, rfl, HG2.out, HF.out⟩
  case round =>
    clear HP HG2 HF HM1 HG1
    obtain ⟨k, M, L, rfl, hk, hP, hok, hnn, hg, hf⟩ := hrel
    have HP := hid hP; have HOk := hid hok; have HG := hid hg; have HF := hid hf; have HN := hid hnn
    clear hP hok hg hf hnn
    by_cases hlt : k < len
    · have hlt' : (k : Int) < len := by omega
      have hk0 : (0 : Int) ≤ k := by omega
      obtain ⟨sb, so, o, rfl, hsb, hop, hoo, hin⟩ := HS.out k hlt
      have HPl := hid (fun W (hP : Pair W B b M L) (hg : w.grownBy W none) => play_any o hoo B b W M L k hP HOk.out (by omega) (fun j hj => by
        rcases hin with h0 | ⟨b', o', e, hb', hc⟩
        · rw [h0] at hj; simp at hj
        · exact ⟨b', o', e, fun h => h.elim (fun e => by omega) (fun h => by have := HF.out _ h; omega), Nat.lt_of_lt_of_le hb' hg.size, hg.cell (hc j hj) (by simp)⟩))
      obtain ⟨d0, d1, d2, d3, d4⟩ := hop
      have d0 := HG.out.cell d0 (by simp); have d1 := HG.out.cell d1 (by simp); have d2 := HG.out.cell d2 (by simp); have d3 := HG.out.cell d3 (by simp); have d4 := HG.out.cell d4 (by simp)
      go_upto_region 11 with (go_at_call 16; refine (HPl.out _ HP.out HG.out).mono ?_; rintro e w3 ⟨rfl, M', L', hP', hok', hn', hch, hft⟩; have HP3 := hid hP'; have HO3 := hid hok'; have HN3 := hid (hn'.trans HN.out); have HG3 := hid (hch.grown HG.out (fun j hj => hj.elim (fun e => by omega) (HF.out j))); have HF3 := hid (fun j (hj : L'.foot b j) => (hft j hj).elim (HF.out j) (Nat.le_trans HG.out.size)); clear hP' hok' hn' hch hft)
      clear d0 d1 d2 d3 d4 HPl HP HOk HG HF HN hin
      have hn1 := HO3.out.n1; have hn2 := HO3.out.n2
      have HB0 := hid (below_lo HO3.out); have HB8 := hid (below_hi HO3.out)
      go_wp2
      go_loopw [10, 11] (fun a q wr => ∃ (t : Nat) (x : Int), q = .int .i64 x ∧ x = (t : Int) - 2 ∧ a = .int .i64 (below M' x) ∧ t ≤ 10 ∧ Pair wr B b M' L' ∧ w.grownBy wr none) (fun _ q _ => 10 - (intOf q + 2).toNat)
      case atStart => exact ⟨0, -2, rfl, rfl, by rw [HB0.out]; rfl, by omega, HP3.out, HG3.out⟩
      case round =>
        obtain ⟨t, q, rfl, hqt, rfl, ht, hP4, hG4⟩ := hrel
        have HP4 := hid hP4; have HG4 := hid hG4; have HQ := hid hqt
        clear hqt
        have hql : -2 ≤ q := by have := HQ.out; omega
        have hbl := below_le M' q
        have hll := ownedL_len M' q hn2
        clear hP4 hG4 HP3 HG3
        by_cases hq8 : q < 8
        · have hbs := below_succ M' q
          have hbn : below M' q ≤ 256 := by omega
          clear hbl
          obtain ⟨l, hl⟩ : ∃ l, M'.ownedL q = l := ⟨_, rfl⟩
          have HRi := hid (show ∀ k (h : k + 1 < l.length), l[k] < l[k + 1] from by subst hl; exact rising M' q)
          rw [hl] at hbs hll
          have HL := hid hl; have HBS := hid hbs
          clear hl hbs
          go_wp2_with (go_at_call 18; refine (Owned_any _ M' q _ (HP4.out.m.stops hn1 hn2) hn2).mono ?_; rw [HL.out]; rintro e w5 ⟨v, rfl, hnew⟩; obtain ⟨pv, cv, rfl⟩ := newInts_slice hnew; have HP5 := hid (HP4.out.grown hnew.2.2); have HG5 := hid (HG4.out.trans hnew.2.2); have HO5 := hid hnew.1; clear hnew)
          go_loopw [13] (fun i wr => ∃ j : Nat, i = .int .i64 j ∧ j ≤ l.length ∧ Pair wr B b M' L' ∧ w5.grownBy wr none ∧ w.grownBy wr none) (fun i _ => l.length - (intOf i).toNat)
          case atStart => exact ⟨0, rfl, by omega, HP5.out, World.grownBy.refl _ _, HG5.out⟩
          case round =>
            obtain ⟨j, rfl, hj, hP6, hg6, hG6⟩ := hrel
            have HP6 := hid hP6; have HG6 := hid hG6; have Hg6 := hid hg6
            clear hP6 hG6 hg6
            by_cases hjl : j < l.length
            · have hjl' : (j : Int) < l.length := by omega
              have hj0 : (0 : Int) ≤ j := by omega
              obtain ⟨g, c1, e1, hc1⟩ := row_cellN HO5.out hjl
              have hcj := Hg6.out.cell hc1 (by simp)
              have hm := mem_ownedL.1 (show l[j] ∈ M'.ownedL q by rw [HL.out]; exact List.getElem_mem hjl)
              obtain ⟨hf, -⟩ := HO3.out.fr l[j] hm.1
              have HPrev := hid (show ∀ i, j = i + 1 → ∃ y, wr.cell? ⟨g, i, none⟩ = some (.int .i64 (y : Nat)) ∧ y < l[j] from fun i hi => by
                subst hi
                obtain ⟨g', c2, e2, hc2⟩ := row_cellN HO5.out (j := i) (by omega)
                rw [e1] at e2
                cases e2
                exact ⟨_, Hg6.out.cell hc2 (by simp), HRi.out i hjl⟩)
              cases e1
              clear hc1
              have HFr := hid (fun (W : World) (hM : PM W B M') => (Frame_yes B l[j] W M' _ hM HO3.out hm.1 : Calls Try.prog 19 #[.pointer (some ⟨B, 0, none⟩), .int .i64 (l[j] : Nat)] W fun e w' => e = .returned (.tuple #[(M'.fr l[j]).head, .int .i64 0]) ∧ W.grownBy w' none))
              have HCl := hid (fun (W : World) (hM : PM W B M') (hz : ∀ k, k < 256 → (M'.fr l[j]).bs k = 0) => clean_yes B l[j] W M' _ hM HO3.out hm.1 hz)
              have hoo : (q != q) = false := by simp
              have hown := hm.2
              have hfc0 := hf.c0; have hfct := hf.ct; have hfz := hf.z; have hff := hf.free
              have HM1 := hid hm
              clear hm hf
              generalize hx : l[j] = x at *
              clear hx
              have HX := hid (show ((M'.fr x).head) = .agg #[.int .i64 q, .int .i64 (M'.fr x).ty, .int .i64 (M'.fr x).cnt, .int .i64 (M'.fr x).tot] by unfold Fr.head; rw [hown])
              go_upto_region 21 with (go_at_call 19; refine (HFr.out _ HP6.out.m).mono ?_; rw [HX.out]; rintro e w7 ⟨rfl, g7⟩; have hcj7 := g7.cell hcj (by simp); have HP7 := hid (HP6.out.grown g7); have HG7 := hid (HG6.out.trans g7); have Hg7 := hid (Hg6.out.trans g7); have HPv := hid g7; clear g7)
              -- GEN BEGIN
              have hb1 : decide ((M'.fr x).cnt < 0) = false := by simp; omega
              have hb2 : decide ((M'.fr x).tot < (M'.fr x).cnt) = false := by simp; omega
              rcases Nat.eq_zero_or_pos j with hjz | hjp
              · subst hjz
                by_cases hqm : q = -1
                · obtain ⟨htz, hbz⟩ := hff (hown.trans hqm)
                  have hcz : (M'.fr x).cnt = 0 := by omega
                  have hty := hfz.1 hcz
                  rw [hty, hcz, htz]
                  have HZ := hid hbz
                  have hq1 : (q == -1) = true := by simp [hqm]
                  clear hb1 hb2 hfz hff hown hqm htz hbz hcz hty hfc0 hfct
                  obtain ⟨W1, hW1, hs1, e0, e1, e2, e3⟩ := box4 w7 (.int .i64 q) (.int .i64 0) (.int .i64 0) (.int .i64 0)
                  have hgW : w7.grownBy W1 none := hW1 ▸ World.grownBy_alloc _ _ none
                  rw [hW1]
                  have hcj1 := hgW.cell hcj7 (by simp)
                  have HPW := hid (HP7.out.grown hgW); have HGW := hid (HG7.out.trans hgW); have HgW := hid (Hg7.out.trans hgW)
                  clear hW1 hs1 hgW
                  go_quiet (fail)
                  all_goals go_wp2_with (go_at_call 20; refine (HCl.out _ (HPW.out.grown (grownBy_drewN W1 _ none)).m HZ.out).mono ?_; rintro e w8 ⟨rfl, g8⟩; have HP8 := hid ((HPW.out.grown (grownBy_drewN W1 _ none)).grown g8); have HG8 := hid ((HGW.out.trans (grownBy_drewN W1 _ none)).trans g8); have Hg8 := hid ((HgW.out.trans (grownBy_drewN W1 _ none)).trans g8); clear g8)
                  all_goals go_roundw
                  all_goals first | exact ⟨0 + 1, by go_num, by omega, HP8.out, Hg8.out, HG8.out⟩ | (simp [intOf]; omega)
                · have hq1 : (q == -1) = false := by simp [hqm]
                  by_cases hcz : (M'.fr x).cnt = 0
                  · have hty := hfz.1 hcz
                    rw [hty, hcz]
                    rw [hcz] at hb2
                    clear hb1 hfz hff hown hqm hcz hty hfc0 hfct
                    obtain ⟨W1, hW1, hs1, e0, e1, e2, e3⟩ := box4 w7 (.int .i64 q) (.int .i64 0) (.int .i64 0) (.int .i64 (M'.fr x).tot)
                    have hgW : w7.grownBy W1 none := hW1 ▸ World.grownBy_alloc _ _ none
                    rw [hW1]
                    have hcj1 := hgW.cell hcj7 (by simp)
                    have HPW := hid (HP7.out.grown hgW); have HGW := hid (HG7.out.trans hgW); have HgW := hid (Hg7.out.trans hgW)
                    clear hW1 hs1 hgW
                    go_quiet (fail)
                    all_goals go_wp2
                    all_goals go_roundw
                    all_goals first | exact ⟨0 + 1, by go_num, by omega, HPW.out.grown (grownBy_drewN W1 _ none), HgW.out.trans (grownBy_drewN W1 _ none), HGW.out.trans (grownBy_drewN W1 _ none)⟩ | (simp [intOf]; omega)
                  · have hb3 : ((M'.fr x).cnt == 0) = false := by simp [hcz]
                    have hb4 : ((M'.fr x).ty == 0) = false := by simp; exact fun e => hcz (hfz.2 e)
                    clear hfz hff hown hqm hcz hfc0 hfct
                    obtain ⟨W1, hW1, hs1, e0, e1, e2, e3⟩ := box4 w7 (.int .i64 q) (.int .i64 (M'.fr x).ty) (.int .i64 (M'.fr x).cnt) (.int .i64 (M'.fr x).tot)
                    have hgW : w7.grownBy W1 none := hW1 ▸ World.grownBy_alloc _ _ none
                    rw [hW1]
                    have hcj1 := hgW.cell hcj7 (by simp)
                    have HPW := hid (HP7.out.grown hgW); have HGW := hid (HG7.out.trans hgW); have HgW := hid (Hg7.out.trans hgW)
                    clear hW1 hs1 hgW
                    go_quiet (fail)
                    all_goals go_wp2
                    all_goals go_roundw
                    all_goals first | exact ⟨0 + 1, by go_num, by omega, HPW.out.grown (grownBy_drewN W1 _ none), HgW.out.trans (grownBy_drewN W1 _ none), HGW.out.trans (grownBy_drewN W1 _ none)⟩ | (simp [intOf]; omega)
              · obtain ⟨i, rfl⟩ : ∃ i, j = i + 1 := ⟨j - 1, by omega⟩
                obtain ⟨y, hcp, hyx⟩ := HPrev.out i rfl
                have hcp7 := HPv.out.cell hcp (by simp)
                have hyx' : (y : Int) < x := by omega
                have hle : decide ((x : Int) ≤ y) = false := by simp; omega
                have hw1 : IntKind.i64.wrap ((i : Int) + 1 - 1) = i := by rw [show (i : Int) + 1 - 1 = i by omega]; exact IntWalk.i64_in _ (by omega)
                have hw2 : IntKind.i64.wrap (i : Int) = i := IntWalk.i64_in _ (by omega)
                by_cases hqm : q = -1
                · obtain ⟨htz, hbz⟩ := hff (hown.trans hqm)
                  have hcz : (M'.fr x).cnt = 0 := by omega
                  have hty := hfz.1 hcz
                  rw [hty, hcz, htz]
                  have HZ := hid hbz
                  have hq1 : (q == -1) = true := by simp [hqm]
                  clear hb1 hb2 hfz hff hown hqm htz hbz hcz hty hfc0 hfct
                  obtain ⟨W1, hW1, hs1, e0, e1, e2, e3⟩ := box4 w7 (.int .i64 q) (.int .i64 0) (.int .i64 0) (.int .i64 0)
                  have hgW : w7.grownBy W1 none := hW1 ▸ World.grownBy_alloc _ _ none
                  rw [hW1]
                  have hcj1 := hgW.cell hcj7 (by simp)
                  have hcp1 := hgW.cell hcp7 (by simp)
                  have HPW := hid (HP7.out.grown hgW); have HGW := hid (HG7.out.trans hgW); have HgW := hid (Hg7.out.trans hgW)
                  clear hW1 hs1 hgW
                  have q1 : (0 : Int) ≤ (i : Int) + 1 := by omega
                  have q2 : (i : Int) + 1 < (l.length : Int) := by omega
                  have q3 : (0 : Int) ≤ (i : Int) := by omega
                  have q4 : (i : Int) < (l.length : Int) := by omega
                  have q5 : ((i : Int) + 1).toNat = i + 1 := by omega
                  go_quiet (fail)
                  all_goals clear q1 q2 q3 q4 q5 hw1 hw2
                  all_goals go_wp2_with (go_at_call 20; refine (HCl.out _ (HPW.out.grown (grownBy_drewN W1 _ none)).m HZ.out).mono ?_; rintro e w8 ⟨rfl, g8⟩; have HP8 := hid ((HPW.out.grown (grownBy_drewN W1 _ none)).grown g8); have HG8 := hid ((HGW.out.trans (grownBy_drewN W1 _ none)).trans g8); have Hg8 := hid ((HgW.out.trans (grownBy_drewN W1 _ none)).trans g8); clear g8)
                  all_goals go_roundw
                  all_goals first | exact ⟨i + 1 + 1, by go_num, by omega, HP8.out, Hg8.out, HG8.out⟩ | (simp [intOf]; omega)
                · have hq1 : (q == -1) = false := by simp [hqm]
                  by_cases hcz : (M'.fr x).cnt = 0
                  · have hty := hfz.1 hcz
                    rw [hty, hcz]
                    rw [hcz] at hb2
                    clear hb1 hfz hff hown hqm hcz hty hfc0 hfct
                    obtain ⟨W1, hW1, hs1, e0, e1, e2, e3⟩ := box4 w7 (.int .i64 q) (.int .i64 0) (.int .i64 0) (.int .i64 (M'.fr x).tot)
                    have hgW : w7.grownBy W1 none := hW1 ▸ World.grownBy_alloc _ _ none
                    rw [hW1]
                    have hcj1 := hgW.cell hcj7 (by simp)
                    have hcp1 := hgW.cell hcp7 (by simp)
                    have HPW := hid (HP7.out.grown hgW); have HGW := hid (HG7.out.trans hgW); have HgW := hid (Hg7.out.trans hgW)
                    clear hW1 hs1 hgW
                    have q1 : (0 : Int) ≤ (i : Int) + 1 := by omega
                    have q2 : (i : Int) + 1 < (l.length : Int) := by omega
                    have q3 : (0 : Int) ≤ (i : Int) := by omega
                    have q4 : (i : Int) < (l.length : Int) := by omega
                    have q5 : ((i : Int) + 1).toNat = i + 1 := by omega
                    go_quiet (fail)
                    all_goals clear q1 q2 q3 q4 q5 hw1 hw2
                    all_goals go_wp2
                    all_goals go_roundw
                    all_goals first | exact ⟨i + 1 + 1, by go_num, by omega, HPW.out.grown (grownBy_drewN W1 _ none), HgW.out.trans (grownBy_drewN W1 _ none), HGW.out.trans (grownBy_drewN W1 _ none)⟩ | (simp [intOf]; omega)
                  · have hb3 : ((M'.fr x).cnt == 0) = false := by simp [hcz]
                    have hb4 : ((M'.fr x).ty == 0) = false := by simp; exact fun e => hcz (hfz.2 e)
                    clear hfz hff hown hqm hcz hfc0 hfct
                    obtain ⟨W1, hW1, hs1, e0, e1, e2, e3⟩ := box4 w7 (.int .i64 q) (.int .i64 (M'.fr x).ty) (.int .i64 (M'.fr x).cnt) (.int .i64 (M'.fr x).tot)
                    have hgW : w7.grownBy W1 none := hW1 ▸ World.grownBy_alloc _ _ none
                    rw [hW1]
                    have hcj1 := hgW.cell hcj7 (by simp)
                    have hcp1 := hgW.cell hcp7 (by simp)
                    have HPW := hid (HP7.out.grown hgW); have HGW := hid (HG7.out.trans hgW); have HgW := hid (Hg7.out.trans hgW)
                    clear hW1 hs1 hgW
                    have q1 : (0 : Int) ≤ (i : Int) + 1 := by omega
                    have q2 : (i : Int) + 1 < (l.length : Int) := by omega
                    have q3 : (0 : Int) ≤ (i : Int) := by omega
                    have q4 : (i : Int) < (l.length : Int) := by omega
                    have q5 : ((i : Int) + 1).toNat = i + 1 := by omega
                    go_quiet (fail)
                    all_goals clear q1 q2 q3 q4 q5 hw1 hw2
                    all_goals go_wp2
                    all_goals go_roundw
                    all_goals first | exact ⟨i + 1 + 1, by go_num, by omega, HPW.out.grown (grownBy_drewN W1 _ none), HgW.out.trans (grownBy_drewN W1 _ none), HGW.out.trans (grownBy_drewN W1 _ none)⟩ | (simp [intOf]; omega)
              -- GEN END
            · have hge : (l.length : Int) ≤ j := by omega
              obtain rfl : j = l.length := by omega
              go_wp2
              go_roundw
              case rel => exact ⟨t + 1, q + 1, by go_num, by have := HQ.out; omega, by rw [HBS.out]; go_num, by have := HQ.out; omega, HP6.out, HG6.out⟩
              case measure => have := HQ.out; simp [intOf]; omega
        · have ht10 : t = 10 := by have := HQ.out; omega
          have hq : q = 8 := by have := HQ.out; omega
          clear HQ
          subst hq ht10
          rw [show below M' 8 = n from by have := HB8.out; have := HN3.out; omega]
          have hee : ((n : Int) != (n : Int)) = false := by simp
          have hel : (M'.leftN != ((M'.ownedL (-1)).length : Int)) = false := by simp [Mach.leftN]
          clear hbl hll hn1
          have hn1 := HO3.out.n1
          go_wp2_with (first
            | (go_at_call 21; refine (Left_any _ M' _ (HP4.out.m.stops hn1 hn2) hn2).mono ?_; rintro e w5 ⟨rfl, g5⟩; have HP5 := hid (HP4.out.grown g5); have HG5 := hid (HG4.out.trans g5); clear g5)
            | (go_at_call 18; refine (Owned_any _ M' (-1) _ (HP5.out.m.stops hn1 hn2) hn2).mono ?_; rintro e w6 ⟨v, rfl, hnew⟩; obtain ⟨pv, cv, rfl⟩ := newInts_slice hnew; have HP6 := hid (HP5.out.grown hnew.2.2); have HG6 := hid (HG5.out.trans hnew.2.2); clear hnew))
          go_roundw
          case rel => exact ⟨k + 1, M', L', by go_num, by omega, HP6.out, HO3.out, HN3.out, HG6.out, HF3.out⟩
          case measure => simp [intOf]; omega
    · have hge : (len : Int) ≤ k := by omega
      obtain rfl : k = len := by omega
      go_wp2_with (go_at_call 12; refine (awake_yes _).mono ?_; rintro e w3 ⟨rfl, hg3⟩; have HG3 := hid (HG.out.trans hg3); clear hg3)
      go_ret
      exact ⟨rfl, HG3.out⟩

theorem walk (n : Int) (p : Option Addr) (len cap : Nat) (w : World) (hlen : len ≤ 9223372036854775806) (hs : Script w p len) :
    Calls Try.prog 4 #[.int .i64 n, .slice p len cap] w fun e w' => e = .returned (.bool true) ∧ w.grownBy w' none := by
  by_cases hn : n < 1 ∨ 256 < n
  · exact walk_no n hn p len cap w
  · obtain ⟨m, rfl⟩ := Int.eq_ofNat_of_zero_le (show 0 ≤ n by omega)
    exact walk_yes m (by omega) (by omega) p len cap w hlen hs

set_option maxRecDepth 100000 in
theorem lifted (os : Os) (started : os.Started) (H : Type) (enc : TypeId × Value → H) :
    ReturnsInHanded {} Try.checked os 4 .any (Rows.physPartsSpec.pre6 enc Try.prog Try.f4 Rows.physPartsRow.domain false) (Rows.physPartsSpec.post enc Try.prog Try.f4 false true false false) := by
  refine returnsInHanded_of_change_sized (C := Try.checked) own started (by kernel_rfl) Try.func4
    (ChangeSpec.witness6 (enc := enc) (C := Try.checked) false ⟨#[], #[.int .i64 0, .slice none 0 0], []⟩ 8 (by kernel_rfl) (by kernel_rfl) (by kernel_rfl) (by kernel_rfl)) ?_
  intro W base args ds gs before hval0 hW _ hsz0 _
  have hsz : (DataW.weightsEach Try.prog (Try.f4.params.toList ++ Rows.physPartsSpec.plain.varTypes Try.prog) (ds ++ gs)).all (· ≤ reachBytes) = true := hsz0
  clear hsz0
  have hval : ∀ (j : Nat) t v, Try.f4.params[j]? = some t → args[j]? = some v → Value.okWide Try.prog W .any base t v := hval0
  have hW' := hW
  obtain ⟨p, q, hA0, hV, rfl, hfz, hnd⟩ := hW
  have hA : DataW.TrodAll enc Try.prog W 0 (fun _ => true) true Try.f4.params.toList args.toList ds p := hA0
  rw [Try.params4] at hA hval hsz
  obtain ⟨v0, v1, d0, d1, p0, p1, rfl, rfl, rfl, h0, h1⟩ := trodAll_two hA
  obtain ⟨rfl, rfl⟩ := trodVars_none hV
  obtain ⟨a0, rfl, rfl, rfl, w0⟩ := open_int Try.underlying3 (hval 0 3 v0 rfl rfl) h0
  obtain ⟨ps, len1, cap1, rfl⟩ := okWide_slice Try.underlying22 (hval 1 22 v1 rfl rfl)
  have k1 := h1
  have lt1 : ∀ x ∈ p1, x.block < W.heap.size := by obtain ⟨m, hm⟩ := k1; exact DataW.trod_lt m _ _ _ hm
  obtain ⟨hl1, hs1⟩ : len1 ≤ 9223372036854775806 ∧ Script W ps len1 := by
    obtain ⟨fuel, hf⟩ := h1
    obtain ⟨p, len, cap, e, hl, hs⟩ := open_ops hf (fun n hn => by
      have := List.all_eq_true.1 hsz n (DataW.weights_mem_each (j := 1) rfl rfl n hn)
      simpa using this)
    cases e
    exact ⟨hl, hs⟩
  clear hA0 hval0
  refine (walk a0 ps len1 cap1 W hl1 hs1).mono fun e W' ⟨he, hg⟩ => ?_
  subst he
  have bel := below_grown hg
  simp only [List.append_nil, List.nil_append] at hW'
  exact ⟨_, rfl, _, _, _, [], _, [], hW', trodAll_mk1 (shut_bool Try.underlying4 _), (trodAll_mk2 (shut_int Try.underlying3 w0) (Below.trod laidOut (by kernel_rfl) (of_decide_eq_true (by kernel_rfl)) k1 bel lt1)), rfl, bel.frame _, fun h => by cases h⟩

theorem proved : Rows.PhysPartsSaid :=
  OpenClaim.holds_of_wide 4 Try.f4 rfl rfl rfl rfl rfl rfl rfl ⟨rfl, rfl, rfl, rfl, rfl⟩ rfl rfl rfl rfl rfl (by kernel_rfl) Try.func4 (by kernel_rfl)
    (of_decide_eq_true (by kernel_rfl)) (by unfold Func.isWrapper; first | (rw [if_pos (by decide +kernel)]; kernel_rfl) | (rw [if_neg (by decide +kernel)]; exact ⟨rfl, rfl⟩))
    (fun os started H enc _ => lifted os started H enc)
#print axioms proved
end Go.Proofs.Ytfifhaajjjamcaa.lawParts
