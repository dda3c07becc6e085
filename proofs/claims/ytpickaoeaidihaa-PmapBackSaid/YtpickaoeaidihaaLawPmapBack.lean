/-
  PmapBack: for every number and every row of calls the law returns true, and what was there stays. No condition.
-/
import Derived.Test.YtpickaoeaidihaaPmapE
import Derived.Deep.Cut
import Derived.StillTailTactics
import Derived.IntWalk
namespace Go.Proofs.Ytpickaoeaidihaa.lawPmapBack
open Go.ChangeShapes Go.WideShapes Go.ChangeAt Go.RowKit Gen
set_option maxHeartbeats 1000000

theorem grownBy_drewN (w : World) (n : Nat) (row : Option Nat) : w.grownBy (w.drewN n) row := ⟨rfl, rfl, rfl, Nat.le_refl _, fun _ _ _ => rfl⟩

/-- what is kept from round to round -/
structure At (w wr : World) (b f p s k : Nat) (M : Mp) : Prop where
  map : PMap wr b f p M k
  ok : M.ok
  n : M.n = s
  grown : w.grownBy wr none
theorem At.step {w wr w' : World} {b f p s k T : Nat} {M M' : Mp} (h : At w wr b f p s k M) (hl : PLeft b f p wr M' T w') (hT : T ≤ k + 1) (hok : M'.ok) (hn : M'.n = M.n) (hf : ∀ j, pfoot b f p j → w.heap.size ≤ j) : At w w' b f p s (k + 1) M' :=
  ⟨hl.map.mono hT, hok, hn.trans h.n, hl.chg.grown h.grown hf⟩
theorem At.more {w wr w' : World} {b f p s k : Nat} {M : Mp} (h : At w wr b f p s k M) (hg : wr.grownBy w' none) : At w w' b f p s k M := ⟨h.map.grown hg, h.ok, h.n, h.grown.trans hg⟩
theorem setE_n (M : Mp) (g m : Int) : (M.setE g m).1.n = M.n := by unfold Mp.setE; (repeat' split) <;> rfl
theorem clearE_n (M : Mp) (g : Int) : (M.clearE g).1.n = M.n := by
  rcases M.getE_cases g with ⟨m, _, _, _, e⟩ | ⟨_, _, _, e⟩ | ⟨_, _, e⟩ <;> rw [e] <;> rfl

theorem list_facts {M : Mp} {L : List (Int × Int)} (hL : M.listP M.n = L) (hok : M.ok) :
    (∀ j (h : j < L.length), M.getE L[j].1 = (L[j].2, 0) ∧ M.findE L[j].2 = (L[j].1, 0) ∧ I64 L[j].1 ∧ I64 L[j].2) ∧ (∀ i (h : i + 1 < L.length), L[i].1 < L[i + 1].1) := by
  subst hL
  refine ⟨fun j h => ?_, fun i h => M.listP_lt _ i h⟩
  obtain ⟨g, m, e, _, hf⟩ := M.listP_get _ j h
  obtain ⟨h0, h1, h2, h3⟩ := hok.dom _ _ hf
  have hn := hok.n48
  rw [e]
  refine ⟨?_, ?_, I64.of (by simp only; omega) (by simp only; omega), I64.of (by simp only; omega) (by simp only; omega)⟩
  · unfold Mp.getE
    rw [if_pos (inPl_yes.2 ⟨h0, h1⟩), hf]
  · unfold Mp.findE
    rw [(hok.inv _ _).1 hf]
theorem hole_facts {M : Mp} {L : List (Int × Int)} {s : Nat} (hL : M.listP M.n = L) (hs : M.n = s) :
    (∃ k : Nat, M.holeE = ((k : Int), 0) ∧ k ≤ L.length ∧ L.length < s ∧ ∀ h : k < L.length, (k : Int) < L[k].1) ∨ (M.holeE = (0, 6) ∧ L.length = s) := by
  subst hL
  rcases M.hole_cases with ⟨k, _, h1, h2, h3, h4⟩ | ⟨h1, h2⟩
  · exact .inl ⟨k, h1, h2, hs ▸ h3, h4⟩
  · exact .inr ⟨h1, hs ▸ h2⟩

set_option maxRecDepth 100000 in
set_option maxHeartbeats 4000000 in
theorem walk (n s : Nat) (hn : n ≤ 255) (hs : (n : Int) % 49 = s) (p0 : Option Addr) (len cap : Nat) (w : World) (hlen : len ≤ 140737488351232) (hscr : PScript w p0 len) :
    Calls Try.prog 4 #[.int .u8 n, .slice p0 len cap] w fun e w' => e = .returned (.bool true) ∧ w.grownBy w' none := by
  have hs48 : s ≤ 48 := by omega
  have hss : (s : Int) ≤ 48 := by omega
  have hs0 : (0 : Int) ≤ s := by omega
  have HS := hid hscr
  have HLen := hid hlen
  clear hscr hlen
  go_enter Try.func4, Try.ntmps4
  go_wp2_with (go_at_call 8; refine (pNew_yes s _ hs48).mono ?_; rintro e w1 ⟨v, rfl, b, f, p, rfl, h1, g1, hf1⟩; have H1 := hid (At.mk (s := s) h1 (Mp.empty_ok s hs48) rfl g1); have F1 := hid hf1; clear h1 g1 hf1)
  go_loopw [8] (fun i wr => ∃ (k : Nat) (M : Mp), i = .int .i64 k ∧ k ≤ len ∧ At w wr b f p s k M) (fun i _ => len - (intOf i).toNat)
  case atStart => exact ⟨0, _, rfl, by omega, H1.out⟩
  case round =>
    obtain ⟨k, M, rfl, hk, hat⟩ := hrel
    have HA := hid hat
    clear hat H1
    have hk0 : (0 : Int) ≤ k := by omega
    by_cases hlt : k < len
    · have hlt' : (k : Int) < len := by omega
      obtain ⟨sb, so, x, a, c, rfl, hsb, d0, d1, d2, hx, ha, hc⟩ := HS.out k hlt
      have d0 := HA.out.grown.cell d0 (by simp); have d1 := HA.out.grown.cell d1 (by simp); have d2 := HA.out.grown.cell d2 (by simp)
      have HAi := hid ha; have HCi := hid hc
      have HT := hid (show k < maxLen by have := HLen.out; unfold maxLen; omega)
      clear hx ha hc
      have HSt := hid (fun w' (h : PLeft b f p wr (M.clearE a).1 k w') => HA.out.step h (by omega) (Mp.clearE_ok HA.out.ok a) (clearE_n M a) F1.out)
      have HSd := hid (HA.out.more (grownBy_drew wr none))
      have HSs := hid (fun w' (h : PLeft b f p wr.drew (M.setE a c).1 (k + 1) w') => HSd.out.step h (by omega) (Mp.setE_ok HA.out.ok a c) (setE_n M a c) F1.out)
      by_cases hx1 : x = 1
      · subst hx1
        go_upto_region 11 with (go_at_call 11; refine (pClear_yes b f p M k a HAi.out _ HA.out.map HA.out.ok).mono ?_; rintro e w2 ⟨rfl, hl⟩; have HA2 := hid (HSt.out _ hl); clear hl)
        clear d0 d1 d2 HSt HSd HSs
        have HB := hid (⟨_, HA2.out⟩ : ∃ M', At w w2 b f p s (k + 1) M')
        clear HA2 HA
        obtain ⟨M', hB⟩ := HB.out
        have HB := hid hB
        have EN := hid hB.n
        have H48 := hid (show M'.n ≤ 48 by rw [hB.n]; exact hs48)
        obtain ⟨L, hL⟩ : ∃ L, M'.listP s = L := ⟨_, rfl⟩
        have hL48 : L.length ≤ 48 := by have := M'.listP_len s; rw [hL] at this; omega
        have HL := hid hL
        have HLg := hid (list_facts (show M'.listP M'.n = L by rw [hB.n]; exact hL) hB.ok)
        have HLc := hid (hole_facts (show M'.listP M'.n = L by rw [hB.n]; exact hL) hB.n)
        clear hB hL
        go_wp2_with (go_at_call 16; refine (pList_yes b f p M' (k + 1) _ HB.out.map H48.out).mono ?_; rw [EN.out, HL.out]; rintro e w3 ⟨v, rfl, hl⟩; obtain ⟨pv, cv, hv⟩ := ownsRow_slice hl.1; have HO := hid hl.1; have HB3 := hid (HB.out.more hl.2); clear hl; subst hv)
        go_loopw [10] (fun i wr => ∃ j : Nat, i = .int .i64 j ∧ j ≤ L.length ∧ w3.grownBy wr none) (fun i _ => L.length - (intOf i).toNat)
        case atStart => exact ⟨0, rfl, by omega, grownBy_refl _ _⟩
        case round =>
          obtain ⟨j, rfl, hj, hg⟩ := hrel
          have Hg := hid hg
          have HB4 := hid (HB3.out.more hg)
          clear hg
          have hj0 : (0 : Int) ≤ j := by omega
          by_cases hjl : j < L.length
          · have hjl' : (j : Int) < L.length := by omega
            obtain ⟨g, c1, e1, hbg, hc0, hc1⟩ := pairs_cells HO.out hjl
            have hc0 := Hg.out.cell hc0 (by simp)
            have hc1 := Hg.out.cell hc1 (by simp)
            have HPrev := hid (show ∀ i, j = i + 1 → ∃ y, wr.cell? ⟨g, i * 2, none⟩ = some (.int .i64 y) ∧ y < L[j].1 from fun i hi => by
              subst hi
              obtain ⟨g', c2, e2, _, hc2, _⟩ := pairs_cells HO.out (k := i) (by omega)
              rw [e1] at e2
              cases e2
              exact ⟨_, Hg.out.cell hc2 (by simp), HLg.out.2 i hjl⟩)
            cases e1
            obtain ⟨hgE, hfE, hgi, hmi⟩ := HLg.out.1 j hjl
            generalize L[j].1 = gj at *
            generalize L[j].2 = mj at *
            have HgE := hid hgE; have HfE := hid hfE; have HGi := hid hgi; have HMi := hid hmi
            clear hgE hfE hgi hmi
            go_upto_region 17 with (first
              | (go_at_call 17; refine (pGet_yes b f p M' (k + 1) gj HGi.out _ HB4.out.map).mono ?_; rw [HgE.out]; rintro e w5 ⟨rfl, rfl⟩)
              | (go_at_call 18; refine (pFind_yes b f p M' (k + 1) mj HMi.out _ HB4.out.map).mono ?_; rw [HfE.out]; rintro e w5 ⟨rfl, rfl⟩))
            have hmm : (mj != mj) = false := by simp
            have hgg : (gj != gj) = false := by simp
            rcases Nat.eq_zero_or_pos j with hjz | hjp
            · subst hjz
              go_quiet (fail)
              all_goals go_wp2
              all_goals go_roundw
              all_goals first | exact ⟨0 + 1, by go_num, by omega, Hg.out.trans (grownBy_drewN wr _ none)⟩ | (simp [intOf]; omega)
            · obtain ⟨i, rfl⟩ : ∃ i, j = i + 1 := ⟨j - 1, by omega⟩
              obtain ⟨y, hcp, hyx⟩ := HPrev.out i rfl
              have hle : decide (gj ≤ y) = false := by simp; omega
              have hw1 : IntKind.i64.wrap ((i : Int) + 1 - 1) = i := by rw [show (i : Int) + 1 - 1 = i by omega]; exact IntWalk.i64_in _ (by omega)
              have hw2 : IntKind.i64.wrap (i : Int) = i := IntWalk.i64_in _ (by omega)
              have q1 : (0 : Int) ≤ (i : Int) + 1 := by omega
              have q2 : (i : Int) + 1 < (L.length : Int) := by omega
              have q3 : (0 : Int) ≤ (i : Int) := by omega
              have q4 : (i : Int) < (L.length : Int) := by omega
              have q5 : ((i : Int) + 1).toNat = i + 1 := by omega
              go_quiet (fail)
              all_goals clear q1 q2 q3 q4 q5 hw1 hw2
              all_goals go_wp2
              all_goals go_roundw
              all_goals first | exact ⟨i + 1 + 1, by go_num, by omega, Hg.out.trans (grownBy_drewN wr _ none)⟩ | (simp [intOf]; omega)
          · obtain rfl : j = L.length := by omega
            have hge : (L.length : Int) ≤ L.length := by omega
            have hls : (L.length : Int) ≤ 48 := by omega
            have hk64 : (k : Int) ≤ 140737488351232 := by have := HLen.out; omega
            rcases HLc.out with ⟨q, hqe, hq1, hq2, hq3⟩ | ⟨hqe, hq1⟩
            · have HQ := hid hqe
              have hq2' : (L.length : Int) < s := by omega
              have hq0 : (0 : Int) ≤ q := by omega
              have hq4 : ¬ (L.length : Int) < q := by omega
              clear hqe
              by_cases hqL : q < L.length
              · obtain ⟨g, c1, e1, hbg, hc0, hc1⟩ := pairs_cells HO.out hqL
                have hc0 := Hg.out.cell hc0 (by simp)
                cases e1
                have hq3 := hq3 hqL
                have hqL' : (q : Int) < L.length := by omega
                generalize L[q].1 = gq at *
                have hq5 : ¬ gq ≤ q := by omega
                clear hc1
                go_wp2_with (go_at_call 19; refine (pHole_yes b f p M' (k + 1) _ HB4.out.map H48.out).mono ?_; rw [HQ.out]; rintro e w5 ⟨rfl, rfl⟩)
                go_roundw
                case rel => exact ⟨k + 1, M', by go_num, by omega, HB4.out⟩
                case measure => simp [intOf]; omega
              · have hqL' : ¬ (q : Int) < L.length := by omega
                clear hq3
                go_wp2_with (go_at_call 19; refine (pHole_yes b f p M' (k + 1) _ HB4.out.map H48.out).mono ?_; rw [HQ.out]; rintro e w5 ⟨rfl, rfl⟩)
                go_roundw
                case rel => exact ⟨k + 1, M', by go_num, by omega, HB4.out⟩
                case measure => simp [intOf]; omega
            · have HQ := hid hqe
              have hq2' : ¬ (L.length : Int) < s := by omega
              clear hqe
              go_wp2_with (go_at_call 19; refine (pHole_yes b f p M' (k + 1) _ HB4.out.map H48.out).mono ?_; rw [HQ.out]; rintro e w5 ⟨rfl, rfl⟩)
              go_roundw
              case rel => exact ⟨k + 1, M', by go_num, by omega, HB4.out⟩
              case measure => simp [intOf]; omega
      · have hxb : (x == 1) = false := by simp [hx1]
        go_upto_region 10 with (fail)
        have q5 : ((k : Int)).toNat = k := by omega
        go_still_tail 11, (by kernel_rfl)
        change wpList _ _ _ _ _ wr.drew
        go_upto_region 11 with (go_at_call 15; refine (pSet_yes b f p M k a c HAi.out HCi.out HT.out _ HSd.out.map).mono ?_; rintro e w2 ⟨rfl, hl⟩; have HA2 := hid (HSs.out _ hl); clear hl)
        clear d0 d1 d2 q5 HSt HSd HSs
        have HB := hid (⟨_, HA2.out⟩ : ∃ M', At w w2 b f p s (k + 1) M')
        clear HA2 HA
        obtain ⟨M', hB⟩ := HB.out
        have HB := hid hB
        have EN := hid hB.n
        have H48 := hid (show M'.n ≤ 48 by rw [hB.n]; exact hs48)
        obtain ⟨L, hL⟩ : ∃ L, M'.listP s = L := ⟨_, rfl⟩
        have hL48 : L.length ≤ 48 := by have := M'.listP_len s; rw [hL] at this; omega
        have HL := hid hL
        have HLg := hid (list_facts (show M'.listP M'.n = L by rw [hB.n]; exact hL) hB.ok)
        have HLc := hid (hole_facts (show M'.listP M'.n = L by rw [hB.n]; exact hL) hB.n)
        clear hB hL
        go_wp2_with (go_at_call 16; refine (pList_yes b f p M' (k + 1) _ HB.out.map H48.out).mono ?_; rw [EN.out, HL.out]; rintro e w3 ⟨v, rfl, hl⟩; obtain ⟨pv, cv, hv⟩ := ownsRow_slice hl.1; have HO := hid hl.1; have HB3 := hid (HB.out.more hl.2); clear hl; subst hv)
        go_loopw [10] (fun i wr => ∃ j : Nat, i = .int .i64 j ∧ j ≤ L.length ∧ w3.grownBy wr none) (fun i _ => L.length - (intOf i).toNat)
        case atStart => exact ⟨0, rfl, by omega, grownBy_refl _ _⟩
        case round =>
          obtain ⟨j, rfl, hj, hg⟩ := hrel
          have Hg := hid hg
          have HB4 := hid (HB3.out.more hg)
          clear hg
          have hj0 : (0 : Int) ≤ j := by omega
          by_cases hjl : j < L.length
          · have hjl' : (j : Int) < L.length := by omega
            obtain ⟨g, c1, e1, hbg, hc0, hc1⟩ := pairs_cells HO.out hjl
            have hc0 := Hg.out.cell hc0 (by simp)
            have hc1 := Hg.out.cell hc1 (by simp)
            have HPrev := hid (show ∀ i, j = i + 1 → ∃ y, wr.cell? ⟨g, i * 2, none⟩ = some (.int .i64 y) ∧ y < L[j].1 from fun i hi => by
              subst hi
              obtain ⟨g', c2, e2, _, hc2, _⟩ := pairs_cells HO.out (k := i) (by omega)
              rw [e1] at e2
              cases e2
              exact ⟨_, Hg.out.cell hc2 (by simp), HLg.out.2 i hjl⟩)
            cases e1
            obtain ⟨hgE, hfE, hgi, hmi⟩ := HLg.out.1 j hjl
            generalize L[j].1 = gj at *
            generalize L[j].2 = mj at *
            have HgE := hid hgE; have HfE := hid hfE; have HGi := hid hgi; have HMi := hid hmi
            clear hgE hfE hgi hmi
            go_upto_region 17 with (first
              | (go_at_call 17; refine (pGet_yes b f p M' (k + 1) gj HGi.out _ HB4.out.map).mono ?_; rw [HgE.out]; rintro e w5 ⟨rfl, rfl⟩)
              | (go_at_call 18; refine (pFind_yes b f p M' (k + 1) mj HMi.out _ HB4.out.map).mono ?_; rw [HfE.out]; rintro e w5 ⟨rfl, rfl⟩))
            have hmm : (mj != mj) = false := by simp
            have hgg : (gj != gj) = false := by simp
            rcases Nat.eq_zero_or_pos j with hjz | hjp
            · subst hjz
              go_quiet (fail)
              all_goals go_wp2
              all_goals go_roundw
              all_goals first | exact ⟨0 + 1, by go_num, by omega, Hg.out.trans (grownBy_drewN wr _ none)⟩ | (simp [intOf]; omega)
            · obtain ⟨i, rfl⟩ : ∃ i, j = i + 1 := ⟨j - 1, by omega⟩
              obtain ⟨y, hcp, hyx⟩ := HPrev.out i rfl
              have hle : decide (gj ≤ y) = false := by simp; omega
              have hw1 : IntKind.i64.wrap ((i : Int) + 1 - 1) = i := by rw [show (i : Int) + 1 - 1 = i by omega]; exact IntWalk.i64_in _ (by omega)
              have hw2 : IntKind.i64.wrap (i : Int) = i := IntWalk.i64_in _ (by omega)
              have q1 : (0 : Int) ≤ (i : Int) + 1 := by omega
              have q2 : (i : Int) + 1 < (L.length : Int) := by omega
              have q3 : (0 : Int) ≤ (i : Int) := by omega
              have q4 : (i : Int) < (L.length : Int) := by omega
              have q5 : ((i : Int) + 1).toNat = i + 1 := by omega
              go_quiet (fail)
              all_goals clear q1 q2 q3 q4 q5 hw1 hw2
              all_goals go_wp2
              all_goals go_roundw
              all_goals first | exact ⟨i + 1 + 1, by go_num, by omega, Hg.out.trans (grownBy_drewN wr _ none)⟩ | (simp [intOf]; omega)
          · obtain rfl : j = L.length := by omega
            have hge : (L.length : Int) ≤ L.length := by omega
            have hls : (L.length : Int) ≤ 48 := by omega
            have hk64 : (k : Int) ≤ 140737488351232 := by have := HLen.out; omega
            rcases HLc.out with ⟨q, hqe, hq1, hq2, hq3⟩ | ⟨hqe, hq1⟩
            · have HQ := hid hqe
              have hq2' : (L.length : Int) < s := by omega
              have hq0 : (0 : Int) ≤ q := by omega
              have hq4 : ¬ (L.length : Int) < q := by omega
              clear hqe
              by_cases hqL : q < L.length
              · obtain ⟨g, c1, e1, hbg, hc0, hc1⟩ := pairs_cells HO.out hqL
                have hc0 := Hg.out.cell hc0 (by simp)
                cases e1
                have hq3 := hq3 hqL
                have hqL' : (q : Int) < L.length := by omega
                generalize L[q].1 = gq at *
                have hq5 : ¬ gq ≤ q := by omega
                clear hc1
                go_wp2_with (go_at_call 19; refine (pHole_yes b f p M' (k + 1) _ HB4.out.map H48.out).mono ?_; rw [HQ.out]; rintro e w5 ⟨rfl, rfl⟩)
                go_roundw
                case rel => exact ⟨k + 1, M', by go_num, by omega, HB4.out⟩
                case measure => simp [intOf]; omega
              · have hqL' : ¬ (q : Int) < L.length := by omega
                clear hq3
                go_wp2_with (go_at_call 19; refine (pHole_yes b f p M' (k + 1) _ HB4.out.map H48.out).mono ?_; rw [HQ.out]; rintro e w5 ⟨rfl, rfl⟩)
                go_roundw
                case rel => exact ⟨k + 1, M', by go_num, by omega, HB4.out⟩
                case measure => simp [intOf]; omega
            · have HQ := hid hqe
              have hq2' : ¬ (L.length : Int) < s := by omega
              clear hqe
              go_wp2_with (go_at_call 19; refine (pHole_yes b f p M' (k + 1) _ HB4.out.map H48.out).mono ?_; rw [HQ.out]; rintro e w5 ⟨rfl, rfl⟩)
              go_roundw
              case rel => exact ⟨k + 1, M', by go_num, by omega, HB4.out⟩
              case measure => simp [intOf]; omega
    · obtain rfl : k = len := by omega
      have hge : (k : Int) ≤ k := by omega
      have EN := hid HA.out.n
      go_wp2_with (go_at_call 20; refine (pSize_yes b f p M k _ HA.out.map).mono ?_; rw [EN.out]; rintro e w2 ⟨rfl, rfl⟩)
      go_ret
      exact ⟨by simp, HA.out.grown⟩
theorem main {H : Type} {enc : TypeId × Value → H} (v0 v1 : Value) (W : World) (c0 : Flat.Came enc Try.prog W 0 (fun _ => true) true 5 v0) (c1 : Flat.Came enc Try.prog W 0 (fun _ => true) true 22 v1) :
    Calls Try.prog 4 #[v0, v1] W fun e w' => e = .returned (.bool true) ∧ W.grownBy w' none := by
  obtain ⟨a, rfl, h0⟩ := c0.int Try.underlying5
  obtain ⟨a0, a1⟩ := bounds_u8 h0
  obtain ⟨n, rfl⟩ := Int.eq_ofNat_of_zero_le a0
  obtain ⟨p, len, cap, rfl, hl, hs⟩ := open_pscript c1
  exact walk n (n % 49) (by omega) (by omega) p len cap W hl hs

theorem own : ownKnob Try.prog.godebug = none := by kernel_rfl
theorem laidOut : laidOutB Try.prog = true := by kernel_rfl

set_option maxRecDepth 100000 in
theorem lifted (os : Os) (started : os.Started) (H : Type) (enc : TypeId × Value → H) :
    ReturnsInHanded {} Try.checked os 4 .any (Rows.pmapBackSpec.pre6 enc Try.prog Try.f4 Rows.pmapBackRow.domain false) (Rows.pmapBackSpec.post enc Try.prog Try.f4 false true false false) := by
  refine returnsInHanded_of_change_sized (C := Try.checked) own started (by kernel_rfl) Try.func4
    (ChangeSpec.witness6 (enc := enc) (C := Try.checked) false ⟨#[], #[.int .u8 0, .slice none 0 0], []⟩ 8 (by kernel_rfl) (by kernel_rfl) (by kernel_rfl) (by kernel_rfl)) ?_
  intro W base args ds gs before hval0 hW _ hsz0 _
  have hsz : (DataW.weightsEach Try.prog (Try.f4.params.toList ++ Rows.pmapBackSpec.plain.varTypes Try.prog) (ds ++ gs)).all (· ≤ reachBytes) = true := hsz0
  clear hsz0
  have hval : ∀ (j : Nat) t v, Try.f4.params[j]? = some t → args[j]? = some v → Value.okWide Try.prog W .any base t v := hval0
  have hW' := hW
  obtain ⟨p, q, hA0, hV, rfl, hfz, hnd⟩ := hW
  have hA : DataW.TrodAll enc Try.prog W 0 (fun _ => true) true Try.f4.params.toList args.toList ds p := hA0
  rw [Try.params4] at hA hval hsz
  obtain ⟨v0, vs0, d0, ds0, p0, q0, hargs, rfl, rfl, h0, r0⟩ := trodAll_cons hA
  obtain ⟨v1, vs1, d1, ds1, p1, q1, rfl, rfl, rfl, h1, r1⟩ := trodAll_cons r0
  obtain ⟨rfl, rfl, rfl⟩ := trodAll_nil r1
  obtain rfl : args = #[v0, v1] := by cases args; simp_all
  obtain ⟨rfl, rfl⟩ := trodVars_none hV
  obtain ⟨a0, rfl, rfl, rfl, w0⟩ := open_int Try.underlying5 (hval 0 5 v0 rfl rfl) h0
  have k0 := h0
  have lt0 : ∀ x ∈ ([] : List MemPlace), x.block < W.heap.size := by obtain ⟨m, hm⟩ := k0; exact DataW.trod_lt m _ _ _ hm
  have c0 : Flat.Came enc Try.prog W 0 (fun _ => true) true 5 (.int .u8 a0) := by
    obtain ⟨fuel, hf⟩ := h0
    exact ⟨fuel, _, hf, fun n hn => by
      have := List.all_eq_true.1 hsz n (DataW.weights_mem_each (j := 0) rfl rfl n hn)
      simpa using this⟩
  obtain ⟨ps1, ln1, cp1, rfl⟩ := okWide_slice Try.underlying22 (hval 1 22 v1 rfl rfl)
  have k1 := h1
  have lt1 : ∀ x ∈ p1, x.block < W.heap.size := by obtain ⟨m, hm⟩ := k1; exact DataW.trod_lt m _ _ _ hm
  have c1 : Flat.Came enc Try.prog W 0 (fun _ => true) true 22 (.slice ps1 ln1 cp1) := by
    obtain ⟨fuel, hf⟩ := h1
    exact ⟨fuel, _, hf, fun n hn => by
      have := List.all_eq_true.1 hsz n (DataW.weights_mem_each (j := 1) rfl rfl n hn)
      simpa using this⟩
  clear hA0 hval0
  refine (main (.int .u8 a0) (.slice ps1 ln1 cp1) W c0 c1).mono fun e W' ⟨he, hg⟩ => ?_
  subst he
  have bel := below_grown hg
  simp only [List.append_nil, List.nil_append] at hW'
  exact ⟨_, rfl, _, _, _, [], _, [], hW', trodAll_mk1 (shut_bool Try.underlying4 _), (trodAll_cons_mk (Below.trod laidOut (by kernel_rfl) (of_decide_eq_true (by kernel_rfl)) k0 bel lt0) (trodAll_cons_mk (Below.trod laidOut (by kernel_rfl) (of_decide_eq_true (by kernel_rfl)) k1 bel lt1) trodAll_mk0)), rfl, bel.frame _, fun h => by cases h⟩

theorem proved : Rows.PmapBackSaid :=
  OpenClaim.holds_of_wide 4 Try.f4 rfl rfl rfl rfl rfl rfl rfl ⟨rfl, rfl, rfl, rfl, rfl⟩ rfl rfl rfl rfl rfl (by kernel_rfl) Try.func4 (by kernel_rfl)
    (of_decide_eq_true (by kernel_rfl)) (by unfold Func.isWrapper; first | (rw [if_pos (by decide +kernel)]; kernel_rfl) | (rw [if_neg (by decide +kernel)]; exact ⟨rfl, rfl⟩))
    (fun os started H enc _ => lifted os started H enc)
#print axioms proved
end Go.Proofs.Ytpickaoeaidihaa.lawPmapBack
