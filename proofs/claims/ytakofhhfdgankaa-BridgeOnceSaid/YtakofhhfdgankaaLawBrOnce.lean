/-
  BridgeOnce: for every script, port and frame the law returns true, and what was there stays. No condition.
-/
import Derived.Test.YtakofhhfdgankaaLawBrCounts
import Derived.Test.YtakofhhfdgankaaBrOn
set_option linter.unusedSimpArgs false
set_option linter.unusedVariables false
namespace Go.Proofs.Ytakofhhfdgankaa.lawBrOnce
open Go.ChangeShapes Go.WideShapes Go.ChangeAt Go.RowKit Gen Br Bk lawBrCounts
set_option maxHeartbeats 4000000

theorem ocell_cong {F G : Nat → Sd} (h : ∀ i, F i = G i) (k : Nat) : ocell F k = ocell G k := by
  unfold ocell
  rw [h]
set_option maxRecDepth 100000 in
theorem walk (pa : Option Addr) (ops : List OpV) (cap : Nat) (x : Int) (pf : Option Addr) (f : List UInt8) (cf : Nat) (w : World) (ho : OpsIn w pa ops) (hol : ops.length ≤ 140737488351232) (hb : BA w pf f) (hlf : f.length ≤ 140737488351232) :
    Calls Try.prog 5 #[.slice pa ops.length cap, .int .i64 x, .slice pf f.length cf] w fun e w' => e = .returned (.bool true) ∧ w.grownBy w' none := by
  have HN := hid (cNew 4 (by omega) (by omega) w)
  have HO := hid ho
  have HOL := hid hol
  have HB := hid hb
  have HLf := hid hlf
  have HW := hid cAwake
  have HMk := hid (fun W => make_cts W 4 (by omega))
  clear ho hol hb hlf
  go_enter Try.func5, Try.ntmps5
  go_wp2_with (first
    | (go_at_call 9; refine HN.out.mono ?_; rintro e w1 ⟨b, lab, rfl, h1⟩; have HQ := hid (qNew h1 (by omega) (by omega)); clear h1)
    | (go_at_call 10; refine HQ.out.mono ?_; rintro e w2 ⟨y, lab2, rfl, h2⟩; have H2 := hid h2; clear h2))
  go_loopw [11] (fun i wr => ∃ (k : Nat) (lab : Nat → Nat) (S : Sw), i = .int .i64 k ∧ k ≤ ops.length ∧ BX w lab wr b y S S k ∧ S.n = 4) (fun i _ => ops.length - (intOf i).toNat)
  case atStart => exact ⟨0, lab2, _, rfl, by omega, H2.out, rfl⟩
  case round =>
    clear H2 HQ HN
    obtain ⟨k, lab, S, rfl, hk, hb, hn⟩ := hrel
    have H := hid hb
    have Hn := hid hn
    have hm := HOL.out
    clear hb hn
    have hk0 : (0 : Int) ≤ k := by omega
    by_cases hlt : k < ops.length
    · have hlt' : (k : Int) < ops.length := by omega
      obtain ⟨pb, off, rfl, o0, o1, o2, o3, o4, o5, hfit⟩ := HO.out k hlt
      obtain ⟨o, hoq⟩ : ∃ o, ops[k] = o := ⟨_, rfl⟩
      rw [hoq] at o0 o1 o2 o3 o4 o5 hfit
      have HPl := hid (lPlay H.out (by omega) o hfit)
      have HGn := hid ((S.go_n o).trans Hn.out)
      obtain ⟨S1, hS1⟩ : ∃ S1, o.go S = S1 := ⟨_, rfl⟩
      rw [hS1] at HPl HGn
      obtain ⟨what, xa, xb, xc, on, bp, bl, bc⟩ := o
      simp only [OpV.val] at o0 o1 o2 o3 o4 o5 HPl
      have g := H.out.g0
      have c0 := g.cell o0 (by simp)
      have c1 := g.cell o1 (by simp)
      have c2 := g.cell o2 (by simp)
      have c3 := g.cell o3 (by simp)
      have c4 := g.cell o4 (by simp)
      have c5 := g.cell o5 (by simp)
      clear hoq o0 o1 o2 o3 o4 o5 hfit g hS1
      go_wp2_with (go_at_call 11; (with_reducible refine HPl.out.mono ?_); rintro e w4 ⟨rfl, lab4, h4, -⟩; have H4 := hid h4; clear h4)
      go_roundw
      case rel => exact ⟨k + 1, lab4, S1, by go_num, hlt, H4.out, HGn.out⟩
      case measure => simp [intOf]; omega
    · obtain rfl : k = ops.length := by omega
      have hge : ¬ (ops.length : Int) < ops.length := by omega
      obtain ⟨cs, hmk, hrw⟩ := HMk.out wr
      have HRw := hid hrw
      have H3 := hid (H.out.fresh9 (World.grownBy_alloc wr (.cells cs 39) none))
      have HD := hid (lab9_new lab wr (Nat.le_refl wr.heap.size))
      replace hmk : (Instr.makeSlice 37 (.int .i64 4) (.int .i64 4)).run Try.prog wr = .ok (.slice (some ⟨wr.heap.size, 0, none⟩) 4 4) (wr.alloc (.cells cs 39)) := hmk
      clear hrw H
      go_wp2_with fail
      obtain ⟨D, hD⟩ : ∃ D, wr.heap.size = D := ⟨_, rfl⟩
      rw [hD] at HRw HD ⊢
      clear hmk hD
      go_loopw [13] (fun i wr => ∃ (j : Nat) (lab : Nat → Nat) (S : Sw), i = .int .i64 j ∧ j ≤ 4 ∧ BX w lab wr b y S S ops.length ∧ S.n = 4 ∧ S.downed j ∧ lab D = 99 ∧ Row wr D 39 (4 * 9) (ocell fun i => if i < j then S.P i else Sd.zero)) (fun i _ => 4 - (intOf i).toNat)
      case atStart => exact ⟨0, _, S, rfl, by omega, H3.out, Hn.out, ⟨fun i hi => absurd hi (by omega), fun _ _ _ => Nat.zero_le _⟩, HD.out, HRw.out⟩
      case round =>
        clear H3 HRw HD
        obtain ⟨j, lab, S, rfl, hj, hb, hn, hdn, hD, hrw⟩ := hrel
        have H := hid hb
        have HRw := hid hrw
        have HDn := hid hdn
        have HD := hid hD
        have Hn := hid hn
        clear hb hrw hdn hD hn
        have hj0 : (0 : Int) ≤ j := by omega
        by_cases hjl : j < 4
        · have hjl' : (j : Int) < 4 := by omega
          have hjn : j < S.n := by rw [Hn.out]; exact hjl
          obtain ⟨hd1, hd2, hd3⟩ := Sw.down_next HDn.out hjn
          have HPd := hid (pDown H.out j)
          have HQd := hid (fun (W : World) (l : Nat → Nat) (Sa : Sw) (h : BX w l W b y Sa S ops.length) => qDown h j)
          obtain ⟨S1, hS1⟩ : ∃ S1, (S.downE (j : Int)).1 = S1 := ⟨_, rfl⟩
          rw [hS1] at HPd HQd hd1 hd2 hd3
          have HN1 := hid (hd2.trans Hn.out)
          have HD1 := hid hd1
          have HIf := hid (fun (s : Sd) (i : Nat) => (show (if i = j then s else if i < j then S1.P i else Sd.zero) = (if i = j then s else if i < j then S.P i else Sd.zero) from by
            by_cases e : i = j
            · rw [if_pos e, if_pos e]
            · rw [if_neg e, if_neg e, hd3 i e]))
          have hjn1 : j < S1.n := by rw [HN1.out]; exact hjl
          have hcE : S1.countsE j = ((S1.P j).cts, 0) := by unfold Sw.countsE; rw [if_pos (Sw.is_mk hjn1), Int.toNat_natCast]
          have HC := hid (fun (W : World) (l : Nat → Nat) (h : BX w l W b y S1 S1 ops.length) => pCounts h j)
          rw [hcE] at HC
          obtain ⟨s, hs⟩ : ∃ s, S1.P j = s := ⟨_, rfl⟩
          rw [hs] at HC
          have HSj := hid hs
          unfold Sd.cts ctC at HC
          obtain ⟨cr, bu, ra, q, tk, fw, mal, nc, dr, dl, nb, fl⟩ := s
          simp only at HC
          obtain ⟨m, hm⟩ : ∃ m, q.length = m := ⟨_, rfl⟩
          have Hm := hid hm
          rw [hm] at HC
          clear hS1 hd1 hd2 hd3 hcE hs hm hjn hjn1
          go_upto_region 15 with (first
            | (go_at_call 16; (with_reducible refine HPd.out.mono ?_); rintro e w4 ⟨rfl, l4, h4, st4⟩; have H4 := hid h4; have HRw4 := hid (st4.row HRw.out (by rw [HD.out]; exact not_SX99)); have HD4 := hid ((st4.keep _ HRw.out.lt).trans HD.out); clear h4 st4)
            | (go_at_call 17; (with_reducible refine (HQd.out _ _ _ H4.out).mono ?_); rintro e w5 ⟨rfl, l5, h5, st5⟩; have H5 := hid h5; have HRw5 := hid (st5.row HRw4.out (by rw [HD4.out]; exact not_SX99)); have HD5 := hid ((st5.keep _ HRw4.out.lt).trans HD4.out); clear h5 st5))
          have HNi := hid (fun (W : World) (hW : w5.grownBy W none) => nine (HRw5.out.grown hW (by simp)) hjl)
          have HFz := hid (fun (W : World) (hW : w5.grownBy W none) => (HRw5.out.grown hW (by simp)).frozen)
          have HLay := hid (fun (W : World) (hW : w5.grownBy W none) => lay9 (k := j) (HRw5.out.grown hW (by simp)) (S1.P j))
          rw [HSj.out] at HLay
          simp only [Nat.lt_irrefl, if_false] at HNi
          go_wp2_with (go_at_call 14; (with_reducible refine (HC.out _ _ H5.out).mono ?_); rintro e w6 ⟨rfl, g6⟩; have G6 := hid g6; have n0 : w6.cell? ⟨D, j * 9, none⟩ = some (.int .i64 (0 : Nat)) := HNi.out w6 g6 0 (by omega); have n1 : w6.cell? ⟨D, j * 9 + 1, none⟩ = some (.int .i64 (0 : Nat)) := HNi.out w6 g6 1 (by omega); have n2 : w6.cell? ⟨D, j * 9 + 2, none⟩ = some (.int .i64 (0 : Nat)) := HNi.out w6 g6 2 (by omega); have n3 : w6.cell? ⟨D, j * 9 + 3, none⟩ = some (.int .i64 (0 : Nat)) := HNi.out w6 g6 3 (by omega); have n4 : w6.cell? ⟨D, j * 9 + 4, none⟩ = some (.int .i64 (0 : Nat)) := HNi.out w6 g6 4 (by omega); have n5 : w6.cell? ⟨D, j * 9 + 5, none⟩ = some (.int .i64 (0 : Nat)) := HNi.out w6 g6 5 (by omega); have n6 : w6.cell? ⟨D, j * 9 + 6, none⟩ = some (.int .i64 (0 : Nat)) := HNi.out w6 g6 6 (by omega); have n7 : w6.cell? ⟨D, j * 9 + 7, none⟩ = some (.int .i64 (0 : Nat)) := HNi.out w6 g6 7 (by omega); have n8 : w6.cell? ⟨D, j * 9 + 8, none⟩ = some (.int .i64 (0 : Nat)) := HNi.out w6 g6 8 (by omega); have z0 := HFz.out w6 g6 (j * 9); have z1 := HFz.out w6 g6 (j * 9 + 1); have z2 := HFz.out w6 g6 (j * 9 + 2); have z3 := HFz.out w6 g6 (j * 9 + 3); have z4 := HFz.out w6 g6 (j * 9 + 4); have z5 := HFz.out w6 g6 (j * 9 + 5); have z6 := HFz.out w6 g6 (j * 9 + 6); have z7 := HFz.out w6 g6 (j * 9 + 7); have z8 := HFz.out w6 g6 (j * 9 + 8); clear g6)
          have hl := HLay.out w6 G6.out
          unfold set9 at hl
          simp only [Hm.out] at hl
          go_roundw
          case rel => exact ⟨j + 1, l5, S1, by go_num, hjl, (H5.out.more G6.out).own HD5.out hl.2, HN1.out, HD1.out, HD5.out, hl.1.congr fun k _ => (ocell_next HSj.out k).trans (ocell_cong (HIf.out _) k)⟩
          case measure => simp [intOf]; omega
        · obtain rfl : j = 4 := by omega
          have hge : ¬ (((4 : Nat) : Int) < 4) := by omega
          have hm := HOL.out
          have hA := Sw.downed_all (by rw [Hn.out]; exact HDn.out) H.out.ok
          have hq : ∀ i, i < S.n → (S.P i).q = [] := fun i hi => HDn.out.q i (by rw [Hn.out] at hi; exact hi) hi
          have HRs := hid (HRw.out.congr (X' := ocell S.P) fun k hk => by
            show ctc (S.P (k / 9)) (k % 9) = ctc (if k / 9 < 4 then S.P (k / 9) else Sd.zero) (k % 9)
            rw [if_pos (by omega)])
          have HOk := hid H.out.ok
          have HT := hid (show ops.length + 1 ≤ 2305843009213693952 by omega)
          have HPs := hid (pSend H.out HT.out x pf f cf (HB.out.grown H.out.g0) (fun hne a e => by rw [H.out.op0 HB.out hne a e]; exact not_CP0))
          obtain ⟨cd, hcd⟩ : ∃ c, (S.sendE x f).2 = c := ⟨_, rfl⟩
          have HCd := hid hcd
          rw [hcd] at HPs
          clear HRw
          by_cases hc0 : cd = 0
          · subst hc0
            have hx : S.is x = true := by
              cases e : S.is x with
              | true => rfl
              | false => unfold Sw.sendE at hcd; rw [if_neg (by rw [e]; simp)] at hcd; exact absurd hcd (by simp)
            obtain ⟨kp, rfl, hkp⟩ := Sw.is_yes hx
            have es : S.sendE (kp : Int) f = S.sendP kp f := by unfold Sw.sendE; rw [if_pos hx, Int.toNat_natCast]
            rw [es] at hcd HPs
            obtain ⟨hmal, hkn, hall⟩ := once_send S kp f hA hq hcd
            have hn1 := S.send_n kp f
            obtain ⟨S1, hS1⟩ : ∃ S1, (S.sendP kp f).1 = S1 := ⟨_, rfl⟩
            rw [hS1] at HPs hkn hall hn1
            have HAl := hid hall
            have HKn := hid hkn
            have HN1 := hid (hn1.trans Hn.out)
            have HKp := hid (show kp < 4 by rw [← Hn.out]; exact hkp)
            obtain ⟨hl2, hl8, hf1⟩ := malF_no hmal
            have HF1' := hid hf1
            obtain ⟨fb, fo, rfl⟩ := HB.out.ptr (by omega)
            have hl2' : (1 : Int) < f.length := by omega
            have hkn0 : (0 : Int) ≤ kp := by omega
            have d2 : decide ((1 : Int) < f.length) = true := by simpa using hl2'
            clear hA hq hcd hx es hmal hkn hall hn1 hS1 hkp hf1
            go_upto_region 18 with (go_at_call 18; (with_reducible refine HPs.out.mono ?_); rintro e w4 ⟨rfl, l4, h4, st4⟩; have H4 := hid h4; have HR4 := hid (st4.row HRs.out (by rw [HD.out]; exact not_SX99)); clear h4 st4)
            go_wp2_with fail
            go_loopw [14] (fun i wr => ∃ (j : Nat), i = .int .i64 j ∧ j ≤ 4 ∧ w4.grownBy wr none) (fun i _ => 4 - (intOf i).toNat)
            case atStart => exact ⟨0, rfl, by omega, grownBy_refl _ _⟩
            case round =>
              clear H HPs
              obtain ⟨j, rfl, hj, hgr⟩ := hrel
              have HGr := hid hgr
              have H5 := hid (H4.out.more hgr)
              have HR5 := hid (HR4.out.grown hgr (by simp))
              have HBw := hid (fun (W : World) (hW : wr.grownBy W none) => (HB.out.grown (H5.out.g0.trans hW)))
              have HF0 := hid (fun (W : World) (hW : wr.grownBy W none) => (show W.cell? ⟨fb, fo, none⟩ = some (.int .u8 (f.getD 0 0).toNat) from (HBw.out W hW).at (k := 0) (by omega)))
              have HF1 := hid (fun (W : World) (hW : wr.grownBy W none) => (show W.cell? ⟨fb, fo + 1, none⟩ = some (.int .u8 (f.getD 1 0).toNat) from (HBw.out W hW).at (k := 1) (by omega)))
              clear hgr
              have hj0 : (0 : Int) ≤ j := by omega
              by_cases hjl : j < 4
              · have hjl' : (j : Int) < 4 := by omega
                have hjn : j < S1.n := by rw [HN1.out]; exact hjl
                have hT := H5.out.ok.T62
                have ok := H5.out.ok.sd j hjn
                have i4 := ok.dT
                have hcE : S1.countsE j = ((S1.P j).cts, 0) := by unfold Sw.countsE; rw [if_pos (Sw.is_mk hjn), Int.toNat_natCast]
                have HC := hid (pCounts H5.out j)
                rw [hcE] at HC
                unfold Sd.cts at HC
                obtain ⟨hd, hqq⟩ := HAl.out j (by rw [Hn.out]; exact hjl)
                have HN4 := hid (fun (W : World) (hW : wr.grownBy W none) => nine (HR5.out.grown hW (by simp)) hjl 4 (by omega))
                have HHd := hid (fun (W : World) (hW : wr.grownBy W none) => pHead (H5.out.more hW) j)
                have hhE : S1.headE j = if told f kp j = true then (f, 0) else ([], 6) := by
                  unfold Sw.headE
                  rw [if_pos (Sw.is_mk hjn), Int.toNat_natCast, hqq]
                  cases told f kp j <;> rfl
                rw [hhE] at HHd
                obtain ⟨dr', hdr'⟩ : ∃ d, (S.P j).dir = d := ⟨_, rfl⟩
                have HN4 := hid (fun (W : World) (hW : wr.grownBy W none) => (show W.cell? ⟨D, j * 9 + 4, none⟩ = some (.int .i64 dr') from by rw [← hdr']; exact HN4.out W hW))
                rw [hdr'] at hd
                rw [hd, hqq] at HC
                rw [hd] at i4
                obtain ⟨y0, hy0⟩ : ∃ y, f.getD 0 0 = y := ⟨_, rfl⟩
                obtain ⟨y1, hy1⟩ : ∃ y, f.getD 1 0 = y := ⟨_, rfl⟩
                rw [hy0] at HF0
                rw [hy1] at HF1
                have htd : told f kp j = (decide (j ≠ kp) && decide (y0 ≠ y1)) := by unfold told; rw [hy0, hy1]
                clear hcE hdr' hd hqq hhE ok hy0 hy1 hjn
                by_cases hjk : j = kp
                · subst hjk
                  have ht : told f j j = false := by rw [htd]; simp
                  rw [ht] at HC HHd i4
                  simp only [Bool.false_eq_true, if_false, Nat.add_zero, List.length_nil] at HC HHd i4
                  have d1 : ((j : Int) == j) = true := by simp
                  clear htd ht
                  go_upto_region 22 with (first
                    | (go_at_call 14; (with_reducible refine HC.out.mono ?_); rintro e w6 ⟨rfl, g6⟩; have G6 := hid g6; clear g6)
                    | (refine wpList_alloc_ct (w := w6) rfl rfl ?_; intro w7 hs7 hb7 hg7; have B7 := hid hb7; have G7 := hid (G6.out.trans hg7); clear hs7 hb7 hg7)
                    | (refine wpList_store_ct (w := w7) rfl (.tmp 15) (.tmp 86) rfl _ (ctC _ _ _ _ _ _ _ _ _) rfl (ctC_one _ _ _ _ _ _ _ _ _) rfl rfl _ B7.out ?_; intro w8 hs8 hb8 hg8; have G8 := hid (G7.out.andThen hg8 fun j hj => by cases hj; exact .inl G6.out.size); have k4 := hb8.cell 4; have k6 := hb8.cell 6; clear hs8 hb8 hg8; simp only [ctC, List.getElem?_toArray, List.getElem?_cons_zero, List.getElem?_cons_succ, Int.natCast_zero, Int.natCast_one] at k4 k6))
                  have f0 := HF0.out w8 G8.out
                  have f1 := HF1.out w8 G8.out
                  have n4 : w8.cell? ⟨D, j * 9 + 4, none⟩ = some (.int .i64 dr') := HN4.out w8 G8.out
                  have HGd := hid (fun m => G8.out.trans (grownBy_drewN w8 m none))
                  go_upto_region 23 with fail
                  go_quiet (fail)
                  go_upto_region 25 with fail
                  go_quiet (fail)
                  go_upto_region 27 with fail
                  go_wp2_with (go_at_call 20; (with_reducible refine (HHd.out _ (HGd.out _)).mono ?_); rintro e w9 ⟨p9, c9, rfl, b9, g9⟩; have g9' := (HGd.out _).trans g9; have G9 := hid g9'; have v1 := b9.string c9; have v2 := (HBw.out _ g9').string cf; clear b9 g9 g9')
                  go_roundw
                  case rel => exact ⟨j + 1, by go_num, hjl, HGr.out.trans G9.out⟩
                  case measure => simp [intOf]; omega
                · have hjk1 : ((j : Int) == kp) = false := by simp; omega
                  have hjk2 : ¬ (j : Int) = kp := by omega
                  by_cases hyy : y0 = y1
                  · subst hyy
                    have ht : told f kp j = false := by rw [htd]; simp
                    rw [ht] at HC HHd i4
                    simp only [Bool.false_eq_true, if_false, Nat.add_zero, List.length_nil] at HC HHd i4
                    clear htd ht
                    go_upto_region 22 with (first
                      | (go_at_call 14; (with_reducible refine HC.out.mono ?_); rintro e w6 ⟨rfl, g6⟩; have G6 := hid g6; clear g6)
                      | (refine wpList_alloc_ct (w := w6) rfl rfl ?_; intro w7 hs7 hb7 hg7; have B7 := hid hb7; have G7 := hid (G6.out.trans hg7); clear hs7 hb7 hg7)
                      | (refine wpList_store_ct (w := w7) rfl (.tmp 15) (.tmp 86) rfl _ (ctC _ _ _ _ _ _ _ _ _) rfl (ctC_one _ _ _ _ _ _ _ _ _) rfl rfl _ B7.out ?_; intro w8 hs8 hb8 hg8; have G8 := hid (G7.out.andThen hg8 fun j hj => by cases hj; exact .inl G6.out.size); have k4 := hb8.cell 4; have k6 := hb8.cell 6; clear hs8 hb8 hg8; simp only [ctC, List.getElem?_toArray, List.getElem?_cons_zero, List.getElem?_cons_succ, Int.natCast_zero, Int.natCast_one] at k4 k6))
                    have f0 := HF0.out w8 G8.out
                    have f1 := HF1.out w8 G8.out
                    have n4 : w8.cell? ⟨D, j * 9 + 4, none⟩ = some (.int .i64 dr') := HN4.out w8 G8.out
                    have HGd := hid (fun m => G8.out.trans (grownBy_drewN w8 m none))
                    go_upto_region 23 with fail
                    go_quiet (fail)
                    go_upto_region 25 with fail
                    go_quiet (fail)
                    go_upto_region 27 with fail
                    go_wp2_with (go_at_call 20; (with_reducible refine (HHd.out _ (HGd.out _)).mono ?_); rintro e w9 ⟨p9, c9, rfl, b9, g9⟩; have g9' := (HGd.out _).trans g9; have G9 := hid g9'; have v1 := b9.string c9; have v2 := (HBw.out _ g9').string cf; clear b9 g9 g9')
                    go_roundw
                    case rel => exact ⟨j + 1, by go_num, hjl, HGr.out.trans G9.out⟩
                    case measure => simp [intOf]; omega
                  · have ht : told f kp j = true := by rw [htd]; simp [hjk, hyy]
                    have hyn : ¬ ((y0.toNat : Int) = y1.toNat) := fun e => hyy (UInt8.toNat_inj.1 (by omega))
                    have hyn2 : ((y0.toNat : Int) == y1.toNat) = false := by simpa using hyn
                    rw [ht] at HC HHd i4
                    simp only [if_true, List.length_cons, List.length_nil, Nat.zero_add] at HC HHd i4
                    obtain ⟨dn, hdn⟩ : ∃ d, dr' + 1 = d := ⟨_, rfl⟩
                    rw [hdn] at HC i4
                    have e1 : (dr' : Int) + 1 = dn := by omega
                    clear htd ht hdn
                    go_upto_region 22 with (first
                      | (go_at_call 14; (with_reducible refine HC.out.mono ?_); rintro e w6 ⟨rfl, g6⟩; have G6 := hid g6; clear g6)
                      | (refine wpList_alloc_ct (w := w6) rfl rfl ?_; intro w7 hs7 hb7 hg7; have B7 := hid hb7; have G7 := hid (G6.out.trans hg7); clear hs7 hb7 hg7)
                      | (refine wpList_store_ct (w := w7) rfl (.tmp 15) (.tmp 86) rfl _ (ctC _ _ _ _ _ _ _ _ _) rfl (ctC_one _ _ _ _ _ _ _ _ _) rfl rfl _ B7.out ?_; intro w8 hs8 hb8 hg8; have G8 := hid (G7.out.andThen hg8 fun j hj => by cases hj; exact .inl G6.out.size); have k4 := hb8.cell 4; have k6 := hb8.cell 6; clear hs8 hb8 hg8; simp only [ctC, List.getElem?_toArray, List.getElem?_cons_zero, List.getElem?_cons_succ, Int.natCast_zero, Int.natCast_one] at k4 k6))
                    have f0 := HF0.out w8 G8.out
                    have f1 := HF1.out w8 G8.out
                    have n4 : w8.cell? ⟨D, j * 9 + 4, none⟩ = some (.int .i64 dr') := HN4.out w8 G8.out
                    have HGd := hid (fun m => G8.out.trans (grownBy_drewN w8 m none))
                    go_upto_region 23 with fail
                    go_quiet (fail)
                    go_upto_region 25 with fail
                    go_quiet (fail)
                    go_upto_region 27 with fail
                    go_wp2_with (go_at_call 20; (with_reducible refine (HHd.out _ (HGd.out _)).mono ?_); rintro e w9 ⟨p9, c9, rfl, b9, g9⟩; have g9' := (HGd.out _).trans g9; have G9 := hid g9'; have v1 := b9.string c9; have v2 := (HBw.out _ g9').string cf; clear b9 g9 g9')
                    go_roundw
                    case rel => exact ⟨j + 1, by go_num, hjl, HGr.out.trans G9.out⟩
                    case measure => simp [intOf]; omega
              · obtain rfl : j = 4 := by omega
                have hge4 : ¬ (((4 : Nat) : Int) < 4) := by omega
                have f1 := HF1.out wr (grownBy_refl _ _)
                have HKo := hid (pKnown H5.out ((f.getD 1 0).toNat : Int))
                have hkE : S1.knownE ((f.getD 1 0).toNat : Int) = (kp, 0) := by
                  have h256 := UInt8.toNat_lt (f.getD 1 0)
                  unfold Sw.knownE
                  rw [if_pos ⟨by omega, by omega⟩, Int.toNat_natCast, HKn.out]
                rw [hkE] at HKo
                obtain ⟨y1, hy1⟩ : ∃ y, f.getD 1 0 = y := ⟨_, rfl⟩
                have h256 := UInt8.toNat_lt (f.getD 1 0)
                rw [hy1] at f1 HKo h256
                clear hy1 hkE
                go_wp2_with (go_at_call 21; (with_reducible refine HKo.out.mono ?_); rintro e w9 ⟨rfl, rfl⟩)
                go_ret
                exact ⟨by simp, H5.out.g0⟩
          · have hcz : ((cd : Int) == 0) = false := by simp; omega
            have hcn : ¬ ((cd : Int) = 0) := by omega
            clear hA hq hcd
            go_wp2_with (first
              | (go_at_call 18; (with_reducible refine HPs.out.mono ?_); rintro e w4 ⟨rfl, l4, h4, -⟩; have HQs := hid (qSendS h4 HOk.out HT.out x pf f cf (HB.out.grown h4.g0) (fun hne a e => by rw [h4.op0 HB.out hne a e]; unfold CR; omega)); rw [HCd.out] at HQs; clear h4)
              | (go_at_call 19; (with_reducible refine HQs.out.mono ?_); rintro e w5 ⟨rfl, l5, h5, -⟩; have H5 := hid h5; clear h5)
              | (go_at_call 13; (with_reducible refine (HW.out _).mono ?_); rintro e w9 ⟨rfl, g9⟩; have G9 := hid g9; clear g9))
            go_ret
            exact ⟨by simp, H5.out.g0.trans G9.out⟩
theorem main {H : Type} {enc : TypeId × Value → H} (v0 v1 v2 : Value) (W : World) (c0 : Flat.Came enc Try.prog W 0 (fun _ => true) true 22 v0) (c1 : Flat.Came enc Try.prog W 0 (fun _ => true) true 3 v1) (c2 : Flat.Came enc Try.prog W 0 (fun _ => true) true 31 v2) :
    Calls Try.prog 5 #[v0, v1, v2] W fun e w' => e = .returned (.bool true) ∧ W.grownBy w' none := by
  obtain ⟨p, ops, c, rfl, ho, hol⟩ := open_ops c0
  obtain ⟨x, rfl, -⟩ := c1.int Try.underlying3
  obtain ⟨pf, f, cf, rfl, hb, hl, -, -⟩ := came_bytes c2
  exact walk p ops c x pf f cf W ho hol hb hl

theorem own : ownKnob Try.prog.godebug = none := by kernel_rfl
theorem laidOut : laidOutB Try.prog = true := by kernel_rfl

set_option maxRecDepth 100000 in
theorem lifted (os : Os) (started : os.Started) (H : Type) (enc : TypeId × Value → H) :
    ReturnsInHanded {} Try.checked os 5 .any (Rows.bridgeOnceSpec.pre6 enc Try.prog Try.f5 Rows.bridgeOnceRow.domain false) (Rows.bridgeOnceSpec.post enc Try.prog Try.f5 false true false false) := by
  refine returnsInHanded_of_change_sized (C := Try.checked) own started (by kernel_rfl) Try.func5
    (ChangeSpec.witness6 (enc := enc) (C := Try.checked) false ⟨#[], #[.slice none 0 0, .int .i64 0, .slice none 0 0], []⟩ 8 (by kernel_rfl) (by kernel_rfl) (by kernel_rfl) (by kernel_rfl)) ?_
  intro W base args ds gs before hval0 hW _ hsz0 _
  have hsz : (DataW.weightsEach Try.prog (Try.f5.params.toList ++ Rows.bridgeOnceSpec.plain.varTypes Try.prog) (ds ++ gs)).all (· ≤ reachBytes) = true := hsz0
  clear hsz0
  have hval : ∀ (j : Nat) t v, Try.f5.params[j]? = some t → args[j]? = some v → Value.okWide Try.prog W .any base t v := hval0
  have hW' := hW
  obtain ⟨p, q, hA0, hV, rfl, hfz, hnd⟩ := hW
  have hA : DataW.TrodAll enc Try.prog W 0 (fun _ => true) true Try.f5.params.toList args.toList ds p := hA0
  rw [Try.params5] at hA hval hsz
  obtain ⟨v0, vs0, d0, ds0, p0, q0, hargs, rfl, rfl, h0, r0⟩ := trodAll_cons hA
  obtain ⟨v1, vs1, d1, ds1, p1, q1, rfl, rfl, rfl, h1, r1⟩ := trodAll_cons r0
  obtain ⟨v2, vs2, d2, ds2, p2, q2, rfl, rfl, rfl, h2, r2⟩ := trodAll_cons r1
  obtain ⟨rfl, rfl, rfl⟩ := trodAll_nil r2
  obtain rfl : args = #[v0, v1, v2] := by cases args; simp_all
  obtain ⟨rfl, rfl⟩ := trodVars_none hV
  obtain ⟨ps0, ln0, cp0, rfl⟩ := okWide_slice Try.underlying22 (hval 0 22 v0 rfl rfl)
  have k0 := h0
  have lt0 : ∀ x ∈ p0, x.block < W.heap.size := by obtain ⟨m, hm⟩ := k0; exact DataW.trod_lt m _ _ _ hm
  have c0 : Flat.Came enc Try.prog W 0 (fun _ => true) true 22 (.slice ps0 ln0 cp0) := by
    obtain ⟨fuel, hf⟩ := h0
    exact ⟨fuel, _, hf, fun n hn => by
      have := List.all_eq_true.1 hsz n (DataW.weights_mem_each (j := 0) rfl rfl n hn)
      simpa using this⟩
  obtain ⟨a1, rfl, rfl, rfl, w1⟩ := open_int Try.underlying3 (hval 1 3 v1 rfl rfl) h1
  have k1 := h1
  have lt1 : ∀ x ∈ ([] : List MemPlace), x.block < W.heap.size := by obtain ⟨m, hm⟩ := k1; exact DataW.trod_lt m _ _ _ hm
  have c1 : Flat.Came enc Try.prog W 0 (fun _ => true) true 3 (.int .i64 a1) := by
    obtain ⟨fuel, hf⟩ := h1
    exact ⟨fuel, _, hf, fun n hn => by
      have := List.all_eq_true.1 hsz n (DataW.weights_mem_each (j := 1) rfl rfl n hn)
      simpa using this⟩
  obtain ⟨ps2, ln2, cp2, rfl⟩ := okWide_slice Try.underlying31 (hval 2 31 v2 rfl rfl)
  have k2 := h2
  have lt2 : ∀ x ∈ p2, x.block < W.heap.size := by obtain ⟨m, hm⟩ := k2; exact DataW.trod_lt m _ _ _ hm
  have c2 : Flat.Came enc Try.prog W 0 (fun _ => true) true 31 (.slice ps2 ln2 cp2) := by
    obtain ⟨fuel, hf⟩ := h2
    exact ⟨fuel, _, hf, fun n hn => by
      have := List.all_eq_true.1 hsz n (DataW.weights_mem_each (j := 2) rfl rfl n hn)
      simpa using this⟩
  clear hA0 hval0
  refine (main (.slice ps0 ln0 cp0) (.int .i64 a1) (.slice ps2 ln2 cp2) W c0 c1 c2).mono fun e W' ⟨he, hg⟩ => ?_
  subst he
  have bel := below_grown' hg
  simp only [List.append_nil, List.nil_append] at hW'
  exact ⟨_, rfl, _, _, _, [], _, [], hW', trodAll_mk1 (shut_bool Try.underlying4 _), (trodAll_cons_mk (Below.trod laidOut (by kernel_rfl) (of_decide_eq_true (by kernel_rfl)) k0 bel lt0) (trodAll_cons_mk (Below.trod laidOut (by kernel_rfl) (of_decide_eq_true (by kernel_rfl)) k1 bel lt1) (trodAll_cons_mk (Below.trod laidOut (by kernel_rfl) (of_decide_eq_true (by kernel_rfl)) k2 bel lt2) trodAll_mk0))), rfl, bel.frame _, fun h => by cases h⟩

theorem proved : Rows.BridgeOnceSaid :=
  OpenClaim.holds_of_wide 5 Try.f5 rfl rfl rfl rfl rfl rfl rfl ⟨rfl, rfl, rfl, rfl, rfl⟩ rfl rfl rfl rfl rfl (by kernel_rfl) Try.func5 (by kernel_rfl)
    (of_decide_eq_true (by kernel_rfl)) (by unfold Func.isWrapper; first | (rw [if_pos (by decide +kernel)]; kernel_rfl) | (rw [if_neg (by decide +kernel)]; exact ⟨rfl, rfl⟩))
    (fun os started H enc _ => lifted os started H enc)
#print axioms proved
end Go.Proofs.Ytakofhhfdgankaa.lawBrOnce
