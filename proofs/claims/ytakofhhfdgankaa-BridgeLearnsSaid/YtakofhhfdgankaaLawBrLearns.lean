/-
  BridgeLearns: for every two addresses and three ports the law returns true, and what was there stays. No condition.
-/
import Derived.Test.YtakofhhfdgankaaBrQ
import Derived.Test.YtakofhhfdgankaaOpen
import Derived.Test.YtakofhhfdgankaaLift
import Derived.OpenShut
import Derived.Deep.Cut
set_option linter.unusedSimpArgs false
set_option linter.unusedVariables false
namespace Go.Proofs.Ytakofhhfdgankaa.lawBrLearns
open Go.ChangeShapes Go.WideShapes Go.ChangeAt Go.RowKit Gen Br Bk
set_option maxHeartbeats 4000000

/-- rates are set below j -/
structure R1 (S : Sw) (j : Nat) : Prop where
  n : S.n = 5
  A : S.A = fun _ => none
  cr : ∀ i, i < j → (S.P i).credit = 100
theorem R1.next {S : Sw} {j : Nat} (h : R1 S j) (hj : j < 5) : R1 (S.rateE j 100 0).1 (j + 1) := by
  have hi : S.is (j : Int) = true := Sw.is_mk (by rw [h.n]; exact hj)
  unfold Sw.rateE
  rw [if_pos hi, if_pos (by simp [isCr])]
  refine ⟨h.n, h.A, fun i hij => ?_⟩
  by_cases e : i = j
  · subst e; rw [Int.toNat_natCast, Sw.set_at]; rfl
  · rw [Int.toNat_natCast, Sw.set_ne _ _ e]; exact h.cr i (by omega)
/-- behind the two frames that teach -/
structure R2 (S : Sw) (a l : Nat) (k c : Nat) : Prop where
  n : S.n = 5
  A : S.A a = some l
  ct : cnt S.A 256 ≤ k
  cr : ∀ i, i < 5 → c ≤ (S.P i).credit
theorem R2.send {S : Sw} {k c : Nat} (hn : S.n = 5) (hc : cnt S.A 256 ≤ k) (hk : k < 64) (hcr : ∀ i, i < 5 → c + 2 ≤ (S.P i).credit) {p : Nat} (hp : p < 5) (u v : UInt8) (hv : v.toNat ≠ 255) :
    (S.sendE p [u, v]).2 = 0 ∧ R2 (S.sendE p [u, v]).1 v.toNat p (k + 1) c ∧ (S.sendE p [u, v]).1.A = (fun i => if i = v.toNat then some p else S.A i) ∧ ∀ i, i < 5 → ((S.sendE p [u, v]).1.P i).dir = (S.P i).dir + (if tgt (S.sendE p [u, v]).1.A u.toNat p i = true then 1 else 0) := by
  have hi : S.is (p : Int) = true := Sw.is_mk (by rw [hn]; exact hp)
  have e : S.sendE p [u, v] = S.sendP p [u, v] := by unfold Sw.sendE; rw [if_pos hi, Int.toNat_natCast]
  have hm : malF [u, v] = false := by rw [mal_two]; simpa using hv
  have hcp := hcr p hp
  have hcr' : ¬ (S.P p).credit < [u, v].length := by simp; omega
  rw [e]
  obtain ⟨d1, d2, d3, d4, d5⟩ := S.send_desc p [u, v] hm hcr' (by omega)
  obtain ⟨_, y⟩ := S.send_yes p [u, v] hm hcr'
  refine ⟨d1, ⟨d2.trans hn, ?_, by omega, fun i hi => ?_⟩, d3, fun i hi => d5 i (by rw [hn]; exact hi)⟩
  · rw [d3]; exact if_pos rfl
  · rw [(y i).2.2]
    have := hcr i hi
    split
    · show c ≤ (S.P i).credit - 2; omega
    · omega
theorem row_step (f : Nat → Nat) {i j : Nat} (h : i ≠ j) : Value.int .i64 ((if i < j + 1 then f i else 0 : Nat) : Int) = Value.int .i64 ((if i < j then f i else 0 : Nat) : Int) := by
  have e : (i < j + 1) = (i < j) := propext ⟨fun h => by omega, fun h => by omega⟩
  simp only [e]
set_option maxRecDepth 100000 in
theorem walk (x0 x1 : UInt8) (y2 y3 y4 : Nat) (h2 : y2 ≤ 255) (h3 : y3 ≤ 255) (h4 : y4 ≤ 255) (w : World) :
    Calls Try.prog 6 #[.int .u8 x0.toNat, .int .u8 x1.toNat, .int .u8 y2, .int .u8 y3, .int .u8 y4] w fun e w' => e = .returned (.bool true) ∧ w.grownBy w' none := by
  obtain ⟨fs, hfs⟩ : ∃ k : Nat, k = y2 % 5 := ⟨_, rfl⟩
  obtain ⟨ls, hls⟩ : ∃ k : Nat, k = y3 % 5 := ⟨_, rfl⟩
  obtain ⟨pt, hpt⟩ : ∃ k : Nat, k = y4 % 5 := ⟨_, rfl⟩
  have f5 : fs < 5 := by omega
  have l5 : ls < 5 := by omega
  have p5 : pt < 5 := by omega
  have ef : (y2 : Int) % 5 = fs := by omega
  have el : (y3 : Int) % 5 = ls := by omega
  have ep : (y4 : Int) % 5 = pt := by omega
  clear hfs hls hpt
  have HN := hid (cNew 5 (by omega) (by omega) w)
  have z0 := UInt8.toNat_lt x0
  have z1 := UInt8.toNat_lt x1
  go_enter Try.func6, Try.ntmps6
  go_wp2_with (go_at_call 9; refine HN.out.mono ?_; rintro e w1 ⟨b, lab, rfl, h1⟩; have H1 := hid h1; clear h1)
  clear ef el ep
  go_loopw [16] (fun i wr => ∃ (j : Nat) (lab : Nat → Nat) (S : Sw), i = .int .i64 j ∧ j ≤ 5 ∧ BV w lab wr b S 0 ∧ R1 S j) (fun i _ => 5 - (intOf i).toNat)
  case atStart => exact ⟨0, lab, _, rfl, by omega, H1.out, ⟨rfl, rfl, fun i hi => by omega⟩⟩
  case round =>
    clear H1
    obtain ⟨j, lab, S, rfl, hj, hb, hr⟩ := hrel
    have H := hid hb
    have HR := hid hr
    clear hb hr
    have hj0 : (0 : Int) ≤ j := by omega
    by_cases hlt : j < 5
    · have hlt' : (j : Int) < 5 := by omega
      have HC := hid (cRate H.out j 100 0)
      go_wp2_with (go_at_call 22; refine HC.out.mono ?_; rintro e w2 ⟨rfl, lab2, h2, -⟩; have H2 := hid h2; clear h2)
      go_roundw
      case rel => exact ⟨j + 1, lab2, _, by go_num, by omega, H2.out, HR.out.next hlt⟩
      case measure => simp [intOf]; omega
    · obtain rfl : j = 5 := by omega
      by_cases hbad : x0.toNat = 255 ∨ x1.toNat = 255 ∨ x0.toNat = x1.toNat
      · have HC := hid (cSend2 H.out (by omega) fs 0 255 0 255 rfl rfl)
        have hi : S.is (fs : Int) = true := Sw.is_mk (by rw [HR.out.n]; exact f5)
        have e4 : (S.sendE fs [0, 255]).2 = 4 := by
          unfold Sw.sendE Sw.sendP
          rw [if_pos hi, if_pos (by rw [mal_two]; rfl)]
        rw [e4] at HC
        clear e4 hi
        rcases hbad with hx | hx | hx
        · have g1 : ((x0.toNat : Int) == 255) = true := by simp [hx]
          go_wp2_with (go_at_call 18; refine HC.out.mono ?_; rintro e w2 ⟨rfl, lab2, h2, -⟩; have H2 := hid h2; clear h2)
          go_ret
          exact ⟨rfl, H2.out.g0⟩
        · have g2 : ((x1.toNat : Int) == 255) = true := by simp [hx]
          by_cases hy : x0.toNat = 255
          · have g1 : ((x0.toNat : Int) == 255) = true := by simp [hy]
            go_wp2_with (go_at_call 18; refine HC.out.mono ?_; rintro e w2 ⟨rfl, lab2, h2, -⟩; have H2 := hid h2; clear h2)
            go_ret
            exact ⟨rfl, H2.out.g0⟩
          · have g1 : ((x0.toNat : Int) == 255) = false := by simp; omega
            go_wp2_with (go_at_call 18; refine HC.out.mono ?_; rintro e w2 ⟨rfl, lab2, h2, -⟩; have H2 := hid h2; clear h2)
            go_ret
            exact ⟨rfl, H2.out.g0⟩
        · have g3 : ((x0.toNat : Int) == x1.toNat) = true := by simp [hx]
          by_cases hy : x0.toNat = 255
          · have g1 : ((x0.toNat : Int) == 255) = true := by simp [hy]
            go_wp2_with (go_at_call 18; refine HC.out.mono ?_; rintro e w2 ⟨rfl, lab2, h2, -⟩; have H2 := hid h2; clear h2)
            go_ret
            exact ⟨rfl, H2.out.g0⟩
          · have g1 : ((x0.toNat : Int) == 255) = false := by simp; omega
            have g2 : ((x1.toNat : Int) == 255) = false := by simp; omega
            go_wp2_with (go_at_call 18; refine HC.out.mono ?_; rintro e w2 ⟨rfl, lab2, h2, -⟩; have H2 := hid h2; clear h2)
            go_ret
            exact ⟨rfl, H2.out.g0⟩
      · have g1 : ((x0.toNat : Int) == 255) = false := by simp; omega
        have g2 : ((x1.toNat : Int) == 255) = false := by simp; omega
        have g3 : ((x0.toNat : Int) == x1.toNat) = false := by simp; omega
        obtain ⟨e1, r1, a1, -⟩ := R2.send (k := 0) (c := 98) HR.out.n (by rw [HR.out.A, cnt_none]; omega) (by omega) (fun i hi => by rw [HR.out.cr i hi]; omega) f5 255 x0 (by omega)
        have HC1 := hid (cSend2 H.out (by omega) fs 255 x0 255 x0.toNat rfl rfl)
        obtain ⟨S2, hS2⟩ : ∃ S2, (S.sendE fs [255, x0]).1 = S2 := ⟨_, rfl⟩
        rw [hS2] at HC1 r1 a1
        rw [e1] at HC1
        obtain ⟨e2, r2, a2, -⟩ := R2.send (k := 1) (c := 96) r1.n r1.ct (by omega) (fun i hi => r1.cr i hi) l5 255 x0 (by omega)
        have HC2 := hid (fun (lab' : Nat → Nat) (w' : World) (h : BV w lab' w' b S2 1) => cSend2 h (by omega) ls 255 x0 255 x0.toNat rfl rfl)
        obtain ⟨S3, hS3⟩ : ∃ S3, (S2.sendE ls [255, x0]).1 = S3 := ⟨_, rfl⟩
        rw [hS3] at HC2 r2 a2
        rw [e2] at HC2
        obtain ⟨e3, r3, a3, d3⟩ := R2.send (k := 2) (c := 94) r2.n r2.ct (by omega) (fun i hi => r2.cr i hi) p5 x0 x1 (by omega)
        have HC3 := hid (fun (lab' : Nat → Nat) (w' : World) (h : BV w lab' w' b S3 2) => cSend2 h (by omega) pt x0 x1 x0.toNat x1.toNat rfl rfl)
        obtain ⟨S4, hS4⟩ : ∃ S4, (S3.sendE pt [x0, x1]).1 = S4 := ⟨_, rfl⟩
        rw [hS4] at HC3 r3 a3 d3
        rw [e3] at HC3
        have A4 : S4.A x0.toNat = some ls := by rw [a3]; show (if x0.toNat = x1.toNat then some pt else S3.A x0.toNat) = _; rw [if_neg (by omega)]; exact r2.A
        have D4 : ∀ i, i < 5 → (S4.P i).dir = (S3.P i).dir + (if i = ls ∧ i ≠ pt then 1 else 0) := fun i hi => by
          rw [d3 i hi]
          unfold tgt
          rw [A4]
          by_cases q1 : i = ls <;> by_cases q2 : i = pt <;> simp [q1, q2]
        have HX := hid (And.intro r2.n (And.intro r3.n (And.intro A4 D4)))
        clear e1 e2 e3 r1 r2 r3 a1 a2 a3 d3 hS2 hS3 hS4 A4 D4 HR hbad
        go_wp2_with (first
          | (go_at_call 18; (with_reducible refine HC1.out.mono ?_); rintro e w2 ⟨rfl, lab2, h2, -⟩; have H2 := hid h2; clear h2)
          | (go_at_call 18; (with_reducible refine (HC2.out _ _ H2.out).mono ?_); rintro e w3 ⟨rfl, lab3, h3, -⟩; have H3 := hid h3; clear h3))
        obtain ⟨W3, hW3, hg3, hrow⟩ : ∃ W, w3.alloc (.cells #[.int .i64 0, .int .i64 0, .int .i64 0, .int .i64 0, .int .i64 0] 53) = W ∧ w3.grownBy W none ∧ Row W w3.heap.size 53 5 (fun k => .int .i64 ((if k < 0 then (S3.P k).dir else 0 : Nat) : Int)) := ⟨_, rfl, World.grownBy_alloc _ _ _, Row.new _ _ _ _ _ (by simp) (fun k hk => by match k, hk with | 0, _ => rfl | 1, _ => rfl | 2, _ => rfl | 3, _ => rfl | 4, _ => rfl)⟩
        rw [hW3]
        have HD := hid (H3.out.new hg3)
        have HRw := hid hrow
        have HDl := hid (show upd lab3 w3.heap.size 99 w3.heap.size = 99 from upd_same _ _ _)
        obtain ⟨labD, hlD⟩ : ∃ l, upd lab3 w3.heap.size 99 = l := ⟨_, rfl⟩
        rw [hlD] at HD HDl
        have HDb := hid (show w.heap.size ≤ w3.heap.size from H3.out.g0.size)
        obtain ⟨D, hD⟩ : ∃ D, w3.heap.size = D := ⟨_, rfl⟩
        rw [hD] at HDl HRw HDb
        rw [hD]
        clear hW3 hg3 hrow hlD hD H2 H3
        go_loopw [18] (fun i wr => ∃ j : Nat, i = .int .i64 j ∧ j ≤ 5 ∧ BV w labD wr b S3 2 ∧ Row wr D 53 5 (fun k => .int .i64 ((if k < j then (S3.P k).dir else 0 : Nat) : Int))) (fun i _ => 5 - (intOf i).toNat)
        case atStart => exact ⟨0, rfl, by omega, HD.out, HRw.out⟩
        case round =>
          clear HD HRw
          obtain ⟨j, rfl, hj, hb, hrow⟩ := hrel
          have H := hid hb
          have HRw := hid hrow
          have HW1 := hid (fun (w' : World) (hg : wr.grownBy w' none) => (hrow.grown hg (by simp)))
          clear hb hrow
          have hj0 : (0 : Int) ≤ j := by omega
          by_cases hlt : j < 5
          · have hlt' : (j : Int) < 5 := by omega
            have hcE : S3.countsE j = ((S3.P j).cts, 0) := by unfold Sw.countsE; rw [if_pos (Sw.is_mk (by rw [HX.out.1]; exact hlt)), Int.toNat_natCast]
            have HC := hid (cCounts H.out j)
            rw [hcE] at HC
            unfold Sd.cts at HC
            clear hcE
            go_wp2_with (first
              | (go_at_call 14; refine HC.out.mono ?_; rintro e w4 ⟨rfl, g4⟩; have G4 := hid g4; clear g4)
              | (refine wpList_alloc_ct rfl rfl ?_; intro w5 hs5 hb5 hg5; have B5 := hid hb5; have G5 := hid (G4.out.trans hg5); have G45 := hid (show w4.heap.size ≥ wr.heap.size from G4.out.size); clear hs5 hb5 hg5)
              | (refine wpList_store_ct rfl (.tmp 19) (.tmp 87) rfl _ (ctC _ _ _ _ _ _ _ _ _) rfl (ctC_one _ _ _ _ _ _ _ _ _) rfl rfl _ B5.out ?_; intro w6 hs6 hb6 hg6; have G6 := hid (G5.out.andThen hg6 fun j hj => by cases hj; exact .inl G45.out); have k4 := hb6.cell 4; have d0 := (HW1.out _ G6.out).cell hlt; have dz := (HW1.out _ G6.out).frozen j; clear hs6 hb6 hg6; simp only [ctC, List.getElem?_toArray, List.getElem?_cons_zero, List.getElem?_cons_succ] at k4))
            have HR6 := hid (HW1.out _ G6.out)
            have H6 := hid (H.out.more G6.out)
            go_roundw
            case rel => exact ⟨j + 1, by go_num, by omega, H6.out.own HDl.out (grownBy_setCell _ _ _ _ _), HR6.out.set (k := j) (by simp) (fun i hi hne => row_step (fun k => (S3.P k).dir) hne)⟩
            case measure => simp [intOf]; omega
          · obtain rfl : j = 5 := by omega
            have HRa := hid (HW1.out _ (World.grownBy_alloc wr (.cells #[.int .u8 x0.toNat, .int .u8 x1.toNat] 5) none))
            have HDa := hid (show lab0 labD wr D = 99 from (if_pos HRw.out.lt).trans HDl.out)
            go_wp2_with (go_at_call 18; (with_reducible refine (HC3.out _ _ H.out).mono ?_); rintro e w7 ⟨rfl, lab7, h7, st7⟩; have H7 := hid h7; have HR7 := hid (st7.row HRa.out (by rw [HDa.out]; exact not_CP99)); clear h7 st7)
            go_loopw [21] (fun i wr => ∃ j : Nat, i = .int .i64 j ∧ j ≤ 5 ∧ BV w lab7 wr b S4 3 ∧ Row wr D 53 5 (fun k => .int .i64 ((if k < 5 then (S3.P k).dir else 0 : Nat) : Int))) (fun i _ => 5 - (intOf i).toNat)
            case atStart => exact ⟨0, rfl, by omega, H7.out, HR7.out⟩
            case round =>
              clear H7 HR7 H HRw HW1 HRa HDa hj0
              obtain ⟨j, rfl, hj, hb, hrow⟩ := hrel
              have H := hid hb
              have HRw := hid hrow
              have HW1 := hid (fun (w' : World) (hg : wr.grownBy w' none) => (hrow.grown hg (by simp)))
              clear hb hrow
              have hj0 : (0 : Int) ≤ j := by omega
              by_cases hlt : j < 5
              · have hlt' : (j : Int) < 5 := by omega
                have hcE : S4.countsE j = ((S4.P j).cts, 0) := by unfold Sw.countsE; rw [if_pos (Sw.is_mk (by rw [HX.out.2.1]; exact hlt)), Int.toNat_natCast]
                have HC := hid (cCounts H.out j)
                rw [hcE] at HC
                unfold Sd.cts at HC
                have hd4 := HX.out.2.2.2 j hlt
                have hdT := (H.out.ok.sd j (by rw [HX.out.2.1]; exact hlt)).dT
                obtain ⟨dd, hdd⟩ : ∃ dd, (S3.P j).dir = dd := ⟨_, rfl⟩
                clear hcE
                by_cases q1 : j = ls
                · by_cases q2 : j = pt
                  · have b1 : ((j : Int) == ls) = true := by simp [q1]
                    have b2 : ((j : Int) != pt) = false := by simp [q2]
                    rw [if_neg (by omega), Nat.add_zero, hdd] at hd4
                    rw [hd4] at HC hdT
                    have HDD := hid hdd
                    clear hd4 hdd q1 q2
                    go_wp2_with (first
                      | (go_at_call 14; refine HC.out.mono ?_; rintro e w4 ⟨rfl, g4⟩; have G4 := hid g4; clear g4)
                      | (refine wpList_alloc_ct rfl rfl ?_; intro w5 hs5 hb5 hg5; have B5 := hid hb5; have G5 := hid (G4.out.trans hg5); have G45 := hid (show w4.heap.size ≥ wr.heap.size from G4.out.size); clear hs5 hb5 hg5)
                      | (refine wpList_store_ct rfl (.tmp 22) (.tmp 108) rfl _ (ctC _ _ _ _ _ _ _ _ _) rfl (ctC_one _ _ _ _ _ _ _ _ _) rfl rfl _ B5.out ?_; intro w6 hs6 hb6 hg6; have G6 := hid (G5.out.andThen hg6 fun j hj => by cases hj; exact .inl G45.out); have k4 := hb6.cell 4; have d0 := (HW1.out _ G6.out).cell hlt; clear hs6 hb6 hg6; simp only [ctC, List.getElem?_toArray, List.getElem?_cons_zero, List.getElem?_cons_succ] at k4; rw [if_pos hlt, HDD.out] at d0))
                    go_region
                    go_wp2
                    go_roundw
                    case rel => exact ⟨j + 1, by go_num, by omega, H.out.more (G6.out.trans (grownBy_drew _ none)), HW1.out _ (G6.out.trans (grownBy_drew _ none))⟩
                    case measure => simp [intOf]; omega
                  · have b1 : ((j : Int) == ls) = true := by simp [q1]
                    have b2 : ((j : Int) != pt) = true := by simp; omega
                    rw [if_pos ⟨q1, q2⟩, hdd] at hd4
                    rw [hd4] at HC hdT
                    have HDD := hid hdd
                    clear hd4 hdd q1 q2
                    go_wp2_with (first
                      | (go_at_call 14; refine HC.out.mono ?_; rintro e w4 ⟨rfl, g4⟩; have G4 := hid g4; clear g4)
                      | (refine wpList_alloc_ct rfl rfl ?_; intro w5 hs5 hb5 hg5; have B5 := hid hb5; have G5 := hid (G4.out.trans hg5); have G45 := hid (show w4.heap.size ≥ wr.heap.size from G4.out.size); clear hs5 hb5 hg5)
                      | (refine wpList_store_ct rfl (.tmp 22) (.tmp 108) rfl _ (ctC _ _ _ _ _ _ _ _ _) rfl (ctC_one _ _ _ _ _ _ _ _ _) rfl rfl _ B5.out ?_; intro w6 hs6 hb6 hg6; have G6 := hid (G5.out.andThen hg6 fun j hj => by cases hj; exact .inl G45.out); have k4 := hb6.cell 4; have d0 := (HW1.out _ G6.out).cell hlt; clear hs6 hb6 hg6; simp only [ctC, List.getElem?_toArray, List.getElem?_cons_zero, List.getElem?_cons_succ] at k4; rw [if_pos hlt, HDD.out] at d0))
                    go_region
                    go_wp2
                    go_roundw
                    case rel => exact ⟨j + 1, by go_num, by omega, H.out.more (G6.out.trans (grownBy_drew _ none)), HW1.out _ (G6.out.trans (grownBy_drew _ none))⟩
                    case measure => simp [intOf]; omega
                · have b1 : ((j : Int) == ls) = false := by simp; omega
                  rw [if_neg (by omega), Nat.add_zero, hdd] at hd4
                  rw [hd4] at HC hdT
                  have HDD := hid hdd
                  clear hd4 hdd q1
                  go_wp2_with (first
                    | (go_at_call 14; refine HC.out.mono ?_; rintro e w4 ⟨rfl, g4⟩; have G4 := hid g4; clear g4)
                    | (refine wpList_alloc_ct rfl rfl ?_; intro w5 hs5 hb5 hg5; have B5 := hid hb5; have G5 := hid (G4.out.trans hg5); have G45 := hid (show w4.heap.size ≥ wr.heap.size from G4.out.size); clear hs5 hb5 hg5)
                    | (refine wpList_store_ct rfl (.tmp 22) (.tmp 108) rfl _ (ctC _ _ _ _ _ _ _ _ _) rfl (ctC_one _ _ _ _ _ _ _ _ _) rfl rfl _ B5.out ?_; intro w6 hs6 hb6 hg6; have G6 := hid (G5.out.andThen hg6 fun j hj => by cases hj; exact .inl G45.out); have k4 := hb6.cell 4; have d0 := (HW1.out _ G6.out).cell hlt; clear hs6 hb6 hg6; simp only [ctC, List.getElem?_toArray, List.getElem?_cons_zero, List.getElem?_cons_succ] at k4; rw [if_pos hlt, HDD.out] at d0))
                  go_region
                  go_wp2
                  go_roundw
                  case rel => exact ⟨j + 1, by go_num, by omega, H.out.more (G6.out.trans (grownBy_drew _ none)), HW1.out _ (G6.out.trans (grownBy_drew _ none))⟩
                  case measure => simp [intOf]; omega
              · obtain rfl : j = 5 := by omega
                have HDn := hid (cDown H.out ls)
                have hi : S4.is (ls : Int) = true := Sw.is_mk (by rw [HX.out.2.1]; exact l5)
                have eD : S4.downE ls = ({ S4.set ls (S4.P ls).down with A := strike S4.A ls }, 0) := by unfold Sw.downE; rw [if_pos hi, Int.toNat_natCast]
                rw [eD] at HDn
                have eK : ({ S4.set ls (S4.P ls).down with A := strike S4.A ls } : Sw).knownE x0.toNat = (0, 6) := by
                  unfold Sw.knownE
                  rw [if_pos (by omega), Int.toNat_natCast]
                  show (match strike S4.A ls x0.toNat with | none => (0, 6) | some p => (p, 0)) = _
                  unfold strike
                  rw [HX.out.2.2.1, if_pos rfl]
                have HK := hid (fun (lab' : Nat → Nat) (w' : World) (h : BV w lab' w' b ({ S4.set ls (S4.P ls).down with A := strike S4.A ls }) 3) => cKnown h x0.toNat)
                rw [eK] at HK
                clear eD eK hi
                go_wp2_with (first
                  | (go_at_call 16; refine HDn.out.mono ?_; rintro e w8 ⟨rfl, lab8, h8, -⟩; have H8 := hid h8; clear h8)
                  | (go_at_call 21; refine (HK.out _ _ H8.out).mono ?_; rintro e w9 ⟨rfl, rfl⟩))
                go_ret
                exact ⟨rfl, H8.out.g0⟩
theorem main {H : Type} {enc : TypeId × Value → H} (v0 v1 v2 v3 v4 : Value) (W : World) (c0 : Flat.Came enc Try.prog W 0 (fun _ => true) true 5 v0) (c1 : Flat.Came enc Try.prog W 0 (fun _ => true) true 5 v1) (c2 : Flat.Came enc Try.prog W 0 (fun _ => true) true 5 v2) (c3 : Flat.Came enc Try.prog W 0 (fun _ => true) true 5 v3) (c4 : Flat.Came enc Try.prog W 0 (fun _ => true) true 5 v4) :
    Calls Try.prog 6 #[v0, v1, v2, v3, v4] W fun e w' => e = .returned (.bool true) ∧ W.grownBy w' none := by
  obtain ⟨a, rfl, ha⟩ := c0.int Try.underlying5
  obtain ⟨b, rfl, hb⟩ := c1.int Try.underlying5
  obtain ⟨c, rfl, hc⟩ := c2.int Try.underlying5
  obtain ⟨d, rfl, hd⟩ := c3.int Try.underlying5
  obtain ⟨e, rfl, he⟩ := c4.int Try.underlying5
  have ha := bounds_u8 ha
  have hb := bounds_u8 hb
  have hc := bounds_u8 hc
  have hd := bounds_u8 hd
  have he := bounds_u8 he
  have e1 : ∀ n : Int, 0 ≤ n ∧ n ≤ 255 → (((UInt8.ofNat n.toNat).toNat : Nat) : Int) = n := fun n h => by
    rw [UInt8.toNat_ofNat_of_lt' (show n.toNat < 256 by omega), Int.toNat_of_nonneg h.1]
  have := walk (UInt8.ofNat a.toNat) (UInt8.ofNat b.toNat) c.toNat d.toNat e.toNat (by omega) (by omega) (by omega) W
  rw [e1 a ha, e1 b hb, Int.toNat_of_nonneg hc.1, Int.toNat_of_nonneg hd.1, Int.toNat_of_nonneg he.1] at this
  exact this

theorem own : ownKnob Try.prog.godebug = none := by kernel_rfl
theorem laidOut : laidOutB Try.prog = true := by kernel_rfl

set_option maxRecDepth 100000 in
theorem lifted (os : Os) (started : os.Started) (H : Type) (enc : TypeId × Value → H) :
    ReturnsInHanded {} Try.checked os 6 .any (Rows.bridgeLearnsSpec.pre6 enc Try.prog Try.f6 Rows.bridgeLearnsRow.domain false) (Rows.bridgeLearnsSpec.post enc Try.prog Try.f6 false true false false) := by
  refine returnsInHanded_of_change_sized (C := Try.checked) own started (by kernel_rfl) Try.func6
    (ChangeSpec.witness6 (enc := enc) (C := Try.checked) false ⟨#[], #[.int .u8 0, .int .u8 0, .int .u8 0, .int .u8 0, .int .u8 0], []⟩ 8 (by kernel_rfl) (by kernel_rfl) (by kernel_rfl) (by kernel_rfl)) ?_
  intro W base args ds gs before hval0 hW _ hsz0 _
  have hsz : (DataW.weightsEach Try.prog (Try.f6.params.toList ++ Rows.bridgeLearnsSpec.plain.varTypes Try.prog) (ds ++ gs)).all (· ≤ reachBytes) = true := hsz0
  clear hsz0
  have hval : ∀ (j : Nat) t v, Try.f6.params[j]? = some t → args[j]? = some v → Value.okWide Try.prog W .any base t v := hval0
  have hW' := hW
  obtain ⟨p, q, hA0, hV, rfl, hfz, hnd⟩ := hW
  have hA : DataW.TrodAll enc Try.prog W 0 (fun _ => true) true Try.f6.params.toList args.toList ds p := hA0
  rw [Try.params6] at hA hval hsz
  obtain ⟨v0, vs0, d0, ds0, p0, q0, hargs, rfl, rfl, h0, r0⟩ := trodAll_cons hA
  obtain ⟨v1, vs1, d1, ds1, p1, q1, rfl, rfl, rfl, h1, r1⟩ := trodAll_cons r0
  obtain ⟨v2, vs2, d2, ds2, p2, q2, rfl, rfl, rfl, h2, r2⟩ := trodAll_cons r1
  obtain ⟨v3, vs3, d3, ds3, p3, q3, rfl, rfl, rfl, h3, r3⟩ := trodAll_cons r2
  obtain ⟨v4, vs4, d4, ds4, p4, q4, rfl, rfl, rfl, h4, r4⟩ := trodAll_cons r3
  obtain ⟨rfl, rfl, rfl⟩ := trodAll_nil r4
  obtain rfl : args = #[v0, v1, v2, v3, v4] := by cases args; simp_all
  obtain ⟨rfl, rfl⟩ := trodVars_none hV
  obtain ⟨a0, rfl, rfl, rfl, w0⟩ := open_int Try.underlying5 (hval 0 5 v0 rfl rfl) h0
  have k0 := h0
  have lt0 : ∀ x ∈ ([] : List MemPlace), x.block < W.heap.size := by obtain ⟨m, hm⟩ := k0; exact DataW.trod_lt m _ _ _ hm
  have c0 : Flat.Came enc Try.prog W 0 (fun _ => true) true 5 (.int .u8 a0) := by
    obtain ⟨fuel, hf⟩ := h0
    exact ⟨fuel, _, hf, fun n hn => by
      have := List.all_eq_true.1 hsz n (DataW.weights_mem_each (j := 0) rfl rfl n hn)
      simpa using this⟩
  obtain ⟨a1, rfl, rfl, rfl, w1⟩ := open_int Try.underlying5 (hval 1 5 v1 rfl rfl) h1
  have k1 := h1
  have lt1 : ∀ x ∈ ([] : List MemPlace), x.block < W.heap.size := by obtain ⟨m, hm⟩ := k1; exact DataW.trod_lt m _ _ _ hm
  have c1 : Flat.Came enc Try.prog W 0 (fun _ => true) true 5 (.int .u8 a1) := by
    obtain ⟨fuel, hf⟩ := h1
    exact ⟨fuel, _, hf, fun n hn => by
      have := List.all_eq_true.1 hsz n (DataW.weights_mem_each (j := 1) rfl rfl n hn)
      simpa using this⟩
  obtain ⟨a2, rfl, rfl, rfl, w2⟩ := open_int Try.underlying5 (hval 2 5 v2 rfl rfl) h2
  have k2 := h2
  have lt2 : ∀ x ∈ ([] : List MemPlace), x.block < W.heap.size := by obtain ⟨m, hm⟩ := k2; exact DataW.trod_lt m _ _ _ hm
  have c2 : Flat.Came enc Try.prog W 0 (fun _ => true) true 5 (.int .u8 a2) := by
    obtain ⟨fuel, hf⟩ := h2
    exact ⟨fuel, _, hf, fun n hn => by
      have := List.all_eq_true.1 hsz n (DataW.weights_mem_each (j := 2) rfl rfl n hn)
      simpa using this⟩
  obtain ⟨a3, rfl, rfl, rfl, w3⟩ := open_int Try.underlying5 (hval 3 5 v3 rfl rfl) h3
  have k3 := h3
  have lt3 : ∀ x ∈ ([] : List MemPlace), x.block < W.heap.size := by obtain ⟨m, hm⟩ := k3; exact DataW.trod_lt m _ _ _ hm
  have c3 : Flat.Came enc Try.prog W 0 (fun _ => true) true 5 (.int .u8 a3) := by
    obtain ⟨fuel, hf⟩ := h3
    exact ⟨fuel, _, hf, fun n hn => by
      have := List.all_eq_true.1 hsz n (DataW.weights_mem_each (j := 3) rfl rfl n hn)
      simpa using this⟩
  obtain ⟨a4, rfl, rfl, rfl, w4⟩ := open_int Try.underlying5 (hval 4 5 v4 rfl rfl) h4
  have k4 := h4
  have lt4 : ∀ x ∈ ([] : List MemPlace), x.block < W.heap.size := by obtain ⟨m, hm⟩ := k4; exact DataW.trod_lt m _ _ _ hm
  have c4 : Flat.Came enc Try.prog W 0 (fun _ => true) true 5 (.int .u8 a4) := by
    obtain ⟨fuel, hf⟩ := h4
    exact ⟨fuel, _, hf, fun n hn => by
      have := List.all_eq_true.1 hsz n (DataW.weights_mem_each (j := 4) rfl rfl n hn)
      simpa using this⟩
  clear hA0 hval0
  refine (main (.int .u8 a0) (.int .u8 a1) (.int .u8 a2) (.int .u8 a3) (.int .u8 a4) W c0 c1 c2 c3 c4).mono fun e W' ⟨he, hg⟩ => ?_
  subst he
  have bel := below_grown' hg
  simp only [List.append_nil, List.nil_append] at hW'
  exact ⟨_, rfl, _, _, _, [], _, [], hW', trodAll_mk1 (shut_bool Try.underlying4 _), (trodAll_cons_mk (Below.trod laidOut (by kernel_rfl) (of_decide_eq_true (by kernel_rfl)) k0 bel lt0) (trodAll_cons_mk (Below.trod laidOut (by kernel_rfl) (of_decide_eq_true (by kernel_rfl)) k1 bel lt1) (trodAll_cons_mk (Below.trod laidOut (by kernel_rfl) (of_decide_eq_true (by kernel_rfl)) k2 bel lt2) (trodAll_cons_mk (Below.trod laidOut (by kernel_rfl) (of_decide_eq_true (by kernel_rfl)) k3 bel lt3) (trodAll_cons_mk (Below.trod laidOut (by kernel_rfl) (of_decide_eq_true (by kernel_rfl)) k4 bel lt4) trodAll_mk0))))), rfl, bel.frame _, fun h => by cases h⟩

theorem proved : Rows.BridgeLearnsSaid :=
  OpenClaim.holds_of_wide 6 Try.f6 rfl rfl rfl rfl rfl rfl rfl ⟨rfl, rfl, rfl, rfl, rfl⟩ rfl rfl rfl rfl rfl (by kernel_rfl) Try.func6 (by kernel_rfl)
    (of_decide_eq_true (by kernel_rfl)) (by unfold Func.isWrapper; first | (rw [if_pos (by decide +kernel)]; kernel_rfl) | (rw [if_neg (by decide +kernel)]; exact ⟨rfl, rfl⟩))
    (fun os started H enc _ => lifted os started H enc)
#print axioms proved
end Go.Proofs.Ytakofhhfdgankaa.lawBrLearns
