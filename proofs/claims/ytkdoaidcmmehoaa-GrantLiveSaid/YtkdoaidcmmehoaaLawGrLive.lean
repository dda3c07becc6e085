/-
  GrantLive: for either mode, every two rows of bytes and either choice the law returns true, and what was there stays. No condition.
-/
import Derived.Test.YtkdoaidcmmehoaaJ5L
import Derived.Test.YtkdoaidcmmehoaaJ4
import Derived.Test.YtkdoaidcmmehoaaLift
import Derived.Test.YtkdoaidcmmehoaaOpen
import Derived.Test.YtkdoaidcmmehoaaRows
import Derived.Test.YtkdoaidcmmehoaaBytesIn
import Derived.Test.YtkdoaidcmmehoaaJ7
import Derived.ProofKit
import Derived.OpenShut
import Derived.Deep.Cut
import Derived.Deep.Slices
set_option linter.unusedSimpArgs false
set_option linter.unusedVariables false
namespace Go.Proofs.Ytkdoaidcmmehoaa.lawGrLive
open Go.ChangeShapes Go.WideShapes Go.ChangeAt Go.RowKit KM Go.Deep
set_option maxHeartbeats 4000000
set_option maxRecDepth 100000

theorem walk (wr : Bool) (pa : Option Addr) (ca : Nat) (ov : List UInt8) (pb : Option Addr) (cb : Nat) (bs : List UInt8) (lv : Bool) (w : World) (hov : InBytes w pa ov) (hol : ov.length ≤ 140737488351232) (hca : ov.length ≤ ca) (hbs : InBytes w pb bs) :
    Calls Try.prog 7 #[.bool wr, .slice pa ov.length ca, .slice pb bs.length cb, .bool lv] w fun e w' => e = .returned (.bool true) ∧ w.grownBy w' none := by
  have HOv := hid hov
  have HOl := hid hol
  have HCa := hid hca
  have HBs := hid hbs
  clear hov hol hca hbs
  have HB := hid (begin_nil w)
  by_cases hl : bs.length ≤ 200
  · have hl' : (bs.length : Int) ≤ 200 := by omega
    have HL := hid hl
    have HOk0 := hid (show (layS (bst 3) eL).M.ok 3 from layM_ok (bst_ok 3) eL)
    have HS1 := hid (L1.start bs hl)
    clear hl
    go_enter Try.func7, Try.ntmps7
    go_upto_region 10 with (first
      | (go_at_call 42; (with_reducible refine HB.out.mono ?_); rintro e w1 ⟨t, X, B, G, pm, Y, R, D, c, qb, ql, L, vp, vq, rfl, ho⟩; have HO1 := hid ho; clear ho)
      | (go_at_call 43; refine (show Calls _ _ #[.pointer (some ⟨t, 0, none⟩), .agg #[.int .i64 1, .int .i64 5, .int .i64 1, .bool false, .bool false, .int .i64 2, .int .i64 3, .int .i64 0, .int .i64 256, .int .u8 0]] _ _ from lay_any HO1.out (bst_ok 3) eL).mono ?_; rintro e w2 ⟨rfl, L2, h2⟩; have HW2 := hid h2.wt; clear h2; have c0 := HW2.out.c0)
      | (go_at_call 18; (with_reducible refine (HW2.out.writeM HOk0.out 7 11 (by omega) cb (by have := HL.out; omega) HBs.out).mono ?_); rintro e w3 ⟨rfl, h3⟩; have HW3 := hid h3; clear h3; have c3 := HW3.out.c0)
      | (go_at_call 23; (with_reducible refine (HW3.out.newView HS1.out.ok.n1).mono ?_); rintro e w4 ⟨V, Gv, S, rfl, h4⟩; have HV4 := hid h4; have c4 := h4.wt.c1; clear h4)
      | (go_at_call 44; (with_reducible refine (HV4.out.mapLive HS1.out (by unfold maxLen; omega) (by omega) wr).mono ?_); rintro e w5 ⟨rfl, h5⟩; have HV5 := hid h5; obtain ⟨l5, m5, b5⟩ := HS1.out.map wr; have HS5 := hid l5; have HM5 := hid m5; have HB5 := hid b5; have c5 := h5.wt.c1; clear h5 l5 m5 b5)
      | (go_at_call 45; (with_reducible refine (HV5.out.revokeL HS5.out HM5.out).mono ?_); rintro e w6 ⟨rfl, h6⟩; have HV6 := hid h6; have c6 := h6.wt.c0; clear h6)
      | fail)
    clear HB HO1 HW2 HW3 HV4 HV5 c0 c3 c4 c5 HOk0 HS1
    have HO8 := hid (show ∀ h : 8 < ov.length, InBytes w pa (ov.take 8) ∧ (ov.take 8).length = 8 from fun h => ⟨by
      rcases HOv.out with e | ⟨b, o, e, hb, hc⟩
      · rw [e] at h; simp at h
      · refine .inr ⟨b, o, e, hb, fun k hk => ?_⟩
        have hk8 : k < 8 := by simp at hk; omega
        rw [hc k (by omega)]
        simp [List.getD, List.getElem?_take, hk8], by simp; omega⟩)
    by_cases h8 : 8 < ov.length
    · obtain ⟨hi8, hl8⟩ := HO8.out h8
      have h8' : (8 : Int) < ov.length := by omega
      have HI8 := hid hi8
      have HL8 := hid hl8
      clear HO8 h8 hi8 hl8
      have hc8 : (8 : Int) ≤ ca := by have := HCa.out; omega
      have HW7 := hid (show Calls Try.prog 18 #[.pointer (some ⟨B, 0, none⟩), .int .i64 4, .int .i64 40, .slice pa 8 ca] w6.drew _ from by have := (HV6.out.grown (grownBy_drew w6 none)).writeM HS5.out.ok 4 40 (by omega) ca (by rw [HL8.out]; omega) HI8.out; rw [HL8.out] at this; exact this)
      have e0 : w6.drew.cell? ⟨t, 0, none⟩ = some (.pointer (some ⟨B, 0, none⟩)) := c6
      go_upto_region 11 with fail
      go_region_held3 (fun w' => w'.cell? ⟨t, 0, none⟩ = some (.pointer (some ⟨B, 0, none⟩))) (first | exact (by assumption) | go_keep)
        (first
          | (go_at_call 18; (with_reducible refine HW7.out.mono ?_); rintro e w7 ⟨rfl, h7⟩; have HV7 := hid h7; have k0 := h7.wt.c0; clear h7))
      have HBeg := hid True.intro
      clear k0 e0 HW7 hc8 c6 HI8 HL8
      clear HV6 HBeg
      obtain ⟨s7, hs7⟩ : ∃ s7, (mapL ((layS (bst 3) eL).setM ((layS (bst 3) eL).M.write 7 11 bs).2) wr).setM ((mapL ((layS (bst 3) eL).setM ((layS (bst 3) eL).M.write 7 11 bs).2) wr).M.write 4 40 (ov.take 8)).2 = s7 := ⟨_, rfl⟩
      rw [hs7] at HV7
      obtain ⟨l7, m7, b7⟩ : LS s7 wr ∧ s7.g.mem 1 = some (4, 1) ∧ (s7.M.fr 7).part 11 bs.length = bs := by
        subst hs7
        exact ⟨HS5.out.write _ _ _, HM5.out, by show (((mapL _ wr).M.write 4 40 _).2.fr 7).part 11 bs.length = bs; rw [fr_write_other _ _ _ _ _ (by decide)]; exact HB5.out⟩
      have HS7 := hid l7
      have HM7 := hid m7
      have HB7 := hid b7
      clear HS5 HM5 HB5 hs7 l7 m7 b7
      cases lv with
      | true =>
        obtain ⟨l8, f8⟩ := HS7.out.leave HM7.out
        have HB8 := hid (show ((s7.leave 1).2.M.fr 7).part 11 bs.length = bs by rw [f8]; exact HB7.out)
        have HS8 := hid l8
        have c7 := HV7.out.wt.c1
        clear l8 f8
        go_upto_region 15 with (go_at_call 46; (with_reducible refine (HV7.out.leaveL HS7.out).mono ?_); rintro e w8 ⟨rfl, h8⟩; have HV8 := hid h8; clear h8)
        clear c7 HV7 HS7 HM7 HB7
        generalize (s7.leave 1).2 = s8 at *
        have d1 := HV8.out.wt.c1
        cases wr with
        | true =>
          as_aux_lemma =>
            go_upto_region 17 with (first
              | (go_at_call 47; (with_reducible refine (HV8.out.readL HS8.out HB8.out HL.out (by omega)).mono ?_); rintro e w9 ⟨q, cq, rfl, hk9, h9⟩; have HV9 := hid h9; have HK9 := hid hk9; have d9 := h9.wt.c1; clear h9 hk9)
              | (go_at_call 48; (with_reducible refine (HV9.out.writeL HS8.out cb HL.out HBs.out (kc := 0) rfl).mono ?_); rintro e w10 ⟨rfl, h10, hc10⟩; have HV10 := hid h10; have HS10 := hid (HS8.out.writeG HL.out).2; have HK10 := hid (KeptBytes.chg HK9.out hc10 (fun k hk e => by have := HV8.out.wt.a.lt e; omega)); have d10 := h10.wt.c0; clear h10 hc10))
            have hcq := kept_string HK10.out cq w10 (World.grownBy.refl _ _)
            have hcp := in_string HBs.out cb w10 HV10.out.wt.g
            go_upto_region 19 with (go_at_call 49; (with_reducible refine (HV10.out.freeL HS10.out).mono ?_); rintro e w11 ⟨rfl, h11⟩; have HV11 := hid h11; have d11 := h11.wt.c1; clear h11)
            have HN := hid HS10.out.unmap.2
            clear hcq hcp HK10 HV10 HV9 HK9 HV8 HS8 HB8 d1 d9 d10
            go_wp2_with (first
              | (go_at_call 50; first
                | ((with_reducible refine (HV11.out.foreignL HS10.out).mono ?_); rintro e w12 ⟨rfl, h12⟩; have HV12 := hid h12; have d12 := h12.wt.c1; clear h12 HV11)
                | ((with_reducible refine (HV14.out.foreignN HN.out).mono ?_); rintro e w15 ⟨rfl, h15⟩; have HV15 := hid h15; have d15 := h15.wt.c1; clear h15 HV14))
              | (go_at_call 51; first
                | ((with_reducible refine (HV12.out.unmapL HS10.out).mono ?_); rintro e w13 ⟨rfl, h13⟩; have HV13 := hid h13; have d13 := h13.wt.c1; clear h13 HV12)
                | ((with_reducible refine (HV13.out.unmapN HN.out).mono ?_); rintro e w14 ⟨rfl, h14⟩; have HV14 := hid h14; have d14 := h14.wt.c1; clear h14 HV13))
              | (go_at_call 47; (with_reducible refine (HV15.out.readN HN.out (by omega)).mono ?_); rintro e w16 ⟨q, cq, rfl, h16⟩; have HV16 := hid h16; have d16 := h16.wt.c1; clear h16)
              | (go_at_call 48; (with_reducible refine (HV16.out.writeN HN.out cb HL.out HBs.out).mono ?_); rintro e w17 ⟨rfl, h17⟩; have HV17 := hid h17; clear h17))
            go_ret
            exact ⟨rfl, HV17.out.wt.g⟩
        | false =>
          as_aux_lemma =>
            go_upto_region 17 with (first
              | (go_at_call 47; (with_reducible refine (HV8.out.readL HS8.out HB8.out HL.out (by omega)).mono ?_); rintro e w9 ⟨q, cq, rfl, hk9, h9⟩; have HV9 := hid h9; have HK9 := hid hk9; have d9 := h9.wt.c1; clear h9 hk9)
              | (go_at_call 48; (with_reducible refine (HV9.out.writeL HS8.out cb HL.out HBs.out (kc := 62) rfl).mono ?_); rintro e w10 ⟨rfl, h10, hc10⟩; have HV10 := hid h10; have HS10 := hid (HS8.out.writeG HL.out).2; have HK10 := hid (KeptBytes.chg HK9.out hc10 (fun k hk e => by have := HV8.out.wt.a.lt e; omega)); have d10 := h10.wt.c0; clear h10 hc10))
            have hcq := kept_string HK10.out cq w10 (World.grownBy.refl _ _)
            have hcp := in_string HBs.out cb w10 HV10.out.wt.g
            go_upto_region 19 with (go_at_call 49; (with_reducible refine (HV10.out.freeL HS10.out).mono ?_); rintro e w11 ⟨rfl, h11⟩; have HV11 := hid h11; have d11 := h11.wt.c1; clear h11)
            have HN := hid HS10.out.unmap.2
            clear hcq hcp HK10 HV10 HV9 HK9 HV8 HS8 HB8 d1 d9 d10
            go_wp2_with (first
              | (go_at_call 50; first
                | ((with_reducible refine (HV11.out.foreignL HS10.out).mono ?_); rintro e w12 ⟨rfl, h12⟩; have HV12 := hid h12; have d12 := h12.wt.c1; clear h12 HV11)
                | ((with_reducible refine (HV14.out.foreignN HN.out).mono ?_); rintro e w15 ⟨rfl, h15⟩; have HV15 := hid h15; have d15 := h15.wt.c1; clear h15 HV14))
              | (go_at_call 51; first
                | ((with_reducible refine (HV12.out.unmapL HS10.out).mono ?_); rintro e w13 ⟨rfl, h13⟩; have HV13 := hid h13; have d13 := h13.wt.c1; clear h13 HV12)
                | ((with_reducible refine (HV13.out.unmapN HN.out).mono ?_); rintro e w14 ⟨rfl, h14⟩; have HV14 := hid h14; have d14 := h14.wt.c1; clear h14 HV13))
              | (go_at_call 47; (with_reducible refine (HV15.out.readN HN.out (by omega)).mono ?_); rintro e w16 ⟨q, cq, rfl, h16⟩; have HV16 := hid h16; have d16 := h16.wt.c1; clear h16)
              | (go_at_call 48; (with_reducible refine (HV16.out.writeN HN.out cb HL.out HBs.out).mono ?_); rintro e w17 ⟨rfl, h17⟩; have HV17 := hid h17; clear h17))
            go_ret
            exact ⟨rfl, HV17.out.wt.g⟩
      | false =>
        have HB8 := hid HB7.out
        have HS8 := hid HS7.out
        have HV8 := hid HV7.out
        go_upto_region 15 with fail
        clear HV7 HS7 HM7 HB7
        generalize s7 = s8 at *
        generalize w7 = w8 at *
        have d1 := HV8.out.wt.c1
        cases wr with
        | true =>
          as_aux_lemma =>
            go_upto_region 17 with (first
              | (go_at_call 47; (with_reducible refine (HV8.out.readL HS8.out HB8.out HL.out (by omega)).mono ?_); rintro e w9 ⟨q, cq, rfl, hk9, h9⟩; have HV9 := hid h9; have HK9 := hid hk9; have d9 := h9.wt.c1; clear h9 hk9)
              | (go_at_call 48; (with_reducible refine (HV9.out.writeL HS8.out cb HL.out HBs.out (kc := 0) rfl).mono ?_); rintro e w10 ⟨rfl, h10, hc10⟩; have HV10 := hid h10; have HS10 := hid (HS8.out.writeG HL.out).2; have HK10 := hid (KeptBytes.chg HK9.out hc10 (fun k hk e => by have := HV8.out.wt.a.lt e; omega)); have d10 := h10.wt.c0; clear h10 hc10))
            have hcq := kept_string HK10.out cq w10 (World.grownBy.refl _ _)
            have hcp := in_string HBs.out cb w10 HV10.out.wt.g
            go_upto_region 19 with (go_at_call 49; (with_reducible refine (HV10.out.freeL HS10.out).mono ?_); rintro e w11 ⟨rfl, h11⟩; have HV11 := hid h11; have d11 := h11.wt.c1; clear h11)
            have HN := hid HS10.out.unmap.2
            clear hcq hcp HK10 HV10 HV9 HK9 HV8 HS8 HB8 d1 d9 d10
            go_wp2_with (first
              | (go_at_call 50; first
                | ((with_reducible refine (HV11.out.foreignL HS10.out).mono ?_); rintro e w12 ⟨rfl, h12⟩; have HV12 := hid h12; have d12 := h12.wt.c1; clear h12 HV11)
                | ((with_reducible refine (HV14.out.foreignN HN.out).mono ?_); rintro e w15 ⟨rfl, h15⟩; have HV15 := hid h15; have d15 := h15.wt.c1; clear h15 HV14))
              | (go_at_call 51; first
                | ((with_reducible refine (HV12.out.unmapL HS10.out).mono ?_); rintro e w13 ⟨rfl, h13⟩; have HV13 := hid h13; have d13 := h13.wt.c1; clear h13 HV12)
                | ((with_reducible refine (HV13.out.unmapN HN.out).mono ?_); rintro e w14 ⟨rfl, h14⟩; have HV14 := hid h14; have d14 := h14.wt.c1; clear h14 HV13))
              | (go_at_call 47; (with_reducible refine (HV15.out.readN HN.out (by omega)).mono ?_); rintro e w16 ⟨q, cq, rfl, h16⟩; have HV16 := hid h16; have d16 := h16.wt.c1; clear h16)
              | (go_at_call 48; (with_reducible refine (HV16.out.writeN HN.out cb HL.out HBs.out).mono ?_); rintro e w17 ⟨rfl, h17⟩; have HV17 := hid h17; clear h17))
            go_ret
            exact ⟨rfl, HV17.out.wt.g⟩
        | false =>
          as_aux_lemma =>
            go_upto_region 17 with (first
              | (go_at_call 47; (with_reducible refine (HV8.out.readL HS8.out HB8.out HL.out (by omega)).mono ?_); rintro e w9 ⟨q, cq, rfl, hk9, h9⟩; have HV9 := hid h9; have HK9 := hid hk9; have d9 := h9.wt.c1; clear h9 hk9)
              | (go_at_call 48; (with_reducible refine (HV9.out.writeL HS8.out cb HL.out HBs.out (kc := 62) rfl).mono ?_); rintro e w10 ⟨rfl, h10, hc10⟩; have HV10 := hid h10; have HS10 := hid (HS8.out.writeG HL.out).2; have HK10 := hid (KeptBytes.chg HK9.out hc10 (fun k hk e => by have := HV8.out.wt.a.lt e; omega)); have d10 := h10.wt.c0; clear h10 hc10))
            have hcq := kept_string HK10.out cq w10 (World.grownBy.refl _ _)
            have hcp := in_string HBs.out cb w10 HV10.out.wt.g
            go_upto_region 19 with (go_at_call 49; (with_reducible refine (HV10.out.freeL HS10.out).mono ?_); rintro e w11 ⟨rfl, h11⟩; have HV11 := hid h11; have d11 := h11.wt.c1; clear h11)
            have HN := hid HS10.out.unmap.2
            clear hcq hcp HK10 HV10 HV9 HK9 HV8 HS8 HB8 d1 d9 d10
            go_wp2_with (first
              | (go_at_call 50; first
                | ((with_reducible refine (HV11.out.foreignL HS10.out).mono ?_); rintro e w12 ⟨rfl, h12⟩; have HV12 := hid h12; have d12 := h12.wt.c1; clear h12 HV11)
                | ((with_reducible refine (HV14.out.foreignN HN.out).mono ?_); rintro e w15 ⟨rfl, h15⟩; have HV15 := hid h15; have d15 := h15.wt.c1; clear h15 HV14))
              | (go_at_call 51; first
                | ((with_reducible refine (HV12.out.unmapL HS10.out).mono ?_); rintro e w13 ⟨rfl, h13⟩; have HV13 := hid h13; have d13 := h13.wt.c1; clear h13 HV12)
                | ((with_reducible refine (HV13.out.unmapN HN.out).mono ?_); rintro e w14 ⟨rfl, h14⟩; have HV14 := hid h14; have d14 := h14.wt.c1; clear h14 HV13))
              | (go_at_call 47; (with_reducible refine (HV15.out.readN HN.out (by omega)).mono ?_); rintro e w16 ⟨q, cq, rfl, h16⟩; have HV16 := hid h16; have d16 := h16.wt.c1; clear h16)
              | (go_at_call 48; (with_reducible refine (HV16.out.writeN HN.out cb HL.out HBs.out).mono ?_); rintro e w17 ⟨rfl, h17⟩; have HV17 := hid h17; clear h17))
            go_ret
            exact ⟨rfl, HV17.out.wt.g⟩
    · have h8' : ¬ (8 : Int) < ov.length := by omega
      clear HO8 h8
      have HBeg := hid True.intro
      go_upto_region 13 with (go_at_call 18; (with_reducible refine (HV6.out.writeM HS5.out.ok 4 40 (by omega) ca (by have := HOl.out; omega) HOv.out).mono ?_); rintro e w7 ⟨rfl, h7⟩; have HV7 := hid h7; clear h7)
      clear c6
      clear HV6 HBeg
      obtain ⟨s7, hs7⟩ : ∃ s7, (mapL ((layS (bst 3) eL).setM ((layS (bst 3) eL).M.write 7 11 bs).2) wr).setM ((mapL ((layS (bst 3) eL).setM ((layS (bst 3) eL).M.write 7 11 bs).2) wr).M.write 4 40 ov).2 = s7 := ⟨_, rfl⟩
      rw [hs7] at HV7
      obtain ⟨l7, m7, b7⟩ : LS s7 wr ∧ s7.g.mem 1 = some (4, 1) ∧ (s7.M.fr 7).part 11 bs.length = bs := by
        subst hs7
        exact ⟨HS5.out.write _ _ _, HM5.out, by show (((mapL _ wr).M.write 4 40 _).2.fr 7).part 11 bs.length = bs; rw [fr_write_other _ _ _ _ _ (by decide)]; exact HB5.out⟩
      have HS7 := hid l7
      have HM7 := hid m7
      have HB7 := hid b7
      clear HS5 HM5 HB5 hs7 l7 m7 b7
      cases lv with
      | true =>
        obtain ⟨l8, f8⟩ := HS7.out.leave HM7.out
        have HB8 := hid (show ((s7.leave 1).2.M.fr 7).part 11 bs.length = bs by rw [f8]; exact HB7.out)
        have HS8 := hid l8
        have c7 := HV7.out.wt.c1
        clear l8 f8
        go_upto_region 15 with (go_at_call 46; (with_reducible refine (HV7.out.leaveL HS7.out).mono ?_); rintro e w8 ⟨rfl, h8⟩; have HV8 := hid h8; clear h8)
        clear c7 HV7 HS7 HM7 HB7
        generalize (s7.leave 1).2 = s8 at *
        have d1 := HV8.out.wt.c1
        cases wr with
        | true =>
          as_aux_lemma =>
            go_upto_region 17 with (first
              | (go_at_call 47; (with_reducible refine (HV8.out.readL HS8.out HB8.out HL.out (by omega)).mono ?_); rintro e w9 ⟨q, cq, rfl, hk9, h9⟩; have HV9 := hid h9; have HK9 := hid hk9; have d9 := h9.wt.c1; clear h9 hk9)
              | (go_at_call 48; (with_reducible refine (HV9.out.writeL HS8.out cb HL.out HBs.out (kc := 0) rfl).mono ?_); rintro e w10 ⟨rfl, h10, hc10⟩; have HV10 := hid h10; have HS10 := hid (HS8.out.writeG HL.out).2; have HK10 := hid (KeptBytes.chg HK9.out hc10 (fun k hk e => by have := HV8.out.wt.a.lt e; omega)); have d10 := h10.wt.c0; clear h10 hc10))
            have hcq := kept_string HK10.out cq w10 (World.grownBy.refl _ _)
            have hcp := in_string HBs.out cb w10 HV10.out.wt.g
            go_upto_region 19 with (go_at_call 49; (with_reducible refine (HV10.out.freeL HS10.out).mono ?_); rintro e w11 ⟨rfl, h11⟩; have HV11 := hid h11; have d11 := h11.wt.c1; clear h11)
            have HN := hid HS10.out.unmap.2
            clear hcq hcp HK10 HV10 HV9 HK9 HV8 HS8 HB8 d1 d9 d10
            go_wp2_with (first
              | (go_at_call 50; first
                | ((with_reducible refine (HV11.out.foreignL HS10.out).mono ?_); rintro e w12 ⟨rfl, h12⟩; have HV12 := hid h12; have d12 := h12.wt.c1; clear h12 HV11)
                | ((with_reducible refine (HV14.out.foreignN HN.out).mono ?_); rintro e w15 ⟨rfl, h15⟩; have HV15 := hid h15; have d15 := h15.wt.c1; clear h15 HV14))
              | (go_at_call 51; first
                | ((with_reducible refine (HV12.out.unmapL HS10.out).mono ?_); rintro e w13 ⟨rfl, h13⟩; have HV13 := hid h13; have d13 := h13.wt.c1; clear h13 HV12)
                | ((with_reducible refine (HV13.out.unmapN HN.out).mono ?_); rintro e w14 ⟨rfl, h14⟩; have HV14 := hid h14; have d14 := h14.wt.c1; clear h14 HV13))
              | (go_at_call 47; (with_reducible refine (HV15.out.readN HN.out (by omega)).mono ?_); rintro e w16 ⟨q, cq, rfl, h16⟩; have HV16 := hid h16; have d16 := h16.wt.c1; clear h16)
              | (go_at_call 48; (with_reducible refine (HV16.out.writeN HN.out cb HL.out HBs.out).mono ?_); rintro e w17 ⟨rfl, h17⟩; have HV17 := hid h17; clear h17))
            go_ret
            exact ⟨rfl, HV17.out.wt.g⟩
        | false =>
          as_aux_lemma =>
            go_upto_region 17 with (first
              | (go_at_call 47; (with_reducible refine (HV8.out.readL HS8.out HB8.out HL.out (by omega)).mono ?_); rintro e w9 ⟨q, cq, rfl, hk9, h9⟩; have HV9 := hid h9; have HK9 := hid hk9; have d9 := h9.wt.c1; clear h9 hk9)
              | (go_at_call 48; (with_reducible refine (HV9.out.writeL HS8.out cb HL.out HBs.out (kc := 62) rfl).mono ?_); rintro e w10 ⟨rfl, h10, hc10⟩; have HV10 := hid h10; have HS10 := hid (HS8.out.writeG HL.out).2; have HK10 := hid (KeptBytes.chg HK9.out hc10 (fun k hk e => by have := HV8.out.wt.a.lt e; omega)); have d10 := h10.wt.c0; clear h10 hc10))
            have hcq := kept_string HK10.out cq w10 (World.grownBy.refl _ _)
            have hcp := in_string HBs.out cb w10 HV10.out.wt.g
            go_upto_region 19 with (go_at_call 49; (with_reducible refine (HV10.out.freeL HS10.out).mono ?_); rintro e w11 ⟨rfl, h11⟩; have HV11 := hid h11; have d11 := h11.wt.c1; clear h11)
            have HN := hid HS10.out.unmap.2
            clear hcq hcp HK10 HV10 HV9 HK9 HV8 HS8 HB8 d1 d9 d10
            go_wp2_with (first
              | (go_at_call 50; first
                | ((with_reducible refine (HV11.out.foreignL HS10.out).mono ?_); rintro e w12 ⟨rfl, h12⟩; have HV12 := hid h12; have d12 := h12.wt.c1; clear h12 HV11)
                | ((with_reducible refine (HV14.out.foreignN HN.out).mono ?_); rintro e w15 ⟨rfl, h15⟩; have HV15 := hid h15; have d15 := h15.wt.c1; clear h15 HV14))
              | (go_at_call 51; first
                | ((with_reducible refine (HV12.out.unmapL HS10.out).mono ?_); rintro e w13 ⟨rfl, h13⟩; have HV13 := hid h13; have d13 := h13.wt.c1; clear h13 HV12)
                | ((with_reducible refine (HV13.out.unmapN HN.out).mono ?_); rintro e w14 ⟨rfl, h14⟩; have HV14 := hid h14; have d14 := h14.wt.c1; clear h14 HV13))
              | (go_at_call 47; (with_reducible refine (HV15.out.readN HN.out (by omega)).mono ?_); rintro e w16 ⟨q, cq, rfl, h16⟩; have HV16 := hid h16; have d16 := h16.wt.c1; clear h16)
              | (go_at_call 48; (with_reducible refine (HV16.out.writeN HN.out cb HL.out HBs.out).mono ?_); rintro e w17 ⟨rfl, h17⟩; have HV17 := hid h17; clear h17))
            go_ret
            exact ⟨rfl, HV17.out.wt.g⟩
      | false =>
        have HB8 := hid HB7.out
        have HS8 := hid HS7.out
        have HV8 := hid HV7.out
        go_upto_region 15 with fail
        clear HV7 HS7 HM7 HB7
        generalize s7 = s8 at *
        generalize w7 = w8 at *
        have d1 := HV8.out.wt.c1
        cases wr with
        | true =>
          as_aux_lemma =>
            go_upto_region 17 with (first
              | (go_at_call 47; (with_reducible refine (HV8.out.readL HS8.out HB8.out HL.out (by omega)).mono ?_); rintro e w9 ⟨q, cq, rfl, hk9, h9⟩; have HV9 := hid h9; have HK9 := hid hk9; have d9 := h9.wt.c1; clear h9 hk9)
              | (go_at_call 48; (with_reducible refine (HV9.out.writeL HS8.out cb HL.out HBs.out (kc := 0) rfl).mono ?_); rintro e w10 ⟨rfl, h10, hc10⟩; have HV10 := hid h10; have HS10 := hid (HS8.out.writeG HL.out).2; have HK10 := hid (KeptBytes.chg HK9.out hc10 (fun k hk e => by have := HV8.out.wt.a.lt e; omega)); have d10 := h10.wt.c0; clear h10 hc10))
            have hcq := kept_string HK10.out cq w10 (World.grownBy.refl _ _)
            have hcp := in_string HBs.out cb w10 HV10.out.wt.g
            go_upto_region 19 with (go_at_call 49; (with_reducible refine (HV10.out.freeL HS10.out).mono ?_); rintro e w11 ⟨rfl, h11⟩; have HV11 := hid h11; have d11 := h11.wt.c1; clear h11)
            have HN := hid HS10.out.unmap.2
            clear hcq hcp HK10 HV10 HV9 HK9 HV8 HS8 HB8 d1 d9 d10
            go_wp2_with (first
              | (go_at_call 50; first
                | ((with_reducible refine (HV11.out.foreignL HS10.out).mono ?_); rintro e w12 ⟨rfl, h12⟩; have HV12 := hid h12; have d12 := h12.wt.c1; clear h12 HV11)
                | ((with_reducible refine (HV14.out.foreignN HN.out).mono ?_); rintro e w15 ⟨rfl, h15⟩; have HV15 := hid h15; have d15 := h15.wt.c1; clear h15 HV14))
              | (go_at_call 51; first
                | ((with_reducible refine (HV12.out.unmapL HS10.out).mono ?_); rintro e w13 ⟨rfl, h13⟩; have HV13 := hid h13; have d13 := h13.wt.c1; clear h13 HV12)
                | ((with_reducible refine (HV13.out.unmapN HN.out).mono ?_); rintro e w14 ⟨rfl, h14⟩; have HV14 := hid h14; have d14 := h14.wt.c1; clear h14 HV13))
              | (go_at_call 47; (with_reducible refine (HV15.out.readN HN.out (by omega)).mono ?_); rintro e w16 ⟨q, cq, rfl, h16⟩; have HV16 := hid h16; have d16 := h16.wt.c1; clear h16)
              | (go_at_call 48; (with_reducible refine (HV16.out.writeN HN.out cb HL.out HBs.out).mono ?_); rintro e w17 ⟨rfl, h17⟩; have HV17 := hid h17; clear h17))
            go_ret
            exact ⟨rfl, HV17.out.wt.g⟩
        | false =>
          as_aux_lemma =>
            go_upto_region 17 with (first
              | (go_at_call 47; (with_reducible refine (HV8.out.readL HS8.out HB8.out HL.out (by omega)).mono ?_); rintro e w9 ⟨q, cq, rfl, hk9, h9⟩; have HV9 := hid h9; have HK9 := hid hk9; have d9 := h9.wt.c1; clear h9 hk9)
              | (go_at_call 48; (with_reducible refine (HV9.out.writeL HS8.out cb HL.out HBs.out (kc := 62) rfl).mono ?_); rintro e w10 ⟨rfl, h10, hc10⟩; have HV10 := hid h10; have HS10 := hid (HS8.out.writeG HL.out).2; have HK10 := hid (KeptBytes.chg HK9.out hc10 (fun k hk e => by have := HV8.out.wt.a.lt e; omega)); have d10 := h10.wt.c0; clear h10 hc10))
            have hcq := kept_string HK10.out cq w10 (World.grownBy.refl _ _)
            have hcp := in_string HBs.out cb w10 HV10.out.wt.g
            go_upto_region 19 with (go_at_call 49; (with_reducible refine (HV10.out.freeL HS10.out).mono ?_); rintro e w11 ⟨rfl, h11⟩; have HV11 := hid h11; have d11 := h11.wt.c1; clear h11)
            have HN := hid HS10.out.unmap.2
            clear hcq hcp HK10 HV10 HV9 HK9 HV8 HS8 HB8 d1 d9 d10
            go_wp2_with (first
              | (go_at_call 50; first
                | ((with_reducible refine (HV11.out.foreignL HS10.out).mono ?_); rintro e w12 ⟨rfl, h12⟩; have HV12 := hid h12; have d12 := h12.wt.c1; clear h12 HV11)
                | ((with_reducible refine (HV14.out.foreignN HN.out).mono ?_); rintro e w15 ⟨rfl, h15⟩; have HV15 := hid h15; have d15 := h15.wt.c1; clear h15 HV14))
              | (go_at_call 51; first
                | ((with_reducible refine (HV12.out.unmapL HS10.out).mono ?_); rintro e w13 ⟨rfl, h13⟩; have HV13 := hid h13; have d13 := h13.wt.c1; clear h13 HV12)
                | ((with_reducible refine (HV13.out.unmapN HN.out).mono ?_); rintro e w14 ⟨rfl, h14⟩; have HV14 := hid h14; have d14 := h14.wt.c1; clear h14 HV13))
              | (go_at_call 47; (with_reducible refine (HV15.out.readN HN.out (by omega)).mono ?_); rintro e w16 ⟨q, cq, rfl, h16⟩; have HV16 := hid h16; have d16 := h16.wt.c1; clear h16)
              | (go_at_call 48; (with_reducible refine (HV16.out.writeN HN.out cb HL.out HBs.out).mono ?_); rintro e w17 ⟨rfl, h17⟩; have HV17 := hid h17; clear h17))
            go_ret
            exact ⟨rfl, HV17.out.wt.g⟩
  · have hl' : (200 : Int) < bs.length := by omega
    clear hl
    go_enter Try.func7, Try.ntmps7
    go_wp2_with (go_at_call 42; (with_reducible refine HB.out.mono ?_); rintro e w1 ⟨t, X, B, G, pm, Y, R, D, c, qb, ql, L, vp, vq, rfl, ho⟩; have HO1 := hid ho.g; clear ho)
    go_ret
    exact ⟨rfl, HO1.out⟩
theorem came_cap {H : Type} {enc : TypeId × Value → H} {w : World} {p : Option Addr} {len cap : Nat} (h : Flat.Came enc Try.prog w 0 (fun _ => true) true 31 (.slice p len cap)) : len ≤ cap := by
  obtain ⟨fuel, x, h, _⟩ := h
  rcases open_slice Try.underlying31 h with ⟨hcs, _⟩ | ⟨a, len', cap', m, n, D, Pl, hcs, _, hl, _⟩
  · simp only [List.cons.injEq, Value.slice.injEq, and_true] at hcs
    omega
  · simp only [List.cons.injEq, Value.slice.injEq, and_true] at hcs
    omega
theorem main {H : Type} {enc : TypeId × Value → H} (v0 v1 v2 v3 : Value) (W : World) (c0 : Flat.Came enc Try.prog W 0 (fun _ => true) true 4 v0) (c1 : Flat.Came enc Try.prog W 0 (fun _ => true) true 31 v1) (c2 : Flat.Came enc Try.prog W 0 (fun _ => true) true 31 v2) (c3 : Flat.Came enc Try.prog W 0 (fun _ => true) true 4 v3) :
    Calls Try.prog 7 #[v0, v1, v2, v3] W fun e w' => e = .returned (.bool true) ∧ W.grownBy w' none := by
  obtain ⟨wr, rfl⟩ := c0.bool Try.underlying4
  obtain ⟨pa, ov, ca, rfl, hov, hol⟩ := came_bytes c1
  obtain ⟨pb, bs, cb, rfl, hbs, _⟩ := came_bytes c2
  obtain ⟨lv, rfl⟩ := c3.bool Try.underlying4
  exact walk wr pa ca ov pb cb bs lv W hov hol (came_cap c1) hbs

theorem own : ownKnob Try.prog.godebug = none := by kernel_rfl
theorem laidOut : laidOutB Try.prog = true := by kernel_rfl

set_option maxRecDepth 100000 in
theorem lifted (os : Os) (started : os.Started) (H : Type) (enc : TypeId × Value → H) :
    ReturnsInHanded {} Try.checked os 7 .any (Rows.grantLiveSpec.pre6 enc Try.prog Try.f7 Rows.grantLiveRow.domain false) (Rows.grantLiveSpec.post enc Try.prog Try.f7 false true false false) := by
  refine returnsInHanded_of_change_sized (C := Try.checked) own started (by kernel_rfl) Try.func7
    (ChangeSpec.witness6 (enc := enc) (C := Try.checked) false ⟨#[], #[.bool false, .slice none 0 0, .slice none 0 0, .bool false], []⟩ 8 (by kernel_rfl) (by kernel_rfl) (by kernel_rfl) (by kernel_rfl)) ?_
  intro W base args ds gs before hval0 hW _ hsz0 _
  have hsz : (DataW.weightsEach Try.prog (Try.f7.params.toList ++ Rows.grantLiveSpec.plain.varTypes Try.prog) (ds ++ gs)).all (· ≤ reachBytes) = true := hsz0
  clear hsz0
  have hval : ∀ (j : Nat) t v, Try.f7.params[j]? = some t → args[j]? = some v → Value.okWide Try.prog W .any base t v := hval0
  have hW' := hW
  obtain ⟨p, q, hA0, hV, rfl, hfz, hnd⟩ := hW
  have hA : DataW.TrodAll enc Try.prog W 0 (fun _ => true) true Try.f7.params.toList args.toList ds p := hA0
  rw [Try.params7] at hA hval hsz
  obtain ⟨v0, vs0, d0, ds0, p0, q0, hargs, rfl, rfl, h0, r0⟩ := trodAll_cons hA
  obtain ⟨v1, vs1, d1, ds1, p1, q1, rfl, rfl, rfl, h1, r1⟩ := trodAll_cons r0
  obtain ⟨v2, vs2, d2, ds2, p2, q2, rfl, rfl, rfl, h2, r2⟩ := trodAll_cons r1
  obtain ⟨v3, vs3, d3, ds3, p3, q3, rfl, rfl, rfl, h3, r3⟩ := trodAll_cons r2
  obtain ⟨rfl, rfl, rfl⟩ := trodAll_nil r3
  obtain rfl : args = #[v0, v1, v2, v3] := by cases args; simp_all
  obtain ⟨rfl, rfl⟩ := trodVars_none hV
  obtain ⟨a0, rfl, rfl, rfl⟩ := open_bool Try.underlying4 (hval 0 4 v0 rfl rfl) h0
  have k0 := h0
  have lt0 : ∀ x ∈ ([] : List MemPlace), x.block < W.heap.size := by obtain ⟨m, hm⟩ := k0; exact DataW.trod_lt m _ _ _ hm
  have c0 : Flat.Came enc Try.prog W 0 (fun _ => true) true 4 (.bool a0) := by
    obtain ⟨fuel, hf⟩ := h0
    exact ⟨fuel, _, hf, fun n hn => by
      have := List.all_eq_true.1 hsz n (DataW.weights_mem_each (j := 0) rfl rfl n hn)
      simpa using this⟩
  obtain ⟨ps1, ln1, cp1, rfl⟩ := okWide_slice Try.underlying31 (hval 1 31 v1 rfl rfl)
  have k1 := h1
  have lt1 : ∀ x ∈ p1, x.block < W.heap.size := by obtain ⟨m, hm⟩ := k1; exact DataW.trod_lt m _ _ _ hm
  have c1 : Flat.Came enc Try.prog W 0 (fun _ => true) true 31 (.slice ps1 ln1 cp1) := by
    obtain ⟨fuel, hf⟩ := h1
    exact ⟨fuel, _, hf, fun n hn => by
      have := List.all_eq_true.1 hsz n (DataW.weights_mem_each (j := 1) rfl rfl n hn)
      simpa using this⟩
  obtain ⟨ps2, ln2, cp2, rfl⟩ := okWide_slice Try.underlying31 (hval 2 31 v2 rfl rfl)
  have k2 := h2
  have lt2 : ∀ x ∈ p2, x.block < W.heap.size := by obtain ⟨m, hm⟩ := k2; exact DataW.trod_lt m _ _ _ hm
  have c2 : Flat.Came enc Try.prog W 0 (fun _ => true) true 31 (.slice ps2 ln2 cp2) := by
    obtain ⟨fuel, hf⟩ := h2
    exact ⟨fuel, _, hf, fun n hn => by
      have := List.all_eq_true.1 hsz n (DataW.weights_mem_each (j := 2) rfl rfl n hn)
      simpa using this⟩
  obtain ⟨a3, rfl, rfl, rfl⟩ := open_bool Try.underlying4 (hval 3 4 v3 rfl rfl) h3
  have k3 := h3
  have lt3 : ∀ x ∈ ([] : List MemPlace), x.block < W.heap.size := by obtain ⟨m, hm⟩ := k3; exact DataW.trod_lt m _ _ _ hm
  have c3 : Flat.Came enc Try.prog W 0 (fun _ => true) true 4 (.bool a3) := by
    obtain ⟨fuel, hf⟩ := h3
    exact ⟨fuel, _, hf, fun n hn => by
      have := List.all_eq_true.1 hsz n (DataW.weights_mem_each (j := 3) rfl rfl n hn)
      simpa using this⟩
  clear hA0 hval0
  refine (main (.bool a0) (.slice ps1 ln1 cp1) (.slice ps2 ln2 cp2) (.bool a3) W c0 c1 c2 c3).mono fun e W' ⟨he, hg⟩ => ?_
  subst he
  have bel := below_grown' hg
  simp only [List.append_nil, List.nil_append] at hW'
  exact ⟨_, rfl, _, _, _, [], _, [], hW', trodAll_mk1 (shut_bool Try.underlying4 _), (trodAll_cons_mk (Below.trod laidOut (by kernel_rfl) (of_decide_eq_true (by kernel_rfl)) k0 bel lt0) (trodAll_cons_mk (Below.trod laidOut (by kernel_rfl) (of_decide_eq_true (by kernel_rfl)) k1 bel lt1) (trodAll_cons_mk (Below.trod laidOut (by kernel_rfl) (of_decide_eq_true (by kernel_rfl)) k2 bel lt2) (trodAll_cons_mk (Below.trod laidOut (by kernel_rfl) (of_decide_eq_true (by kernel_rfl)) k3 bel lt3) trodAll_mk0)))), rfl, bel.frame _, fun h => by cases h⟩

theorem proved : Rows.GrantLiveSaid :=
  OpenClaim.holds_of_wide 7 Try.f7 rfl rfl rfl rfl rfl rfl rfl ⟨rfl, rfl, rfl, rfl, rfl⟩ rfl rfl rfl rfl rfl (by kernel_rfl) Try.func7 (by kernel_rfl)
    (of_decide_eq_true (by kernel_rfl)) (by unfold Func.isWrapper; first | (rw [if_pos (by decide +kernel)]; kernel_rfl) | (rw [if_neg (by decide +kernel)]; exact ⟨rfl, rfl⟩))
    (fun os started H enc _ => lifted os started H enc)
#print axioms proved

end Go.Proofs.Ytkdoaidcmmehoaa.lawGrLive
