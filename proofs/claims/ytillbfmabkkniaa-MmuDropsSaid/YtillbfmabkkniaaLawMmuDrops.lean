/-
  MmuDrops: for every row of entries and every script of calls the law returns true, and what was there stays. No condition.
-/
import Derived.Test.YtillbfmabkkniaaK31
import Derived.Test.YtillbfmabkkniaaK29
import Derived.ProofKit
import Derived.OpenShut
import Derived.Deep.RegionWith
namespace Go.Proofs.Ytillbfmabkkniaa.lawMmuDrops
open Go.ChangeShapes Go.WideShapes Go.ChangeAt Go.RowKit
set_option maxHeartbeats 2000000

set_option maxRecDepth 100000 in
set_option maxHeartbeats 6000000 in
theorem walk (pa : Option Addr) (cap : Nat) (ps : List PutV) (po : Option Addr) (co : Nat) (os : List MOpR) (w : World) (hp : PutsIn w pa ps) (hps : ps.length ≤ 9223372036854775807) (ho : MOpsIn w po os) (hos : os.length ≤ 140737488355328) :
    Calls Try.prog 14 #[.slice pa ps.length cap, .slice po os.length co] w fun e w' => e = .returned (.bool true) ∧ w.grownBy w' none := by
  have HB := hid (mBegin pa cap ps w hp hps)
  have HO := hid ho; have HOs := hid hos
  have HAl := hid (All.begin ps)
  clear hp ho hos hps
  go_enter Try.func14, Try.ntmps14
  go_wp2_with (go_at_call 36; refine HB.out.mono ?_; rintro e w1 ⟨X, Y, B, b, pv, L, A, rfl, h1⟩; have H1 := hid h1; clear h1)
  obtain ⟨s0, hs0⟩ : ∃ s : Mach × (Nat → Sp), s = (mC ps ps.length, sp0) := ⟨_, rfl⟩
  have HR := hid (show Run w w1 X B Y b s0 0 pv L A E0 by subst hs0; exact ⟨H1.out, HAl.out, few0⟩)
  have HN := hid (show s0.1.n = 10 by subst hs0; exact mC_n _ _)
  clear H1 HAl hs0 HB
  go_loopw [8] (fun i wr => ∃ (j : Nat) (s : Mach × (Nat → Sp)) (pv : Nat → Value) (L : Lay) (A : YL), i = .int .i64 j ∧ j ≤ os.length ∧ Run w wr X B Y b s j pv L A E0 ∧ s.1.n = 10) (fun i _ => os.length - (intOf i).toNat)
  case atStart => exact ⟨0, _, _, _, _, rfl, by omega, HR.out, HN.out⟩
  case round =>
    clear HR HN
    obtain ⟨j, s, pv, L, A, rfl, hj, hr, hn⟩ := hrel
    have HR := hid hr; have HN := hid hn
    clear hr hn
    have hj0 : (0 : Int) ≤ j := by omega
    by_cases hjl : j < os.length
    · have hjl' : (j : Int) < os.length := by omega
      obtain ⟨b', off, rfl, hb', d0, d1, d2, d3, d4⟩ := (HO.out j hjl).at'
      have HRok := hid (HO.out j hjl).ok; have HRlen := hid (HO.out j hjl).len; have HRsrc := hid (HO.out j hjl).src
      have gw := HR.out.bo.g
      have k0 := gw.cell d0 (by simp); have k1 := gw.cell d1 (by simp); have k2 := gw.cell d2 (by simp); have k3 := gw.cell d3 (by simp); have k4 := gw.cell d4 (by simp)
      have hj2 := HOs.out
      have HJ := hid (show j ≤ 140737488355328 by omega)
      clear d0 d1 d2 d3 d4 gw
      generalize os[j] = r at *
      by_cases h5 : r.o.x = 5
      · have h5b : (r.o.x != 5) = false := by simp [h5]
        clear h5
        go_wp2
        go_roundw
        case rel => exact ⟨j + 1, s, pv, L, A, by go_num, by omega, ⟨HR.out.bo, HR.out.all, HR.out.few.up⟩, HN.out⟩
        case measure => simp [intOf]; omega
      · have h5b : (r.o.x != 5) = true := by simp [h5]
        have H5 := hid h5
        clear h5
        go_wp2_with (go_at_call 37; refine (HR.out.play HJ.out r HRok.out HRlen.out HRsrc.out).mono ?_; rintro e w2 ⟨rfl, pv2, L2, A2, E2, h2, hE2⟩; obtain rfl := hE2 H5.out; have H2 := hid h2; clear h2 hE2)
        go_roundw
        case rel => exact ⟨j + 1, _, pv2, L2, A2, by go_num, by omega, H2.out, (playM_n _ _).trans HN.out⟩
        case measure => simp [intOf]; omega
    · obtain rfl : j = os.length := by omega
      have hge : (os.length : Int) ≤ os.length := by omega
      obtain ⟨M, sp⟩ := s
      have HAll := hid HR.out.all
      have HBo := hid HR.out.bo
      simp only at HAll HBo HN
      clear HR
      have hk0 := HOs.out
      go_wp2
      obtain ⟨wo, hwo⟩ : ∃ x, x = wr := ⟨_, rfl⟩
      subst hwo
      go_loopw [9] (fun i wr => ∃ (d : Nat) (pv : Nat → Value), i = .int .i64 d ∧ d ≤ 8 ∧ Bo w wr X B Y b (dropsV M sp d).1 M (dropsV M sp d).2 sp pv L A) (fun i _ => 8 - (intOf i).toNat)
      case atStart => exact ⟨0, pv, rfl, by omega, HBo.out⟩
      case round =>
        clear HBo
        obtain ⟨d, pv, rfl, hd, hbo⟩ := hrel
        have HBo := hid hbo
        clear hbo
        have hd0 : (0 : Int) ≤ d := by omega
        by_cases hd8 : d < 8
        · have hd8' : (d : Int) < 8 := by omega
          have HAd := hid (HAll.out.drops d (by omega)).1
          have HT := hid (fun A' sp' (h : All A' sp' E0) => h.okF few0)
          have HY := hid (dropV_yes (dropsV M sp d).1 (dropsV M sp d).2 hd8)
          have HSt := hid (show (dropsV M sp (d + 1)).1 = (dropV (dropsV M sp d).1 (dropsV M sp d).2 d).2.1 ∧ (dropsV M sp (d + 1)).2 = (dropV (dropsV M sp d).1 (dropsV M sp d).2 d).2.2 from ⟨rfl, rfl⟩)
          have HZ := hid ((HAll.out.drops (d + 1) (by omega)).2 d (by omega))
          rw [HSt.out.2] at HZ
          generalize (dropsV M sp d).1 = Md at *
          generalize (dropsV M sp d).2 = sd at *
          go_wp2_with (first
            | (go_at_call 45; refine (xDrop X B d _ Md sd E0 _ pv HBo.out.p HAd.out HT.out (by omega)).mono ?_; rintro e w2 ⟨rfl, h2⟩; rw [show (dropV Md sd d).1 = 0 by rw [HY.out]]; obtain ⟨pv2, p2, c2, f2⟩ := h2; have H2 := hid (HBo.out.atX p2 c2 f2); clear p2 c2 f2)
            | (go_at_call 51; refine (xRoot_yes X B d _ _ _ pv2 hd8 H2.out.p).mono ?_; rintro e w3 ⟨rfl, rfl⟩; rw [show ((dropV Md sd d).2.2 d).root = -1 by rw [HZ.out]])
            | (go_at_call 54; refine (xPins_yes X B d _ _ _ pv2 hd8 H2.out.p (by rw [HZ.out]; simp)).mono ?_; rintro e w5 ⟨v5, rfl, hp5, g5⟩; rw [show ((dropV Md sd d).2.2 d).pins = [] by rw [HZ.out]] at hp5; obtain ⟨p5, c5, rfl⟩ := hp5.slice; have H3 := hid (H2.out.more g5); clear hp5 g5))
          go_roundw
          case rel => exact ⟨d + 1, pv2, by go_num, by omega, by rw [HSt.out.1, HSt.out.2]; exact H3.out⟩
          case measure => simp [intOf]; omega
        · obtain rfl : d = 8 := by omega
          have hge : (8 : Int) ≤ ((8 : Nat) : Int) := by omega
          have HGo := hid (fun (i : Nat) hi => HAll.out.gone (i := i) hi)
          have HAd := hid (HAll.out.drops 8 (by omega)).1
          have HNd := hid ((dropsV_n M sp 8).trans HN.out)
          generalize (dropsV M sp 8).1 = Md at *
          generalize (dropsV M sp 8).2 = sd at *
          have HOk := hid (HAd.out.okF few0)
          go_wp2
          obtain ⟨wq, hwq⟩ : ∃ x, x = wr := ⟨_, rfl⟩
          subst hwq
          go_loopw [10] (fun i wr => ∃ k : Nat, i = .int .i64 k ∧ k ≤ 10 ∧ Bo w wr X B Y b Md M sd sp pv L A) (fun i _ => 10 - (intOf i).toNat)
          case atStart => exact ⟨0, rfl, by omega, HBo.out⟩
          case round =>
            clear HBo
            obtain ⟨k, rfl, hk, hbo⟩ := hrel
            have HBo := hid hbo
            clear hbo
            have hk0 : (0 : Int) ≤ k := by omega
            by_cases hk10 : k < 10
            · have hk10' : (k : Int) < 10 := by omega
              have hkn : (k : Int) < Md.n := by rw [HNd.out]; exact hk10'
              obtain ⟨e1, e2, e3⟩ := HGo.out k hkn
              have HF := hid (fun (W : World) (h : PM W B Md) => Frame_out B k W Md _ h HOk.out hkn)
              rw [e1, e2, e3] at HF
              clear e1 e2 e3 hkn
              generalize (Md.fr k).owner = ow at HF
              go_wp2_with (first
                | (go_at_call 39; refine (xMachine X B _ HBo.out.p.c0).mono ?_; rintro e w7 ⟨rfl, rfl⟩)
                | (go_at_call 50; refine (HF.out _ HBo.out.p.m).mono ?_; rintro e w3 ⟨rfl, g3⟩; have H3 := hid ((HBo.out.more g3).more (World.grownBy_alloc w3 (.cells #[.int .i64 ow, .int .i64 0, .int .i64 0, .int .i64 0] 93) none)); clear g3))
              go_roundw
              case rel =>
                repeat apply Exists.intro
                exact ⟨⟨k + 1, by go_num, by omega, H3.out⟩, rfl⟩
              case measure => simp [intOf]; omega
            · obtain rfl : k = 10 := by omega
              have hge : (10 : Int) ≤ ((10 : Nat) : Int) := by omega
              go_wp2
              go_ret
              exact ⟨rfl, HBo.out.g⟩
theorem main {H : Type} {enc : TypeId × Value → H} (v0 v1 : Value) (W : World) (c0 : Flat.Came enc Try.prog W 0 (fun _ => true) true 70 v0) (c1 : Flat.Came enc Try.prog W 0 (fun _ => true) true 71 v1) :
    Calls Try.prog 14 #[v0, v1] W fun e w' => e = .returned (.bool true) ∧ W.grownBy w' none := by
  obtain ⟨pa, ps, cap, rfl, hps, hp⟩ := open_mputs c0
  obtain ⟨po, os, co, rfl, hos, ho⟩ := open_mops c1
  exact walk pa cap ps po co os W hp hps ho hos
theorem own : ownKnob Try.prog.godebug = none := by kernel_rfl
theorem laidOut : laidOutB Try.prog = true := by kernel_rfl

set_option maxRecDepth 100000 in
theorem lifted (os : Os) (started : os.Started) (H : Type) (enc : TypeId × Value → H) :
    ReturnsInHanded {} Try.checked os 14 .any (Rows.mmuDropsSpec.pre6 enc Try.prog Try.f14 Rows.mmuDropsRow.domain false) (Rows.mmuDropsSpec.post enc Try.prog Try.f14 false true false false) := by
  refine returnsInHanded_of_change_sized (C := Try.checked) own started (by kernel_rfl) Try.func14
    (ChangeSpec.witness6 (enc := enc) (C := Try.checked) false ⟨#[], #[.slice none 0 0, .slice none 0 0], []⟩ 8 (by kernel_rfl) (by kernel_rfl) (by kernel_rfl) (by kernel_rfl)) ?_
  intro W base args ds gs before hval0 hW _ hsz0 _
  have hsz : (DataW.weightsEach Try.prog (Try.f14.params.toList ++ Rows.mmuDropsSpec.plain.varTypes Try.prog) (ds ++ gs)).all (· ≤ reachBytes) = true := hsz0
  clear hsz0
  have hval : ∀ (j : Nat) t v, Try.f14.params[j]? = some t → args[j]? = some v → Value.okWide Try.prog W .any base t v := hval0
  have hW' := hW
  obtain ⟨p, q, hA0, hV, rfl, hfz, hnd⟩ := hW
  have hA : DataW.TrodAll enc Try.prog W 0 (fun _ => true) true Try.f14.params.toList args.toList ds p := hA0
  rw [Try.params14] at hA hval hsz
  obtain ⟨v0, vs0, d0, ds0, p0, q0, hargs, rfl, rfl, h0, r0⟩ := trodAll_cons hA
  obtain ⟨v1, vs1, d1, ds1, p1, q1, rfl, rfl, rfl, h1, r1⟩ := trodAll_cons r0
  obtain ⟨rfl, rfl, rfl⟩ := trodAll_nil r1
  obtain rfl : args = #[v0, v1] := by cases args; simp_all
  obtain ⟨rfl, rfl⟩ := trodVars_none hV
  obtain ⟨ps0, ln0, cp0, rfl⟩ := okWide_slice Try.underlying70 (hval 0 70 v0 rfl rfl)
  have k0 := h0
  have lt0 : ∀ x ∈ p0, x.block < W.heap.size := by obtain ⟨m, hm⟩ := k0; exact DataW.trod_lt m _ _ _ hm
  have c0 : Flat.Came enc Try.prog W 0 (fun _ => true) true 70 (.slice ps0 ln0 cp0) := by
    obtain ⟨fuel, hf⟩ := h0
    exact ⟨fuel, _, hf, fun n hn => by
      have := List.all_eq_true.1 hsz n (DataW.weights_mem_each (j := 0) rfl rfl n hn)
      simpa using this⟩
  obtain ⟨ps1, ln1, cp1, rfl⟩ := okWide_slice Try.underlying71 (hval 1 71 v1 rfl rfl)
  have k1 := h1
  have lt1 : ∀ x ∈ p1, x.block < W.heap.size := by obtain ⟨m, hm⟩ := k1; exact DataW.trod_lt m _ _ _ hm
  have c1 : Flat.Came enc Try.prog W 0 (fun _ => true) true 71 (.slice ps1 ln1 cp1) := by
    obtain ⟨fuel, hf⟩ := h1
    exact ⟨fuel, _, hf, fun n hn => by
      have := List.all_eq_true.1 hsz n (DataW.weights_mem_each (j := 1) rfl rfl n hn)
      simpa using this⟩
  clear hA0 hval0
  refine (main (.slice ps0 ln0 cp0) (.slice ps1 ln1 cp1) W c0 c1).mono fun e W' ⟨he, hg⟩ => ?_
  subst he
  have bel := below_grown' hg
  simp only [List.append_nil, List.nil_append] at hW'
  exact ⟨_, rfl, _, _, _, [], _, [], hW', trodAll_mk1 (shut_bool Try.underlying4 _), (trodAll_cons_mk (Below.trod laidOut (by kernel_rfl) (of_decide_eq_true (by kernel_rfl)) k0 bel lt0) (trodAll_cons_mk (Below.trod laidOut (by kernel_rfl) (of_decide_eq_true (by kernel_rfl)) k1 bel lt1) trodAll_mk0)), rfl, bel.frame _, fun h => by cases h⟩

theorem proved : Rows.MmuDropsSaid :=
  OpenClaim.holds_of_wide 14 Try.f14 rfl rfl rfl rfl rfl rfl rfl ⟨rfl, rfl, rfl, rfl, rfl⟩ rfl rfl rfl rfl rfl (by kernel_rfl) Try.func14 (by kernel_rfl)
    (of_decide_eq_true (by kernel_rfl)) (by unfold Func.isWrapper; first | (rw [if_pos (by decide +kernel)]; kernel_rfl) | (rw [if_neg (by decide +kernel)]; exact ⟨rfl, rfl⟩))
    (fun os started H enc _ => lifted os started H enc)
#print axioms proved
end Go.Proofs.Ytillbfmabkkniaa.lawMmuDrops
