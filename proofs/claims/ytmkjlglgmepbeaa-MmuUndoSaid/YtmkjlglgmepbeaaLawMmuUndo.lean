/-
  MmuUndo: for every row of entries, every script and every call the law returns true, and what was there stays. No condition.
-/
import Derived.Test.YtmkjlglgmepbeaaK31
import Derived.ProofKit
import Derived.OpenShut
import Derived.Deep.RegionWith
set_option linter.unusedSimpArgs false
set_option linter.unusedVariables false
namespace Go.Proofs.Ytmkjlglgmepbeaa.lawMmuUndo
open Go.ChangeShapes Go.WideShapes Go.ChangeAt Go.RowKit Go.Deep
set_option maxHeartbeats 2000000

/-- the program's side, and an old machine beside it -/
structure Old (w W : World) (X B G : Nat) (M N : Mach) (sp : Nat → Sp) (pv : Nat → Value) : Prop where
  p : PS W B X M sp pv
  o : PM W G N
  ap : ¬ xfoot B X pv G
  far : ∀ i, xfoot B X pv i → w.heap.size ≤ i
  farG : w.heap.size ≤ G
  g : w.grownBy W none
theorem Old.more {w W W' : World} {X B G : Nat} {M N : Mach} {sp : Nat → Sp} {pv : Nat → Value} (h : Old w W X B G M N sp pv) (hg : W.grownBy W' none) : Old w W' X B G M N sp pv := ⟨h.p.grown hg, h.o.grown hg (by simp), h.ap, h.far, h.farG, h.g.trans hg⟩
theorem Old.step {w W W' : World} {X B G : Nat} {M N M1 : Mach} {sp sp1 : Nat → Sp} {pv : Nat → Value} (h : Old w W X B G M N sp pv) (hx : XL W W' B X pv M1 sp1) : ∃ pv', Old w W' X B G M1 N sp1 pv' := by
  obtain ⟨pv', hp, hc, hf⟩ := hx
  refine ⟨pv', hp, h.o.chg hc h.ap, fun e => ?_, fun i hi => ?_, h.farG, hc.grown h.g h.far⟩
  · rcases hf G e with e | e
    · exact h.ap e
    · have := h.o.lt; omega
  · rcases hf i hi with e | e
    · exact h.far i e
    · exact Nat.le_trans h.g.size e
theorem xRootA (X B : Nat) (d : Int) (w : World) (M : Mach) (sp : Nat → Sp) (pv : Nat → Value) (h : PS w B X M sp pv) : Calls Try.prog 51 #[.pointer (some ⟨X, 0, none⟩), .int .i64 d] w fun e w' => e = .returned (.int .i64 (if domOk d = true then (sp d.toNat).root else -1)) ∧ w = w' := by
  cases hd : domOk d with
  | false => rw [if_neg (by simp)]; exact xRoot_no X B d w M sp pv hd h
  | true =>
    rw [if_pos rfl]
    obtain ⟨k, rfl, hk⟩ := domOk_nat hd
    exact xRoot_yes X B k w M sp pv hk h
theorem Old.stepM {w W W' : World} {X B G : Nat} {M N M1 : Mach} {sp : Nat → Sp} {pv : Nat → Value} (h : Old w W X B G M N sp pv) (hx : XM W W' B X M1) : Old w W' X B G M1 N sp pv := by
  have hc : Chg (fun k => k = B) W W' := Chg.of hx.g fun j e => .inl (Option.some.inj e).symm
  exact ⟨h.p.core hx, h.o.chg hc (fun e => h.ap (.inl e)), h.ap, h.far, h.farG, hc.grown h.g fun i e => h.far i (.inl e)⟩
set_option maxRecDepth 100000 in
set_option maxHeartbeats 8000000 in
theorem walk (pa : Option Addr) (cap : Nat) (ps : List PutV) (po : Option Addr) (co : Nat) (os : List MOpR) (x d a c : Int) (pb : Option Addr) (cb : Nat) (l : List Upd) (w : World) (hp : PutsIn w pa ps) (hps : ps.length ≤ 9223372036854775807) (ho : MOpsIn w po os) (hos : os.length ≤ 140737488355328)
    (hl : okU l) (hlen : l.length * 24 ≤ 140737488355328) (hsrc : UpdsSrc w pb l) (hcap : l.length ≤ cb) :
    Calls Try.prog 11 #[.slice pa ps.length cap, .slice po os.length co, .agg #[.int .i64 x, .int .i64 d, .int .i64 a, .int .i64 c, .slice pb l.length cb]] w fun e w' => e = .returned (.bool true) ∧ w.grownBy w' none := by
  obtain ⟨w0, hW, hg, hs, b0, b1, b2, b3, b4⟩ := box5m w (.int .i64 x) (.int .i64 d) (.int .i64 a) (.int .i64 c) (.slice pb l.length cb)
  have HB0 := hid b0; have HB1 := hid b1; have HB2 := hid b2; have HB3 := hid b3; have HB4 := hid b4; have HG := hid hg
  have hp0 : PutsIn w0 pa ps := fun j hj => by
    obtain ⟨sb, off, e, hlt, c0, c1, c2, hv⟩ := hp j hj
    exact ⟨sb, off, e, Nat.lt_of_lt_of_le hlt hg.size, hg.cell c0 (by simp), hg.cell c1 (by simp), hg.cell c2 (by simp), hv⟩
  have HB := hid (mBegin pa cap ps w0 hp0 hps)
  have HO := hid ho; have HOs := hid hos; have HL := hid hl; have HLen := hid hlen; have HSrc := hid (hsrc.grown hg); have HCap := hid hcap
  have HAl := hid (All.begin ps)
  clear hp hp0 ho hos hps hl hlen hsrc hcap b0 b1 b2 b3 b4 hg hs
  go_enter Try.func11, Try.ntmps11
  go_wp2_with (go_at_call 36; refine HB.out.mono ?_; rintro e w1 ⟨X, Y, B, b, pv, L, A, rfl, h1⟩; have H1 := hid h1; clear h1)
  obtain ⟨s0, hs0⟩ : ∃ s : Mach × (Nat → Sp), s = (mC ps ps.length, sp0) := ⟨_, rfl⟩
  have HR := hid (show Run w0 w1 X B Y b s0 0 pv L A E0 by subst hs0; exact ⟨H1.out, HAl.out, few0⟩)
  have HN := hid (show s0.1.n = 10 by subst hs0; exact mC_n _ _)
  clear H1 HAl hs0 HB
  go_loopw [10] (fun i wr => ∃ (j : Nat) (pv : Nat → Value) (L : Lay) (A : YL) (E : Cnt), i = .int .i64 j ∧ j ≤ os.length ∧ Run w0 wr X B Y b (runM os s0 j) j pv L A E) (fun i _ => os.length - (intOf i).toNat)
  case atStart => exact ⟨0, _, _, _, _, rfl, by omega, HR.out⟩
  case round =>
    clear HR
    obtain ⟨j, pv, L, A, E, rfl, hj, hr⟩ := hrel
    have HR := hid hr
    clear hr
    have hj0 : (0 : Int) ≤ j := by omega
    by_cases hjl : j < os.length
    · have hjl' : (j : Int) < os.length := by omega
      obtain ⟨b', off, rfl, hb', d0, d1, d2, d3, d4⟩ := (HO.out j hjl).at'
      have HRok := hid (HO.out j hjl).ok; have HRlen := hid (HO.out j hjl).len; have HRsrc := hid ((HO.out j hjl).src.grown HG.out)
      have HSt := hid (runM_succ os s0 j hjl)
      have gw := HG.out.trans HR.out.bo.g
      have k0 := gw.cell d0 (by simp); have k1 := gw.cell d1 (by simp); have k2 := gw.cell d2 (by simp); have k3 := gw.cell d3 (by simp); have k4 := gw.cell d4 (by simp)
      have hj2 := HOs.out
      have HJ := hid (show j ≤ 140737488355328 by omega)
      clear d0 d1 d2 d3 d4 gw
      generalize os[j] = r at *
      go_wp2_with (go_at_call 37; refine (HR.out.play HJ.out r HRok.out HRlen.out HRsrc.out).mono ?_; rintro e w2 ⟨rfl, pv2, L2, A2, E2, h2, _⟩; have H2 := hid h2; clear h2)
      go_roundw
      case rel => exact ⟨j + 1, pv2, L2, A2, E2, by go_num, by omega, by rw [HSt.out]; exact H2.out⟩
      case measure => simp [intOf]; omega
    · obtain rfl : j = os.length := by omega
      have hge : (os.length : Int) ≤ os.length := by omega
      have HNs := hid ((runM_n os s0 os.length).trans HN.out)
      have hk0 := HOs.out
      generalize runM os s0 os.length = s at *
      obtain ⟨M, sp⟩ := s
      have HAp := hid HR.out.all
      have HOk := hid (fun A' sp' (h : All A' sp' E) => h.okF HR.out.few)
      have HBo := hid HR.out.bo
      simp only at HAp HNs HBo
      have HX := hid HBo.out.p.c0
      clear HR HO HN
      have x0 := HBo.out.g.cell HB0.out (by simp); have x1 := HBo.out.g.cell HB1.out (by simp); have x2 := HBo.out.g.cell HB2.out (by simp); have x3 := HBo.out.g.cell HB3.out (by simp); have x4 := HBo.out.g.cell HB4.out (by simp)
      have HX0 := hid x0; have HX1 := hid x1; have HX2 := hid x2; have HX3 := hid x3; have HX4 := hid x4
      clear x0 x1 x2 x3 x4
      by_cases m0 : x.tmod 3 = 0
      · have q0 : (x.tmod 3 == 0) = true := by simp [m0]
        go_wp2_with (first
          | (go_at_call 39; refine (xMachine X B _ HX.out).mono ?_; rintro e w7 ⟨rfl, rfl⟩)
          | (go_at_call 18; refine (Copy_yes B _ M HBo.out.p.m (HOk.out _ _ HAp.out).n1).mono ?_; rintro e w3 ⟨v, rfl, G, rfl, hG, hM3, g3⟩; have HOl := hid (show Old w0 w3 X B G M M sp pv from ⟨HBo.out.p.grown g3, hM3, fun e => by have := HBo.out.p.lt e; omega, HBo.out.farp, by have := HBo.out.g.size; omega, HBo.out.g.trans g3⟩); have y0 := g3.cell HX0.out (by simp); have y1 := g3.cell HX1.out (by simp); have y2 := g3.cell HX2.out (by simp); have y3 := g3.cell HX3.out (by simp); have y4 := g3.cell HX4.out (by simp); clear hM3 g3))
        have HMok := hid (HOk.out _ _ HAp.out)
        have hnb : ¬ xfoot B X pv w.heap.size := fun e => by have := HOl.out.far _ e; have := World.block_lt_of_cell? _ _ HB0.out; simp only at this; omega
        have HNb := hid hnb
        clear hnb
        have HPin := hid (fun (W : World) (h : PS W B X M sp pv) => xPin X B d a c W M _ _ sp pv h HAp.out.inv HMok.out (by omega) (fun d hd => by have := HAp.out.len hd; omega))
        have HUn := hid (fun he => pin_undone HAp.out (o := d) (i := a) (lv := c) he)
        have HNo := hid (fun he => pinV_no (M := M) (sp := sp) (o := d) (i := a) (lv := c) he)
        have HA4 := hid (HAp.out.pin d a c)
        have HM4 := hid (HOk.out _ _ (HAp.out.pin d a c))
        obtain ⟨⟨e4, M4, s4⟩, hr4⟩ : ∃ r, pinV M sp d a c = r := ⟨_, rfl⟩
        rw [hr4] at HPin HUn HNo HA4 HM4
        simp only at HPin HUn HNo HA4 HM4
        clear hr4
        by_cases he4 : e4 = 0
        · subst he4
          have hun := HUn.out rfl
          have HUp := hid (fun (W : World) (pv4 : Nat → Value) (h : PS W B X M4 s4 pv4) => xUnpinA X B d a W M4 _ s4 E pv4 h HA4.out HM4.out (by omega))
          rw [hun] at HUp
          simp only at HUp
          clear hun HUn HNo
          go_wp2_with (first
            | (go_at_call 41; refine (HPin.out _ HOl.out.p).mono ?_; rintro e w4 ⟨rfl, h4⟩; obtain ⟨pv4, h4'⟩ := HOl.out.step h4; have H4 := hid h4'; obtain ⟨_, _, c4, _⟩ := h4; have u1 := c4.cell y1 HNb.out; have u2 := c4.cell y2 HNb.out; clear h4' c4)
            | (go_at_call 42; refine (HUp.out _ _ H4.out.p).mono ?_; rintro e w5 ⟨rfl, h5⟩; obtain ⟨pvq, h5'⟩ := H4.out.step h5; have H5 := hid h5'; clear h5 h5')
            | (go_at_call 39; refine (xMachine X B _ H5.out.p.c0).mono ?_; rintro e w7 ⟨rfl, rfl⟩))
          have HEnd := hid H5.out
          obtain ⟨wq, hwq⟩ : ∃ x, x = wr := ⟨_, rfl⟩
          subst hwq
          go_loopw [16] (fun i wr => ∃ (k : Nat), i = .int .i64 k ∧ k ≤ 10 ∧ Old w0 wr X B G M M sp pvq) (fun i _ => 10 - (intOf i).toNat)
          case atStart => exact ⟨0, rfl, by omega, HEnd.out⟩
          case round =>
            clear HEnd
            obtain ⟨k, rfl, hk, hpr⟩ := hrel
            have HP := hid hpr
            clear hpr
            have hk0 : (0 : Int) ≤ k := by omega
            have HSz := hid (fun (W : World) (G : Nat) (h : PM W G M) => (HNs.out ▸ Size_yes G M.n W (by rw [HNs.out]; omega) h.size : Calls Try.prog 40 #[.pointer (some ⟨G, 0, none⟩)] W fun e w' => e = .returned (.int .i64 10) ∧ W = w'))
            by_cases hk10 : k < 10
            · have hk10' : (k : Int) < 10 := by omega
              have hkn : (k : Int) < M.n := by rw [HNs.out]; exact hk10'
              have HF := hid (fun (W : World) (G : Nat) (h : PM W G M) => Frame_out G k W M _ h HMok.out hkn)
              have HRd := hid (fun (W : World) (G : Nat) (h : PM W G M) => (show Calls Try.prog 52 #[.pointer (some ⟨G, 0, none⟩), .int .i64 k, .int .i64 0, .int .i64 256] W _ from Read_yes G k 0 256 W M _ h HMok.out hkn (by omega)))
              clear hkn
              go_wp2_with (first
                | (go_at_call 40; (with_reducible refine (HSz.out _ B HP.out.p.m).mono ?_); rintro e w7 ⟨rfl, rfl⟩)
                | (go_at_call 50; (with_reducible refine (HF.out _ B HP.out.p.m).mono ?_); rintro e w13 ⟨rfl, g3⟩; have HP3 := hid ((HP.out.more g3).more (World.grownBy_alloc w13 (.cells #[.int .i64 (M.fr k).owner, .int .i64 (M.fr k).ty, .int .i64 (M.fr k).cnt, .int .i64 (M.fr k).tot] 93) none)); clear g3)
                | (go_at_call 50; (with_reducible refine (HF.out _ G HP3.out.o).mono ?_); rintro e w14 ⟨rfl, g4⟩; have HG4 := hid g4; have HP4 := hid ((HP3.out.more g4).more (World.grownBy_alloc w14 (.cells #[.int .i64 (M.fr k).owner, .int .i64 (M.fr k).ty, .int .i64 (M.fr k).cnt, .int .i64 (M.fr k).tot] 93) none)); clear g4)
                | (go_at_call 52; (with_reducible refine (HRd.out _ B HP4.out.p.m).mono ?_); rintro e w15 ⟨v5, rfl, hnew⟩; obtain ⟨p5, rfl, hp5, hc5, g5⟩ := newBytes_pos hnew (by rw [part_len]; omega); have HG5 := hid g5; have HP5 := hid (HP4.out.more g5); rw [part_len] at hc5 ⊢; have HC5 := hid hc5; clear hnew hc5 hp5 g5)
                | (go_at_call 52; (with_reducible refine (HRd.out _ G HP5.out.o).mono ?_); rintro e w16 ⟨v6, rfl, hnew⟩; obtain ⟨p6, rfl, hp6, hc6, g6⟩ := newBytes_pos hnew (by rw [part_len]; omega); have HP6 := hid (HP5.out.more g6); rw [part_len] at hc6 ⊢; have kc2 := vconv_row w16 p6 0 256 256 _ (part_len (M.fr k) 0 256) (fun q hq => by rw [Nat.zero_add]; exact hc6 q hq); have kc1 := vconv_row w16 p5 0 256 256 _ (part_len (M.fr k) 0 256) (fun q hq => by rw [Nat.zero_add]; exact g6.cell (HC5.out q hq) (by simp)); have z0 := g6.cell (HG5.out.cell ((World.grownBy_alloc w14 (.cells #[.int .i64 (M.fr k).owner, .int .i64 (M.fr k).ty, .int .i64 (M.fr k).cnt, .int .i64 (M.fr k).tot] 93) none).cell (HG4.out.cell (a := ⟨w13.heap.size, 0, none⟩) (v := .int .i64 (M.fr k).owner) (by simp [go_sem]) (by simp)) (by simp)) (by simp)) (by simp); have z1 := g6.cell (HG5.out.cell ((World.grownBy_alloc w14 (.cells #[.int .i64 (M.fr k).owner, .int .i64 (M.fr k).ty, .int .i64 (M.fr k).cnt, .int .i64 (M.fr k).tot] 93) none).cell (HG4.out.cell (a := ⟨w13.heap.size, 1, none⟩) (v := .int .i64 (M.fr k).ty) (by simp [go_sem]) (by simp)) (by simp)) (by simp)) (by simp); have z2 := g6.cell (HG5.out.cell ((World.grownBy_alloc w14 (.cells #[.int .i64 (M.fr k).owner, .int .i64 (M.fr k).ty, .int .i64 (M.fr k).cnt, .int .i64 (M.fr k).tot] 93) none).cell (HG4.out.cell (a := ⟨w13.heap.size, 2, none⟩) (v := .int .i64 (M.fr k).cnt) (by simp [go_sem]) (by simp)) (by simp)) (by simp)) (by simp); have z3 := g6.cell (HG5.out.cell ((World.grownBy_alloc w14 (.cells #[.int .i64 (M.fr k).owner, .int .i64 (M.fr k).ty, .int .i64 (M.fr k).cnt, .int .i64 (M.fr k).tot] 93) none).cell (HG4.out.cell (a := ⟨w13.heap.size, 3, none⟩) (v := .int .i64 (M.fr k).tot) (by simp [go_sem]) (by simp)) (by simp)) (by simp)) (by simp); have y0 := g6.cell (HG5.out.cell (a := ⟨w14.heap.size, 0, none⟩) (v := .int .i64 (M.fr k).owner) (by simp [go_sem]) (by simp)) (by simp); have y1 := g6.cell (HG5.out.cell (a := ⟨w14.heap.size, 1, none⟩) (v := .int .i64 (M.fr k).ty) (by simp [go_sem]) (by simp)) (by simp); have y2 := g6.cell (HG5.out.cell (a := ⟨w14.heap.size, 2, none⟩) (v := .int .i64 (M.fr k).cnt) (by simp [go_sem]) (by simp)) (by simp); have y3 := g6.cell (HG5.out.cell (a := ⟨w14.heap.size, 3, none⟩) (v := .int .i64 (M.fr k).tot) (by simp [go_sem]) (by simp)) (by simp); clear hnew hc6 hp6 g6))
              go_roundw
              case rel =>
                first
                  | exact ⟨k + 1, by go_num, by omega, HP6.out⟩
                  | (repeat apply Exists.intro
                     exact ⟨⟨k + 1, by go_num, by omega, HP6.out⟩, rfl⟩)
              case measure => simp [intOf]; omega
            · obtain rfl : k = 10 := by omega
              have hge : (10 : Int) ≤ ((10 : Nat) : Int) := by omega
              go_wp2_with (first
                | (go_at_call 40; (with_reducible refine (HSz.out _ B HP.out.p.m).mono ?_); rintro e w7 ⟨rfl, rfl⟩)
                | (go_at_call 40; (with_reducible refine (HSz.out _ G HP.out.o).mono ?_); rintro e w7 ⟨rfl, rfl⟩))
              go_ret
              exact ⟨rfl, HG.out.trans HP.out.g⟩
        · have heb : (e4 == 0) = false := by simp [he4]
          rw [HNo.out he4] at HPin
          clear HUn HNo he4 HA4 HM4
          go_wp2_with (first
            | (go_at_call 41; refine (HPin.out _ HOl.out.p).mono ?_; rintro e w4 ⟨rfl, h4⟩; obtain ⟨pv4, h4'⟩ := HOl.out.step h4; have H4 := hid h4'; clear h4 h4')
            | (go_at_call 39; refine (xMachine X B _ H4.out.p.c0).mono ?_; rintro e w7 ⟨rfl, rfl⟩))
          have HEnd := hid H4.out
          obtain ⟨wq, hwq⟩ : ∃ x, x = wr := ⟨_, rfl⟩
          subst hwq
          go_loopw [16] (fun i wr => ∃ (k : Nat), i = .int .i64 k ∧ k ≤ 10 ∧ Old w0 wr X B G M M s4 pv4) (fun i _ => 10 - (intOf i).toNat)
          case atStart => exact ⟨0, rfl, by omega, HEnd.out⟩
          case round =>
            clear HEnd
            obtain ⟨k, rfl, hk, hpr⟩ := hrel
            have HP := hid hpr
            clear hpr
            have hk0 : (0 : Int) ≤ k := by omega
            have HSz := hid (fun (W : World) (G : Nat) (h : PM W G M) => (HNs.out ▸ Size_yes G M.n W (by rw [HNs.out]; omega) h.size : Calls Try.prog 40 #[.pointer (some ⟨G, 0, none⟩)] W fun e w' => e = .returned (.int .i64 10) ∧ W = w'))
            by_cases hk10 : k < 10
            · have hk10' : (k : Int) < 10 := by omega
              have hkn : (k : Int) < M.n := by rw [HNs.out]; exact hk10'
              have HF := hid (fun (W : World) (G : Nat) (h : PM W G M) => Frame_out G k W M _ h HMok.out hkn)
              have HRd := hid (fun (W : World) (G : Nat) (h : PM W G M) => (show Calls Try.prog 52 #[.pointer (some ⟨G, 0, none⟩), .int .i64 k, .int .i64 0, .int .i64 256] W _ from Read_yes G k 0 256 W M _ h HMok.out hkn (by omega)))
              clear hkn
              go_wp2_with (first
                | (go_at_call 40; (with_reducible refine (HSz.out _ B HP.out.p.m).mono ?_); rintro e w7 ⟨rfl, rfl⟩)
                | (go_at_call 50; (with_reducible refine (HF.out _ B HP.out.p.m).mono ?_); rintro e w13 ⟨rfl, g3⟩; have HP3 := hid ((HP.out.more g3).more (World.grownBy_alloc w13 (.cells #[.int .i64 (M.fr k).owner, .int .i64 (M.fr k).ty, .int .i64 (M.fr k).cnt, .int .i64 (M.fr k).tot] 93) none)); clear g3)
                | (go_at_call 50; (with_reducible refine (HF.out _ G HP3.out.o).mono ?_); rintro e w14 ⟨rfl, g4⟩; have HG4 := hid g4; have HP4 := hid ((HP3.out.more g4).more (World.grownBy_alloc w14 (.cells #[.int .i64 (M.fr k).owner, .int .i64 (M.fr k).ty, .int .i64 (M.fr k).cnt, .int .i64 (M.fr k).tot] 93) none)); clear g4)
                | (go_at_call 52; (with_reducible refine (HRd.out _ B HP4.out.p.m).mono ?_); rintro e w15 ⟨v5, rfl, hnew⟩; obtain ⟨p5, rfl, hp5, hc5, g5⟩ := newBytes_pos hnew (by rw [part_len]; omega); have HG5 := hid g5; have HP5 := hid (HP4.out.more g5); rw [part_len] at hc5 ⊢; have HC5 := hid hc5; clear hnew hc5 hp5 g5)
                | (go_at_call 52; (with_reducible refine (HRd.out _ G HP5.out.o).mono ?_); rintro e w16 ⟨v6, rfl, hnew⟩; obtain ⟨p6, rfl, hp6, hc6, g6⟩ := newBytes_pos hnew (by rw [part_len]; omega); have HP6 := hid (HP5.out.more g6); rw [part_len] at hc6 ⊢; have kc2 := vconv_row w16 p6 0 256 256 _ (part_len (M.fr k) 0 256) (fun q hq => by rw [Nat.zero_add]; exact hc6 q hq); have kc1 := vconv_row w16 p5 0 256 256 _ (part_len (M.fr k) 0 256) (fun q hq => by rw [Nat.zero_add]; exact g6.cell (HC5.out q hq) (by simp)); have z0 := g6.cell (HG5.out.cell ((World.grownBy_alloc w14 (.cells #[.int .i64 (M.fr k).owner, .int .i64 (M.fr k).ty, .int .i64 (M.fr k).cnt, .int .i64 (M.fr k).tot] 93) none).cell (HG4.out.cell (a := ⟨w13.heap.size, 0, none⟩) (v := .int .i64 (M.fr k).owner) (by simp [go_sem]) (by simp)) (by simp)) (by simp)) (by simp); have z1 := g6.cell (HG5.out.cell ((World.grownBy_alloc w14 (.cells #[.int .i64 (M.fr k).owner, .int .i64 (M.fr k).ty, .int .i64 (M.fr k).cnt, .int .i64 (M.fr k).tot] 93) none).cell (HG4.out.cell (a := ⟨w13.heap.size, 1, none⟩) (v := .int .i64 (M.fr k).ty) (by simp [go_sem]) (by simp)) (by simp)) (by simp)) (by simp); have z2 := g6.cell (HG5.out.cell ((World.grownBy_alloc w14 (.cells #[.int .i64 (M.fr k).owner, .int .i64 (M.fr k).ty, .int .i64 (M.fr k).cnt, .int .i64 (M.fr k).tot] 93) none).cell (HG4.out.cell (a := ⟨w13.heap.size, 2, none⟩) (v := .int .i64 (M.fr k).cnt) (by simp [go_sem]) (by simp)) (by simp)) (by simp)) (by simp); have z3 := g6.cell (HG5.out.cell ((World.grownBy_alloc w14 (.cells #[.int .i64 (M.fr k).owner, .int .i64 (M.fr k).ty, .int .i64 (M.fr k).cnt, .int .i64 (M.fr k).tot] 93) none).cell (HG4.out.cell (a := ⟨w13.heap.size, 3, none⟩) (v := .int .i64 (M.fr k).tot) (by simp [go_sem]) (by simp)) (by simp)) (by simp)) (by simp); have y0 := g6.cell (HG5.out.cell (a := ⟨w14.heap.size, 0, none⟩) (v := .int .i64 (M.fr k).owner) (by simp [go_sem]) (by simp)) (by simp); have y1 := g6.cell (HG5.out.cell (a := ⟨w14.heap.size, 1, none⟩) (v := .int .i64 (M.fr k).ty) (by simp [go_sem]) (by simp)) (by simp); have y2 := g6.cell (HG5.out.cell (a := ⟨w14.heap.size, 2, none⟩) (v := .int .i64 (M.fr k).cnt) (by simp [go_sem]) (by simp)) (by simp); have y3 := g6.cell (HG5.out.cell (a := ⟨w14.heap.size, 3, none⟩) (v := .int .i64 (M.fr k).tot) (by simp [go_sem]) (by simp)) (by simp); clear hnew hc6 hp6 g6))
              go_roundw
              case rel =>
                first
                  | exact ⟨k + 1, by go_num, by omega, HP6.out⟩
                  | (repeat apply Exists.intro
                     exact ⟨⟨k + 1, by go_num, by omega, HP6.out⟩, rfl⟩)
              case measure => simp [intOf]; omega
            · obtain rfl : k = 10 := by omega
              have hge : (10 : Int) ≤ ((10 : Nat) : Int) := by omega
              go_wp2_with (first
                | (go_at_call 40; (with_reducible refine (HSz.out _ B HP.out.p.m).mono ?_); rintro e w7 ⟨rfl, rfl⟩)
                | (go_at_call 40; (with_reducible refine (HSz.out _ G HP.out.o).mono ?_); rintro e w7 ⟨rfl, rfl⟩))
              go_ret
              exact ⟨rfl, HG.out.trans HP.out.g⟩
      · have q0 : (x.tmod 3 == 0) = false := by simp [m0]
        have HMok := hid (HOk.out _ _ HAp.out)
        by_cases m1 : x.tmod 3 = 1
        · have q1 : (x.tmod 3 == 1) = true := by simp [m1]
          clear m0 m1
          obtain ⟨rv, hrv⟩ : ∃ r, (if domOk d = true then (sp d.toNat).root else -1) = r := ⟨_, rfl⟩
          have HRt := hid (fun (W : World) (h : PS W B X M sp pv) => hrv ▸ xRootA X B d W M sp pv h)
          by_cases hr1 : rv = -1
          · have hrb : (rv != -1) = false := by simp [hr1]
            have HRoot := hid (show domOk d = true → (sp d.toNat).root = -1 from fun e => by rw [if_pos e] at hrv; rw [hrv]; exact hr1)
            clear hr1 hrv
            have HBs := hid (fun (W : World) (h : PS W B X M sp pv) => xBaseA X B d a W M _ sp E pv h HAp.out HMok.out (by omega))
            have HUn := hid (fun he => base_undone HAp.out (o := d) (i := a) HRoot.out he)
            have HNo := hid (fun he => baseV_no (M := M) (sp := sp) (o := d) (i := a) he)
            have HA4 := hid (HAp.out.base d a)
            have HM4 := hid (HOk.out _ _ (HAp.out.base d a))
            obtain ⟨⟨e4, M4, s4⟩, hr4⟩ : ∃ r, baseV M sp d a = r := ⟨_, rfl⟩
            rw [hr4] at HBs HUn HNo HA4 HM4
            simp only at HBs HUn HNo HA4 HM4
            clear hr4
            by_cases he4 : e4 = 0
            · subst he4
              have hun := HUn.out rfl
              have HUp := hid (fun (W : World) (pv4 : Nat → Value) (h : PS W B X M4 s4 pv4) => xBaseA X B d (-1) W M4 _ s4 E pv4 h HA4.out HM4.out (by omega))
              rw [hun] at HUp
              simp only at HUp
              clear hun HUn HNo
              go_wp2_with (first
          | (go_at_call 39; (with_reducible refine (xMachine X B _ HX.out).mono ?_); rintro e w7 ⟨rfl, rfl⟩)
          | (go_at_call 18; refine (Copy_yes B _ M HBo.out.p.m (HOk.out _ _ HAp.out).n1).mono ?_; rintro e w3 ⟨v, rfl, G, rfl, hG, hM3, g3⟩; have HOl := hid (show Old w0 w3 X B G M M sp pv from ⟨HBo.out.p.grown g3, hM3, fun e => by have := HBo.out.p.lt e; omega, HBo.out.farp, by have := HBo.out.g.size; omega, HBo.out.g.trans g3⟩); have y0 := g3.cell HX0.out (by simp); have y1 := g3.cell HX1.out (by simp); have y2 := g3.cell HX2.out (by simp); have y3 := g3.cell HX3.out (by simp); have y4 := g3.cell HX4.out (by simp); clear hM3 g3)
                | (go_at_call 51; refine (HRt.out _ HOl.out.p).mono ?_; rintro e w8 ⟨rfl, rfl⟩)
                | (go_at_call 43; (with_reducible refine (HBs.out _ HOl.out.p).mono ?_); rintro e w4 ⟨rfl, h4⟩; obtain ⟨pv4, h4'⟩ := HOl.out.step h4; have H4 := hid h4'; have hnb : ¬ xfoot B X pv w.heap.size := (fun e => by have := HOl.out.far _ e; have := World.block_lt_of_cell? _ _ HB0.out; simp only at this; omega); obtain ⟨_, _, c4, _⟩ := h4; have u1 := c4.cell y1 hnb; have u2 := c4.cell y2 hnb; clear h4' c4 hnb)
                | (go_at_call 43; (with_reducible refine (HUp.out _ _ H4.out.p).mono ?_); rintro e w5 ⟨rfl, h5⟩; obtain ⟨pvq, h5'⟩ := H4.out.step h5; have H5 := hid h5'; clear h5 h5')
                | (go_at_call 39; (with_reducible refine (xMachine X B _ H5.out.p.c0).mono ?_); rintro e w7 ⟨rfl, rfl⟩))
              have HEnd := hid H5.out
              obtain ⟨wq, hwq⟩ : ∃ x, x = wr := ⟨_, rfl⟩
              subst hwq
              go_loopw [16] (fun i wr => ∃ (k : Nat), i = .int .i64 k ∧ k ≤ 10 ∧ Old w0 wr X B G M M sp pvq) (fun i _ => 10 - (intOf i).toNat)
              case atStart => exact ⟨0, rfl, by omega, HEnd.out⟩
              case round =>
                clear HEnd
                obtain ⟨k, rfl, hk, hpr⟩ := hrel
                have HP := hid hpr
                clear hpr
                have hk0 : (0 : Int) ≤ k := by omega
                have HSz := hid (fun (W : World) (G : Nat) (h : PM W G M) => (HNs.out ▸ Size_yes G M.n W (by rw [HNs.out]; omega) h.size : Calls Try.prog 40 #[.pointer (some ⟨G, 0, none⟩)] W fun e w' => e = .returned (.int .i64 10) ∧ W = w'))
                by_cases hk10 : k < 10
                · have hk10' : (k : Int) < 10 := by omega
                  have hkn : (k : Int) < M.n := by rw [HNs.out]; exact hk10'
                  have HF := hid (fun (W : World) (G : Nat) (h : PM W G M) => Frame_out G k W M _ h HMok.out hkn)
                  have HRd := hid (fun (W : World) (G : Nat) (h : PM W G M) => (show Calls Try.prog 52 #[.pointer (some ⟨G, 0, none⟩), .int .i64 k, .int .i64 0, .int .i64 256] W _ from Read_yes G k 0 256 W M _ h HMok.out hkn (by omega)))
                  clear hkn
                  go_wp2_with (first
                    | (go_at_call 40; (with_reducible refine (HSz.out _ B HP.out.p.m).mono ?_); rintro e w7 ⟨rfl, rfl⟩)
                    | (go_at_call 50; (with_reducible refine (HF.out _ B HP.out.p.m).mono ?_); rintro e w13 ⟨rfl, g3⟩; have HP3 := hid ((HP.out.more g3).more (World.grownBy_alloc w13 (.cells #[.int .i64 (M.fr k).owner, .int .i64 (M.fr k).ty, .int .i64 (M.fr k).cnt, .int .i64 (M.fr k).tot] 93) none)); clear g3)
                    | (go_at_call 50; (with_reducible refine (HF.out _ G HP3.out.o).mono ?_); rintro e w14 ⟨rfl, g4⟩; have HG4 := hid g4; have HP4 := hid ((HP3.out.more g4).more (World.grownBy_alloc w14 (.cells #[.int .i64 (M.fr k).owner, .int .i64 (M.fr k).ty, .int .i64 (M.fr k).cnt, .int .i64 (M.fr k).tot] 93) none)); clear g4)
                    | (go_at_call 52; (with_reducible refine (HRd.out _ B HP4.out.p.m).mono ?_); rintro e w15 ⟨v5, rfl, hnew⟩; obtain ⟨p5, rfl, hp5, hc5, g5⟩ := newBytes_pos hnew (by rw [part_len]; omega); have HG5 := hid g5; have HP5 := hid (HP4.out.more g5); rw [part_len] at hc5 ⊢; have HC5 := hid hc5; clear hnew hc5 hp5 g5)
                    | (go_at_call 52; (with_reducible refine (HRd.out _ G HP5.out.o).mono ?_); rintro e w16 ⟨v6, rfl, hnew⟩; obtain ⟨p6, rfl, hp6, hc6, g6⟩ := newBytes_pos hnew (by rw [part_len]; omega); have HP6 := hid (HP5.out.more g6); rw [part_len] at hc6 ⊢; have kc2 := vconv_row w16 p6 0 256 256 _ (part_len (M.fr k) 0 256) (fun q hq => by rw [Nat.zero_add]; exact hc6 q hq); have kc1 := vconv_row w16 p5 0 256 256 _ (part_len (M.fr k) 0 256) (fun q hq => by rw [Nat.zero_add]; exact g6.cell (HC5.out q hq) (by simp)); have z0 := g6.cell (HG5.out.cell ((World.grownBy_alloc w14 (.cells #[.int .i64 (M.fr k).owner, .int .i64 (M.fr k).ty, .int .i64 (M.fr k).cnt, .int .i64 (M.fr k).tot] 93) none).cell (HG4.out.cell (a := ⟨w13.heap.size, 0, none⟩) (v := .int .i64 (M.fr k).owner) (by simp [go_sem]) (by simp)) (by simp)) (by simp)) (by simp); have z1 := g6.cell (HG5.out.cell ((World.grownBy_alloc w14 (.cells #[.int .i64 (M.fr k).owner, .int .i64 (M.fr k).ty, .int .i64 (M.fr k).cnt, .int .i64 (M.fr k).tot] 93) none).cell (HG4.out.cell (a := ⟨w13.heap.size, 1, none⟩) (v := .int .i64 (M.fr k).ty) (by simp [go_sem]) (by simp)) (by simp)) (by simp)) (by simp); have z2 := g6.cell (HG5.out.cell ((World.grownBy_alloc w14 (.cells #[.int .i64 (M.fr k).owner, .int .i64 (M.fr k).ty, .int .i64 (M.fr k).cnt, .int .i64 (M.fr k).tot] 93) none).cell (HG4.out.cell (a := ⟨w13.heap.size, 2, none⟩) (v := .int .i64 (M.fr k).cnt) (by simp [go_sem]) (by simp)) (by simp)) (by simp)) (by simp); have z3 := g6.cell (HG5.out.cell ((World.grownBy_alloc w14 (.cells #[.int .i64 (M.fr k).owner, .int .i64 (M.fr k).ty, .int .i64 (M.fr k).cnt, .int .i64 (M.fr k).tot] 93) none).cell (HG4.out.cell (a := ⟨w13.heap.size, 3, none⟩) (v := .int .i64 (M.fr k).tot) (by simp [go_sem]) (by simp)) (by simp)) (by simp)) (by simp); have y0 := g6.cell (HG5.out.cell (a := ⟨w14.heap.size, 0, none⟩) (v := .int .i64 (M.fr k).owner) (by simp [go_sem]) (by simp)) (by simp); have y1 := g6.cell (HG5.out.cell (a := ⟨w14.heap.size, 1, none⟩) (v := .int .i64 (M.fr k).ty) (by simp [go_sem]) (by simp)) (by simp); have y2 := g6.cell (HG5.out.cell (a := ⟨w14.heap.size, 2, none⟩) (v := .int .i64 (M.fr k).cnt) (by simp [go_sem]) (by simp)) (by simp); have y3 := g6.cell (HG5.out.cell (a := ⟨w14.heap.size, 3, none⟩) (v := .int .i64 (M.fr k).tot) (by simp [go_sem]) (by simp)) (by simp); clear hnew hc6 hp6 g6))
                  go_roundw
                  case rel =>
                    first
                      | exact ⟨k + 1, by go_num, by omega, HP6.out⟩
                      | (repeat apply Exists.intro
                         exact ⟨⟨k + 1, by go_num, by omega, HP6.out⟩, rfl⟩)
                  case measure => simp [intOf]; omega
                · obtain rfl : k = 10 := by omega
                  have hge : (10 : Int) ≤ ((10 : Nat) : Int) := by omega
                  go_wp2_with (first
                    | (go_at_call 40; (with_reducible refine (HSz.out _ B HP.out.p.m).mono ?_); rintro e w7 ⟨rfl, rfl⟩)
                    | (go_at_call 40; (with_reducible refine (HSz.out _ G HP.out.o).mono ?_); rintro e w7 ⟨rfl, rfl⟩))
                  go_ret
                  exact ⟨rfl, HG.out.trans HP.out.g⟩
            · have heb : (e4 == 0) = false := by simp [he4]
              rw [HNo.out he4] at HBs
              clear HUn HNo he4 HA4 HM4
              go_wp2_with (first
          | (go_at_call 39; (with_reducible refine (xMachine X B _ HX.out).mono ?_); rintro e w7 ⟨rfl, rfl⟩)
          | (go_at_call 18; refine (Copy_yes B _ M HBo.out.p.m (HOk.out _ _ HAp.out).n1).mono ?_; rintro e w3 ⟨v, rfl, G, rfl, hG, hM3, g3⟩; have HOl := hid (show Old w0 w3 X B G M M sp pv from ⟨HBo.out.p.grown g3, hM3, fun e => by have := HBo.out.p.lt e; omega, HBo.out.farp, by have := HBo.out.g.size; omega, HBo.out.g.trans g3⟩); have y0 := g3.cell HX0.out (by simp); have y1 := g3.cell HX1.out (by simp); have y2 := g3.cell HX2.out (by simp); have y3 := g3.cell HX3.out (by simp); have y4 := g3.cell HX4.out (by simp); clear hM3 g3)
                | (go_at_call 51; refine (HRt.out _ HOl.out.p).mono ?_; rintro e w8 ⟨rfl, rfl⟩)
                | (go_at_call 43; (with_reducible refine (HBs.out _ HOl.out.p).mono ?_); rintro e w4 ⟨rfl, h4⟩; obtain ⟨pv4, h4'⟩ := HOl.out.step h4; have H4 := hid h4'; clear h4 h4')
                | (go_at_call 39; (with_reducible refine (xMachine X B _ H4.out.p.c0).mono ?_); rintro e w7 ⟨rfl, rfl⟩))
              have HEnd := hid H4.out
              obtain ⟨wq, hwq⟩ : ∃ x, x = wr := ⟨_, rfl⟩
              subst hwq
              go_loopw [16] (fun i wr => ∃ (k : Nat), i = .int .i64 k ∧ k ≤ 10 ∧ Old w0 wr X B G M M s4 pv4) (fun i _ => 10 - (intOf i).toNat)
              case atStart => exact ⟨0, rfl, by omega, HEnd.out⟩
              case round =>
                clear HEnd
                obtain ⟨k, rfl, hk, hpr⟩ := hrel
                have HP := hid hpr
                clear hpr
                have hk0 : (0 : Int) ≤ k := by omega
                have HSz := hid (fun (W : World) (G : Nat) (h : PM W G M) => (HNs.out ▸ Size_yes G M.n W (by rw [HNs.out]; omega) h.size : Calls Try.prog 40 #[.pointer (some ⟨G, 0, none⟩)] W fun e w' => e = .returned (.int .i64 10) ∧ W = w'))
                by_cases hk10 : k < 10
                · have hk10' : (k : Int) < 10 := by omega
                  have hkn : (k : Int) < M.n := by rw [HNs.out]; exact hk10'
                  have HF := hid (fun (W : World) (G : Nat) (h : PM W G M) => Frame_out G k W M _ h HMok.out hkn)
                  have HRd := hid (fun (W : World) (G : Nat) (h : PM W G M) => (show Calls Try.prog 52 #[.pointer (some ⟨G, 0, none⟩), .int .i64 k, .int .i64 0, .int .i64 256] W _ from Read_yes G k 0 256 W M _ h HMok.out hkn (by omega)))
                  clear hkn
                  go_wp2_with (first
                    | (go_at_call 40; (with_reducible refine (HSz.out _ B HP.out.p.m).mono ?_); rintro e w7 ⟨rfl, rfl⟩)
                    | (go_at_call 50; (with_reducible refine (HF.out _ B HP.out.p.m).mono ?_); rintro e w13 ⟨rfl, g3⟩; have HP3 := hid ((HP.out.more g3).more (World.grownBy_alloc w13 (.cells #[.int .i64 (M.fr k).owner, .int .i64 (M.fr k).ty, .int .i64 (M.fr k).cnt, .int .i64 (M.fr k).tot] 93) none)); clear g3)
                    | (go_at_call 50; (with_reducible refine (HF.out _ G HP3.out.o).mono ?_); rintro e w14 ⟨rfl, g4⟩; have HG4 := hid g4; have HP4 := hid ((HP3.out.more g4).more (World.grownBy_alloc w14 (.cells #[.int .i64 (M.fr k).owner, .int .i64 (M.fr k).ty, .int .i64 (M.fr k).cnt, .int .i64 (M.fr k).tot] 93) none)); clear g4)
                    | (go_at_call 52; (with_reducible refine (HRd.out _ B HP4.out.p.m).mono ?_); rintro e w15 ⟨v5, rfl, hnew⟩; obtain ⟨p5, rfl, hp5, hc5, g5⟩ := newBytes_pos hnew (by rw [part_len]; omega); have HG5 := hid g5; have HP5 := hid (HP4.out.more g5); rw [part_len] at hc5 ⊢; have HC5 := hid hc5; clear hnew hc5 hp5 g5)
                    | (go_at_call 52; (with_reducible refine (HRd.out _ G HP5.out.o).mono ?_); rintro e w16 ⟨v6, rfl, hnew⟩; obtain ⟨p6, rfl, hp6, hc6, g6⟩ := newBytes_pos hnew (by rw [part_len]; omega); have HP6 := hid (HP5.out.more g6); rw [part_len] at hc6 ⊢; have kc2 := vconv_row w16 p6 0 256 256 _ (part_len (M.fr k) 0 256) (fun q hq => by rw [Nat.zero_add]; exact hc6 q hq); have kc1 := vconv_row w16 p5 0 256 256 _ (part_len (M.fr k) 0 256) (fun q hq => by rw [Nat.zero_add]; exact g6.cell (HC5.out q hq) (by simp)); have z0 := g6.cell (HG5.out.cell ((World.grownBy_alloc w14 (.cells #[.int .i64 (M.fr k).owner, .int .i64 (M.fr k).ty, .int .i64 (M.fr k).cnt, .int .i64 (M.fr k).tot] 93) none).cell (HG4.out.cell (a := ⟨w13.heap.size, 0, none⟩) (v := .int .i64 (M.fr k).owner) (by simp [go_sem]) (by simp)) (by simp)) (by simp)) (by simp); have z1 := g6.cell (HG5.out.cell ((World.grownBy_alloc w14 (.cells #[.int .i64 (M.fr k).owner, .int .i64 (M.fr k).ty, .int .i64 (M.fr k).cnt, .int .i64 (M.fr k).tot] 93) none).cell (HG4.out.cell (a := ⟨w13.heap.size, 1, none⟩) (v := .int .i64 (M.fr k).ty) (by simp [go_sem]) (by simp)) (by simp)) (by simp)) (by simp); have z2 := g6.cell (HG5.out.cell ((World.grownBy_alloc w14 (.cells #[.int .i64 (M.fr k).owner, .int .i64 (M.fr k).ty, .int .i64 (M.fr k).cnt, .int .i64 (M.fr k).tot] 93) none).cell (HG4.out.cell (a := ⟨w13.heap.size, 2, none⟩) (v := .int .i64 (M.fr k).cnt) (by simp [go_sem]) (by simp)) (by simp)) (by simp)) (by simp); have z3 := g6.cell (HG5.out.cell ((World.grownBy_alloc w14 (.cells #[.int .i64 (M.fr k).owner, .int .i64 (M.fr k).ty, .int .i64 (M.fr k).cnt, .int .i64 (M.fr k).tot] 93) none).cell (HG4.out.cell (a := ⟨w13.heap.size, 3, none⟩) (v := .int .i64 (M.fr k).tot) (by simp [go_sem]) (by simp)) (by simp)) (by simp)) (by simp); have y0 := g6.cell (HG5.out.cell (a := ⟨w14.heap.size, 0, none⟩) (v := .int .i64 (M.fr k).owner) (by simp [go_sem]) (by simp)) (by simp); have y1 := g6.cell (HG5.out.cell (a := ⟨w14.heap.size, 1, none⟩) (v := .int .i64 (M.fr k).ty) (by simp [go_sem]) (by simp)) (by simp); have y2 := g6.cell (HG5.out.cell (a := ⟨w14.heap.size, 2, none⟩) (v := .int .i64 (M.fr k).cnt) (by simp [go_sem]) (by simp)) (by simp); have y3 := g6.cell (HG5.out.cell (a := ⟨w14.heap.size, 3, none⟩) (v := .int .i64 (M.fr k).tot) (by simp [go_sem]) (by simp)) (by simp); clear hnew hc6 hp6 g6))
                  go_roundw
                  case rel =>
                    first
                      | exact ⟨k + 1, by go_num, by omega, HP6.out⟩
                      | (repeat apply Exists.intro
                         exact ⟨⟨k + 1, by go_num, by omega, HP6.out⟩, rfl⟩)
                  case measure => simp [intOf]; omega
                · obtain rfl : k = 10 := by omega
                  have hge : (10 : Int) ≤ ((10 : Nat) : Int) := by omega
                  go_wp2_with (first
                    | (go_at_call 40; (with_reducible refine (HSz.out _ B HP.out.p.m).mono ?_); rintro e w7 ⟨rfl, rfl⟩)
                    | (go_at_call 40; (with_reducible refine (HSz.out _ G HP.out.o).mono ?_); rintro e w7 ⟨rfl, rfl⟩))
                  go_ret
                  exact ⟨rfl, HG.out.trans HP.out.g⟩
          · have hrb : (rv != -1) = true := by simp [hr1]
            clear hr1 hrv
            have HSz := hid (fun (W : World) (G : Nat) (h : PM W G M) => (HNs.out ▸ Size_yes G M.n W (by rw [HNs.out]; omega) h.size : Calls Try.prog 40 #[.pointer (some ⟨G, 0, none⟩)] W fun e w' => e = .returned (.int .i64 10) ∧ W = w'))
            go_wp2_with (first
          | (go_at_call 39; (with_reducible refine (xMachine X B _ HX.out).mono ?_); rintro e w7 ⟨rfl, rfl⟩)
          | (go_at_call 18; refine (Copy_yes B _ M HBo.out.p.m (HOk.out _ _ HAp.out).n1).mono ?_; rintro e w3 ⟨v, rfl, G, rfl, hG, hM3, g3⟩; have HOl := hid (show Old w0 w3 X B G M M sp pv from ⟨HBo.out.p.grown g3, hM3, fun e => by have := HBo.out.p.lt e; omega, HBo.out.farp, by have := HBo.out.g.size; omega, HBo.out.g.trans g3⟩); have y0 := g3.cell HX0.out (by simp); have y1 := g3.cell HX1.out (by simp); have y2 := g3.cell HX2.out (by simp); have y3 := g3.cell HX3.out (by simp); have y4 := g3.cell HX4.out (by simp); clear hM3 g3)
              | (go_at_call 51; refine (HRt.out _ HOl.out.p).mono ?_; rintro e w8 ⟨rfl, rfl⟩)
              | (go_at_call 40; refine (HSz.out _ G HOl.out.o).mono ?_; rintro e w9 ⟨rfl, rfl⟩))
            go_ret
            exact ⟨rfl, HG.out.trans HOl.out.g⟩
        · have q1 : (x.tmod 3 == 1) = false := by simp [m1]
          clear m0 m1
          by_cases hl0 : l.length = 0
          · have hl1 : (l.length : Int) ≤ 0 := by omega
            clear hl0
            go_wp2_with (first
            | (go_at_call 39; (with_reducible refine (xMachine X B _ HX.out).mono ?_); rintro e w7 ⟨rfl, rfl⟩)
            | (go_at_call 18; refine (Copy_yes B _ M HBo.out.p.m (HOk.out _ _ HAp.out).n1).mono ?_; rintro e w3 ⟨v, rfl, G, rfl, hG, hM3, g3⟩; have HOl := hid (show Old w0 w3 X B G M M sp pv from ⟨HBo.out.p.grown g3, hM3, fun e => by have := HBo.out.p.lt e; omega, HBo.out.farp, by have := HBo.out.g.size; omega, HBo.out.g.trans g3⟩); have y0 := g3.cell HX0.out (by simp); have y1 := g3.cell HX1.out (by simp); have y2 := g3.cell HX2.out (by simp); have y3 := g3.cell HX3.out (by simp); have y4 := g3.cell HX4.out (by simp); clear hM3 g3)
              | (go_at_call 39; (with_reducible refine (xMachine X B _ HOl.out.p.c0).mono ?_); rintro e w7 ⟨rfl, rfl⟩))
            have HEnd := hid HOl.out
            obtain ⟨wq, hwq⟩ : ∃ x, x = wr := ⟨_, rfl⟩
            subst hwq
            go_loopw [16] (fun i wr => ∃ (k : Nat), i = .int .i64 k ∧ k ≤ 10 ∧ Old w0 wr X B G M M sp pv) (fun i _ => 10 - (intOf i).toNat)
            case atStart => exact ⟨0, rfl, by omega, HEnd.out⟩
            case round =>
              clear HEnd
              obtain ⟨k, rfl, hk, hpr⟩ := hrel
              have HP := hid hpr
              clear hpr
              have hk0 : (0 : Int) ≤ k := by omega
              have HSz := hid (fun (W : World) (G : Nat) (h : PM W G M) => (HNs.out ▸ Size_yes G M.n W (by rw [HNs.out]; omega) h.size : Calls Try.prog 40 #[.pointer (some ⟨G, 0, none⟩)] W fun e w' => e = .returned (.int .i64 10) ∧ W = w'))
              by_cases hk10 : k < 10
              · have hk10' : (k : Int) < 10 := by omega
                have hkn : (k : Int) < M.n := by rw [HNs.out]; exact hk10'
                have HF := hid (fun (W : World) (G : Nat) (h : PM W G M) => Frame_out G k W M _ h HMok.out hkn)
                have HRd := hid (fun (W : World) (G : Nat) (h : PM W G M) => (show Calls Try.prog 52 #[.pointer (some ⟨G, 0, none⟩), .int .i64 k, .int .i64 0, .int .i64 256] W _ from Read_yes G k 0 256 W M _ h HMok.out hkn (by omega)))
                clear hkn
                go_wp2_with (first
                  | (go_at_call 40; (with_reducible refine (HSz.out _ B HP.out.p.m).mono ?_); rintro e w7 ⟨rfl, rfl⟩)
                  | (go_at_call 50; (with_reducible refine (HF.out _ B HP.out.p.m).mono ?_); rintro e w13 ⟨rfl, g3⟩; have HP3 := hid ((HP.out.more g3).more (World.grownBy_alloc w13 (.cells #[.int .i64 (M.fr k).owner, .int .i64 (M.fr k).ty, .int .i64 (M.fr k).cnt, .int .i64 (M.fr k).tot] 93) none)); clear g3)
                  | (go_at_call 50; (with_reducible refine (HF.out _ G HP3.out.o).mono ?_); rintro e w14 ⟨rfl, g4⟩; have HG4 := hid g4; have HP4 := hid ((HP3.out.more g4).more (World.grownBy_alloc w14 (.cells #[.int .i64 (M.fr k).owner, .int .i64 (M.fr k).ty, .int .i64 (M.fr k).cnt, .int .i64 (M.fr k).tot] 93) none)); clear g4)
                  | (go_at_call 52; (with_reducible refine (HRd.out _ B HP4.out.p.m).mono ?_); rintro e w15 ⟨v5, rfl, hnew⟩; obtain ⟨p5, rfl, hp5, hc5, g5⟩ := newBytes_pos hnew (by rw [part_len]; omega); have HG5 := hid g5; have HP5 := hid (HP4.out.more g5); rw [part_len] at hc5 ⊢; have HC5 := hid hc5; clear hnew hc5 hp5 g5)
                  | (go_at_call 52; (with_reducible refine (HRd.out _ G HP5.out.o).mono ?_); rintro e w16 ⟨v6, rfl, hnew⟩; obtain ⟨p6, rfl, hp6, hc6, g6⟩ := newBytes_pos hnew (by rw [part_len]; omega); have HP6 := hid (HP5.out.more g6); rw [part_len] at hc6 ⊢; have kc2 := vconv_row w16 p6 0 256 256 _ (part_len (M.fr k) 0 256) (fun q hq => by rw [Nat.zero_add]; exact hc6 q hq); have kc1 := vconv_row w16 p5 0 256 256 _ (part_len (M.fr k) 0 256) (fun q hq => by rw [Nat.zero_add]; exact g6.cell (HC5.out q hq) (by simp)); have z0 := g6.cell (HG5.out.cell ((World.grownBy_alloc w14 (.cells #[.int .i64 (M.fr k).owner, .int .i64 (M.fr k).ty, .int .i64 (M.fr k).cnt, .int .i64 (M.fr k).tot] 93) none).cell (HG4.out.cell (a := ⟨w13.heap.size, 0, none⟩) (v := .int .i64 (M.fr k).owner) (by simp [go_sem]) (by simp)) (by simp)) (by simp)) (by simp); have z1 := g6.cell (HG5.out.cell ((World.grownBy_alloc w14 (.cells #[.int .i64 (M.fr k).owner, .int .i64 (M.fr k).ty, .int .i64 (M.fr k).cnt, .int .i64 (M.fr k).tot] 93) none).cell (HG4.out.cell (a := ⟨w13.heap.size, 1, none⟩) (v := .int .i64 (M.fr k).ty) (by simp [go_sem]) (by simp)) (by simp)) (by simp)) (by simp); have z2 := g6.cell (HG5.out.cell ((World.grownBy_alloc w14 (.cells #[.int .i64 (M.fr k).owner, .int .i64 (M.fr k).ty, .int .i64 (M.fr k).cnt, .int .i64 (M.fr k).tot] 93) none).cell (HG4.out.cell (a := ⟨w13.heap.size, 2, none⟩) (v := .int .i64 (M.fr k).cnt) (by simp [go_sem]) (by simp)) (by simp)) (by simp)) (by simp); have z3 := g6.cell (HG5.out.cell ((World.grownBy_alloc w14 (.cells #[.int .i64 (M.fr k).owner, .int .i64 (M.fr k).ty, .int .i64 (M.fr k).cnt, .int .i64 (M.fr k).tot] 93) none).cell (HG4.out.cell (a := ⟨w13.heap.size, 3, none⟩) (v := .int .i64 (M.fr k).tot) (by simp [go_sem]) (by simp)) (by simp)) (by simp)) (by simp); have y0 := g6.cell (HG5.out.cell (a := ⟨w14.heap.size, 0, none⟩) (v := .int .i64 (M.fr k).owner) (by simp [go_sem]) (by simp)) (by simp); have y1 := g6.cell (HG5.out.cell (a := ⟨w14.heap.size, 1, none⟩) (v := .int .i64 (M.fr k).ty) (by simp [go_sem]) (by simp)) (by simp); have y2 := g6.cell (HG5.out.cell (a := ⟨w14.heap.size, 2, none⟩) (v := .int .i64 (M.fr k).cnt) (by simp [go_sem]) (by simp)) (by simp); have y3 := g6.cell (HG5.out.cell (a := ⟨w14.heap.size, 3, none⟩) (v := .int .i64 (M.fr k).tot) (by simp [go_sem]) (by simp)) (by simp); clear hnew hc6 hp6 g6))
                go_roundw
                case rel =>
                  first
                    | exact ⟨k + 1, by go_num, by omega, HP6.out⟩
                    | (repeat apply Exists.intro
                       exact ⟨⟨k + 1, by go_num, by omega, HP6.out⟩, rfl⟩)
                case measure => simp [intOf]; omega
              · obtain rfl : k = 10 := by omega
                have hge : (10 : Int) ≤ ((10 : Nat) : Int) := by omega
                go_wp2_with (first
                  | (go_at_call 40; (with_reducible refine (HSz.out _ B HP.out.p.m).mono ?_); rintro e w7 ⟨rfl, rfl⟩)
                  | (go_at_call 40; (with_reducible refine (HSz.out _ G HP.out.o).mono ?_); rintro e w7 ⟨rfl, rfl⟩))
                go_ret
                exact ⟨rfl, HG.out.trans HP.out.g⟩
          · have hl1 : (0 : Int) < l.length := by omega
            have hpos : 0 < l.length := by omega
            have hcb := HCap.out
            have hcb1 : (1 : Int) ≤ cb := by omega
            obtain ⟨g, o, rfl, -, -, -, -⟩ := HSrc.out 0 hpos
            have HUp := hid (fun (W : World) (hx : XM W W B X M) (hgw : w0.grownBy W none) (hC : w0.heap.size ≤ B) (cc : Nat) => xUpdate X B d (.slice (some ⟨g, o, none⟩) 1 cc) [l[0]] W M sp E _ hx HAp.out (fun A h => HOk.out _ _ h) (by omega) (by have := HSrc.out.one hgw hC cc (j := 0) hpos; simpa using this) (fun u hu => HL.out u (by rw [List.mem_singleton.1 hu]; exact List.getElem_mem hpos)) (by simp))
            rw [updsV_one] at HUp
            by_cases hcode : (updV M d l[0].1 l[0].2.1 l[0].2.2).1 = 0
            · rw [if_neg (by simpa using hcode)] at HUp
              simp only [Int.natCast_one] at HUp
              clear hcode hl0
              go_wp2_with (first
            | (go_at_call 39; (with_reducible refine (xMachine X B _ HX.out).mono ?_); rintro e w7 ⟨rfl, rfl⟩)
            | (go_at_call 18; refine (Copy_yes B _ M HBo.out.p.m (HOk.out _ _ HAp.out).n1).mono ?_; rintro e w3 ⟨v, rfl, G, rfl, hG, hM3, g3⟩; have HOl := hid (show Old w0 w3 X B G M M sp pv from ⟨HBo.out.p.grown g3, hM3, fun e => by have := HBo.out.p.lt e; omega, HBo.out.farp, by have := HBo.out.g.size; omega, HBo.out.g.trans g3⟩); have y0 := g3.cell HX0.out (by simp); have y1 := g3.cell HX1.out (by simp); have y2 := g3.cell HX2.out (by simp); have y3 := g3.cell HX3.out (by simp); have y4 := g3.cell HX4.out (by simp); clear hM3 g3)
                | fail)
              have HOd := hid (HOl.out.more (grownBy_drew w3 none))
              have HnB : some w.heap.size ≠ some B := fun e => by have h1 := HOl.out.far B (.inl rfl); have h2 : w.heap.size < w0.heap.size := World.block_lt_of_cell? _ _ HB0.out; cases e; omega
              have HNB := hid HnB
              clear HnB
              go_region_held3 (fun w' => w'.cell? ⟨w.heap.size, 1, none⟩ = some (.int .i64 d) ∧ w'.cell? ⟨w.heap.size, 4, none⟩ = some (.slice (some ⟨g, o, none⟩) l.length cb)) (first | exact ⟨by assumption, by assumption⟩ | go_keep)
                (first | (go_at_call 44; refine (HUp.out _ HOd.out.p.xm HOd.out.g (HOd.out.far B (.inl rfl)) _).mono ?_; rintro e w4 ⟨rfl, h4⟩; have H4 := hid (HOd.out.stepM h4); have u1 := h4.g.cell ((grownBy_drew w3 none).cell y1 (by simp)) HNB.out; have u4 := h4.g.cell ((grownBy_drew w3 none).cell y4 (by simp)) HNB.out; clear h4))
              all_goals go_wp2
              all_goals go_ret
              all_goals exact ⟨rfl, HG.out.trans H4.out.g⟩
            · rw [if_pos (by simpa using hcode)] at HUp
              obtain ⟨ec, hec⟩ : ∃ e, (updV M d l[0].1 l[0].2.1 l[0].2.2).1 = e := ⟨_, rfl⟩
              rw [hec] at HUp hcode
              have hcb0 : (ec == 0) = false := by simp [hcode]
              simp only [Int.natCast_zero] at HUp
              clear hcode hl0 hec
              go_wp2_with (first
            | (go_at_call 39; (with_reducible refine (xMachine X B _ HX.out).mono ?_); rintro e w7 ⟨rfl, rfl⟩)
            | (go_at_call 18; refine (Copy_yes B _ M HBo.out.p.m (HOk.out _ _ HAp.out).n1).mono ?_; rintro e w3 ⟨v, rfl, G, rfl, hG, hM3, g3⟩; have HOl := hid (show Old w0 w3 X B G M M sp pv from ⟨HBo.out.p.grown g3, hM3, fun e => by have := HBo.out.p.lt e; omega, HBo.out.farp, by have := HBo.out.g.size; omega, HBo.out.g.trans g3⟩); have y0 := g3.cell HX0.out (by simp); have y1 := g3.cell HX1.out (by simp); have y2 := g3.cell HX2.out (by simp); have y3 := g3.cell HX3.out (by simp); have y4 := g3.cell HX4.out (by simp); clear hM3 g3)
                | fail)
              have HOd := hid (HOl.out.more (grownBy_drew w3 none))
              have HnB : some w.heap.size ≠ some B := fun e => by have h1 := HOl.out.far B (.inl rfl); have h2 : w.heap.size < w0.heap.size := World.block_lt_of_cell? _ _ HB0.out; cases e; omega
              have HNB := hid HnB
              clear HnB
              go_region_held3 (fun w' => w'.cell? ⟨w.heap.size, 1, none⟩ = some (.int .i64 d) ∧ w'.cell? ⟨w.heap.size, 4, none⟩ = some (.slice (some ⟨g, o, none⟩) l.length cb)) (first | exact ⟨by assumption, by assumption⟩ | go_keep)
                (first | (go_at_call 44; refine (HUp.out _ HOd.out.p.xm HOd.out.g (HOd.out.far B (.inl rfl)) _).mono ?_; rintro e w4 ⟨rfl, h4⟩; have H4 := hid (HOd.out.stepM h4); have u1 := h4.g.cell ((grownBy_drew w3 none).cell y1 (by simp)) HNB.out; have u4 := h4.g.cell ((grownBy_drew w3 none).cell y4 (by simp)) HNB.out; clear h4))
              go_wp2_with (go_at_call 39; (with_reducible refine (xMachine X B _ H4.out.p.c0).mono ?_); rintro e w7 ⟨rfl, rfl⟩)
              have HEnd := hid H4.out
              obtain ⟨wq, hwq⟩ : ∃ x, x = wr := ⟨_, rfl⟩
              subst hwq
              go_loopw [16] (fun i wr => ∃ (k : Nat), i = .int .i64 k ∧ k ≤ 10 ∧ Old w0 wr X B G M M sp pv) (fun i _ => 10 - (intOf i).toNat)
              case atStart => exact ⟨0, rfl, by omega, HEnd.out⟩
              case round =>
                clear HEnd
                obtain ⟨k, rfl, hk, hpr⟩ := hrel
                have HP := hid hpr
                clear hpr
                have hk0 : (0 : Int) ≤ k := by omega
                have HSz := hid (fun (W : World) (G : Nat) (h : PM W G M) => (HNs.out ▸ Size_yes G M.n W (by rw [HNs.out]; omega) h.size : Calls Try.prog 40 #[.pointer (some ⟨G, 0, none⟩)] W fun e w' => e = .returned (.int .i64 10) ∧ W = w'))
                by_cases hk10 : k < 10
                · have hk10' : (k : Int) < 10 := by omega
                  have hkn : (k : Int) < M.n := by rw [HNs.out]; exact hk10'
                  have HF := hid (fun (W : World) (G : Nat) (h : PM W G M) => Frame_out G k W M _ h HMok.out hkn)
                  have HRd := hid (fun (W : World) (G : Nat) (h : PM W G M) => (show Calls Try.prog 52 #[.pointer (some ⟨G, 0, none⟩), .int .i64 k, .int .i64 0, .int .i64 256] W _ from Read_yes G k 0 256 W M _ h HMok.out hkn (by omega)))
                  clear hkn
                  go_wp2_with (first
                    | (go_at_call 40; (with_reducible refine (HSz.out _ B HP.out.p.m).mono ?_); rintro e w7 ⟨rfl, rfl⟩)
                    | (go_at_call 50; (with_reducible refine (HF.out _ B HP.out.p.m).mono ?_); rintro e w13 ⟨rfl, g3⟩; have HP3 := hid ((HP.out.more g3).more (World.grownBy_alloc w13 (.cells #[.int .i64 (M.fr k).owner, .int .i64 (M.fr k).ty, .int .i64 (M.fr k).cnt, .int .i64 (M.fr k).tot] 93) none)); clear g3)
                    | (go_at_call 50; (with_reducible refine (HF.out _ G HP3.out.o).mono ?_); rintro e w14 ⟨rfl, g4⟩; have HG4 := hid g4; have HP4 := hid ((HP3.out.more g4).more (World.grownBy_alloc w14 (.cells #[.int .i64 (M.fr k).owner, .int .i64 (M.fr k).ty, .int .i64 (M.fr k).cnt, .int .i64 (M.fr k).tot] 93) none)); clear g4)
                    | (go_at_call 52; (with_reducible refine (HRd.out _ B HP4.out.p.m).mono ?_); rintro e w15 ⟨v5, rfl, hnew⟩; obtain ⟨p5, rfl, hp5, hc5, g5⟩ := newBytes_pos hnew (by rw [part_len]; omega); have HG5 := hid g5; have HP5 := hid (HP4.out.more g5); rw [part_len] at hc5 ⊢; have HC5 := hid hc5; clear hnew hc5 hp5 g5)
                    | (go_at_call 52; (with_reducible refine (HRd.out _ G HP5.out.o).mono ?_); rintro e w16 ⟨v6, rfl, hnew⟩; obtain ⟨p6, rfl, hp6, hc6, g6⟩ := newBytes_pos hnew (by rw [part_len]; omega); have HP6 := hid (HP5.out.more g6); rw [part_len] at hc6 ⊢; have kc2 := vconv_row w16 p6 0 256 256 _ (part_len (M.fr k) 0 256) (fun q hq => by rw [Nat.zero_add]; exact hc6 q hq); have kc1 := vconv_row w16 p5 0 256 256 _ (part_len (M.fr k) 0 256) (fun q hq => by rw [Nat.zero_add]; exact g6.cell (HC5.out q hq) (by simp)); have z0 := g6.cell (HG5.out.cell ((World.grownBy_alloc w14 (.cells #[.int .i64 (M.fr k).owner, .int .i64 (M.fr k).ty, .int .i64 (M.fr k).cnt, .int .i64 (M.fr k).tot] 93) none).cell (HG4.out.cell (a := ⟨w13.heap.size, 0, none⟩) (v := .int .i64 (M.fr k).owner) (by simp [go_sem]) (by simp)) (by simp)) (by simp)) (by simp); have z1 := g6.cell (HG5.out.cell ((World.grownBy_alloc w14 (.cells #[.int .i64 (M.fr k).owner, .int .i64 (M.fr k).ty, .int .i64 (M.fr k).cnt, .int .i64 (M.fr k).tot] 93) none).cell (HG4.out.cell (a := ⟨w13.heap.size, 1, none⟩) (v := .int .i64 (M.fr k).ty) (by simp [go_sem]) (by simp)) (by simp)) (by simp)) (by simp); have z2 := g6.cell (HG5.out.cell ((World.grownBy_alloc w14 (.cells #[.int .i64 (M.fr k).owner, .int .i64 (M.fr k).ty, .int .i64 (M.fr k).cnt, .int .i64 (M.fr k).tot] 93) none).cell (HG4.out.cell (a := ⟨w13.heap.size, 2, none⟩) (v := .int .i64 (M.fr k).cnt) (by simp [go_sem]) (by simp)) (by simp)) (by simp)) (by simp); have z3 := g6.cell (HG5.out.cell ((World.grownBy_alloc w14 (.cells #[.int .i64 (M.fr k).owner, .int .i64 (M.fr k).ty, .int .i64 (M.fr k).cnt, .int .i64 (M.fr k).tot] 93) none).cell (HG4.out.cell (a := ⟨w13.heap.size, 3, none⟩) (v := .int .i64 (M.fr k).tot) (by simp [go_sem]) (by simp)) (by simp)) (by simp)) (by simp); have y0 := g6.cell (HG5.out.cell (a := ⟨w14.heap.size, 0, none⟩) (v := .int .i64 (M.fr k).owner) (by simp [go_sem]) (by simp)) (by simp); have y1 := g6.cell (HG5.out.cell (a := ⟨w14.heap.size, 1, none⟩) (v := .int .i64 (M.fr k).ty) (by simp [go_sem]) (by simp)) (by simp); have y2 := g6.cell (HG5.out.cell (a := ⟨w14.heap.size, 2, none⟩) (v := .int .i64 (M.fr k).cnt) (by simp [go_sem]) (by simp)) (by simp); have y3 := g6.cell (HG5.out.cell (a := ⟨w14.heap.size, 3, none⟩) (v := .int .i64 (M.fr k).tot) (by simp [go_sem]) (by simp)) (by simp); clear hnew hc6 hp6 g6))
                  go_roundw
                  case rel =>
                    first
                      | exact ⟨k + 1, by go_num, by omega, HP6.out⟩
                      | (repeat apply Exists.intro
                         exact ⟨⟨k + 1, by go_num, by omega, HP6.out⟩, rfl⟩)
                  case measure => simp [intOf]; omega
                · obtain rfl : k = 10 := by omega
                  have hge : (10 : Int) ≤ ((10 : Nat) : Int) := by omega
                  go_wp2_with (first
                    | (go_at_call 40; (with_reducible refine (HSz.out _ B HP.out.p.m).mono ?_); rintro e w7 ⟨rfl, rfl⟩)
                    | (go_at_call 40; (with_reducible refine (HSz.out _ G HP.out.o).mono ?_); rintro e w7 ⟨rfl, rfl⟩))
                  go_ret
                  exact ⟨rfl, HG.out.trans HP.out.g⟩
theorem came_cap {H : Type} {enc : TypeId × Value → H} {w : World} {p : Option Addr} {len cap : Nat} (h : Flat.Came enc Try.prog w 0 (fun _ => true) true 77 (.slice p len cap)) : len ≤ cap := by
  obtain ⟨fuel, x, h, _⟩ := h
  rcases open_slice Try.underlying77 h with ⟨hcs, _⟩ | ⟨a, len', cap', m, n, D, Pl, hcs, _, hl, _⟩
  · simp only [List.cons.injEq, Value.slice.injEq, and_true] at hcs
    omega
  · simp only [List.cons.injEq, Value.slice.injEq, and_true] at hcs
    omega
theorem list5 {α : Type} {l : List α} (h : l.length = 5) : ∃ a b c d e, l = [a, b, c, d, e] := by
  match l, h with
  | [a, b, c, d, e], _ => exact ⟨a, b, c, d, e, rfl⟩
theorem main {H : Type} {enc : TypeId × Value → H} (v0 v1 : Value) (l2 : List Value) (W : World) (c0 : Flat.Came enc Try.prog W 0 (fun _ => true) true 70 v0) (c1 : Flat.Came enc Try.prog W 0 (fun _ => true) true 71 v1)
    (z2 : l2.length = [3, 3, 3, 3, 77].length) (c2 : ∀ (j : Nat) (t : TypeId), [3, 3, 3, 3, 77][j]? = some t → ∃ u : Value, l2[j]? = some u ∧ Flat.Came enc Try.prog W 0 (fun _ => true) true t u) :
    Calls Try.prog 11 #[v0, v1, .agg l2.toArray] W fun e w' => e = .returned (.bool true) ∧ W.grownBy w' none := by
  obtain ⟨pa, ps, cap, rfl, hps, hp⟩ := open_mputs c0
  obtain ⟨po, os, co, rfl, hos, ho⟩ := open_mops c1
  obtain ⟨u0, u1, u2, u3, u4, rfl⟩ := list5 z2
  obtain ⟨_, e0, k0⟩ := c2 0 _ rfl
  obtain ⟨_, e1, k1⟩ := c2 1 _ rfl
  obtain ⟨_, e2, k2⟩ := c2 2 _ rfl
  obtain ⟨_, e3, k3⟩ := c2 3 _ rfl
  obtain ⟨_, e4, k4⟩ := c2 4 _ rfl
  simp only [List.getElem?_cons_zero, List.getElem?_cons_succ, Option.some.injEq] at e0 e1 e2 e3 e4
  subst e0 e1 e2 e3 e4
  obtain ⟨x, rfl, _⟩ := k0.int Try.underlying3
  obtain ⟨d, rfl, _⟩ := k1.int Try.underlying3
  obtain ⟨a, rfl, _⟩ := k2.int Try.underlying3
  obtain ⟨c, rfl, _⟩ := k3.int Try.underlying3
  obtain ⟨pb, l, cb, rfl, hlen, hl, hsrc⟩ := open_upds k4
  exact walk pa cap ps po co os x d a c pb cb l W hp hps ho hos hl hlen hsrc (came_cap k4)
theorem own : ownKnob Try.prog.godebug = none := by kernel_rfl
theorem laidOut : laidOutB Try.prog = true := by kernel_rfl

set_option maxRecDepth 100000 in
theorem lifted (os : Os) (started : os.Started) (H : Type) (enc : TypeId × Value → H) :
    ReturnsInHanded {} Try.checked os 11 .any (Rows.mmuUndoSpec.pre6 enc Try.prog Try.f11 Rows.mmuUndoRow.domain false) (Rows.mmuUndoSpec.post enc Try.prog Try.f11 false true false false) := by
  refine returnsInHanded_of_change_sized (C := Try.checked) own started (by kernel_rfl) Try.func11
    (ChangeSpec.witness6 (enc := enc) (C := Try.checked) false ⟨#[], #[.slice none 0 0, .slice none 0 0, .agg #[.int .i64 0, .int .i64 0, .int .i64 0, .int .i64 0, .slice none 0 0]], []⟩ 8 (by kernel_rfl) (by kernel_rfl) (by kernel_rfl) (by kernel_rfl)) ?_
  intro W base args ds gs before hval0 hW _ hsz0 _
  have hsz : (DataW.weightsEach Try.prog (Try.f11.params.toList ++ Rows.mmuUndoSpec.plain.varTypes Try.prog) (ds ++ gs)).all (· ≤ reachBytes) = true := hsz0
  clear hsz0
  have hval : ∀ (j : Nat) t v, Try.f11.params[j]? = some t → args[j]? = some v → Value.okWide Try.prog W .any base t v := hval0
  have hW' := hW
  obtain ⟨p, q, hA0, hV, rfl, hfz, hnd⟩ := hW
  have hA : DataW.TrodAll enc Try.prog W 0 (fun _ => true) true Try.f11.params.toList args.toList ds p := hA0
  rw [Try.params11] at hA hval hsz
  obtain ⟨v0, vs0, d0, ds0, p0, q0, hargs, rfl, rfl, h0, r0⟩ := trodAll_cons hA
  obtain ⟨v1, vs1, d1, ds1, p1, q1, rfl, rfl, rfl, h1, r1⟩ := trodAll_cons r0
  obtain ⟨v2, vs2, d2, ds2, p2, q2, rfl, rfl, rfl, h2, r2⟩ := trodAll_cons r1
  obtain ⟨rfl, rfl, rfl⟩ := trodAll_nil r2
  obtain rfl : args = #[v0, v1, v2] := by cases args; simp_all
  obtain ⟨rfl, rfl⟩ := trodVars_none hV
  obtain ⟨ps0, ln0, cp0, rfl⟩ := okWide_slice Try.underlying70 (hval 0 70 v0 rfl rfl)
  have k0 := h0
  have lt0 : ∀ x ∈ p0, x.block < W.heap.size := by obtain ⟨m, hm⟩ := k0; exact DataW.trod_lt m _ _ _ hm
  have c0 : Flat.Came enc Try.prog W 0 (fun _ => true) true 70 (.slice ps0 ln0 cp0) := by
    obtain ⟨fuel, hf⟩ := h0
    exact ⟨fuel, _, hf, fun n hn => by
      have := List.all_eq_true.1 hsz n (DataW.weights_mem_each (j := 0) rfl rfl n hn)
      simpa using this⟩
  obtain ⟨ps1, ln1, cp1, rfl⟩ := okWide_slice Try.underlying71 (hval 1 71 v1 rfl rfl)
  have k1 := h1
  have lt1 : ∀ x ∈ p1, x.block < W.heap.size := by obtain ⟨m, hm⟩ := k1; exact DataW.trod_lt m _ _ _ hm
  have c1 : Flat.Came enc Try.prog W 0 (fun _ => true) true 71 (.slice ps1 ln1 cp1) := by
    obtain ⟨fuel, hf⟩ := h1
    exact ⟨fuel, _, hf, fun n hn => by
      have := List.all_eq_true.1 hsz n (DataW.weights_mem_each (j := 1) rfl rfl n hn)
      simpa using this⟩
  have sz2 : ∀ n ∈ d2.weights Try.prog 79, n ≤ reachBytes := fun n hn => by
    have := List.all_eq_true.1 hsz n (DataW.weights_mem_each (j := 2) rfl rfl n hn)
    simpa using this
  obtain ⟨l2, rfl, z2, c2⟩ := Flat.open_agg mop_flat (hval 2 79 v2 rfl rfl) h2 sz2
  have k2 := h2
  have lt2 : ∀ x ∈ p2, x.block < W.heap.size := by obtain ⟨m, hm⟩ := k2; exact DataW.trod_lt m _ _ _ hm
  clear hA0 hval0
  refine (main (.slice ps0 ln0 cp0) (.slice ps1 ln1 cp1) l2 W c0 c1 z2 c2).mono fun e W' ⟨he, hg⟩ => ?_
  subst he
  have bel := below_grown' hg
  simp only [List.append_nil, List.nil_append] at hW'
  exact ⟨_, rfl, _, _, _, [], _, [], hW', trodAll_mk1 (shut_bool Try.underlying4 _), (trodAll_cons_mk (Below.trod laidOut (by kernel_rfl) (of_decide_eq_true (by kernel_rfl)) k0 bel lt0) (trodAll_cons_mk (Below.trod laidOut (by kernel_rfl) (of_decide_eq_true (by kernel_rfl)) k1 bel lt1) (trodAll_cons_mk (Below.trod laidOut (by kernel_rfl) (of_decide_eq_true (by kernel_rfl)) k2 bel lt2) trodAll_mk0))), rfl, bel.frame _, fun h => by cases h⟩

theorem proved : Rows.MmuUndoSaid :=
  OpenClaim.holds_of_wide 11 Try.f11 rfl rfl rfl rfl rfl rfl rfl ⟨rfl, rfl, rfl, rfl, rfl⟩ rfl rfl rfl rfl rfl (by kernel_rfl) Try.func11 (by kernel_rfl)
    (of_decide_eq_true (by kernel_rfl)) (by unfold Func.isWrapper; first | (rw [if_pos (by decide +kernel)]; kernel_rfl) | (rw [if_neg (by decide +kernel)]; exact ⟨rfl, rfl⟩))
    (fun os started H enc _ => lifted os started H enc)
#print axioms proved
end Go.Proofs.Ytmkjlglgmepbeaa.lawMmuUndo
