/-
  MmuBatch: for every row of entries, every script, every domain and every batch the law returns true, and what was there stays. No condition.
-/
import Derived.Test.YtmkjlglgmepbeaaK31
import Derived.Test.YtmkjlglgmepbeaaK29
import Derived.ProofKit
import Derived.OpenShut
import Derived.Deep.RegionWith
set_option linter.unusedSimpArgs false
set_option linter.unusedVariables false
namespace Go.Proofs.Ytmkjlglgmepbeaa.lawMmuBatch
open Go.ChangeShapes Go.WideShapes Go.ChangeAt Go.RowKit Go.Deep
set_option maxHeartbeats 2000000

theorem puts_grown {w w' : World} {pa : Option Addr} {ps : List PutV} (h : PutsIn w pa ps) (hg : w.grownBy w' none) : PutsIn w' pa ps := fun j hj => by
  obtain ⟨sb, off, e, hlt, c0, c1, c2, hv⟩ := h j hj
  exact ⟨sb, off, e, Nat.lt_of_lt_of_le hlt hg.size, hg.cell c0 (by simp), hg.cell c1 (by simp), hg.cell c2 (by simp), hv⟩
set_option maxRecDepth 100000 in
set_option maxHeartbeats 8000000 in
theorem walk (pa : Option Addr) (cap : Nat) (ps : List PutV) (po : Option Addr) (co : Nat) (os : List MOpR) (d : Int) (pb : Option Addr) (cb : Nat) (l : List Upd) (w : World) (hp : PutsIn w pa ps) (hps : ps.length ≤ 9223372036854775807) (ho : MOpsIn w po os) (hos : os.length ≤ 140737488355328)
    (hl : okU l) (hlen : l.length * 24 ≤ 140737488355328) (hsrc : UpdsSrc w pb l) (hcap : l.length ≤ cb) :
    Calls Try.prog 13 #[.slice pa ps.length cap, .slice po os.length co, .int .i64 d, .slice pb l.length cb] w fun e w' => e = .returned (.bool true) ∧ w.grownBy w' none := by
  have HB := hid (fun (W : World) (hg : w.grownBy W none) => mBegin pa cap ps W (puts_grown hp hg) hps)
  have HO := hid ho; have HOs := hid hos; have HL := hid hl; have HLen := hid hlen; have HSrc := hid hsrc; have HCap := hid hcap
  have HAl := hid (All.begin ps)
  clear hp ho hos hps hl hlen hsrc hcap
  go_enter Try.func13, Try.ntmps13
  go_wp2_with (first
    | (go_at_call 36; (with_reducible refine (HB.out w (World.grownBy.refl _ _)).mono ?_); rintro e w1 ⟨X, Y, B, b, pv, L, A, rfl, h1⟩; have H1 := hid h1; clear h1)
    | (go_at_call 36; (with_reducible refine (HB.out w1 H1.out.g).mono ?_); rintro e w2 ⟨U, V, C, c, pv2, L2, A2, rfl, h2⟩; have H2 := hid h2; clear h2))
  obtain ⟨s0, hs0⟩ : ∃ s : Mach × (Nat → Sp), s = (mC ps ps.length, sp0) := ⟨_, rfl⟩
  have HT := hid (show Two w w2 X B Y b U C V c s0 s0 0 0 pv L A E0 pv2 L2 A2 E0 by
    subst hs0
    exact ⟨⟨H1.out.more H2.out.g, HAl.out, few0⟩, ⟨H2.out.weaken H1.out.g, HAl.out, few0⟩, fun i h1 h2 => by have := H1.out.lt i h1; have := H2.out.far i h2; omega⟩)
  have HN := hid (show s0.1.n = 10 by subst hs0; exact mC_n _ _)
  clear H1 H2 HAl hs0 HB
  go_loopw [15] (fun i wr => ∃ (j : Nat) (pv : Nat → Value) (L : Lay) (A : YL) (E : Cnt) (pv2 : Nat → Value) (L2 : Lay) (A2 : YL) (E2 : Cnt), i = .int .i64 j ∧ j ≤ os.length ∧ Two w wr X B Y b U C V c (runM os s0 j) (runM os s0 j) j j pv L A E pv2 L2 A2 E2) (fun i _ => os.length - (intOf i).toNat)
  case atStart => exact ⟨0, _, _, _, _, _, _, _, _, rfl, by omega, HT.out⟩
  case round =>
    clear HT
    obtain ⟨j, pv, L, A, E, pv2, L2, A2, E2, rfl, hj, ht⟩ := hrel
    have HT := hid ht
    clear ht
    have hj0 : (0 : Int) ≤ j := by omega
    by_cases hjl : j < os.length
    · have hjl' : (j : Int) < os.length := by omega
      obtain ⟨b', off, rfl, hb', d0, d1, d2, d3, d4⟩ := (HO.out j hjl).at'
      have HRok := hid (HO.out j hjl).ok; have HRlen := hid (HO.out j hjl).len; have HRsrc := hid (HO.out j hjl).src
      have HSt := hid (runM_succ os s0 j hjl)
      have gw := HT.out.p.bo.g
      have k0 := gw.cell d0 (by simp); have k1 := gw.cell d1 (by simp); have k2 := gw.cell d2 (by simp); have k3 := gw.cell d3 (by simp); have k4 := gw.cell d4 (by simp)
      have hj2 := HOs.out
      have HJ := hid (show j ≤ 140737488355328 by omega)
      have D0 := hid d0; have D1 := hid d1; have D2 := hid d2; have D3 := hid d3; have D4 := hid d4
      clear d0 d1 d2 d3 d4 gw
      generalize os[j] = r at *
      go_wp2_with (first
        | (go_at_call 37; (with_reducible refine (HT.out.play HJ.out r HRok.out HRlen.out HRsrc.out).mono ?_); rintro e w3 ⟨rfl, pv3, L3, A3, E3, h3⟩; have HT3 := hid h3; have g3 := h3.p.bo.g; have m0 := g3.cell D0.out (by simp); have m1 := g3.cell D1.out (by simp); have m2 := g3.cell D2.out (by simp); have m3 := g3.cell D3.out (by simp); have m4 := g3.cell D4.out (by simp); clear h3 g3 k0 k1 k2 k3 k4)
        | (go_at_call 37; (with_reducible refine (HT3.out.swap.play HJ.out r HRok.out HRlen.out HRsrc.out).mono ?_); rintro e w4 ⟨rfl, pv4, L4, A4, E4, h4⟩; have HT4 := hid h4.swap; clear h4 m0 m1 m2 m3 m4))
      go_roundw
      case rel =>
        first
          | exact ⟨j + 1, pv3, L3, A3, E3, pv4, L4, A4, E4, by go_num, by omega, by rw [HSt.out]; exact HT4.out⟩
          | (repeat apply Exists.intro
             exact ⟨⟨j + 1, pv3, L3, A3, E3, pv4, L4, A4, E4, by go_num, by omega, by rw [HSt.out]; exact HT4.out⟩, rfl⟩)
      case measure => simp [intOf]; omega
    · obtain rfl : j = os.length := by omega
      have hge : (os.length : Int) ≤ os.length := by omega
      have HNs := hid ((runM_n os s0 os.length).trans HN.out)
      have hk0 := HOs.out
      generalize runM os s0 os.length = s at *
      obtain ⟨M, sp⟩ := s
      have HPr := hid HT.out.pair
      have HAp := hid HT.out.p.all; have HAq := hid HT.out.q.all
      have HOkp := hid (fun A (h : All A sp E) => h.okF HT.out.p.few)
      have HOkq := hid (fun A (h : All A sp E2) => h.okF HT.out.q.few)
      simp only at HPr HAp HAq HNs
      have hlen := HLen.out
      have hll : l.length ≤ 140737488355328 := by omega
      clear HT HO HN
      go_wp2_with (go_at_call 44; refine (xUpdate X B d _ l _ M sp E _ HPr.out.p.xm HAp.out HOkp.out (by omega) (HSrc.out.updsAt HPr.out.g (HPr.out.farp B (.inl rfl)) cb) HL.out hll).mono ?_; rintro e w3 ⟨rfl, h3⟩; have HP3 := hid (HPr.out.stepP h3); clear h3)
      clear HPr HAp HOkp
      obtain ⟨⟨mn, ec, Mx⟩, hr⟩ : ∃ r, updsV d M l = r := ⟨_, rfl⟩
      have HR := hid hr
      have HNx := hid (show Mx.n = 10 by have := updsV_n d l M; rw [hr] at this; exact this.trans HNs.out)
      have HOkx := hid (show Mx.ok _ by have := HOkq.out _ (HAq.out.upds d HL.out); rw [hr] at this; exact this)
      rw [hr] at HP3
      simp only [hr]
      clear hr
      go_loopw [18, 19, 20] (fun many f i wr => ∃ j : Nat, i = .int .i64 j ∧ j ≤ l.length ∧ ((f = .int .i64 0 ∧ many = .int .i64 j ∧ (∀ q (hq : q < j) (hq' : q < l.length), (updV (updsM d M l q) d l[q].1 l[q].2.1 l[q].2.2).1 = 0) ∧ Pair2 w wr X B U C Mx (updsM d M l j) sp sp pv pv2) ∨ (ec ≠ 0 ∧ f = .int .i64 ec ∧ many = .int .i64 mn ∧ Pair2 w wr X B U C Mx Mx sp sp pv pv2))) (fun _ _ i _ => l.length - (intOf i).toNat)
      case atStart => exact ⟨0, rfl, by omega, .inl ⟨rfl, rfl, fun q hq => by omega, HP3.out⟩⟩
      case round =>
        clear HP3
        obtain ⟨j, rfl, hj, hcase⟩ := hrel
        have hj0 : (0 : Int) ≤ j := by omega
        by_cases hjl : j < l.length
        · have hjl' : (j : Int) < l.length := by omega
          rcases hcase with ⟨rfl, rfl, hz, hpr⟩ | ⟨hec, rfl, rfl, hpr⟩
          · have HP := hid hpr; have HZ := hid hz
            clear hpr hz
            obtain ⟨g, o, rfl, -, -, -, -⟩ := HSrc.out j hjl
            have hcb := HCap.out
            have HAj := hid (HAq.out.updsM d HL.out j (by omega))
            have HUp := hid (fun (W : World) (hx : XM W W C U (updsM d M l j)) (hgw : w.grownBy W none) (hC : w.heap.size ≤ C) (cc : Nat) => xUpdate U C d _ [l[j]] W (updsM d M l j) sp E2 _ hx HAj.out HOkq.out (by omega) (HSrc.out.one hgw hC cc hjl) (fun u hu => HL.out u (by rw [List.mem_singleton.1 hu]; exact List.getElem_mem hjl)) (by simp))
            rw [updsV_one] at HUp
            have HSucc := hid (updsM_succ d M l j hjl)
            have HStop := hid (updsV_stop d l M j hjl (fun q hq => HZ.out q hq (by omega)))
            have HZ2 := hid (show (updV (updsM d M l j) d l[j].1 l[j].2.1 l[j].2.2).1 = 0 → ∀ q (hq : q < j + 1) (hq' : q < l.length), (updV (updsM d M l q) d l[q].1 l[q].2.1 l[q].2.2).1 = 0 from fun e q hq hq' => by
              by_cases eq : q = j
              · subst eq; exact e
              · exact HZ.out q (by omega) hq')
            by_cases hcode : (updV (updsM d M l j) d l[j].1 l[j].2.1 l[j].2.2).1 = 0
            · rw [if_neg (by simpa using hcode)] at HUp
              rw [← HSucc.out] at HUp
              simp only [Int.natCast_one] at HUp
              have HZ3 := hid (HZ2.out hcode)
              clear HStop HZ2 HSucc hcode
              go_wp2_with (go_at_call 44; refine (HUp.out _ HP.out.q.xm HP.out.g (HP.out.farq C (.inl rfl)) _).mono ?_; rintro e w4 ⟨rfl, h4⟩; have H4 := hid (HP.out.swap.stepP h4).swap; clear h4)
              go_roundw
              case rel =>
                exact ⟨j + 1, by go_num, by omega, .inl ⟨rfl, by go_num, HZ3.out, H4.out⟩⟩
              case measure => simp [intOf]; omega
            · rw [if_pos (by simpa using hcode)] at HUp
              have hst := HStop.out hcode
              rw [HR.out] at hst
              obtain ⟨e1, e2, e3⟩ : mn = j ∧ ec = (updV (updsM d M l j) d l[j].1 l[j].2.1 l[j].2.2).1 ∧ Mx = updsM d M l j := by simpa using hst
              rw [← e2] at HUp hcode
              rw [← e3] at HUp HP
              simp only [Int.natCast_zero] at HUp
              have E1 := hid e1; have HCo := hid hcode
              clear HStop HZ2 HSucc hst e1 e2 e3 hcode
              go_wp2_with (go_at_call 44; refine (HUp.out _ HP.out.q.xm HP.out.g (HP.out.farq C (.inl rfl)) _).mono ?_; rintro e w4 ⟨rfl, h4⟩; have H4 := hid (HP.out.swap.stepP h4).swap; clear h4)
              go_roundw
              case rel =>
                exact ⟨j + 1, by go_num, by omega, .inr ⟨HCo.out, rfl, by rw [E1.out], H4.out⟩⟩
              case measure => simp [intOf]; omega
          · have hec0 : (ec == 0) = false := by simp [hec]
            have hb1 : ((mn : Int) != (mn : Int)) = false := by simp
            have hb2 : (ec != ec) = false := by simp
            go_wp2
            clear hb1 hb2
            have HEnd := hid hpr
            clear hpr
            obtain ⟨wq, hwq⟩ : ∃ x, x = wr := ⟨_, rfl⟩
            subst hwq
            go_loopw [23] (fun i wr => ∃ k : Nat, i = .int .i64 k ∧ k ≤ 10 ∧ Pair2 w wr X B U C Mx Mx sp sp pv pv2) (fun i _ => 10 - (intOf i).toNat)
            case atStart => exact ⟨0, rfl, by omega, HEnd.out⟩
            case round =>
              clear HEnd
              obtain ⟨k, rfl, hk, hpr⟩ := hrel
              have HP := hid hpr
              clear hpr
              have hk0 : (0 : Int) ≤ k := by omega
              by_cases hk10 : k < 10
              · have hk10' : (k : Int) < 10 := by omega
                have hkn : (k : Int) < Mx.n := by rw [HNx.out]; exact hk10'
                have HF := hid (fun (W : World) (G : Nat) (h : PM W G Mx) => Frame_out G k W Mx _ h HOkx.out hkn)
                have HRd := hid (fun (W : World) (G : Nat) (h : PM W G Mx) => (show Calls Try.prog 52 #[.pointer (some ⟨G, 0, none⟩), .int .i64 k, .int .i64 0, .int .i64 256] W _ from Read_yes G k 0 256 W Mx _ h HOkx.out hkn (by omega)))
                clear hkn
                go_wp2_with (first
                  | (go_at_call 39; (with_reducible refine (xMachine X B _ HP.out.p.c0).mono ?_); rintro e w7 ⟨rfl, rfl⟩)
                  | (go_at_call 39; (with_reducible refine (xMachine U C _ HP3.out.q.c0).mono ?_); rintro e w7 ⟨rfl, rfl⟩)
                  | (go_at_call 39; (with_reducible refine (xMachine X B _ HP4.out.p.c0).mono ?_); rintro e w7 ⟨rfl, rfl⟩)
                  | (go_at_call 39; (with_reducible refine (xMachine U C _ HP5.out.q.c0).mono ?_); rintro e w7 ⟨rfl, rfl⟩)
                  | (go_at_call 50; (with_reducible refine (HF.out _ B HP.out.p.m).mono ?_); rintro e w3 ⟨rfl, g3⟩; have HP3 := hid ((HP.out.more g3).more (World.grownBy_alloc w3 (.cells #[.int .i64 (Mx.fr k).owner, .int .i64 (Mx.fr k).ty, .int .i64 (Mx.fr k).cnt, .int .i64 (Mx.fr k).tot] 93) none)); clear g3)
                  | (go_at_call 50; (with_reducible refine (HF.out _ C HP3.out.q.m).mono ?_); rintro e w4 ⟨rfl, g4⟩; have HG4 := hid g4; have HP4 := hid ((HP3.out.more g4).more (World.grownBy_alloc w4 (.cells #[.int .i64 (Mx.fr k).owner, .int .i64 (Mx.fr k).ty, .int .i64 (Mx.fr k).cnt, .int .i64 (Mx.fr k).tot] 93) none)); clear g4)
                  | (go_at_call 52; (with_reducible refine (HRd.out _ B HP4.out.p.m).mono ?_); rintro e w5 ⟨v5, rfl, hnew⟩; obtain ⟨p5, rfl, hp5, hc5, g5⟩ := newBytes_pos hnew (by rw [part_len]; omega); have HG5 := hid g5; have HP5 := hid (HP4.out.more g5); rw [part_len] at hc5 ⊢; have HC5 := hid hc5; clear hnew hc5 hp5 g5)
                  | (go_at_call 52; (with_reducible refine (HRd.out _ C HP5.out.q.m).mono ?_); rintro e w6 ⟨v6, rfl, hnew⟩; obtain ⟨p6, rfl, hp6, hc6, g6⟩ := newBytes_pos hnew (by rw [part_len]; omega); have HP6 := hid (HP5.out.more g6); rw [part_len] at hc6 ⊢; have kc2 := vconv_row w6 p6 0 256 256 _ (part_len (Mx.fr k) 0 256) (fun q hq => by rw [Nat.zero_add]; exact hc6 q hq); have kc1 := vconv_row w6 p5 0 256 256 _ (part_len (Mx.fr k) 0 256) (fun q hq => by rw [Nat.zero_add]; exact g6.cell (HC5.out q hq) (by simp)); have z0 := g6.cell (HG5.out.cell ((World.grownBy_alloc w4 (.cells #[.int .i64 (Mx.fr k).owner, .int .i64 (Mx.fr k).ty, .int .i64 (Mx.fr k).cnt, .int .i64 (Mx.fr k).tot] 93) none).cell (HG4.out.cell (a := ⟨w3.heap.size, 0, none⟩) (v := .int .i64 (Mx.fr k).owner) (by simp [go_sem]) (by simp)) (by simp)) (by simp)) (by simp); have z1 := g6.cell (HG5.out.cell ((World.grownBy_alloc w4 (.cells #[.int .i64 (Mx.fr k).owner, .int .i64 (Mx.fr k).ty, .int .i64 (Mx.fr k).cnt, .int .i64 (Mx.fr k).tot] 93) none).cell (HG4.out.cell (a := ⟨w3.heap.size, 1, none⟩) (v := .int .i64 (Mx.fr k).ty) (by simp [go_sem]) (by simp)) (by simp)) (by simp)) (by simp); have z2 := g6.cell (HG5.out.cell ((World.grownBy_alloc w4 (.cells #[.int .i64 (Mx.fr k).owner, .int .i64 (Mx.fr k).ty, .int .i64 (Mx.fr k).cnt, .int .i64 (Mx.fr k).tot] 93) none).cell (HG4.out.cell (a := ⟨w3.heap.size, 2, none⟩) (v := .int .i64 (Mx.fr k).cnt) (by simp [go_sem]) (by simp)) (by simp)) (by simp)) (by simp); have z3 := g6.cell (HG5.out.cell ((World.grownBy_alloc w4 (.cells #[.int .i64 (Mx.fr k).owner, .int .i64 (Mx.fr k).ty, .int .i64 (Mx.fr k).cnt, .int .i64 (Mx.fr k).tot] 93) none).cell (HG4.out.cell (a := ⟨w3.heap.size, 3, none⟩) (v := .int .i64 (Mx.fr k).tot) (by simp [go_sem]) (by simp)) (by simp)) (by simp)) (by simp); have y0 := g6.cell (HG5.out.cell (a := ⟨w4.heap.size, 0, none⟩) (v := .int .i64 (Mx.fr k).owner) (by simp [go_sem]) (by simp)) (by simp); have y1 := g6.cell (HG5.out.cell (a := ⟨w4.heap.size, 1, none⟩) (v := .int .i64 (Mx.fr k).ty) (by simp [go_sem]) (by simp)) (by simp); have y2 := g6.cell (HG5.out.cell (a := ⟨w4.heap.size, 2, none⟩) (v := .int .i64 (Mx.fr k).cnt) (by simp [go_sem]) (by simp)) (by simp); have y3 := g6.cell (HG5.out.cell (a := ⟨w4.heap.size, 3, none⟩) (v := .int .i64 (Mx.fr k).tot) (by simp [go_sem]) (by simp)) (by simp); clear hnew hc6 hp6 g6))
                go_roundw
                case rel =>
                  first
                    | exact ⟨k + 1, by go_num, by omega, HP6.out⟩
                    | (repeat apply Exists.intro
                       exact ⟨⟨k + 1, by go_num, by omega, HP6.out⟩, rfl⟩)
                case measure => simp [intOf]; omega
              · obtain rfl : k = 10 := by omega
                have hge : (10 : Int) ≤ ((10 : Nat) : Int) := by omega
                go_wp2
                go_ret
                exact ⟨rfl, HP.out.g⟩
        · obtain rfl : j = l.length := by omega
          have hge : (l.length : Int) ≤ l.length := by omega
          have hcase2 : u19 = .int .i64 ec ∧ u18 = .int .i64 mn ∧ Pair2 w wr X B U C Mx Mx sp sp pv pv2 := by
            rcases hcase with ⟨e1, e2, hz, hpr⟩ | ⟨_, e1, e2, hpr⟩
            · have he := updsV_end d l M (fun q hq => hz q hq hq)
              rw [HR.out] at he
              obtain ⟨x1, x2, x3⟩ : mn = l.length ∧ ec = 0 ∧ Mx = updsM d M l l.length := by simpa using he
              rw [← x3] at hpr
              exact ⟨by rw [e1, x2], by rw [e2, x1], hpr⟩
            · exact ⟨e1, e2, hpr⟩
          obtain ⟨rfl, rfl, hpr⟩ := hcase2
          have hb1 : ((mn : Int) != (mn : Int)) = false := by simp
          have hb2 : (ec != ec) = false := by simp
          go_wp2
          clear hb1 hb2
          have HEnd := hid hpr
          clear hpr
          obtain ⟨wq, hwq⟩ : ∃ x, x = wr := ⟨_, rfl⟩
          subst hwq
          go_loopw [23] (fun i wr => ∃ k : Nat, i = .int .i64 k ∧ k ≤ 10 ∧ Pair2 w wr X B U C Mx Mx sp sp pv pv2) (fun i _ => 10 - (intOf i).toNat)
          case atStart => exact ⟨0, rfl, by omega, HEnd.out⟩
          case round =>
            clear HEnd
            obtain ⟨k, rfl, hk, hpr⟩ := hrel
            have HP := hid hpr
            clear hpr
            have hk0 : (0 : Int) ≤ k := by omega
            by_cases hk10 : k < 10
            · have hk10' : (k : Int) < 10 := by omega
              have hkn : (k : Int) < Mx.n := by rw [HNx.out]; exact hk10'
              have HF := hid (fun (W : World) (G : Nat) (h : PM W G Mx) => Frame_out G k W Mx _ h HOkx.out hkn)
              have HRd := hid (fun (W : World) (G : Nat) (h : PM W G Mx) => (show Calls Try.prog 52 #[.pointer (some ⟨G, 0, none⟩), .int .i64 k, .int .i64 0, .int .i64 256] W _ from Read_yes G k 0 256 W Mx _ h HOkx.out hkn (by omega)))
              clear hkn
              go_wp2_with (first
                | (go_at_call 39; (with_reducible refine (xMachine X B _ HP.out.p.c0).mono ?_); rintro e w7 ⟨rfl, rfl⟩)
                | (go_at_call 39; (with_reducible refine (xMachine U C _ HP3.out.q.c0).mono ?_); rintro e w7 ⟨rfl, rfl⟩)
                | (go_at_call 39; (with_reducible refine (xMachine X B _ HP4.out.p.c0).mono ?_); rintro e w7 ⟨rfl, rfl⟩)
                | (go_at_call 39; (with_reducible refine (xMachine U C _ HP5.out.q.c0).mono ?_); rintro e w7 ⟨rfl, rfl⟩)
                | (go_at_call 50; (with_reducible refine (HF.out _ B HP.out.p.m).mono ?_); rintro e w3 ⟨rfl, g3⟩; have HP3 := hid ((HP.out.more g3).more (World.grownBy_alloc w3 (.cells #[.int .i64 (Mx.fr k).owner, .int .i64 (Mx.fr k).ty, .int .i64 (Mx.fr k).cnt, .int .i64 (Mx.fr k).tot] 93) none)); clear g3)
                | (go_at_call 50; (with_reducible refine (HF.out _ C HP3.out.q.m).mono ?_); rintro e w4 ⟨rfl, g4⟩; have HG4 := hid g4; have HP4 := hid ((HP3.out.more g4).more (World.grownBy_alloc w4 (.cells #[.int .i64 (Mx.fr k).owner, .int .i64 (Mx.fr k).ty, .int .i64 (Mx.fr k).cnt, .int .i64 (Mx.fr k).tot] 93) none)); clear g4)
                | (go_at_call 52; (with_reducible refine (HRd.out _ B HP4.out.p.m).mono ?_); rintro e w5 ⟨v5, rfl, hnew⟩; obtain ⟨p5, rfl, hp5, hc5, g5⟩ := newBytes_pos hnew (by rw [part_len]; omega); have HG5 := hid g5; have HP5 := hid (HP4.out.more g5); rw [part_len] at hc5 ⊢; have HC5 := hid hc5; clear hnew hc5 hp5 g5)
                | (go_at_call 52; (with_reducible refine (HRd.out _ C HP5.out.q.m).mono ?_); rintro e w6 ⟨v6, rfl, hnew⟩; obtain ⟨p6, rfl, hp6, hc6, g6⟩ := newBytes_pos hnew (by rw [part_len]; omega); have HP6 := hid (HP5.out.more g6); rw [part_len] at hc6 ⊢; have kc2 := vconv_row w6 p6 0 256 256 _ (part_len (Mx.fr k) 0 256) (fun q hq => by rw [Nat.zero_add]; exact hc6 q hq); have kc1 := vconv_row w6 p5 0 256 256 _ (part_len (Mx.fr k) 0 256) (fun q hq => by rw [Nat.zero_add]; exact g6.cell (HC5.out q hq) (by simp)); have z0 := g6.cell (HG5.out.cell ((World.grownBy_alloc w4 (.cells #[.int .i64 (Mx.fr k).owner, .int .i64 (Mx.fr k).ty, .int .i64 (Mx.fr k).cnt, .int .i64 (Mx.fr k).tot] 93) none).cell (HG4.out.cell (a := ⟨w3.heap.size, 0, none⟩) (v := .int .i64 (Mx.fr k).owner) (by simp [go_sem]) (by simp)) (by simp)) (by simp)) (by simp); have z1 := g6.cell (HG5.out.cell ((World.grownBy_alloc w4 (.cells #[.int .i64 (Mx.fr k).owner, .int .i64 (Mx.fr k).ty, .int .i64 (Mx.fr k).cnt, .int .i64 (Mx.fr k).tot] 93) none).cell (HG4.out.cell (a := ⟨w3.heap.size, 1, none⟩) (v := .int .i64 (Mx.fr k).ty) (by simp [go_sem]) (by simp)) (by simp)) (by simp)) (by simp); have z2 := g6.cell (HG5.out.cell ((World.grownBy_alloc w4 (.cells #[.int .i64 (Mx.fr k).owner, .int .i64 (Mx.fr k).ty, .int .i64 (Mx.fr k).cnt, .int .i64 (Mx.fr k).tot] 93) none).cell (HG4.out.cell (a := ⟨w3.heap.size, 2, none⟩) (v := .int .i64 (Mx.fr k).cnt) (by simp [go_sem]) (by simp)) (by simp)) (by simp)) (by simp); have z3 := g6.cell (HG5.out.cell ((World.grownBy_alloc w4 (.cells #[.int .i64 (Mx.fr k).owner, .int .i64 (Mx.fr k).ty, .int .i64 (Mx.fr k).cnt, .int .i64 (Mx.fr k).tot] 93) none).cell (HG4.out.cell (a := ⟨w3.heap.size, 3, none⟩) (v := .int .i64 (Mx.fr k).tot) (by simp [go_sem]) (by simp)) (by simp)) (by simp)) (by simp); have y0 := g6.cell (HG5.out.cell (a := ⟨w4.heap.size, 0, none⟩) (v := .int .i64 (Mx.fr k).owner) (by simp [go_sem]) (by simp)) (by simp); have y1 := g6.cell (HG5.out.cell (a := ⟨w4.heap.size, 1, none⟩) (v := .int .i64 (Mx.fr k).ty) (by simp [go_sem]) (by simp)) (by simp); have y2 := g6.cell (HG5.out.cell (a := ⟨w4.heap.size, 2, none⟩) (v := .int .i64 (Mx.fr k).cnt) (by simp [go_sem]) (by simp)) (by simp); have y3 := g6.cell (HG5.out.cell (a := ⟨w4.heap.size, 3, none⟩) (v := .int .i64 (Mx.fr k).tot) (by simp [go_sem]) (by simp)) (by simp); clear hnew hc6 hp6 g6))
              go_roundw
              case rel =>
                first
                  | exact ⟨k + 1, by go_num, by omega, HP6.out⟩
                  | (repeat apply Exists.intro
                     exact ⟨⟨k + 1, by go_num, by omega, HP6.out⟩, rfl⟩)
              case measure => simp [intOf]; omega
            · obtain rfl : k = 10 := by omega
              have hge : (10 : Int) ≤ ((10 : Nat) : Int) := by omega
              go_wp2
              go_ret
              exact ⟨rfl, HP.out.g⟩
theorem came_cap {H : Type} {enc : TypeId × Value → H} {w : World} {p : Option Addr} {len cap : Nat} (h : Flat.Came enc Try.prog w 0 (fun _ => true) true 77 (.slice p len cap)) : len ≤ cap := by
  obtain ⟨fuel, x, h, _⟩ := h
  rcases open_slice Try.underlying77 h with ⟨hcs, _⟩ | ⟨a, len', cap', m, n, D, Pl, hcs, _, hl, _⟩
  · simp only [List.cons.injEq, Value.slice.injEq, and_true] at hcs
    omega
  · simp only [List.cons.injEq, Value.slice.injEq, and_true] at hcs
    omega
theorem main {H : Type} {enc : TypeId × Value → H} (v0 v1 v2 v3 : Value) (W : World) (c0 : Flat.Came enc Try.prog W 0 (fun _ => true) true 70 v0) (c1 : Flat.Came enc Try.prog W 0 (fun _ => true) true 71 v1) (c2 : Flat.Came enc Try.prog W 0 (fun _ => true) true 3 v2) (c3 : Flat.Came enc Try.prog W 0 (fun _ => true) true 77 v3) :
    Calls Try.prog 13 #[v0, v1, v2, v3] W fun e w' => e = .returned (.bool true) ∧ W.grownBy w' none := by
  obtain ⟨pa, ps, cap, rfl, hps, hp⟩ := open_mputs c0
  obtain ⟨po, os, co, rfl, hos, ho⟩ := open_mops c1
  obtain ⟨d, rfl, _⟩ := c2.int Try.underlying3
  obtain ⟨pb, l, cb, rfl, hlen, hl, hsrc⟩ := open_upds c3
  exact walk pa cap ps po co os d pb cb l W hp hps ho hos hl hlen hsrc (came_cap c3)
theorem own : ownKnob Try.prog.godebug = none := by kernel_rfl
theorem laidOut : laidOutB Try.prog = true := by kernel_rfl

set_option maxRecDepth 100000 in
theorem lifted (os : Os) (started : os.Started) (H : Type) (enc : TypeId × Value → H) :
    ReturnsInHanded {} Try.checked os 13 .any (Rows.mmuBatchSpec.pre6 enc Try.prog Try.f13 Rows.mmuBatchRow.domain false) (Rows.mmuBatchSpec.post enc Try.prog Try.f13 false true false false) := by
  refine returnsInHanded_of_change_sized (C := Try.checked) own started (by kernel_rfl) Try.func13
    (ChangeSpec.witness6 (enc := enc) (C := Try.checked) false ⟨#[], #[.slice none 0 0, .slice none 0 0, .int .i64 0, .slice none 0 0], []⟩ 8 (by kernel_rfl) (by kernel_rfl) (by kernel_rfl) (by kernel_rfl)) ?_
  intro W base args ds gs before hval0 hW _ hsz0 _
  have hsz : (DataW.weightsEach Try.prog (Try.f13.params.toList ++ Rows.mmuBatchSpec.plain.varTypes Try.prog) (ds ++ gs)).all (· ≤ reachBytes) = true := hsz0
  clear hsz0
  have hval : ∀ (j : Nat) t v, Try.f13.params[j]? = some t → args[j]? = some v → Value.okWide Try.prog W .any base t v := hval0
  have hW' := hW
  obtain ⟨p, q, hA0, hV, rfl, hfz, hnd⟩ := hW
  have hA : DataW.TrodAll enc Try.prog W 0 (fun _ => true) true Try.f13.params.toList args.toList ds p := hA0
  rw [Try.params13] at hA hval hsz
  obtain ⟨v0, vs0, d0, ds0, p0, q0, hargs, rfl, rfl, h0, r0⟩ := trodAll_cons hA
  obtain ⟨v1, vs1, d1, ds1, p1, q1, rfl, rfl, rfl, h1, r1⟩ := trodAll_cons r0
  obtain ⟨v2, vs2, d2, ds2, p2, q2, rfl, rfl, rfl, h2, r2⟩ := trodAll_cons r1
  obtain ⟨v3, vs3, d3, ds3, p3, q3, rfl, rfl, rfl, h3, r3⟩ := trodAll_cons r2
  obtain ⟨rfl, rfl, rfl⟩ := trodAll_nil r3
  obtain rfl : args = #[v0, v1, v2, v3] := by cases args; simp_all
  obtain ⟨rfl, rfl⟩ := trodVars_none hV
  obtain ⟨ps0, ln0, cp0, rfl⟩ := okWide_slice Try.underlying70 (hval 0 70 v0 rfl rfl)
  have k0 := h0
  have lt0 : ∀ x ∈ p0, x.block < W.heap.size := by obtain ⟨m, hm⟩ := k0; exact DataW.trod_lt m _ _ _ hm
  have c0 : Flat.Came enc Try.prog W 0 (fun _ => true) true 70 (.slice ps0 ln0 cp0) := by
    obtain ⟨fuel, hf⟩ := h0
    exact ⟨fuel, _, hf, fun n hn => by
      have := List.all_eq_true.1 hsz n (DataW.weights_mem_each (j := 0) rfl rfl n hn)
      simpa using this⟩
  obtain ⟨ps1, ln1, cp1, rfl⟩ := okWide_slice Try.underlying71 (hval 1 71 v1 rfl rfl)
  have k1 := h1
  have lt1 : ∀ x ∈ p1, x.block < W.heap.size := by obtain ⟨m, hm⟩ := k1; exact DataW.trod_lt m _ _ _ hm
  have c1 : Flat.Came enc Try.prog W 0 (fun _ => true) true 71 (.slice ps1 ln1 cp1) := by
    obtain ⟨fuel, hf⟩ := h1
    exact ⟨fuel, _, hf, fun n hn => by
      have := List.all_eq_true.1 hsz n (DataW.weights_mem_each (j := 1) rfl rfl n hn)
      simpa using this⟩
  obtain ⟨a2, rfl, rfl, rfl, w2⟩ := open_int Try.underlying3 (hval 2 3 v2 rfl rfl) h2
  have k2 := h2
  have lt2 : ∀ x ∈ ([] : List MemPlace), x.block < W.heap.size := by obtain ⟨m, hm⟩ := k2; exact DataW.trod_lt m _ _ _ hm
  have c2 : Flat.Came enc Try.prog W 0 (fun _ => true) true 3 (.int .i64 a2) := by
    obtain ⟨fuel, hf⟩ := h2
    exact ⟨fuel, _, hf, fun n hn => by
      have := List.all_eq_true.1 hsz n (DataW.weights_mem_each (j := 2) rfl rfl n hn)
      simpa using this⟩
  obtain ⟨ps3, ln3, cp3, rfl⟩ := okWide_slice Try.underlying77 (hval 3 77 v3 rfl rfl)
  have k3 := h3
  have lt3 : ∀ x ∈ p3, x.block < W.heap.size := by obtain ⟨m, hm⟩ := k3; exact DataW.trod_lt m _ _ _ hm
  have c3 : Flat.Came enc Try.prog W 0 (fun _ => true) true 77 (.slice ps3 ln3 cp3) := by
    obtain ⟨fuel, hf⟩ := h3
    exact ⟨fuel, _, hf, fun n hn => by
      have := List.all_eq_true.1 hsz n (DataW.weights_mem_each (j := 3) rfl rfl n hn)
      simpa using this⟩
  clear hA0 hval0
  refine (main (.slice ps0 ln0 cp0) (.slice ps1 ln1 cp1) (.int .i64 a2) (.slice ps3 ln3 cp3) W c0 c1 c2 c3).mono fun e W' ⟨he, hg⟩ => ?_
  subst he
  have bel := below_grown' hg
  simp only [List.append_nil, List.nil_append] at hW'
  exact ⟨_, rfl, _, _, _, [], _, [], hW', trodAll_mk1 (shut_bool Try.underlying4 _), (trodAll_cons_mk (Below.trod laidOut (by kernel_rfl) (of_decide_eq_true (by kernel_rfl)) k0 bel lt0) (trodAll_cons_mk (Below.trod laidOut (by kernel_rfl) (of_decide_eq_true (by kernel_rfl)) k1 bel lt1) (trodAll_cons_mk (Below.trod laidOut (by kernel_rfl) (of_decide_eq_true (by kernel_rfl)) k2 bel lt2) (trodAll_cons_mk (Below.trod laidOut (by kernel_rfl) (of_decide_eq_true (by kernel_rfl)) k3 bel lt3) trodAll_mk0)))), rfl, bel.frame _, fun h => by cases h⟩

theorem proved : Rows.MmuBatchSaid :=
  OpenClaim.holds_of_wide 13 Try.f13 rfl rfl rfl rfl rfl rfl rfl ⟨rfl, rfl, rfl, rfl, rfl⟩ rfl rfl rfl rfl rfl (by kernel_rfl) Try.func13 (by kernel_rfl)
    (of_decide_eq_true (by kernel_rfl)) (by unfold Func.isWrapper; first | (rw [if_pos (by decide +kernel)]; kernel_rfl) | (rw [if_neg (by decide +kernel)]; exact ⟨rfl, rfl⟩))
    (fun os started H enc _ => lifted os started H enc)
#print axioms proved
end Go.Proofs.Ytmkjlglgmepbeaa.lawMmuBatch
