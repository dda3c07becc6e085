/-
  EventTells: for every two scripts of calls and every two numbers the law returns true, and what was there stays. No condition.
-/
import Derived.Test.YtjgikapoohibnaaEvW
import Derived.Test.YtjgikapoohibnaaLift
import Derived.ProofKit
import Derived.OpenShut
import Derived.Deep.RegionWith
set_option linter.unusedSimpArgs false
set_option linter.unusedVariables false
namespace Go.Proofs.Ytjgikapoohibnaa.lawEvTells
open Go.ChangeShapes Go.WideShapes Go.ChangeAt Go.RowKit Gen
set_option maxHeartbeats 1500000

set_option maxRecDepth 100000 in
theorem ePendTot (X : Nat) (w : World) (S : Ev) (h : EvAt w X S) : Calls Try.prog 15 #[.pointer (some ⟨X, 0, none⟩)] w fun e w' => e = .returned (.int .i64 (totE S 8 : Nat)) ∧ w.grownBy w' none := by
  have H := hid h
  clear h
  go_enter Try.func15, Try.ntmps15
  go_wp2
  go_loopw [3, 4] (fun n i wr => ∃ k : Nat, i = .int .i64 k ∧ n = .int .i64 (totE S k : Nat) ∧ k ≤ 8 ∧ EvAt wr X S ∧ w.grownBy wr none) (fun _ i _ => 8 - (intOf i).toNat)
  case atStart => exact ⟨0, rfl, rfl, by omega, H.out, World.grownBy.refl _ _⟩
  case round =>
    obtain ⟨k, rfl, rfl, hk, hx, hg⟩ := hrel
    have HX := hid hx; have HG := hid hg
    clear hx hg
    have hk0 : (0 : Int) ≤ k := by omega
    have ht := totE_le S k
    by_cases hlt : k < 8
    · have hlt' : (k : Int) < 8 := by omega
      have hp := pendL_le S k 32
      have HT := hid (show totE S (k + 1) = totE S k + (pendL S k 32).length from rfl)
      have hP := ePending X k wr S HX.out
      rw [show pendR S k = pendL S k 32 by simp [pendR, edOk_yes hlt]] at hP
      have HP := hid hP
      clear hP
      go_wp2_with (go_at_call 27; refine HP.out.mono ?_; rintro e w1 ⟨v, rfl, hn⟩; obtain ⟨pv, cv, rfl⟩ := newInts_slice hn; have HN := hid hn.2; clear hn)
      go_roundw
      case rel => exact ⟨k + 1, by go_num, by rw [HT.out]; go_num, by omega, HX.out.grow0 HN.out, HG.out.trans HN.out⟩
      case measure => simp [intOf]; omega
    · obtain rfl : k = 8 := by omega
      have hge : (8 : Int) ≤ ((8 : Nat) : Int) := by omega
      go_wp2
      go_ret
      exact ⟨rfl, HG.out⟩
/-- behind the Send: both sides, the box P of the port that sends, the box Q of its peer as it was read last -/
structure Lp (w W : World) (X Y P Q r n : Nat) (T S : Ev) (L : ELay) : Prop where
  x : EvAt W X T
  y : RE W Y S L
  okT : EOk T
  okS : EOk S
  told : Told T r n
  p1 : W.cell? ⟨P, 1, none⟩ = some (.int .i64 r)
  p2 : W.cell? ⟨P, 2, none⟩ = some (.int .i64 n)
  qr : ∃ q : Prt, Row W Q 35 6 q.cell
  np : ¬ efoot X Y L P
  nq : ¬ efoot X Y L Q
  ne : P ≠ Q
  farX : w.heap.size ≤ X
  farY : ∀ k, L.foot Y k → w.heap.size ≤ k
  farQ : w.heap.size ≤ Q
  g : w.grownBy W none
section
variable {w W W' : World} {X Y P Q r n : Nat} {T T' S S' : Ev} {L : ELay}
theorem Lp.more (h : Lp w W X Y P Q r n T S L) (hg : W.grownBy W' none) : Lp w W' X Y P Q r n T S L :=
  ⟨h.x.grow0 hg, h.y.grow0 hg, h.okT, h.okS, h.told, hg.cell h.p1 (by simp), hg.cell h.p2 (by simp), h.qr.elim fun q hq => ⟨q, hq.grown hg (by simp)⟩, h.np, h.nq, h.ne, h.farX, h.farY, h.farQ, h.g.trans hg⟩
theorem Lp.toC (h : Lp w W X Y P Q r n T S L) : EC2 W W X Y T S L := ⟨h.x, h.y, h.okT, h.okS, Chg.refl _ _⟩
theorem Lp.play (h : Lp w W X Y P Q r n T S L) (hc : EC2 W W' X Y T' S' L) (ht : Told T' r n) : Lp w W' X Y P Q r n T' S' L :=
  ⟨hc.x, hc.y, hc.okT, hc.okS, ht, hc.c.cell h.p1 h.np, hc.c.cell h.p2 h.np, h.qr.elim fun q hq => ⟨q, hq.chg hc.c h.nq⟩, h.np, h.nq, h.ne, h.farX, h.farY, h.farQ, hc.c.grown h.g fun k e => e.elim (fun e => e ▸ h.farX) (h.farY k)⟩
theorem row6_set {W : World} {Q : Nat} {q : Prt} (h : Row W Q 35 6 q.cell) (q' : Prt) : Row (set6 W Q 0 q') Q 35 6 q'.cell := by
  have h1 := (((((h.set (k := 0) (v := .int .i64 q'.k) (X' := ({ q with k := q'.k } : Prt).cell) rfl (fun j _ e => by match j, e with | 0, e => exact absurd rfl e | 1, _ => rfl | 2, _ => rfl | 3, _ => rfl | 4, _ => rfl | k + 5, _ => rfl)).set (k := 1) (v := .int .i64 q'.r) (X' := ({ q with k := q'.k, r := q'.r } : Prt).cell) rfl (fun j _ e => by match j, e with | 0, _ => rfl | 1, e => exact absurd rfl e | 2, _ => rfl | 3, _ => rfl | 4, _ => rfl | k + 5, _ => rfl)).set (k := 2) (v := .int .i64 q'.p) (X' := ({ q with k := q'.k, r := q'.r, p := q'.p } : Prt).cell) rfl (fun j _ e => by match j, e with | 0, _ => rfl | 1, _ => rfl | 2, e => exact absurd rfl e | 3, _ => rfl | 4, _ => rfl | k + 5, _ => rfl)).set (k := 3) (v := .int .i64 q'.v) (X' := ({ q with k := q'.k, r := q'.r, p := q'.p, v := q'.v } : Prt).cell) rfl (fun j _ e => by match j, e with | 0, _ => rfl | 1, _ => rfl | 2, _ => rfl | 3, e => exact absurd rfl e | 4, _ => rfl | k + 5, _ => rfl)).set (k := 4) (v := .bool q'.pe) (X' := ({ q with k := q'.k, r := q'.r, p := q'.p, v := q'.v, pe := q'.pe } : Prt).cell) rfl (fun j _ e => by match j, e with | 0, _ => rfl | 1, _ => rfl | 2, _ => rfl | 3, _ => rfl | 4, e => exact absurd rfl e | k + 5, _ => rfl)).set (k := 5) (v := .bool q'.ma) (X' := q'.cell) rfl (fun j hj e => by match j, hj, e with | 0, _, _ => rfl | 1, _, _ => rfl | 2, _, _ => rfl | 3, _, _ => rfl | 4, _, _ => rfl | 5, _, e => exact absurd rfl e | k + 6, hj, _ => exact absurd hj (by omega))
  exact h1
theorem Lp.setQ (h : Lp w W X Y P Q r n T S L) (q' : Prt) : Lp w (set6 W Q 0 q') X Y P Q r n T S L := by
  have hg := set6_grown W Q 0 q'
  have c : Chg (fun k => k = Q) W (set6 W Q 0 q') := Chg.one hg rfl
  refine ⟨h.x.chg c fun e => h.nq (.inl e.symm), h.y.chg c fun k hk e => h.nq (.inr (e ▸ hk)), h.okT, h.okS, h.told, c.cell h.p1 h.ne, c.cell h.p2 h.ne, h.qr.elim fun q hq => ⟨q', row6_set hq q'⟩, h.np, h.nq, h.ne, h.farX, h.farY, h.farQ, h.g.andThen hg fun j e => .inl (by cases e; exact h.farQ)⟩
theorem boxRow (w : World) (q : Prt) : Row (w.alloc (.cells #[.int .i64 q.k, .int .i64 q.r, .int .i64 q.p, .int .i64 q.v, .bool q.pe, .bool q.ma] 35)) w.heap.size 35 6 q.cell := by
  obtain ⟨W, hW, _, h, _⟩ := box6 w q
  rw [hW]; exact h
theorem EB.fresh (h : EB w W X Y S L) : ¬ efoot X Y L W.heap.size := fun e => e.elim (fun e => by have := h.x.lt; omega) fun e => Nat.lt_irrefl _ (h.y.lt e)
theorem EM.fresh (h : EM w W X Y S T L) : ¬ efoot X Y L W.heap.size := fun e => e.elim (fun e => by have := h.x.lt; omega) fun e => Nat.lt_irrefl _ (h.y.lt e)
end
theorem portR_yes (S : Ev) {d n : Nat} (hd : d < 8) (hn : n < 32) : portR S d n = (S.pt d n, 0) := by
  simp [portR, edOk_yes hd, epOk_yes hn]
set_option maxRecDepth 100000 in
theorem walk (po qo : Option Addr) (co cq : Nat) (os qs : List EOp) (d p : Int) (w : World) (ho : EOpsIn w po os) (hos : os.length ≤ 140737488355328) (hq : EOpsIn w qo qs) (hqs : qs.length ≤ 140737488355328) :
    Calls Try.prog 5 #[.slice po os.length co, .int .i64 d, .int .i64 p, .slice qo qs.length cq] w fun e w' => e = .returned (.bool true) ∧ w.grownBy w' none := by
  have HO := hid ho; have HOs := hid hos; have HQ := hid hq; have HQs := hid hqs
  clear ho hos hq hqs
  go_enter Try.func5, Try.ntmps5
  go_wp2_with (first
    | (go_at_call 9; refine (eNew _).mono ?_; rintro e w1 ⟨X, rfl, h1, g1, f1⟩; have H1 := hid h1; have G1 := hid g1; have F1 := hid f1; clear h1 g1 f1)
    | (go_at_call 10; refine (rNew _).mono ?_; rintro e w2 ⟨Y, L, rfl, h2, g2, f2⟩; have HE := hid (eStart H1.out G1.out F1.out h2 g2 f2); clear h2 g2 f2))
  go_loopw [11] (fun i wr => ∃ k : Nat, i = .int .i64 k ∧ k ≤ os.length ∧ EB w wr X Y (runE os k) L) (fun i _ => os.length - (intOf i).toNat)
  case atStart => exact ⟨0, rfl, by omega, HE.out⟩
  case round =>
    clear HE
    obtain ⟨k, rfl, hk, he⟩ := hrel
    have HE := hid he
    clear he
    have hk0 : (0 : Int) ≤ k := by omega
    by_cases hlt : k < os.length
    · have hlt' : (k : Int) < os.length := by omega
      obtain ⟨b', off, rfl, hb', d0, d1, d2, d3, d4⟩ := HO.out k hlt
      have HSt := hid (runE_succ os k hlt)
      have gw := HE.out.g
      have k0 := gw.cell d0 (by simp); have k1 := gw.cell d1 (by simp); have k2 := gw.cell d2 (by simp); have k3 := gw.cell d3 (by simp); have k4 := gw.cell d4 (by simp)
      have hj2 := HOs.out
      clear d0 d1 d2 d3 d4 gw
      generalize os[k] = r at *
      go_wp2_with (go_at_call 11; refine (ePlay w _ X Y r _ L HE.out).mono ?_; rintro e w3 ⟨rfl, h3⟩; have H3 := hid h3; clear h3)
      go_roundw
      case rel => exact ⟨k + 1, by go_num, by omega, by rw [HSt.out]; exact H3.out⟩
      case measure => simp [intOf]; omega
    · obtain rfl : k = os.length := by omega
      have hge : (os.length : Int) ≤ os.length := by omega
      obtain ⟨S, hS⟩ : ∃ S, runE os os.length = S := ⟨_, rfl⟩
      rw [hS] at HE
      clear hS
      have ht := totE_le S 8
      by_cases hdp : edOk d = true ∧ epOk p = true
      · obtain ⟨D, rfl, hD⟩ := edOk_nat hdp.1
        obtain ⟨N, rfl, hN⟩ := epOk_nat hdp.2
        have hP := fun W (h : EvAt W X S) => ePort X D N W S h
        simp only [portR_yes S hD hN, Prt.val] at hP
        by_cases h2 : (S.pt D N).k = 2
        · obtain ⟨r, n, hr, hn, e1, e2, e3⟩ := (HE.out.ok D N hD hN).bound h2
          rw [h2, e1, e2] at hP
          have hE : sendE S D N = (0, pendE S r n) := by simp [sendE, hdp, h2, e1, e2]
          have hS := fun W (h : EvAt W X S) => eSend X D N W S HE.out.ok h
          simp only [hE] at hS
          have hok := HE.out.ok.send D N
          rw [hE] at hok
          simp only at hok
          have hT0 := Told.pend S r n
          have hle := totE_pend S r n
          generalize pendE S r n = T at *
          have HT0 := hid hT0
          have hQ := fun W (h : EvAt W X T) => ePort X r n W T h
          simp only [portR_yes T hr hn, Prt.val] at hQ
          have hU := fun W (h : EvAt W X T) => eUpcall X r W T h
          simp only [show upR T r = T.up r by simp [upR, edOk_yes hr]] at hU
          rw [hT0.pe] at hQ
          have hle' : ((totE T 8 : Nat) : Int) ≤ (totE S 8 : Nat) + 1 := by omega
          have ht2 := totE_le T 8
          have HP := hid hP; have HS := hid hS
          have HT := hid (fun W (h : EvAt W X S) => ePendTot X W S h)
          have HT2 := hid (fun W (h : EvAt W X T) => ePendTot X W T h)
          have HOk := hid hok
          have Hr := hid hr; have Hn := hid hn
          clear hP hS hE hdp h2 e1 e2 e3 hle hok hT0
          generalize totE S 8 = sa at *
          generalize totE T 8 = sb at *
          generalize (S.pt D N).v = q3 at *
          generalize (S.pt D N).pe = q4 at *
          generalize (S.pt D N).ma = q5 at *
          cases hma : (T.pt r n).ma with
          | true =>
            rw [hma] at hQ
            have HQp := hid hQ
            clear hQ hma hU
            generalize (T.pt r n).k = t0 at *
            generalize (T.pt r n).r = t1 at *
            generalize (T.pt r n).p = t2 at *
            generalize (T.pt r n).v = t3 at *
            go_wp2_with (first
              | (go_at_call 14; first
                | (with_reducible refine (HP.out _ HE.out.x).mono ?_; rintro e w4 ⟨rfl, g4⟩; obtain ⟨W4, hW4, g40, b9, b0, b1, b2, b8⟩ := box6 w4 ⟨2, r, n, q3, q4, q5⟩; have HnP := hid (EB.fresh (HE.out.more g4)); have H4 := hid ((HE.out.more g4).more g40); have HnX := hid (show (some w4.heap.size : Option Nat) ≠ some X from fun e => by have := (HE.out.more g4).x.lt; cases e; omega); simp only at b0 b1 b2 hW4; clear g4 g40 HP b9 b8)
                | (with_reducible refine (HQp.out _ H6.out.x).mono ?_; rintro e w7 ⟨rfl, g7⟩; obtain ⟨W7, hW7, g70, y9, y0, y1, y2, y3, y4, y5⟩ := box6 w7 ⟨t0, t1, t2, t3, true, true⟩; have HnQ := hid (EM.fresh (H6.out.more g7)); have HgQ := hid (H6.out.more g7).g.size; have HPQ := hid (show w4.heap.size ≠ w7.heap.size from by have := World.block_lt_of_cell? _ _ (g7.cell d1 (by simp)); simp only at this; omega); have HRow := hid (boxRow w7 ⟨t0, t1, t2, t3, true, true⟩); have H7 := hid ((H6.out.more g7).more g70); have g77 := g7.trans g70; have z0 := g77.cell d0 (by simp); have z1 := g77.cell d1 (by simp); have z2 := g77.cell d2 (by simp); simp only at hW7 y0 y1 y2 y3 y4 y5; clear g7 g70 g77 y9))
              | (go_at_call 16; refine (HS.out _ H5.out.x).mono ?_; rintro e w6 ⟨rfl, h6⟩; have H6 := hid (H5.out.one h6); have d0 := h6.2.cell c0 HnX.out; have d1 := h6.2.cell c1 HnX.out; have d2 := h6.2.cell c2 HnX.out; clear h6 c0 c1 c2)
              | (go_at_call 15; first | (with_reducible refine (HT2.out _ H7.out.x).mono ?_; rintro e w8 ⟨rfl, g8⟩; have H8 := hid (H7.out.more g8); have HR8 := hid (HRow.out.grown (show _ from (hW7 ▸ g8)) (by simp)); have x1 := g8.cell z1 (by simp); have x2 := g8.cell z2 (by simp); clear g8 z0 z1 z2) | (with_reducible refine (HT.out _ H4.out.x).mono ?_; rintro e w5 ⟨rfl, g5⟩; have H5 := hid (H4.out.more g5); have c0 := g5.cell b0 (by simp); have c1 := g5.cell b1 (by simp); have c2 := g5.cell b2 (by simp); clear g5 b0 b1 b2)))
            have HB := hid (show Lp w w8 X Y w4.heap.size w7.heap.size r n T S L from ⟨H8.out.x, H8.out.y, HOk.out, HE.out.ok, HT0.out, x1, x2, ⟨_, HR8.out⟩, HnP.out, HnQ.out, HPQ.out, HE.out.farX, HE.out.farY, HgQ.out, H8.out.g⟩)
            have HP8 := Hr
            clear x1 x2 hW7 y0 y1 y2 y3 y4 y5 hW4 d0 d1 d2
            obtain ⟨P, hPn⟩ : ∃ P, w4.heap.size = P := ⟨_, rfl⟩
            obtain ⟨Q, hQn⟩ : ∃ Q, w7.heap.size = Q := ⟨_, rfl⟩
            rw [hPn, hQn] at HB
            rw [hPn, hQn]
            clear hPn hQn HE H8 HR8 HnP HnQ HPQ HgQ H7
            go_loopw [18] (fun i wr => ∃ (j : Nat) (T' S' : Ev), i = .int .i64 j ∧ j ≤ qs.length ∧ Lp w wr X Y P Q r n T' S' L) (fun i _ => qs.length - (intOf i).toNat)
            case atStart => exact ⟨0, _, _, rfl, by omega, HB.out⟩
            case round =>
              clear HB
              obtain ⟨j, T', S', rfl, hj, hl⟩ := hrel
              have HL := hid hl
              clear hl
              have hj0 : (0 : Int) ≤ j := by omega
              by_cases hlt : j < qs.length
              · have hlt' : (j : Int) < qs.length := by omega
                obtain ⟨b', off, rfl, hb', d0, d1, d2, d3, d4⟩ := HQ.out j hlt
                have gw := HL.out.g
                have k0 := gw.cell d0 (by simp); have k1 := gw.cell d1 (by simp); have k2 := gw.cell d2 (by simp); have k3 := gw.cell d3 (by simp); have k4 := gw.cell d4 (by simp)
                have hj2 := HQs.out
                clear d0 d1 d2 d3 d4 gw
                generalize qs[j] = o at *
                obtain ⟨W1, hW1, hg1, hs1, b0, b1, b2, b3, b4⟩ := box5e wr o.x o.a o.b o.c o.on
                have HL1 := hid (HL.out.more hg1)
                have a1 := HL1.out.p1; have a2 := HL1.out.p2
                clear hg1 hs1
                by_cases hskip : o.a = r ∨ o.x = 3 ∨ o.x < 0 ∨ 8 < o.x
                · clear b2 b3 b4
                  by_cases q1 : o.a = r
                  · have z1 : (o.a == (r : Int)) = true := by simp [q1]
                    clear q1 hskip
                    go_wp2
                    go_roundw
                    case rel => exact ⟨j + 1, T', S', by go_num, by omega, HL1.out⟩
                    case measure => simp [intOf]; omega
                  · have z1 : (o.a == (r : Int)) = false := by simp [q1]
                    by_cases q2 : o.x = 3
                    · have z2 : (o.x == 3) = true := by simp [q2]
                      clear q1 q2 hskip
                      go_wp2
                      go_roundw
                      case rel => exact ⟨j + 1, T', S', by go_num, by omega, HL1.out⟩
                      case measure => simp [intOf]; omega
                    · have z2 : (o.x == 3) = false := by simp [q2]
                      by_cases q3 : o.x < 0
                      · clear q1 q2 hskip
                        go_wp2
                        go_roundw
                        case rel => exact ⟨j + 1, T', S', by go_num, by omega, HL1.out⟩
                        case measure => simp [intOf]; omega
                      · have q4 : 8 < o.x := by omega
                        have q5 : 0 ≤ o.x := by omega
                        clear q1 q2 hskip
                        go_wp2
                        go_roundw
                        case rel => exact ⟨j + 1, T', S', by go_num, by omega, HL1.out⟩
                        case measure => simp [intOf]; omega
                · have z1 : (o.a == (r : Int)) = false := by simp; omega
                  have z2 : (o.x == 3) = false := by simp; omega
                  have z3 : 0 ≤ o.x := by omega
                  have z4 : o.x ≤ 8 := by omega
                  have HTd := hid (HL1.out.told.step o (by omega) (by omega) z3 z4)
                  have HPl := hid (fPlayC W1 W1 X Y o T' S' L HL1.out.toC)
                  clear hskip
                  generalize hT2 : stepE T' o = T2 at *
                  generalize hS2 : stepE S' o = S2 at *
                  have hQ2 := fun W (h : EvAt W X T2) => ePort X r n W T2 h
                  simp only [portR_yes T2 Hr.out Hn.out, Prt.val] at hQ2
                  rw [HTd.out.pe] at hQ2
                  have hU2 := fun W (h : EvAt W X T2) => eUpcall X r W T2 h
                  simp only [show upR T2 r = T2.up r by simp [upR, edOk_yes Hr.out]] at hU2
                  obtain ⟨m, hm⟩ : ∃ m, (T2.pt r n).ma = m := ⟨_, rfl⟩
                  rw [hm] at hQ2
                  have HUp := hid (fun e : m = false => HTd.out.up (hm.trans e))
                  have HQ2 := hid hQ2
                  clear hQ2 hm hT2 hS2
                  generalize (T2.pt r n).k = t0 at *
                  generalize (T2.pt r n).r = t1 at *
                  generalize (T2.pt r n).p = t2 at *
                  generalize (T2.pt r n).v = t3 at *
                  cases m with
                  | true =>
                    clear hU2
                    go_wp2_with (first
                      | (go_at_call 11; refine HPl.out.mono ?_; rintro e w3 ⟨z, rfl, h3⟩; have HL3 := hid (HL1.out.play h3 HTd.out); have c1 := HL3.out.p1; have c2 := HL3.out.p2; clear h3 a1 a2)
                      | (go_at_call 14; refine (HQ2.out _ HL3.out.x).mono ?_; rintro e w5 ⟨rfl, g5⟩; have HL5 := hid ((HL3.out.more g5).setQ ⟨t0, t1, t2, t3, true, true⟩); have hr5 := (HL3.out.more g5).qr; obtain ⟨q0, hr5⟩ := hr5; have e0 := hr5.cell (k := 0) (by omega); have e1 := hr5.cell (k := 1) (by omega); have e2 := hr5.cell (k := 2) (by omega); have e3 := hr5.cell (k := 3) (by omega); have e4 := hr5.cell (k := 4) (by omega); have e5 := hr5.cell (k := 5) (by omega); have ef := hr5.frozen; unfold set6 at HL5; simp only at HL5; clear g5 hr5))
                    all_goals
                      go_roundw
                      case rel => exact ⟨j + 1, T2, S2, by go_num, by omega, HL5.out⟩
                      case measure => simp [intOf]; omega
                  | false =>
                    have hup := HUp.out rfl
                    simp only [hup] at hU2
                    have HU2 := hid hU2
                    clear hU2 hup
                    go_wp2_with (first
                      | (go_at_call 11; refine HPl.out.mono ?_; rintro e w3 ⟨z, rfl, h3⟩; have HL3 := hid (HL1.out.play h3 HTd.out); have c1 := HL3.out.p1; have c2 := HL3.out.p2; clear h3 a1 a2)
                      | (go_at_call 14; refine (HQ2.out _ HL3.out.x).mono ?_; rintro e w5 ⟨rfl, g5⟩; have HL5 := hid ((HL3.out.more g5).setQ ⟨t0, t1, t2, t3, true, false⟩); have hr5 := (HL3.out.more g5).qr; obtain ⟨q0, hr5⟩ := hr5; have e0 := hr5.cell (k := 0) (by omega); have e1 := hr5.cell (k := 1) (by omega); have e2 := hr5.cell (k := 2) (by omega); have e3 := hr5.cell (k := 3) (by omega); have e4 := hr5.cell (k := 4) (by omega); have e5 := hr5.cell (k := 5) (by omega); have ef := hr5.frozen; unfold set6 at HL5; simp only at HL5; have i1 := HL5.out.p1; clear g5 hr5)
                      | (go_at_call 17; refine (HU2.out _ HL5.out.x).mono ?_; rintro e w' ⟨rfl, rfl⟩))
                    all_goals
                      go_roundw
                      case rel => exact ⟨j + 1, T2, S2, by go_num, by omega, HL5.out⟩
                      case measure => simp [intOf]; omega
              · obtain rfl : j = qs.length := by omega
                have hge : (qs.length : Int) ≤ qs.length := by omega
                go_wp2_with (go_at_call 13; refine (eAwake _).mono ?_; rintro e w9 ⟨rfl, g9⟩; have HG := hid (HL.out.g.trans g9); clear g9)
                go_ret
                exact ⟨rfl, HG.out⟩
          | false =>
            rw [hma] at hQ
            simp only [HT0.out.up hma] at hU
            have HQp := hid hQ; have HU := hid hU
            clear hQ hma hU
            generalize (T.pt r n).k = t0 at *
            generalize (T.pt r n).r = t1 at *
            generalize (T.pt r n).p = t2 at *
            generalize (T.pt r n).v = t3 at *
            go_wp2_with (first
              | (go_at_call 14; first
                | (with_reducible refine (HP.out _ HE.out.x).mono ?_; rintro e w4 ⟨rfl, g4⟩; obtain ⟨W4, hW4, g40, b9, b0, b1, b2, b8⟩ := box6 w4 ⟨2, r, n, q3, q4, q5⟩; have HnP := hid (EB.fresh (HE.out.more g4)); have H4 := hid ((HE.out.more g4).more g40); have HnX := hid (show (some w4.heap.size : Option Nat) ≠ some X from fun e => by have := (HE.out.more g4).x.lt; cases e; omega); simp only at b0 b1 b2 hW4; clear g4 g40 HP b9 b8)
                | (with_reducible refine (HQp.out _ H6.out.x).mono ?_; rintro e w7 ⟨rfl, g7⟩; have g70 := World.grownBy_alloc w7 (.cells #[.int .i64 t0, .int .i64 t1, .int .i64 t2, .int .i64 t3, .bool true, .bool false] 35) none; have HnQ := hid (EM.fresh (H6.out.more g7)); have HgQ := hid (H6.out.more g7).g.size; have HPQ := hid (show w4.heap.size ≠ w7.heap.size from by have := World.block_lt_of_cell? _ _ (g7.cell d1 (by simp)); simp only at this; omega); have HRow := hid (boxRow w7 ⟨t0, t1, t2, t3, true, false⟩); have H7 := hid ((H6.out.more g7).more g70); have g77 := g7.trans g70; have z0 := g77.cell d0 (by simp); have z1 := g77.cell d1 (by simp); have z2 := g77.cell d2 (by simp); clear g7 g70 g77))
              | (go_at_call 16; refine (HS.out _ H5.out.x).mono ?_; rintro e w6 ⟨rfl, h6⟩; have H6 := hid (H5.out.one h6); have d0 := h6.2.cell c0 HnX.out; have d1 := h6.2.cell c1 HnX.out; have d2 := h6.2.cell c2 HnX.out; clear h6 c0 c1 c2)
              | (go_at_call 17; refine (HU.out _ H7.out.x).mono ?_; rintro e w' ⟨rfl, rfl⟩)
              | (go_at_call 15; first | (with_reducible refine (HT2.out _ H7.out.x).mono ?_; rintro e w8 ⟨rfl, g8⟩; have H8 := hid (H7.out.more g8); have HR8 := hid (HRow.out.grown g8 (by simp)); have x1 := g8.cell z1 (by simp); have x2 := g8.cell z2 (by simp); clear g8 z0 z1 z2) | (with_reducible refine (HT.out _ H4.out.x).mono ?_; rintro e w5 ⟨rfl, g5⟩; have H5 := hid (H4.out.more g5); have c0 := g5.cell b0 (by simp); have c1 := g5.cell b1 (by simp); have c2 := g5.cell b2 (by simp); clear g5 b0 b1 b2)))
            have HB := hid (show Lp w w8 X Y w4.heap.size w7.heap.size r n T S L from ⟨H8.out.x, H8.out.y, HOk.out, HE.out.ok, HT0.out, x1, x2, ⟨_, HR8.out⟩, HnP.out, HnQ.out, HPQ.out, HE.out.farX, HE.out.farY, HgQ.out, H8.out.g⟩)
            have HP8 := Hr
            clear x1 x2 hW4 d0 d1 d2
            obtain ⟨P, hPn⟩ : ∃ P, w4.heap.size = P := ⟨_, rfl⟩
            obtain ⟨Q, hQn⟩ : ∃ Q, w7.heap.size = Q := ⟨_, rfl⟩
            rw [hPn, hQn] at HB
            rw [hPn, hQn]
            clear hPn hQn HE H8 HR8 HnP HnQ HPQ HgQ H7
            go_loopw [18] (fun i wr => ∃ (j : Nat) (T' S' : Ev), i = .int .i64 j ∧ j ≤ qs.length ∧ Lp w wr X Y P Q r n T' S' L) (fun i _ => qs.length - (intOf i).toNat)
            case atStart => exact ⟨0, _, _, rfl, by omega, HB.out⟩
            case round =>
              clear HB
              obtain ⟨j, T', S', rfl, hj, hl⟩ := hrel
              have HL := hid hl
              clear hl
              have hj0 : (0 : Int) ≤ j := by omega
              by_cases hlt : j < qs.length
              · have hlt' : (j : Int) < qs.length := by omega
                obtain ⟨b', off, rfl, hb', d0, d1, d2, d3, d4⟩ := HQ.out j hlt
                have gw := HL.out.g
                have k0 := gw.cell d0 (by simp); have k1 := gw.cell d1 (by simp); have k2 := gw.cell d2 (by simp); have k3 := gw.cell d3 (by simp); have k4 := gw.cell d4 (by simp)
                have hj2 := HQs.out
                clear d0 d1 d2 d3 d4 gw
                generalize qs[j] = o at *
                obtain ⟨W1, hW1, hg1, hs1, b0, b1, b2, b3, b4⟩ := box5e wr o.x o.a o.b o.c o.on
                have HL1 := hid (HL.out.more hg1)
                have a1 := HL1.out.p1; have a2 := HL1.out.p2
                clear hg1 hs1
                by_cases hskip : o.a = r ∨ o.x = 3 ∨ o.x < 0 ∨ 8 < o.x
                · clear b2 b3 b4
                  by_cases q1 : o.a = r
                  · have z1 : (o.a == (r : Int)) = true := by simp [q1]
                    clear q1 hskip
                    go_wp2
                    go_roundw
                    case rel => exact ⟨j + 1, T', S', by go_num, by omega, HL1.out⟩
                    case measure => simp [intOf]; omega
                  · have z1 : (o.a == (r : Int)) = false := by simp [q1]
                    by_cases q2 : o.x = 3
                    · have z2 : (o.x == 3) = true := by simp [q2]
                      clear q1 q2 hskip
                      go_wp2
                      go_roundw
                      case rel => exact ⟨j + 1, T', S', by go_num, by omega, HL1.out⟩
                      case measure => simp [intOf]; omega
                    · have z2 : (o.x == 3) = false := by simp [q2]
                      by_cases q3 : o.x < 0
                      · clear q1 q2 hskip
                        go_wp2
                        go_roundw
                        case rel => exact ⟨j + 1, T', S', by go_num, by omega, HL1.out⟩
                        case measure => simp [intOf]; omega
                      · have q4 : 8 < o.x := by omega
                        have q5 : 0 ≤ o.x := by omega
                        clear q1 q2 hskip
                        go_wp2
                        go_roundw
                        case rel => exact ⟨j + 1, T', S', by go_num, by omega, HL1.out⟩
                        case measure => simp [intOf]; omega
                · have z1 : (o.a == (r : Int)) = false := by simp; omega
                  have z2 : (o.x == 3) = false := by simp; omega
                  have z3 : 0 ≤ o.x := by omega
                  have z4 : o.x ≤ 8 := by omega
                  have HTd := hid (HL1.out.told.step o (by omega) (by omega) z3 z4)
                  have HPl := hid (fPlayC W1 W1 X Y o T' S' L HL1.out.toC)
                  clear hskip
                  generalize hT2 : stepE T' o = T2 at *
                  generalize hS2 : stepE S' o = S2 at *
                  have hQ2 := fun W (h : EvAt W X T2) => ePort X r n W T2 h
                  simp only [portR_yes T2 Hr.out Hn.out, Prt.val] at hQ2
                  rw [HTd.out.pe] at hQ2
                  have hU2 := fun W (h : EvAt W X T2) => eUpcall X r W T2 h
                  simp only [show upR T2 r = T2.up r by simp [upR, edOk_yes Hr.out]] at hU2
                  obtain ⟨m, hm⟩ : ∃ m, (T2.pt r n).ma = m := ⟨_, rfl⟩
                  rw [hm] at hQ2
                  have HUp := hid (fun e : m = false => HTd.out.up (hm.trans e))
                  have HQ2 := hid hQ2
                  clear hQ2 hm hT2 hS2
                  generalize (T2.pt r n).k = t0 at *
                  generalize (T2.pt r n).r = t1 at *
                  generalize (T2.pt r n).p = t2 at *
                  generalize (T2.pt r n).v = t3 at *
                  cases m with
                  | true =>
                    clear hU2
                    go_wp2_with (first
                      | (go_at_call 11; refine HPl.out.mono ?_; rintro e w3 ⟨z, rfl, h3⟩; have HL3 := hid (HL1.out.play h3 HTd.out); have c1 := HL3.out.p1; have c2 := HL3.out.p2; clear h3 a1 a2)
                      | (go_at_call 14; refine (HQ2.out _ HL3.out.x).mono ?_; rintro e w5 ⟨rfl, g5⟩; have HL5 := hid ((HL3.out.more g5).setQ ⟨t0, t1, t2, t3, true, true⟩); have hr5 := (HL3.out.more g5).qr; obtain ⟨q0, hr5⟩ := hr5; have e0 := hr5.cell (k := 0) (by omega); have e1 := hr5.cell (k := 1) (by omega); have e2 := hr5.cell (k := 2) (by omega); have e3 := hr5.cell (k := 3) (by omega); have e4 := hr5.cell (k := 4) (by omega); have e5 := hr5.cell (k := 5) (by omega); have ef := hr5.frozen; unfold set6 at HL5; simp only at HL5; clear g5 hr5))
                    all_goals
                      go_roundw
                      case rel => exact ⟨j + 1, T2, S2, by go_num, by omega, HL5.out⟩
                      case measure => simp [intOf]; omega
                  | false =>
                    have hup := HUp.out rfl
                    simp only [hup] at hU2
                    have HU2 := hid hU2
                    clear hU2 hup
                    go_wp2_with (first
                      | (go_at_call 11; refine HPl.out.mono ?_; rintro e w3 ⟨z, rfl, h3⟩; have HL3 := hid (HL1.out.play h3 HTd.out); have c1 := HL3.out.p1; have c2 := HL3.out.p2; clear h3 a1 a2)
                      | (go_at_call 14; refine (HQ2.out _ HL3.out.x).mono ?_; rintro e w5 ⟨rfl, g5⟩; have HL5 := hid ((HL3.out.more g5).setQ ⟨t0, t1, t2, t3, true, false⟩); have hr5 := (HL3.out.more g5).qr; obtain ⟨q0, hr5⟩ := hr5; have e0 := hr5.cell (k := 0) (by omega); have e1 := hr5.cell (k := 1) (by omega); have e2 := hr5.cell (k := 2) (by omega); have e3 := hr5.cell (k := 3) (by omega); have e4 := hr5.cell (k := 4) (by omega); have e5 := hr5.cell (k := 5) (by omega); have ef := hr5.frozen; unfold set6 at HL5; simp only at HL5; have i1 := HL5.out.p1; clear g5 hr5)
                      | (go_at_call 17; refine (HU2.out _ HL5.out.x).mono ?_; rintro e w' ⟨rfl, rfl⟩))
                    all_goals
                      go_roundw
                      case rel => exact ⟨j + 1, T2, S2, by go_num, by omega, HL5.out⟩
                      case measure => simp [intOf]; omega
              · obtain rfl : j = qs.length := by omega
                have hge : (qs.length : Int) ≤ qs.length := by omega
                go_wp2_with (go_at_call 13; refine (eAwake _).mono ?_; rintro e w9 ⟨rfl, g9⟩; have HG := hid (HL.out.g.trans g9); clear g9)
                go_ret
                exact ⟨rfl, HG.out⟩
        · have hb : ((S.pt D N).k != 2) = true := by simp [h2]
          have hE : sendE S D N = (70, S) := by simp [sendE, hdp, h2]
          have hS := fun W (h : EvAt W X S) => eSend X D N W S HE.out.ok h
          simp only [hE] at hS
          have HP := hid hP; have HS := hid hS
          have HT := hid (fun W (h : EvAt W X S) => ePendTot X W S h)
          clear hP hS hE hdp h2
          generalize (S.pt D N).k = q0 at *
          generalize (S.pt D N).r = q1 at *
          generalize (S.pt D N).p = q2 at *
          generalize (S.pt D N).v = q3 at *
          generalize (S.pt D N).pe = q4 at *
          generalize (S.pt D N).ma = q5 at *
          go_wp2_with (first
            | (go_at_call 14; refine (HP.out _ HE.out.x).mono ?_; rintro e w4 ⟨rfl, g4⟩; obtain ⟨W4, hW4, g40, _, b0, _⟩ := box6 w4 ⟨q0, q1, q2, q3, q4, q5⟩; have HnP := hid (EB.fresh (HE.out.more g4)); have H4 := hid ((HE.out.more g4).more g40); have HnX := hid (show (some w4.heap.size : Option Nat) ≠ some X from fun e => by have := (HE.out.more g4).x.lt; cases e; omega); simp only at b0 hW4; clear g4 g40)
            | (go_at_call 16; refine (HS.out _ H5.out.x).mono ?_; rintro e w6 ⟨rfl, h6⟩; have H6 := hid (H5.out.one h6); have d0 := h6.2.cell c0 HnX.out; clear h6)
            | (go_at_call 15; first | (with_reducible refine (HT.out _ H6.out.x).mono ?_; rintro e w7 ⟨rfl, g7⟩; have H7 := hid (H6.out.g.trans g7); clear g7) | (with_reducible refine (HT.out _ H4.out.x).mono ?_; rintro e w5 ⟨rfl, g5⟩; have H5 := hid (H4.out.more g5); have c0 := g5.cell b0 (by simp); clear g5))
            | (go_at_call 13; refine (eAwake _).mono ?_; rintro e w8 ⟨rfl, g8⟩; have HG := hid (H7.out.trans g8); clear g8))
          go_ret
          exact ⟨rfl, HG.out⟩
      · have hPE : portR S d p = (Prt.zero, 1) := by unfold portR; rw [if_neg hdp]
        have hE : sendE S d p = (1, S) := by unfold sendE; rw [if_neg hdp]
        have hP := fun W (h : EvAt W X S) => ePort X d p W S h
        have hS := fun W (h : EvAt W X S) => eSend X d p W S HE.out.ok h
        simp only [hE] at hS
        simp only [hPE, Prt.val, Prt.zero] at hP
        have HP := hid hP; have HS := hid hS
        have HT := hid (fun W (h : EvAt W X S) => ePendTot X W S h)
        clear hP hS hE hdp hPE
        go_wp2_with (first
          | (go_at_call 14; refine (HP.out _ HE.out.x).mono ?_; rintro e w4 ⟨rfl, g4⟩; have H4 := hid ((HE.out.more g4).more (World.grownBy_alloc w4 (.cells #[.int .i64 0, .int .i64 0, .int .i64 0, .int .i64 0, .bool false, .bool false] 35) none)); clear g4)
          | (go_at_call 16; refine (HS.out _ H5.out.x).mono ?_; rintro e w6 ⟨rfl, h6⟩; have H6 := hid (H5.out.one h6); clear h6)
          | (go_at_call 15; first | (with_reducible refine (HT.out _ H6.out.x).mono ?_; rintro e w7 ⟨rfl, g7⟩; have H7 := hid (H6.out.g.trans g7); clear g7) | (with_reducible refine (HT.out _ H4.out.x).mono ?_; rintro e w5 ⟨rfl, g5⟩; have H5 := hid (H4.out.more g5); clear g5))
          | (go_at_call 13; refine (eAwake _).mono ?_; rintro e w8 ⟨rfl, g8⟩; have HG := hid (H7.out.trans g8); clear g8))
        go_ret
        exact ⟨rfl, HG.out⟩
theorem main {H : Type} {enc : TypeId × Value → H} (v0 v1 v2 v3 : Value) (W : World) (c0 : Flat.Came enc Try.prog W 0 (fun _ => true) true 22 v0) (c1 : Flat.Came enc Try.prog W 0 (fun _ => true) true 3 v1) (c2 : Flat.Came enc Try.prog W 0 (fun _ => true) true 3 v2) (c3 : Flat.Came enc Try.prog W 0 (fun _ => true) true 22 v3) :
    Calls Try.prog 5 #[v0, v1, v2, v3] W fun e w' => e = .returned (.bool true) ∧ W.grownBy w' none := by
  obtain ⟨po, os, co, rfl, hos, ho⟩ := open_eops c0
  obtain ⟨d, rfl, _⟩ := c1.int Try.underlying3
  obtain ⟨p, rfl, _⟩ := c2.int Try.underlying3
  obtain ⟨qo, qs, cq, rfl, hqs, hq⟩ := open_eops c3
  exact walk po qo co cq os qs d p W ho hos hq hqs
theorem own : ownKnob Try.prog.godebug = none := by kernel_rfl
theorem laidOut : laidOutB Try.prog = true := by kernel_rfl

set_option maxRecDepth 100000 in
theorem lifted (os : Os) (started : os.Started) (H : Type) (enc : TypeId × Value → H) :
    ReturnsInHanded {} Try.checked os 5 .any (Rows.eventTellsSpec.pre6 enc Try.prog Try.f5 Rows.eventTellsRow.domain false) (Rows.eventTellsSpec.post enc Try.prog Try.f5 false true false false) := by
  refine returnsInHanded_of_change_sized (C := Try.checked) own started (by kernel_rfl) Try.func5
    (ChangeSpec.witness6 (enc := enc) (C := Try.checked) false ⟨#[], #[.slice none 0 0, .int .i64 0, .int .i64 0, .slice none 0 0], []⟩ 8 (by kernel_rfl) (by kernel_rfl) (by kernel_rfl) (by kernel_rfl)) ?_
  intro W base args ds gs before hval0 hW _ hsz0 _
  have hsz : (DataW.weightsEach Try.prog (Try.f5.params.toList ++ Rows.eventTellsSpec.plain.varTypes Try.prog) (ds ++ gs)).all (· ≤ reachBytes) = true := hsz0
  clear hsz0
  have hval : ∀ (j : Nat) t v, Try.f5.params[j]? = some t → args[j]? = some v → Value.okWide Try.prog W .any base t v := hval0
  have hW' := hW
  obtain ⟨p, q, hA0, hV, rfl, hfz, hnd⟩ := hW
  have hA : DataW.TrodAll enc Try.prog W 0 (fun _ => true) true Try.f5.params.toList args.toList ds p := hA0
  rw [Try.params5] at hA hval hsz
  obtain ⟨v0, vs0, d0, ds0, p0, q0, hargs, rfl, rfl, h0, r0⟩ := trodAll_cons hA
  obtain ⟨v1, vs1, d1, ds1, p1, q1, rfl, rfl, rfl, h1, r1⟩ := trodAll_cons r0
  obtain ⟨v2, vs2, d2, ds2, p2, q2, rfl, rfl, rfl, h2, r2⟩ := trodAll_cons r1
  obtain ⟨v3, vs3, d3, ds3, p3, q3, rfl, rfl, rfl, h3, r3⟩ := trodAll_cons r2
  obtain ⟨rfl, rfl, rfl⟩ := trodAll_nil r3
  obtain rfl : args = #[v0, v1, v2, v3] := by cases args; simp_all
  obtain ⟨rfl, rfl⟩ := trodVars_none hV
  obtain ⟨ps0, ln0, cp0, rfl⟩ := okWide_slice Try.underlying22 (hval 0 22 v0 rfl rfl)
  have k0 := h0
  have lt0 : ∀ x ∈ p0, x.block < W.heap.size := by obtain ⟨m, hm⟩ := k0; exact DataW.trod_lt m _ _ _ hm
  have c0 : Flat.Came enc Try.prog W 0 (fun _ => true) true 22 (.slice ps0 ln0 cp0) := by
    obtain ⟨fuel, hf⟩ := h0
    exact ⟨fuel, _, hf, fun n hn => by
      have := List.all_eq_true.1 hsz n (DataW.weights_mem_each (j := 0) rfl rfl n hn)
      simpa using this⟩
  obtain ⟨a1, rfl, rfl, rfl, w1⟩ := open_int Try.underlying3 (hval 1 3 v1 rfl rfl) h1
  have k1 := h1
  have lt1 : ∀ x ∈ ([] : List MemPlace), x.block < W.heap.size := by obtain ⟨m, hm⟩ := k1; exact DataW.trod_lt m _ _ _ hm
  have c1 : Flat.Came enc Try.prog W 0 (fun _ => true) true 3 (.int .i64 a1) := by
    obtain ⟨fuel, hf⟩ := h1
    exact ⟨fuel, _, hf, fun n hn => by
      have := List.all_eq_true.1 hsz n (DataW.weights_mem_each (j := 1) rfl rfl n hn)
      simpa using this⟩
  obtain ⟨a2, rfl, rfl, rfl, w2⟩ := open_int Try.underlying3 (hval 2 3 v2 rfl rfl) h2
  have k2 := h2
  have lt2 : ∀ x ∈ ([] : List MemPlace), x.block < W.heap.size := by obtain ⟨m, hm⟩ := k2; exact DataW.trod_lt m _ _ _ hm
  have c2 : Flat.Came enc Try.prog W 0 (fun _ => true) true 3 (.int .i64 a2) := by
    obtain ⟨fuel, hf⟩ := h2
    exact ⟨fuel, _, hf, fun n hn => by
      have := List.all_eq_true.1 hsz n (DataW.weights_mem_each (j := 2) rfl rfl n hn)
      simpa using this⟩
  obtain ⟨ps3, ln3, cp3, rfl⟩ := okWide_slice Try.underlying22 (hval 3 22 v3 rfl rfl)
  have k3 := h3
  have lt3 : ∀ x ∈ p3, x.block < W.heap.size := by obtain ⟨m, hm⟩ := k3; exact DataW.trod_lt m _ _ _ hm
  have c3 : Flat.Came enc Try.prog W 0 (fun _ => true) true 22 (.slice ps3 ln3 cp3) := by
    obtain ⟨fuel, hf⟩ := h3
    exact ⟨fuel, _, hf, fun n hn => by
      have := List.all_eq_true.1 hsz n (DataW.weights_mem_each (j := 3) rfl rfl n hn)
      simpa using this⟩
  clear hA0 hval0
  refine (main (.slice ps0 ln0 cp0) (.int .i64 a1) (.int .i64 a2) (.slice ps3 ln3 cp3) W c0 c1 c2 c3).mono fun e W' ⟨he, hg⟩ => ?_
  subst he
  have bel := below_grown' hg
  simp only [List.append_nil, List.nil_append] at hW'
  exact ⟨_, rfl, _, _, _, [], _, [], hW', trodAll_mk1 (shut_bool Try.underlying4 _), (trodAll_cons_mk (Below.trod laidOut (by kernel_rfl) (of_decide_eq_true (by kernel_rfl)) k0 bel lt0) (trodAll_cons_mk (Below.trod laidOut (by kernel_rfl) (of_decide_eq_true (by kernel_rfl)) k1 bel lt1) (trodAll_cons_mk (Below.trod laidOut (by kernel_rfl) (of_decide_eq_true (by kernel_rfl)) k2 bel lt2) (trodAll_cons_mk (Below.trod laidOut (by kernel_rfl) (of_decide_eq_true (by kernel_rfl)) k3 bel lt3) trodAll_mk0)))), rfl, bel.frame _, fun h => by cases h⟩

theorem proved : Rows.EventTellsSaid :=
  OpenClaim.holds_of_wide 5 Try.f5 rfl rfl rfl rfl rfl rfl rfl ⟨rfl, rfl, rfl, rfl, rfl⟩ rfl rfl rfl rfl rfl (by kernel_rfl) Try.func5 (by kernel_rfl)
    (of_decide_eq_true (by kernel_rfl)) (by unfold Func.isWrapper; first | (rw [if_pos (by decide +kernel)]; kernel_rfl) | (rw [if_neg (by decide +kernel)]; exact ⟨rfl, rfl⟩))
    (fun os started H enc _ => lifted os started H enc)
#print axioms proved
end Go.Proofs.Ytjgikapoohibnaa.lawEvTells
