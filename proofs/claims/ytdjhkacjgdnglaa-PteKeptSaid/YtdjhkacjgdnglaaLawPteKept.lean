/-
  PteKept: for every input the law returns true, and what was there stays. No condition.
-/
import Derived.Test.YtdjhkacjgdnglaaPteX
import Derived.OpenShut
namespace Go.Proofs.Ytdjhkacjgdnglaa.lawPteKept
open Go.ChangeShapes Go.WideShapes Go.ChangeAt Go.RowKit
set_option maxHeartbeats 4000000

theorem hin_sb {w W : World} {B : Nat} {pa : Option Addr} {l : List UInt8} {cap : Nat} (h : InBytes w pa l) (hc : l.length ≤ cap) (hB : w.heap.size ≤ B) (hg : w.grownBy W none) : SB W B (.slice pa l.length cap) l := by
  refine ⟨pa, cap, rfl, hc, fun hl => ?_⟩
  rcases h with h | ⟨b, o, e, hb, hk⟩
  · exact absurd h hl
  · exact ⟨b, o, e, by omega, Nat.lt_of_lt_of_le hb hg.size, fun k hk' => hg.cell (hk k hk') (by simp)⟩

set_option maxRecDepth 100000 in
theorem walkA (va : Nat) (l : List UInt8) (pa : Option Addr) (cap : Nat) (fv : Option Addr) (fn fc : Nat) (w : World) (hva : va < 4294967296) (hin : InBytes w pa l) (hcap : l.length ≤ cap) (hlen : l.length ≤ 256) (hl1 : va % 1048576 / 256 % 64 ≠ 63) (hf : fn ≤ 1) :
    Calls Try.prog 8 #[.int .u32 va, .slice pa l.length cap, .slice fv fn fc] w fun e w' => e = .returned (.bool true) ∧ w.grownBy w' none := by
  obtain ⟨a, ha⟩ : ∃ a, va % 1048576 = a := ⟨_, rfl⟩
  have ha' : (va : Int) % 1048576 = (a : Int) := by omega
  have hab : a < 1048576 := by omega
  rw [ha] at hl1
  clear ha
  have HS := hid (fun w => rSplit_any a w (by omega))
  rw [show splitV a = (a / 16384, a / 256 % 64, a % 256, 0) by unfold splitV; rw [if_neg (by omega)]] at HS
  obtain ⟨l2, e2⟩ : ∃ x, a / 16384 = x := ⟨_, rfl⟩
  obtain ⟨l1, e1⟩ : ∃ x, a / 256 % 64 = x := ⟨_, rfl⟩
  obtain ⟨off, eo⟩ : ∃ x, a % 256 = x := ⟨_, rfl⟩
  rw [e2, e1, eo] at HS
  rw [e1] at hl1
  have hl2 : l2 < 64 := by omega
  have hl1' : l1 < 63 := by omega
  have hoff : off < 256 := by omega

  have hq := kM3_ok (l2 := l2) (l1 := l1) (one := 2) (two := 3) hl2 hl1' (by omega) (by omega)
  obtain ⟨hk3, hfr⟩ := hq
  have hlay := hk3.lay (one := 2) (two := 3) (off := off) (n := l.length) (by omega) (by omega) l
  have hrs := hk3.runs (va := a) (n := l.length) (by omega) (by omega) hab e2 e1 hl1' hlen true
  have hrf := hlay.runs (va := a) (n := l.length) (by omega) (by omega) hab e2 e1 hl1' hlen false
  rw [eo] at hrs hrf
  have hby : 2 ≠ 3 → _ := fun hne => kept_bytes (M := kM3 l2 l1 2 3) (off := off) (b := l) hk3.n hk3.owner (by omega) (by omega) hne hoff hlen
  have h100 := fun (j : Nat) (h2 : 2 ≤ j) (h8 : j < 8) (n1 : j ≠ 2) (n2 : j ≠ 3) => (show ((kM3 l2 l1 2 3).layV (kRuns off l.length 2 3) l).fr j = kM.fr j from (layV_other _ _ _ _ fun r hr => by rcases kRuns_m r hr with e | e <;> omega).trans (hfr j h2)) ▸ kM_100 j h8
  have hst : (kM3 l2 l1 2 3).storeV 0 a l = (0, (kM3 l2 l1 2 3).layV (kRuns off l.length 2 3) l) := by unfold Mach.storeV; rw [hrs]
  have hft : ((kM3 l2 l1 2 3).layV (kRuns off l.length 2 3) l).fetchV 0 a l.length = (((kM3 l2 l1 2 3).layV (kRuns off l.length 2 3) l).bytesOf (kRuns off l.length 2 3), 0) := by unfold Mach.fetchV; rw [hrf]
  have HBg := hid (show Calls Try.prog 23 #[.int .i64 8, .slice none 0 0] w fun e w' => ∃ B b L, e = .returned (.tuple #[.pointer (some ⟨B, 0, none⟩), .pointer (some ⟨b, 0, none⟩), .bool true]) ∧ Bg w w' B b kM L 0 from pBegin 8 none 0 [] w (fun j h => by simp at h) (by omega) (by omega) (by simp))
  have HP1 := hid (fun B W hM => pPut B 0 l2 259 W kM 0 hM kM_ok (by omega) (by omega))
  have HP2 := hid (fun B W M (hM : PM W B M) (hok : M.ok 0) => pPut B 1 l1 (2 * 256 + 3) W M 0 hM hok (by omega) (by omega))
  have HP3 := hid (fun B W M (hM : PM W B M) (hok : M.ok 0) => pPut B 1 (l1 + 1) (3 * 256 + 3) W M 0 hM hok (by omega) (by omega))
  rw [show ((259 : Nat) : Int) = 259 from rfl] at HP1
  rw [show ((2 * 256 + 3 : Nat) : Int) = 515 by omega] at HP2
  rw [show ((3 * 256 + 3 : Nat) : Int) = 771 by omega, show ((l1 + 1 : Nat) : Int) = (l1 : Int) + 1 by omega] at HP3
  have HOk1 := hid (Mach.write_ok kM_ok 0 ((4 * l2 : Nat) : Int) (b4 259))
  have HOk2 := hid (Mach.write_ok HOk1.out 1 ((4 * l1 : Nat) : Int) (b4 (2 * 256 + 3)))
  obtain ⟨M3, hM3⟩ : ∃ M, kM3 l2 l1 2 3 = M := ⟨_, rfl⟩
  have HM3e := hid (show ((((kM.write 0 ((4 * l2 : Nat) : Int) (b4 259)).2.write 1 ((4 * l1 : Nat) : Int) (b4 (2 * 256 + 3))).2).write 1 ((4 * (l1 + 1) : Nat) : Int) (b4 (3 * 256 + 3))).2 = M3 from hM3)
  rw [hM3] at hst hft hk3 hlay hby h100
  clear hM3 hfr hrs hrf
  obtain ⟨M4, hM4⟩ : ∃ M, M3.layV (kRuns off l.length 2 3) l = M := ⟨_, rfl⟩
  rw [hM4] at hst hft hlay hby h100
  clear hM4
  have HB := hid hby; have H100 := hid h100
  have HSt := hid (fun B W v (hM : PM W B M3) (hl : SB W B v l) => hst ▸ ptStore B 0 a v l W M3 0 hM hk3.ok (by omega) hl (by omega))
  have HFt := hid (fun B W (hM : PM W B M4) => hft ▸ ptFetch B 0 a l.length W M4 0 hM hlay.ok (by omega))
  have HRd := hid (fun B W j (hj : j < 8) (hM : PM W B M4) => Read_yes B j 100 1 W M4 0 hM hlay.ok (by rw [hlay.n]; omega) (by omega))
  have hn63 : ((l1 : Int) == 63) = false := by simp; omega
  have HIn := hid hin; have HCap := hid hcap
  have hlen' : (l.length : Int) ≤ 256 := by omega
  have hl0 : (0 : Int) ≤ l.length := by omega
  have hoff' : (off : Int) < 256 := by omega
  have hl1b : (l1 : Int) < 63 := by omega
  obtain ⟨lb, hlb⟩ : ∃ x, M4.bytesOf (kRuns off l.length 2 3) = x := ⟨_, rfl⟩
  rw [hlb] at HB HFt
  clear hst hft hk3 hlay hby h100 e2 e1 eo hlb hin hcap hva hl1 hab hlen
  have hf' : ¬ (1 : Int) < fn := by omega
  obtain rfl : lb = l := HB.out (by decide)
  go_enter Try.func8, Try.ntmps8
  go_wp2_with (first
    | (go_at_call 23; refine HBg.out.mono ?_; rintro e w1 ⟨B, b, L, rfl, hbg⟩; have HM1 := hid hbg.m; have HF := hid hbg.farB; have HG1 := hid hbg.grown; have HI1 := hid (hin_sb HIn.out HCap.out hbg.farB hbg.grown); clear hbg)
    | (go_at_call 38; refine (HS.out _).mono ?_; rintro e w2 ⟨rfl, rfl⟩; simp only [split4])
    | (go_at_call 39; (with_reducible refine (HP1.out _ _ HM1.out).mono ?_); rintro e w3 ⟨rfl, h3, g3⟩; have HM2 := hid h3; have HG2 := hid (grown_own HG1.out g3 HF.out); have HI2 := hid (HI1.out.grown g3); clear h3 g3)
    | (go_at_call 39; (with_reducible refine (HP2.out _ _ _ HM2.out HOk1.out).mono ?_); rintro e w4 ⟨rfl, h4, g4⟩; have HM4 := hid h4; have HG4 := hid (grown_own HG2.out g4 HF.out); have HI4 := hid (HI2.out.grown g4); clear h4 g4)
    | (go_at_call 39; (with_reducible refine (HP3.out _ _ _ HM4.out HOk2.out).mono ?_); rintro e w5 ⟨rfl, h5, g5⟩; have HM5 := hid (HM3e.out ▸ h5); have HG5 := hid (grown_own HG4.out g5 HF.out); have HI5 := hid (HI4.out.grown g5); clear h5 g5)
    | (go_at_call 31; refine (HSt.out _ _ _ HM5.out HI5.out).mono ?_; rintro e w6 ⟨rfl, h6, g6⟩; have HM6 := hid h6; have HG6 := hid (grown_own HG5.out g6 HF.out); clear h6 g6)
    | (go_at_call 29; refine (HFt.out _ _ HM6.out).mono ?_; rintro e w7 ⟨v, rfl, q, c, rfl, hib, hg⟩; have HG7 := hid (HG6.out.trans hg); have HM7 := hid (HM6.out.grown hg (by simp)); have hs1 := in_string hib c _ (World.grownBy.refl _ _); have hs2 := in_string HIn.out cap _ HG7.out; clear hib hg))
  go_loopw [19] (fun i wr => ∃ k : Nat, i = .int .i64 k ∧ 2 ≤ k ∧ k ≤ 8 ∧ PM wr B M4 ∧ w.grownBy wr none) (fun i _ => 8 - (intOf i).toNat)
  case atStart => exact ⟨2, rfl, by omega, by omega, HM7.out, HG7.out⟩
  case round =>
    obtain ⟨k, rfl, h2, h8, hm, hg⟩ := hrel
    have HMr := hid hm; have HGr := hid hg
    clear hm hg
    by_cases hk : k < 8
    · have hk' : (k : Int) < 8 := by omega
      by_cases n1 : k = 2
      · have n1' : ((k : Int) != 2) = false := by simp; omega
        clear n1
        go_wp2_with (first
          | (go_at_call 33; refine (HRd.out _ _ k hk HMr.out).mono ?_; rintro e w8 ⟨v, rfl, hv⟩; obtain ⟨g, rfl, _, hc, hg⟩ := newBytes_pos hv (by rw [part_len]; omega); rw [part_len] at hc ⊢; have HM8 := hid (HMr.out.grown hg (by simp)); have HG8 := hid (HGr.out.trans hg); clear hv hc hg))
        go_roundw
        case rel => exact ⟨k + 1, by go_num, by omega, by omega, HM8.out, HG8.out⟩
        case measure => simp [intOf]; omega
      · have n1' : ((k : Int) != 2) = true := by simp; omega
        by_cases n2 : k = 3
        · have n2' : ((k : Int) != 3) = false := by simp; omega
          clear n1 n2
          go_wp2_with (first
            | (go_at_call 33; refine (HRd.out _ _ k hk HMr.out).mono ?_; rintro e w8 ⟨v, rfl, hv⟩; obtain ⟨g, rfl, _, hc, hg⟩ := newBytes_pos hv (by rw [part_len]; omega); rw [part_len] at hc ⊢; have HM8 := hid (HMr.out.grown hg (by simp)); have HG8 := hid (HGr.out.trans hg); clear hv hc hg))
          go_roundw
          case rel => exact ⟨k + 1, by go_num, by omega, by omega, HM8.out, HG8.out⟩
          case measure => simp [intOf]; omega
        · have n2' : ((k : Int) != 3) = true := by simp; omega
          have hz := H100.out k h2 hk n1 n2
          have HZ := hid hz
          clear n1 n2 hz
          go_wp2_with (first
            | (go_at_call 33; refine (HRd.out _ _ k hk HMr.out).mono ?_; rintro e w8 ⟨v, rfl, hv⟩; obtain ⟨g, rfl, _, hc, hg⟩ := newBytes_pos hv (by rw [part_len]; omega); rw [part_len] at hc ⊢; have c0 := hc 0 (by omega); rw [part_get _ _ _ _ (by omega), Nat.add_zero, HZ.out] at c0; have HM8 := hid (HMr.out.grown hg (by simp)); have HG8 := hid (HGr.out.trans hg); clear hv hc hg))
          go_roundw
          case rel => exact ⟨k + 1, by go_num, by omega, by omega, HM8.out, HG8.out⟩
          case measure => simp [intOf]; omega
    · obtain rfl : k = 8 := by omega
      clear hk
      go_wp2_with (go_at_call 28; refine (pAwake _).mono ?_; rintro e w9 ⟨rfl, hg⟩; have HG9 := hid (HGr.out.trans hg); clear hg)
      go_ret
      exact ⟨rfl, HG9.out⟩

set_option maxRecDepth 100000 in
theorem walkB (va : Nat) (l : List UInt8) (pa : Option Addr) (cap : Nat) (fb fo fn fc x y : Nat) (w : World) (hva : va < 4294967296) (hin : InBytes w pa l) (hcap : l.length ≤ cap) (hlen : l.length ≤ 256) (hl1 : va % 1048576 / 256 % 64 ≠ 63) (hf : 1 < fn) (hx : x < 256) (hy : y < 256) (c0 : w.cell? ⟨fb, fo, none⟩ = some (.int .u8 x)) (c1 : w.cell? ⟨fb, fo + 1, none⟩ = some (.int .u8 y)) :
    Calls Try.prog 8 #[.int .u32 va, .slice pa l.length cap, .slice (some ⟨fb, fo, none⟩) fn fc] w fun e w' => e = .returned (.bool true) ∧ w.grownBy w' none := by
  obtain ⟨a, ha⟩ : ∃ a, va % 1048576 = a := ⟨_, rfl⟩
  have ha' : (va : Int) % 1048576 = (a : Int) := by omega
  have hab : a < 1048576 := by omega
  rw [ha] at hl1
  clear ha
  have HS := hid (fun w => rSplit_any a w (by omega))
  rw [show splitV a = (a / 16384, a / 256 % 64, a % 256, 0) by unfold splitV; rw [if_neg (by omega)]] at HS
  obtain ⟨l2, e2⟩ : ∃ x, a / 16384 = x := ⟨_, rfl⟩
  obtain ⟨l1, e1⟩ : ∃ x, a / 256 % 64 = x := ⟨_, rfl⟩
  obtain ⟨off, eo⟩ : ∃ x, a % 256 = x := ⟨_, rfl⟩
  rw [e2, e1, eo] at HS
  rw [e1] at hl1
  have hl2 : l2 < 64 := by omega
  have hl1' : l1 < 63 := by omega
  have hoff : off < 256 := by omega
  obtain ⟨one, h1e⟩ : ∃ o, 2 + x % 6 = o := ⟨_, rfl⟩
  obtain ⟨two, h2e⟩ : ∃ o, 2 + y % 6 = o := ⟨_, rfl⟩
  have ho1 : (2 : Int) + (x : Int) % 6 = (one : Int) := by omega
  have ho2 : (2 : Int) + (y : Int) % 6 = (two : Int) := by omega
  have hoa : one < 8 := by omega
  have hob : 2 ≤ one := by omega
  have hta : two < 8 := by omega
  have htb : 2 ≤ two := by omega
  have HC0 := hid c0; have HC1 := hid c1
  clear h1e h2e c0 c1
  have hq := kM3_ok (l2 := l2) (l1 := l1) (one := one) (two := two) hl2 hl1' (by omega) (by omega)
  obtain ⟨hk3, hfr⟩ := hq
  have hlay := hk3.lay (one := one) (two := two) (off := off) (n := l.length) (by omega) (by omega) l
  have hrs := hk3.runs (va := a) (n := l.length) (by omega) (by omega) hab e2 e1 hl1' hlen true
  have hrf := hlay.runs (va := a) (n := l.length) (by omega) (by omega) hab e2 e1 hl1' hlen false
  rw [eo] at hrs hrf
  have hby : one ≠ two → _ := fun hne => kept_bytes (M := kM3 l2 l1 one two) (off := off) (b := l) hk3.n hk3.owner (by omega) (by omega) hne hoff hlen
  have h100 := fun (j : Nat) (h2 : 2 ≤ j) (h8 : j < 8) (n1 : j ≠ one) (n2 : j ≠ two) => (show ((kM3 l2 l1 one two).layV (kRuns off l.length one two) l).fr j = kM.fr j from (layV_other _ _ _ _ fun r hr => by rcases kRuns_m r hr with e | e <;> omega).trans (hfr j h2)) ▸ kM_100 j h8
  have hst : (kM3 l2 l1 one two).storeV 0 a l = (0, (kM3 l2 l1 one two).layV (kRuns off l.length one two) l) := by unfold Mach.storeV; rw [hrs]
  have hft : ((kM3 l2 l1 one two).layV (kRuns off l.length one two) l).fetchV 0 a l.length = (((kM3 l2 l1 one two).layV (kRuns off l.length one two) l).bytesOf (kRuns off l.length one two), 0) := by unfold Mach.fetchV; rw [hrf]
  have HBg := hid (show Calls Try.prog 23 #[.int .i64 8, .slice none 0 0] w fun e w' => ∃ B b L, e = .returned (.tuple #[.pointer (some ⟨B, 0, none⟩), .pointer (some ⟨b, 0, none⟩), .bool true]) ∧ Bg w w' B b kM L 0 from pBegin 8 none 0 [] w (fun j h => by simp at h) (by omega) (by omega) (by simp))
  have HP1 := hid (fun B W hM => pPut B 0 l2 259 W kM 0 hM kM_ok (by omega) (by omega))
  have HP2 := hid (fun B W M (hM : PM W B M) (hok : M.ok 0) => pPut B 1 l1 (one * 256 + 3) W M 0 hM hok (by omega) (by omega))
  have HP3 := hid (fun B W M (hM : PM W B M) (hok : M.ok 0) => pPut B 1 (l1 + 1) (two * 256 + 3) W M 0 hM hok (by omega) (by omega))
  rw [show ((259 : Nat) : Int) = 259 from rfl] at HP1
  rw [show ((one * 256 + 3 : Nat) : Int) = (one : Int) * 256 + 3 by omega] at HP2
  rw [show ((two * 256 + 3 : Nat) : Int) = (two : Int) * 256 + 3 by omega, show ((l1 + 1 : Nat) : Int) = (l1 : Int) + 1 by omega] at HP3
  have HOk1 := hid (Mach.write_ok kM_ok 0 ((4 * l2 : Nat) : Int) (b4 259))
  have HOk2 := hid (Mach.write_ok HOk1.out 1 ((4 * l1 : Nat) : Int) (b4 (one * 256 + 3)))
  obtain ⟨M3, hM3⟩ : ∃ M, kM3 l2 l1 one two = M := ⟨_, rfl⟩
  have HM3e := hid (show ((((kM.write 0 ((4 * l2 : Nat) : Int) (b4 259)).2.write 1 ((4 * l1 : Nat) : Int) (b4 (one * 256 + 3))).2).write 1 ((4 * (l1 + 1) : Nat) : Int) (b4 (two * 256 + 3))).2 = M3 from hM3)
  rw [hM3] at hst hft hk3 hlay hby h100
  clear hM3 hfr hrs hrf
  obtain ⟨M4, hM4⟩ : ∃ M, M3.layV (kRuns off l.length one two) l = M := ⟨_, rfl⟩
  rw [hM4] at hst hft hlay hby h100
  clear hM4
  have HB := hid hby; have H100 := hid h100
  have HSt := hid (fun B W v (hM : PM W B M3) (hl : SB W B v l) => hst ▸ ptStore B 0 a v l W M3 0 hM hk3.ok (by omega) hl (by omega))
  have HFt := hid (fun B W (hM : PM W B M4) => hft ▸ ptFetch B 0 a l.length W M4 0 hM hlay.ok (by omega))
  have HRd := hid (fun B W j (hj : j < 8) (hM : PM W B M4) => Read_yes B j 100 1 W M4 0 hM hlay.ok (by rw [hlay.n]; omega) (by omega))
  have hn63 : ((l1 : Int) == 63) = false := by simp; omega
  have HIn := hid hin; have HCap := hid hcap
  have hlen' : (l.length : Int) ≤ 256 := by omega
  have hl0 : (0 : Int) ≤ l.length := by omega
  have hoff' : (off : Int) < 256 := by omega
  have hl1b : (l1 : Int) < 63 := by omega
  obtain ⟨lb, hlb⟩ : ∃ x, M4.bytesOf (kRuns off l.length one two) = x := ⟨_, rfl⟩
  rw [hlb] at HB HFt
  clear hst hft hk3 hlay hby h100 e2 e1 eo hlb hin hcap hva hl1 hab hlen
  have hf' : (1 : Int) < fn := by omega
  by_cases hne : one = two
  · have hne' : ((one : Int) != two) = false := by simp; omega
    clear hne
    go_enter Try.func8, Try.ntmps8
    go_wp2_with (first
      | (go_at_call 23; refine HBg.out.mono ?_; rintro e w1 ⟨B, b, L, rfl, hbg⟩; have HM1 := hid hbg.m; have HF := hid hbg.farB; have HG1 := hid hbg.grown; have HI1 := hid (hin_sb HIn.out HCap.out hbg.farB hbg.grown); have k0 := HG1.out.cell HC0.out (by simp); have k1 := HG1.out.cell HC1.out (by simp); clear hbg)
      | (go_at_call 38; refine (HS.out _).mono ?_; rintro e w2 ⟨rfl, rfl⟩; simp only [split4])
      | (go_at_call 39; (with_reducible refine (HP1.out _ _ HM1.out).mono ?_); rintro e w3 ⟨rfl, h3, g3⟩; have HM2 := hid h3; have HG2 := hid (grown_own HG1.out g3 HF.out); have HI2 := hid (HI1.out.grown g3); clear h3 g3)
      | (go_at_call 39; (with_reducible refine (HP2.out _ _ _ HM2.out HOk1.out).mono ?_); rintro e w4 ⟨rfl, h4, g4⟩; have HM4 := hid h4; have HG4 := hid (grown_own HG2.out g4 HF.out); have HI4 := hid (HI2.out.grown g4); clear h4 g4)
      | (go_at_call 39; (with_reducible refine (HP3.out _ _ _ HM4.out HOk2.out).mono ?_); rintro e w5 ⟨rfl, h5, g5⟩; have HM5 := hid (HM3e.out ▸ h5); have HG5 := hid (grown_own HG4.out g5 HF.out); have HI5 := hid (HI4.out.grown g5); clear h5 g5)
      | (go_at_call 31; refine (HSt.out _ _ _ HM5.out HI5.out).mono ?_; rintro e w6 ⟨rfl, h6, g6⟩; have HM6 := hid h6; have HG6 := hid (grown_own HG5.out g6 HF.out); clear h6 g6)
      | (go_at_call 29; refine (HFt.out _ _ HM6.out).mono ?_; rintro e w7 ⟨v, rfl, q, c, rfl, hib, hg⟩; have HG7 := hid (HG6.out.trans hg); have HM7 := hid (HM6.out.grown hg (by simp)); have hs1 := in_string hib c _ (World.grownBy.refl _ _); have hs2 := in_string HIn.out cap _ HG7.out; clear hib hg))
    go_loopw [19] (fun i wr => ∃ k : Nat, i = .int .i64 k ∧ 2 ≤ k ∧ k ≤ 8 ∧ PM wr B M4 ∧ w.grownBy wr none) (fun i _ => 8 - (intOf i).toNat)
    case atStart => exact ⟨2, rfl, by omega, by omega, HM7.out, HG7.out⟩
    case round =>
      obtain ⟨k, rfl, h2, h8, hm, hg⟩ := hrel
      have HMr := hid hm; have HGr := hid hg
      clear hm hg
      by_cases hk : k < 8
      · have hk' : (k : Int) < 8 := by omega
        by_cases n1 : k = one
        · have n1' : ((k : Int) != (one : Int)) = false := by simp; omega
          clear n1
          go_wp2_with (first
            | (go_at_call 33; refine (HRd.out _ _ k hk HMr.out).mono ?_; rintro e w8 ⟨v, rfl, hv⟩; obtain ⟨g, rfl, _, hc, hg⟩ := newBytes_pos hv (by rw [part_len]; omega); rw [part_len] at hc ⊢; have HM8 := hid (HMr.out.grown hg (by simp)); have HG8 := hid (HGr.out.trans hg); clear hv hc hg))
          go_roundw
          case rel => exact ⟨k + 1, by go_num, by omega, by omega, HM8.out, HG8.out⟩
          case measure => simp [intOf]; omega
        · have n1' : ((k : Int) != (one : Int)) = true := by simp; omega
          by_cases n2 : k = two
          · have n2' : ((k : Int) != (two : Int)) = false := by simp; omega
            clear n1 n2
            go_wp2_with (first
              | (go_at_call 33; refine (HRd.out _ _ k hk HMr.out).mono ?_; rintro e w8 ⟨v, rfl, hv⟩; obtain ⟨g, rfl, _, hc, hg⟩ := newBytes_pos hv (by rw [part_len]; omega); rw [part_len] at hc ⊢; have HM8 := hid (HMr.out.grown hg (by simp)); have HG8 := hid (HGr.out.trans hg); clear hv hc hg))
            go_roundw
            case rel => exact ⟨k + 1, by go_num, by omega, by omega, HM8.out, HG8.out⟩
            case measure => simp [intOf]; omega
          · have n2' : ((k : Int) != (two : Int)) = true := by simp; omega
            have hz := H100.out k h2 hk n1 n2
            have HZ := hid hz
            clear n1 n2 hz
            go_wp2_with (first
              | (go_at_call 33; refine (HRd.out _ _ k hk HMr.out).mono ?_; rintro e w8 ⟨v, rfl, hv⟩; obtain ⟨g, rfl, _, hc, hg⟩ := newBytes_pos hv (by rw [part_len]; omega); rw [part_len] at hc ⊢; have c0 := hc 0 (by omega); rw [part_get _ _ _ _ (by omega), Nat.add_zero, HZ.out] at c0; have HM8 := hid (HMr.out.grown hg (by simp)); have HG8 := hid (HGr.out.trans hg); clear hv hc hg))
            go_roundw
            case rel => exact ⟨k + 1, by go_num, by omega, by omega, HM8.out, HG8.out⟩
            case measure => simp [intOf]; omega
      · obtain rfl : k = 8 := by omega
        clear hk
        go_wp2_with (go_at_call 28; refine (pAwake _).mono ?_; rintro e w9 ⟨rfl, hg⟩; have HG9 := hid (HGr.out.trans hg); clear hg)
        go_ret
        exact ⟨rfl, HG9.out⟩
  · obtain rfl : lb = l := HB.out hne
    have hne' : ((one : Int) != two) = true := by simp; omega
    clear hne
    go_enter Try.func8, Try.ntmps8
    go_wp2_with (first
      | (go_at_call 23; refine HBg.out.mono ?_; rintro e w1 ⟨B, b, L, rfl, hbg⟩; have HM1 := hid hbg.m; have HF := hid hbg.farB; have HG1 := hid hbg.grown; have HI1 := hid (hin_sb HIn.out HCap.out hbg.farB hbg.grown); have k0 := HG1.out.cell HC0.out (by simp); have k1 := HG1.out.cell HC1.out (by simp); clear hbg)
      | (go_at_call 38; refine (HS.out _).mono ?_; rintro e w2 ⟨rfl, rfl⟩; simp only [split4])
      | (go_at_call 39; (with_reducible refine (HP1.out _ _ HM1.out).mono ?_); rintro e w3 ⟨rfl, h3, g3⟩; have HM2 := hid h3; have HG2 := hid (grown_own HG1.out g3 HF.out); have HI2 := hid (HI1.out.grown g3); clear h3 g3)
      | (go_at_call 39; (with_reducible refine (HP2.out _ _ _ HM2.out HOk1.out).mono ?_); rintro e w4 ⟨rfl, h4, g4⟩; have HM4 := hid h4; have HG4 := hid (grown_own HG2.out g4 HF.out); have HI4 := hid (HI2.out.grown g4); clear h4 g4)
      | (go_at_call 39; (with_reducible refine (HP3.out _ _ _ HM4.out HOk2.out).mono ?_); rintro e w5 ⟨rfl, h5, g5⟩; have HM5 := hid (HM3e.out ▸ h5); have HG5 := hid (grown_own HG4.out g5 HF.out); have HI5 := hid (HI4.out.grown g5); clear h5 g5)
      | (go_at_call 31; refine (HSt.out _ _ _ HM5.out HI5.out).mono ?_; rintro e w6 ⟨rfl, h6, g6⟩; have HM6 := hid h6; have HG6 := hid (grown_own HG5.out g6 HF.out); clear h6 g6)
      | (go_at_call 29; refine (HFt.out _ _ HM6.out).mono ?_; rintro e w7 ⟨v, rfl, q, c, rfl, hib, hg⟩; have HG7 := hid (HG6.out.trans hg); have HM7 := hid (HM6.out.grown hg (by simp)); have hs1 := in_string hib c _ (World.grownBy.refl _ _); have hs2 := in_string HIn.out cap _ HG7.out; clear hib hg))
    go_loopw [19] (fun i wr => ∃ k : Nat, i = .int .i64 k ∧ 2 ≤ k ∧ k ≤ 8 ∧ PM wr B M4 ∧ w.grownBy wr none) (fun i _ => 8 - (intOf i).toNat)
    case atStart => exact ⟨2, rfl, by omega, by omega, HM7.out, HG7.out⟩
    case round =>
      obtain ⟨k, rfl, h2, h8, hm, hg⟩ := hrel
      have HMr := hid hm; have HGr := hid hg
      clear hm hg
      by_cases hk : k < 8
      · have hk' : (k : Int) < 8 := by omega
        by_cases n1 : k = one
        · have n1' : ((k : Int) != (one : Int)) = false := by simp; omega
          clear n1
          go_wp2_with (first
            | (go_at_call 33; refine (HRd.out _ _ k hk HMr.out).mono ?_; rintro e w8 ⟨v, rfl, hv⟩; obtain ⟨g, rfl, _, hc, hg⟩ := newBytes_pos hv (by rw [part_len]; omega); rw [part_len] at hc ⊢; have HM8 := hid (HMr.out.grown hg (by simp)); have HG8 := hid (HGr.out.trans hg); clear hv hc hg))
          go_roundw
          case rel => exact ⟨k + 1, by go_num, by omega, by omega, HM8.out, HG8.out⟩
          case measure => simp [intOf]; omega
        · have n1' : ((k : Int) != (one : Int)) = true := by simp; omega
          by_cases n2 : k = two
          · have n2' : ((k : Int) != (two : Int)) = false := by simp; omega
            clear n1 n2
            go_wp2_with (first
              | (go_at_call 33; refine (HRd.out _ _ k hk HMr.out).mono ?_; rintro e w8 ⟨v, rfl, hv⟩; obtain ⟨g, rfl, _, hc, hg⟩ := newBytes_pos hv (by rw [part_len]; omega); rw [part_len] at hc ⊢; have HM8 := hid (HMr.out.grown hg (by simp)); have HG8 := hid (HGr.out.trans hg); clear hv hc hg))
            go_roundw
            case rel => exact ⟨k + 1, by go_num, by omega, by omega, HM8.out, HG8.out⟩
            case measure => simp [intOf]; omega
          · have n2' : ((k : Int) != (two : Int)) = true := by simp; omega
            have hz := H100.out k h2 hk n1 n2
            have HZ := hid hz
            clear n1 n2 hz
            go_wp2_with (first
              | (go_at_call 33; refine (HRd.out _ _ k hk HMr.out).mono ?_; rintro e w8 ⟨v, rfl, hv⟩; obtain ⟨g, rfl, _, hc, hg⟩ := newBytes_pos hv (by rw [part_len]; omega); rw [part_len] at hc ⊢; have c0 := hc 0 (by omega); rw [part_get _ _ _ _ (by omega), Nat.add_zero, HZ.out] at c0; have HM8 := hid (HMr.out.grown hg (by simp)); have HG8 := hid (HGr.out.trans hg); clear hv hc hg))
            go_roundw
            case rel => exact ⟨k + 1, by go_num, by omega, by omega, HM8.out, HG8.out⟩
            case measure => simp [intOf]; omega
      · obtain rfl : k = 8 := by omega
        clear hk
        go_wp2_with (go_at_call 28; refine (pAwake _).mono ?_; rintro e w9 ⟨rfl, hg⟩; have HG9 := hid (HGr.out.trans hg); clear hg)
        go_ret
        exact ⟨rfl, HG9.out⟩

set_option maxRecDepth 100000 in
theorem early (va : Nat) (l : List UInt8) (pa : Option Addr) (cap : Nat) (f : Value) (w : World) (hva : va < 4294967296) (hlen : l.length ≤ 9223372036854775807) (h : 256 < l.length ∨ va % 1048576 / 256 % 64 = 63) :
    Calls Try.prog 8 #[.int .u32 va, .slice pa l.length cap, f] w fun e w' => e = .returned (.bool true) ∧ w.grownBy w' none := by
  obtain ⟨a, ha⟩ : ∃ a, va % 1048576 = a := ⟨_, rfl⟩
  have ha' : (va : Int) % 1048576 = (a : Int) := by omega
  have hab : a < 1048576 := by omega
  rw [ha] at h
  clear ha
  have HS := hid (fun w => rSplit_any a w (by omega))
  rw [show splitV a = (a / 16384, a / 256 % 64, a % 256, 0) by unfold splitV; rw [if_neg (by omega)]] at HS
  generalize a / 16384 = l2 at *
  generalize a / 256 % 64 = l1 at *
  generalize a % 256 = off at *
  have HBg := hid (show Calls Try.prog 23 #[.int .i64 8, .slice none 0 0] w fun e w' => ∃ B b L, e = .returned (.tuple #[.pointer (some ⟨B, 0, none⟩), .pointer (some ⟨b, 0, none⟩), .bool true]) ∧ Bg w w' B b kM L 0 from pBegin 8 none 0 [] w (fun j h => by simp at h) (by omega) (by omega) (by simp))
  have hh : ((256 : Int) < l.length) ∨ (¬ (256 : Int) < l.length ∧ ((l1 : Int) == 63) = true) := by
    by_cases hc : 256 < l.length
    · exact .inl (by omega)
    · exact .inr ⟨by omega, by rcases h with h | h; omega; simp; omega⟩
  clear h hva hab
  rcases hh with h | ⟨h, h'⟩
  all_goals
    go_enter Try.func8, Try.ntmps8
    go_wp2_with (first
      | (go_at_call 23; refine HBg.out.mono ?_; rintro e w1 ⟨B, b, L, rfl, hbg⟩; have HG1 := hid hbg.grown; clear hbg)
      | (go_at_call 38; refine (HS.out _).mono ?_; rintro e w2 ⟨rfl, rfl⟩; simp only [split4])
      | (go_at_call 28; refine (pAwake _).mono ?_; rintro e w9 ⟨rfl, hg⟩; have HG9 := hid (HG1.out.trans hg); clear hg))
    go_ret
    exact ⟨rfl, HG9.out⟩
theorem main {H : Type} {enc : TypeId × Value → H} (v0 v1 v2 : Value) (w : World) (c0 : Flat.Came enc Try.prog w 0 (fun _ => true) true 44 v0) (c1 : Flat.Came enc Try.prog w 0 (fun _ => true) true 31 v1) (c2 : Flat.Came enc Try.prog w 0 (fun _ => true) true 31 v2) :
    Calls Try.prog 8 #[v0, v1, v2] w fun e w' => e = .returned (.bool true) ∧ w.grownBy w' none := by
  obtain ⟨va', rfl, wf⟩ := c0.int Try.underlying44
  obtain ⟨va, rfl, hva⟩ := u32_nat wf
  obtain ⟨pa, l, cap, rfl, hin, hlen, hcap⟩ := came_room c1
  obtain ⟨qa, f, fc, rfl, hf, hfl, _⟩ := came_room c2
  by_cases h : 256 < l.length ∨ va % 1048576 / 256 % 64 = 63
  · exact early va l pa cap _ w hva (by omega) h
  by_cases hn : f.length ≤ 1
  · exact walkA va l pa cap qa f.length fc w hva hin hcap (by omega) (by omega) hn
  · rcases hf with rfl | ⟨fb, fo, rfl, _, hc⟩
    · simp at hn
    · have k0 := hc 0 (by omega)
      have k1 := hc 1 (by omega)
      exact walkB va l pa cap fb fo f.length fc (f.getD 0 0).toNat (f.getD 1 0).toNat w hva hin hcap (by omega) (by omega) (by omega) (f.getD 0 0).toNat_lt (f.getD 1 0).toNat_lt k0 k1

theorem own : ownKnob Try.prog.godebug = none := by kernel_rfl
theorem laidOut : laidOutB Try.prog = true := by kernel_rfl

set_option maxRecDepth 100000 in
theorem lifted (os : Os) (started : os.Started) (H : Type) (enc : TypeId × Value → H) :
    ReturnsInHanded {} Try.checked os 8 .any (Rows.pteKeptSpec.pre6 enc Try.prog Try.f8 Rows.pteKeptRow.domain false) (Rows.pteKeptSpec.post enc Try.prog Try.f8 false true false false) := by
  refine returnsInHanded_of_change_sized (C := Try.checked) own started (by kernel_rfl) Try.func8
    (ChangeSpec.witness6 (enc := enc) (C := Try.checked) false ⟨#[], #[.int .u32 0, .slice none 0 0, .slice none 0 0], []⟩ 8 (by kernel_rfl) (by kernel_rfl) (by kernel_rfl) (by kernel_rfl)) ?_
  intro W base args ds gs before hval0 hW _ hsz0 _
  have hsz : (DataW.weightsEach Try.prog (Try.f8.params.toList ++ Rows.pteKeptSpec.plain.varTypes Try.prog) (ds ++ gs)).all (· ≤ reachBytes) = true := hsz0
  clear hsz0
  have hval : ∀ (j : Nat) t v, Try.f8.params[j]? = some t → args[j]? = some v → Value.okWide Try.prog W .any base t v := hval0
  have hW' := hW
  obtain ⟨p, q, hA0, hV, rfl, hfz, hnd⟩ := hW
  have hA : DataW.TrodAll enc Try.prog W 0 (fun _ => true) true Try.f8.params.toList args.toList ds p := hA0
  rw [Try.params8] at hA hval hsz
  obtain ⟨v0, vs0, d0, ds0, p0, q0, hargs, rfl, rfl, h0, r0⟩ := trodAll_cons hA
  obtain ⟨v1, vs1, d1, ds1, p1, q1, rfl, rfl, rfl, h1, r1⟩ := trodAll_cons r0
  obtain ⟨v2, vs2, d2, ds2, p2, q2, rfl, rfl, rfl, h2, r2⟩ := trodAll_cons r1
  obtain ⟨rfl, rfl, rfl⟩ := trodAll_nil r2
  obtain rfl : args = #[v0, v1, v2] := by cases args; simp_all
  obtain ⟨rfl, rfl⟩ := trodVars_none hV
  obtain ⟨a0, rfl, rfl, rfl, w0⟩ := open_int Try.underlying44 (hval 0 44 v0 rfl rfl) h0
  have k0 := h0
  have lt0 : ∀ x ∈ ([] : List MemPlace), x.block < W.heap.size := by obtain ⟨m, hm⟩ := k0; exact DataW.trod_lt m _ _ _ hm
  have c0 : Flat.Came enc Try.prog W 0 (fun _ => true) true 44 (.int .u32 a0) := by
    obtain ⟨fuel, hf⟩ := h0
    exact ⟨fuel, _, hf, fun n hn => by
      have := List.all_eq_true.1 hsz n (DataW.weights_mem_each (j := 0) rfl rfl n hn)
      simpa using this⟩
  obtain ⟨ps1, ln1, cp1, rfl⟩ := okWide_slice Try.underlying31 (hval 1 31 v1 rfl rfl)
  have k1 := h1
  have lt1 : ∀ x ∈ p1, x.block < W.heap.size := by obtain ⟨m, hm⟩ := k1; exact DataW.trod_lt m _ _ _ hm
  have c1 : Flat.Came enc Try.prog W 0 (fun _ => true) true 31 (.slice ps1 ln1 cp1) := by
    obtain ⟨fuel, hf⟩ := h1
    exact ⟨fuel, _, hf, fun n hn => by
      have := List.all_eq_true.1 hsz n (DataW.weights_mem_each (j := 1) rfl rfl n hn)
      simpa using this⟩
  obtain ⟨ps2, ln2, cp2, rfl⟩ := okWide_slice Try.underlying31 (hval 2 31 v2 rfl rfl)
  have k2 := h2
  have lt2 : ∀ x ∈ p2, x.block < W.heap.size := by obtain ⟨m, hm⟩ := k2; exact DataW.trod_lt m _ _ _ hm
  have c2 : Flat.Came enc Try.prog W 0 (fun _ => true) true 31 (.slice ps2 ln2 cp2) := by
    obtain ⟨fuel, hf⟩ := h2
    exact ⟨fuel, _, hf, fun n hn => by
      have := List.all_eq_true.1 hsz n (DataW.weights_mem_each (j := 2) rfl rfl n hn)
      simpa using this⟩
  clear hA0 hval0
  refine (main (.int .u32 a0) (.slice ps1 ln1 cp1) (.slice ps2 ln2 cp2) W c0 c1 c2).mono fun e W' ⟨he, hg⟩ => ?_
  subst he
  have bel := below_grown hg
  simp only [List.append_nil, List.nil_append] at hW'
  exact ⟨_, rfl, _, _, _, [], _, [], hW', trodAll_mk1 (shut_bool Try.underlying4 _), (trodAll_cons_mk (Below.trod laidOut (by kernel_rfl) (of_decide_eq_true (by kernel_rfl)) k0 bel lt0) (trodAll_cons_mk (Below.trod laidOut (by kernel_rfl) (of_decide_eq_true (by kernel_rfl)) k1 bel lt1) (trodAll_cons_mk (Below.trod laidOut (by kernel_rfl) (of_decide_eq_true (by kernel_rfl)) k2 bel lt2) trodAll_mk0))), rfl, bel.frame _, fun h => by cases h⟩

theorem proved : Rows.PteKeptSaid :=
  OpenClaim.holds_of_wide 8 Try.f8 rfl rfl rfl rfl rfl rfl rfl ⟨rfl, rfl, rfl, rfl, rfl⟩ rfl rfl rfl rfl rfl (by kernel_rfl) Try.func8 (by kernel_rfl)
    (of_decide_eq_true (by kernel_rfl)) (by unfold Func.isWrapper; first | (rw [if_pos (by decide +kernel)]; kernel_rfl) | (rw [if_neg (by decide +kernel)]; exact ⟨rfl, rfl⟩))
    (fun os started H enc _ => lifted os started H enc)
#print axioms proved

end Go.Proofs.Ytdjhkacjgdnglaa.lawPteKept
