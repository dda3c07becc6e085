/-
  Contract of told: of a pair both tell the same.
-/
import Derived.Test.YtmemeaaffbalbaaOps
import Derived.Deep.Cut
namespace Go.Proofs.Ytmemeaaffbalbaa
open Go.RowKit
set_option maxHeartbeats 2000000

set_option maxRecDepth 100000 in
theorem told_yes (B b : Nat) (w : World) (M : Mach) (L : Lay) (T : Int) (hP : Pair w B b M L) (hok : M.ok T) :
    Calls Try.prog 18 #[.pointer (some ⟨B, 0, none⟩), .pointer (some ⟨b, 0, none⟩)] w fun e w' => e = .returned (.bool true) ∧ w.grownBy w' none := by
  have hn1 := hok.n1; have hn2 := hok.n2
  have hnn := hP.r.hn
  have hl1 : (1 : Int) ≤ (L.n : Int) := by omega
  have hl2 : L.n ≤ 256 := by omega
  have HSz := hid (fun (W : World) (h : PM W B M) => (hnn ▸ Size_yes B M.n W hn1 h.size : Calls Try.prog 52 #[.pointer (some ⟨B, 0, none⟩)] W fun e w' => e = .returned (.int .i64 (L.n : Int)) ∧ W = w'))
  have HFn := hid (fun (W : World) (h : PM W B M) => (Frame_no B (L.n : Int) W M T h hok (by omega)))
  have HFm := hid (fun (W : World) (h : PM W B M) => (Frame_no B (-1) W M T h hok (by omega)))
  have HFy := hid (fun (W : World) (h : PM W B M) (k : Nat) (hk : k < L.n) => (Frame_yes B k W M T h hok (by omega)))
  have HRd := hid (fun (W : World) (h : PM W B M) (k : Nat) (hk : k < L.n) => (Read_yes B k 0 256 W M T h hok (by omega) (by omega)))
  have HN := hid hnn
  have hb1 : ((L.n : Int) != (L.n : Int)) = false := by simp
  have hb2 : (M.leftN != M.leftN) = false := by simp
  have hsF := (hP.grown (grownBy_drew w none)).r.slF
  have HD := hid (hP.grown (grownBy_drew w none))
  have HGD := hid (grownBy_drew w none)
  clear hP hnn
  go_enter Try.func18, Try.ntmps18
  go_wp2
  go_region_held3 (fun w' => w'.cell? ⟨b, 0, none⟩ = some (.slice (some ⟨L.fF, 0, none⟩) L.n L.cF)) (first | assumption | go_keep)
    (first
      | (go_at_call 52; refine (HSz.out _ HD.out.m).mono ?_; rintro e w1 ⟨rfl, rfl⟩)
      | (go_at_call 34; refine (Left_any _ M _ (HD.out.m.stops hn1 hn2) hn2).mono ?_; rintro e w1 ⟨rfl, g1⟩; have k1 := (HD.out.grown g1).r.slF; have HP1 := hid (HD.out.grown g1); have HG1 := hid (HGD.out.trans g1); clear g1)
      | (go_at_call 53; refine (rLeft b _ M L HP1.out.r hn2).mono ?_; rintro e w2 ⟨rfl, g2⟩; have k2 := (HP1.out.grown g2).r.slF; have HP2 := hid (HP1.out.grown g2); have HG2 := hid (HG1.out.trans g2); clear g2))
  go_wp2
  clear hsF k1 HD HGD HP1 HG1 hb2
  go_loopw [5] (fun i wr => ∃ k : Nat, i = .int .i64 k ∧ k ≤ L.n ∧ Pair wr B b M L ∧ w.grownBy wr none) (fun i _ => L.n - (intOf i).toNat)
  case atStart => exact ⟨0, rfl, by omega, HP2.out, HG2.out⟩
  case round =>
    clear k2 HP2 HG2
    obtain ⟨k, rfl, hk, hP, hg⟩ := hrel
    have hsF := hP.r.slF
    have HP := hid hP; have HG := hid hg
    clear hP hg
    have hk0 : (0 : Int) ≤ k := by omega
    by_cases hlt : k < L.n
    · have hlt' : (k : Int) < L.n := by omega
      go_upto_region 8 with (first
        | (go_at_call 30; refine (HFy.out _ HP.out.m k hlt).mono ?_; rintro e w3 ⟨rfl, g3⟩; unfold Fr.head; have HP3 := hid ((HP.out.grown g3).grown (World.grownBy_alloc w3 (.cells #[.int .i64 (M.fr k).owner, .int .i64 (M.fr k).ty, .int .i64 (M.fr k).cnt, .int .i64 (M.fr k).tot] 71) none)); have HG3 := hid ((HG.out.trans g3).trans (World.grownBy_alloc w3 (.cells #[.int .i64 (M.fr k).owner, .int .i64 (M.fr k).ty, .int .i64 (M.fr k).cnt, .int .i64 (M.fr k).tot] 71) none)); clear g3)
        | (go_at_call 31; refine (HRd.out _ HP3.out.m k hlt).mono ?_; rintro e w4 ⟨v4, rfl, hnew⟩; obtain ⟨p4, s4, rfl, hin4, g4⟩ := newBytes_out hnew; rw [part_len]; have HP4 := hid (HP3.out.grown g4); have HG4 := hid (HG3.out.trans g4); have kc1 := (fun n => in_string (c := s4) hin4 _ (grownBy_drewN w4 n none)); rw [part_len] at kc1; clear hnew hin4))
      clear hsF
      have f0 := g4.cell (a := ⟨w3.heap.size, 0, none⟩) (v := .int .i64 (M.fr k).owner) (by simp [go_sem]) (by simp)
      have f1 := g4.cell (a := ⟨w3.heap.size, 1, none⟩) (v := .int .i64 (M.fr k).ty) (by simp [go_sem]) (by simp)
      have f2 := g4.cell (a := ⟨w3.heap.size, 2, none⟩) (v := .int .i64 (M.fr k).cnt) (by simp [go_sem]) (by simp)
      have f3 := g4.cell (a := ⟨w3.heap.size, 3, none⟩) (v := .int .i64 (M.fr k).tot) (by simp [go_sem]) (by simp)
      have e0 := HP4.out.r.slF
      have e1 := HP4.out.r.slB
      have e2 := HP4.out.r.owner hlt
      have e3 := HP4.out.r.ty hlt
      have e4 := HP4.out.r.cnt hlt
      have e5 := HP4.out.r.tot hlt
      have e6 := HP4.out.r.sl hlt
      have kc2 : ∀ n : Nat, (convert 31 9 (.slice (some ⟨L.g k, 0, none⟩) 256 (L.cg k))).run Try.prog (w4.drewN n) = .ok (.string ⟨((M.fr k).part 0 256).toArray⟩) (w4.drewN n) := fun n =>
        conv_row _ _ 0 256 _ _ (part_len _ _ _) fun q hq => by rw [part_get _ _ _ _ hq]; simpa using (HP4.out.r.byte hlt hq)
      clear g4
      go_quiet (fail)
      clear f0 f1 f2 f3 e0 e1 e2 e3 e4 e5 e6 kc1 kc2
      go_wp2
      go_roundw
      case rel => exact ⟨k + 1, by go_num, by omega, HP4.out.grown (grownBy_drewN w4 nq none), HG4.out.trans (grownBy_drewN w4 nq none)⟩
      case measure => simp [intOf]; omega
    · have hge : (L.n : Int) ≤ k := by omega
      obtain rfl : k = L.n := by omega
      clear hk hlt
      go_wp2
      go_loopw [10] (fun i wx => ∃ o : Int, i = .int .i64 o ∧ -2 ≤ o ∧ o ≤ 9 ∧ Pair wx B b M L ∧ w.grownBy wx none) (fun i _ => (9 - intOf i).toNat)
      case atStart => exact ⟨-2, rfl, by omega, by omega, HP.out, HG.out⟩
      case round =>
        clear HP HG hsF
        obtain ⟨o, rfl, ho1, ho2, hP, hg⟩ := hrel
        have hsF := hP.r.slF
        have HP := hid hP; have HG := hid hg
        clear hP hg
        by_cases hlt : o ≤ 8
        · obtain ⟨l, hl⟩ : ∃ l, M.ownedL o = l := ⟨_, rfl⟩
          have hll : l.length ≤ 256 := by
            have := List.length_filter_le (fun k => (M.fr k).owner == o) (List.range M.n.toNat)
            rw [← hl]
            simp only [List.length_range] at this
            show ((List.range M.n.toNat).filter fun k => (M.fr k).owner == o).length ≤ 256
            omega
          have HL := hid hl
          clear hl
          go_wp2_with (first
            | (go_at_call 55; refine (Owned_any _ M o _ (HP.out.m.stops hn1 hn2) hn2).mono ?_; rw [HL.out]; rintro e w5 ⟨v, rfl, hnew⟩; obtain ⟨pv, cv, rfl⟩ := newInts_slice hnew; have HP5 := hid (HP.out.grown hnew.2.2); have HG5 := hid (HG.out.trans hnew.2.2); have HO5 := hid hnew.1; clear hnew)
            | (go_at_call 56; refine (rOwned b o _ M L HP5.out.r hn2).mono ?_; rw [HL.out]; rintro e w6 ⟨v, rfl, hnew⟩; obtain ⟨pu, cu, rfl⟩ := newInts_slice hnew; have HP6 := hid (HP5.out.grown hnew.2.2); have HG6 := hid (HG5.out.trans hnew.2.2); have HO6 := hid hnew.1; have HO5' := hid (HO5.out.kept hnew.2.2 (none_row' _)); clear hnew)
            | (go_at_call 54; refine (ints_same pv pu l.length cv cu l _ _ _ HO5'.out HO6.out rfl hll).mono ?_; rintro e w7 ⟨rfl, m7, rfl⟩))
          go_roundw
          case rel => exact ⟨o + 1, by go_num, by omega, by omega, HP6.out.grown (grownBy_drewN w6 m7 none), HG6.out.trans (grownBy_drewN w6 m7 none)⟩
          case measure => simp [intOf]; omega
        · go_wp2_with (go_at_call 30; first
            | ((with_reducible refine (HFn.out _ HP.out.m).mono ?_); rintro e w3 ⟨rfl, g3⟩; have HP3 := hid ((HP.out.grown g3).grown (World.grownBy_alloc w3 (.cells #[.int .i64 0, .int .i64 0, .int .i64 0, .int .i64 0] 71) none)); have HG3 := hid ((HG.out.trans g3).trans (World.grownBy_alloc w3 (.cells #[.int .i64 0, .int .i64 0, .int .i64 0, .int .i64 0] 71) none)); clear g3)
            | ((with_reducible refine (HFm.out _ HP3.out.m).mono ?_); rintro e w4 ⟨rfl, g4⟩; have HG4 := hid ((HG3.out.trans g4).trans (World.grownBy_alloc w4 (.cells #[.int .i64 0, .int .i64 0, .int .i64 0, .int .i64 0] 71) none)); clear g4))
          go_ret
          exact ⟨rfl, HG4.out⟩
end Go.Proofs.Ytmemeaaffbalbaa
