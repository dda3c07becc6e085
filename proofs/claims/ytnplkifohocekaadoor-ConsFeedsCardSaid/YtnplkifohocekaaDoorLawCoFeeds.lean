/-
  ConsFeeds: bytes that are fed, some at a time, to a guest that takes all of them each time, stand in the ring in order, and no more than there is room for is taken, whatever number the guest tells at last; what came in is as it was.
-/
import Derived.Test.YtnplkifohocekaaDoorCoG
import Derived.Test.YtnplkifohocekaaDoorViewD
set_option linter.unusedSimpArgs false
set_option linter.unusedVariables false
namespace Go.Proofs.YtnplkifohocekaaDoor.lawCoFeeds
open Go.RowKit Go.Lib Go.Proofs.YtnplkifohocekaaDoor.Bk Go.Proofs.YtnplkifohocekaaDoor.Co Go.ChangeShapes Go.WideShapes Go.ChangeAt Go.Deep
set_option maxHeartbeats 4000000
theorem beg1 : 1 ≤ (begK 2).n := by rw [begK_n]; decide
/-- how the law begins -/
theorem begins {W0 w1 : World} {B b : Nat} {Lr : Lay} (h : Bg W0 w1 B b (begK 2) Lr 0) : ∀ w2, w2 = w1.alloc (Obj.cells (cnCells 0 true 0 (.slice none 0 0) (.slice none 0 0) 0) 74) →
    ∀ w3 f, VV w3 (w2.heap.size + 1) w2.heap.size B (fun k => w2.heap.size + 2 ≤ k ∧ k < w3.heap.size) [] 0 0 f → w2.grownBy w3 none →
    LF W0 w3 (w2.heap.size + 1) w2.heap.size B w1.heap.size (fun k => w2.heap.size + 2 ≤ k ∧ k < w3.heap.size) 0 0 (begK 2) 0 := by
  rintro w2 rfl w3 f hv hg
  have hz : (w1.alloc (Obj.cells (cnCells 0 true 0 (.slice none 0 0) (.slice none 0 0) 0) 74)).heap.size = w1.heap.size + 1 := by simp
  have hB := h.m.lt
  have hg1 := World.grownBy_alloc w1 (Obj.cells (cnCells 0 true 0 (.slice none 0 0) (.slice none 0 0) 0) 74) none
  refine ⟨⟨⟨f, hv⟩, (h.m.grown hg1 (by simp)).grown hg (by simp), h.ok, ?_, by omega, by omega, by omega, by omega⟩, beg_good, (h.grown.trans hg1).trans hg, ?_⟩
  · refine Row.grown ?_ hg (by simp)
    exact ⟨_, (MapKept.heap_alloc w1 _).1, by simp [cnCells], fun k hk => by
      match k, hk with
      | 0, _ => rfl
      | 1, _ => rfl
      | 2, _ => rfl
      | 3, _ => rfl
      | 4, _ => rfl
      | 5, _ => rfl⟩
  · have h1 := h.farB
    have h2 := h.grown.size
    rintro k (rfl | rfl | rfl | rfl) <;> omega
theorem own_ba' {w : World} {base n m c : Nat} {l : List UInt8} {p : Option Addr} (hn : l.length = n) (h : w.ownsRow base 5 1 (.slice p m c) n (Bk.bcells l)) : BA w p l := by
  subst hn
  obtain ⟨q, d, e, hba, _⟩ := own_ba h
  cases e
  exact hba
/-- Feed of three hundred zeros -/
theorem feedZ {W w8 w10 : World} {V G B C : Nat} {S : Nat → Prop} {n P : Nat} {M2 : Mach} {hos pm k2 : Nat} (h : LF W w8 V G B C S n 0 M2 P) (hmo : w10.ownsRow w8.heap.size 5 1 (.slice (some ⟨w8.heap.size, 0, none⟩) 300 300) 300 (Bk.bcells (List.replicate 300 0))) (hg : w8.grownBy w10 none)
    (hpm : P % 65536 = pm) (hn4 : num4 M2 = hos) (hk : fedN pm hos 300 = k2) (hn : n ≤ 5864062014805) :
    Calls Tryd.prog 24 #[.pointer (some ⟨C, 0, none⟩), .pointer (some ⟨V, 0, none⟩), .slice (some ⟨w8.heap.size, 0, none⟩) 300 300] w10 fun e w' => e = .returned (.tuple #[.int .i64 (k2 : Int), .int .i64 0]) ∧ W.grownBy w' none := by
  have hb : BA w10 (some ⟨w8.heap.size, 0, none⟩) (List.replicate 300 0) := own_ba' (by rw [List.length_replicate]) hmo
  have hfed : fedN (P % 65536) (num4 M2) (List.replicate 300 (0 : UInt8)).length = k2 := by rw [List.length_replicate, hpm, hn4, hk]
  have := lFeed (h.grown hg) (by omega) (some ⟨w8.heap.size, 0, none⟩) 300 (List.replicate 300 0) hb (by rw [List.length_replicate]; exact Nat.le_refl _) (fun e => by cases e) (fun a ha _ hf => by cases ha; have := h.fw.lt _ hf; simp only at this; omega) (by rw [List.length_replicate]; omega)
  rw [hfed, List.length_replicate] at this
  exact this.mono fun e w' ⟨he, hl⟩ => ⟨he, hl.g⟩
set_option maxRecDepth 100000 in
theorem walk (p : Option Addr) (ls : List (List UInt8)) (cap : Nat) (hos : Nat) (W : World) (hT : Lib.Utf8Tabs 0 1 W) (hin : PartsIn W p ls) (hl : ls.length ≤ 5864062014805) (hh : hos < 65536) :
    Calls Tryd.prog 6 #[.slice p ls.length cap, .int .u16 (hos : Int)] W fun e w' => e = .returned (.bool true) ∧ Below W.heap.size W w' := by
  have HT := hid hT
  have HI := hid hin
  have HB := hid (cBegin W)
  have hli : (ls.length : Int) ≤ 5864062014805 := by omega
  have hhi : (hos : Int) ≤ 65535 := by omega
  have hh0 : (0 : Int) ≤ hos := by omega
  clear hT hin
  go_enter Tryd.func6, Tryd.ntmps6
  go_wp2_with (first
    | (go_at_call 12; (with_reducible refine HB.out.mono ?_); rintro e w1 ⟨B, b, Lr, rfl, hbg⟩; have HBG := hid hbg; clear hbg)
    | (go_at_call 13; refine (cNew_yes 0 _ (by decide) (by decide)).mono ?_; rintro e w2 ⟨rfl, hw2⟩; have HW2 := hid hw2; have HV := hid (vNew B none 0 [] w2 (begK 2) (by rw [hw2]; exact HBG.out.m.grown (World.grownBy_alloc w1 _ none) (by simp)) beg1 (by simp) (fun j hj => by simp at hj)); clear hw2)
    | (go_at_call 21; refine HV.out.mono ?_; rintro e w3 ⟨rfl, ⟨f, hvv⟩, hg3⟩; have HL := hid (begins HBG.out w2 HW2.out w3 f hvv hg3); clear hvv hg3)
    | fail)
  clear HV HW2 HBG HB
  generalize w2.heap.size + 1 = V at HL ⊢
  generalize w1.heap.size = C at HL ⊢
  obtain ⟨S, hS⟩ : ∃ S : Nat → Prop, (fun k => w2.heap.size + 2 ≤ k ∧ k < w3.heap.size) = S := ⟨_, rfl⟩
  rw [hS] at HL
  clear hS
  generalize w2.heap.size = G at HL
  go_loopw [12, 13] (fun tp ti wr => ∃ (i P : Nat) (M : Mach), tp = .int .i64 P ∧ ti = .int .i64 i ∧ i ≤ ls.length ∧ P ≤ 64 * i ∧ LF W wr V G B C S i 0 M P ∧ num4 M = P % 65536) (fun _ ti _ => ls.length - (Lib.intOf ti).toNat)
  case atStart => exact ⟨0, 0, begK 2, rfl, rfl, Nat.zero_le _, Nat.le_refl _, HL.out, rfl⟩
  case round =>
    obtain ⟨i, P, M, rfl, rfl, hil, hP, hlf, hnum⟩ := hrel
    have HLF := hid hlf
    have HN := hid hnum
    clear hlf hnum HL
    have hPi : (P : Int) ≤ 375299968947520 := by omega
    by_cases hlt : i < ls.length
    · obtain ⟨pb, off, q, c, rfl, hpb, hc0, hba, hbc, hqc, hbl, hqa⟩ := HI.out i hlt
      obtain ⟨bt, hbt⟩ : ∃ bt, ls.getD i [] = bt := ⟨_, rfl⟩
      rw [hbt] at hc0 hba hbc hbl hqa
      have HC0 := hid hc0
      have HBA := hid hba
      have c0 := HLF.out.g.cell hc0 (by simp)
      obtain ⟨k, hk⟩ : ∃ k, min bt.length 64 = k := ⟨_, rfl⟩
      have hfed : fedN (P % 65536) (num4 M) bt.length = k := by unfold fedN; rw [HN.out]; omega
      have HF := hid (lFeed HLF.out (by omega) q c bt (hba.grown HLF.out.g) hbc hqc (fun a ha h0 hf => by have := hqa a ha h0; have := HLF.out.lo _ hf; omega) (by omega))
      rw [hfed] at HF
      have hkb : k ≤ bt.length := by omega
      have hk64 : k ≤ 64 := by omega
      have hki : (k : Int) ≤ 64 := by omega
      have e1 : min (bt.length : Int) 64 = k := by omega
      have hbli : (bt.length : Int) ≤ 140737488351232 := by omega
      have hbtc : (bt.length : Int) ≤ c := by omega
      have HQA := hid hqa
      clear hbt hc0 hba hqa hfed hk hqc
      go_upto_region 13 with (first
        | (go_at_call 24; (with_reducible refine HF.out.mono ?_); rintro e w4 ⟨rfl, hl4⟩; have HL4 := hid hl4; clear hl4)
        | fail)
      have d0 := HL4.out.g.cell HC0.out (by simp)
      clear c0
      go_wp2
      obtain ⟨fg, fr, f6, f7⟩ := HLF.out.good.feed P k bt hk64 hkb
      obtain ⟨M1, hM1⟩ : ∃ M1, feedM M 0 (P % 65536) k bt = M1 := ⟨_, rfl⟩
      rw [hM1] at HL4 fr f6 f7
      have HFR := hid fr
      have HF6 := hid f6
      have HF7 := hid f7
      clear fg fr f6 f7 hM1 HF HLF
      go_loopw [12, 16] (fun tp tj wr => ∃ j : Nat, tp = .int .i64 ((P : Int) + j) ∧ tj = .int .i64 j ∧ j ≤ k ∧ LF W wr V G B C S (i + 1) 0 M1 (P + k)) (fun _ tj _ => k - (Lib.intOf tj).toNat)
      case atStart => exact ⟨0, by simp, rfl, Nat.zero_le _, HL4.out⟩
      case round =>
        clear HL4 d0
        obtain ⟨j, rfl, rfl, hjk, hlf⟩ := hrel
        have HL5 := hid hlf
        clear hlf
        have hji : (j : Int) ≤ 64 := by omega
        by_cases hj : j < k
        · obtain ⟨z, hz⟩ : ∃ z, (P + j) % 64 = z := ⟨_, rfl⟩
          have ez : ((P : Int) + j) % 64 = z := by omega
          have hz64 : z < 64 := by omega
          have hzi : (z : Int) ≤ 63 := by omega
          have HRD := hid (show Calls Tryd.prog 20 #[.pointer (some ⟨B, 0, none⟩), .int .i64 0, .int .i64 (160 + (z : Int)), .int .i64 1] wr fun e w' => ∃ g c, e = .returned (.tuple #[.slice (some ⟨g, 0, none⟩) 1 c, .int .i64 0]) ∧ LF W w' V G B C S (i + 1) 0 M1 (P + k) ∧ w'.cell? ⟨g, 0, none⟩ = some (.int .u8 (bt.getD j 0).toNat) from by
            refine (show Calls _ _ _ _ _ from (lRead HL5.out (160 + z) 1 (by omega))).mono ?_
            rintro e w' ⟨q, c, rfl, h1, _, h2⟩
            obtain ⟨g, rfl, _, h3⟩ := h2 (by omega)
            have h4 := h3 0 (by omega)
            refine ⟨g, c, rfl, h1, ?_⟩
            rw [h4, Nat.add_zero, ← HFR.out j hj, hz])
          have hjb : j < bt.length := by omega
          obtain ⟨qb, qo, rfl⟩ := HBA.out.ptr (by omega)
          obtain ⟨x, hx⟩ : ∃ x, bt.getD j 0 = x := ⟨_, rfl⟩
          have hbx := HBA.out.at hjb
          rw [hx] at hbx HRD
          have HBX := hid hbx
          clear hz hx hbx
          go_upto_region 19 with (first
            | (go_at_call 20; (with_reducible refine HRD.out.mono ?_); rintro e w6 ⟨g6, c6, rfl, h6, x6⟩; have HL6 := hid h6; have HX6 := hid x6; clear h6 x6)
            | fail)
          have k0 := HX6.out
          have k1 := HL6.out.g.cell HC0.out (by simp)
          have k2 := HL6.out.g.cell HBX.out (by simp)
          go_quiet (fail)
          all_goals
            clear k0 k1 k2
            go_wp2
            exact ⟨⟨j + 1, by congr 1, by congr 1, by omega, HL6.out.grown (grownBy_drewN _ _ _)⟩, by simp [Lib.intOf]; omega⟩
        · obtain rfl : j = k := by omega
          obtain ⟨t6, ht6⟩ : ∃ t : Nat, (P + j) % 65536 % 256 = t := ⟨_, rfl⟩
          obtain ⟨t7, ht7⟩ : ∃ t : Nat, (P + j) % 65536 / 256 % 256 = t := ⟨_, rfl⟩
          have HRD := hid (show Calls Tryd.prog 20 #[.pointer (some ⟨B, 0, none⟩), .int .i64 0, .int .i64 6, .int .i64 2] wr fun e w' => ∃ g c, e = .returned (.tuple #[.slice (some ⟨g, 0, none⟩) 2 c, .int .i64 0]) ∧ LF W w' V G B C S (i + 1) 0 M1 (P + j) ∧ wr.heap.size ≤ g ∧ w'.cell? ⟨g, 0, none⟩ = some (.int .u8 t6) ∧ w'.cell? ⟨g, 1, none⟩ = some (.int .u8 t7) from by
            refine (show Calls _ _ _ _ _ from (lRead HL5.out 6 2 (by omega))).mono ?_
            rintro e w' ⟨q, c, rfl, h1, _, h2⟩
            obtain ⟨g, rfl, hgg, h3⟩ := h2 (by omega)
            refine ⟨g, c, rfl, h1, hgg, ?_, ?_⟩
            · rw [h3 0 (by omega), Nat.add_zero, HF6.out, ht6, UInt8.toNat_ofNat']
              congr 3
              omega
            · rw [h3 1 (by omega), HF7.out, ht7, UInt8.toNat_ofNat']
              congr 3
              omega)
          have t6l : (t6 : Int) ≤ 255 := by omega
          have t7l : (t7 : Int) ≤ 255 := by omega
          have et : (t6 : Int) + 256 * t7 = ((P : Int) + j) % 65536 := by omega
          have ew1 : IntKind.i64.wrap (256 * (t7 : Int)) = 256 * t7 := by simp [IntKind.wrap_i64]; omega
          have ew2 : IntKind.i64.wrap ((t6 : Int) + 256 * t7) = (t6 : Int) + 256 * t7 := by simp [IntKind.wrap_i64]; omega
          have HT67 := hid (show t6 + 256 * t7 = (P + j) % 65536 by omega)
          clear ht6 ht7 hjk
          go_upto_region 23 with (first
            | (go_at_call 20; (with_reducible refine HRD.out.mono ?_); rintro e w6 ⟨g6, c6, rfl, h6, hg6, x6, x7⟩; have HL6 := hid h6; have HG6 := hid hg6; have HX6 := hid x6; have HX7 := hid x7; clear h6 x6 x7 hg6)
            | fail)
          have k0 := HX6.out
          have k1 := HX7.out
          go_quiet (fail)
          all_goals
            have HWR := hid (show Calls Tryd.prog 22 #[.pointer (some ⟨B, 0, none⟩), .int .i64 0, .int .i64 4, .slice (some ⟨g6, 0, none⟩) 2 c6] (w6.drewN nq) fun e w' => ∃ M2, e = .returned (.int .i64 0) ∧ LF W w' V G B C S (i + 1) 0 M2 (P + j) ∧ num4 M2 = (P + j) % 65536 from by
              have hgB : g6 ≠ B := by
                have h1 := HG6.out
                have h2 := HL5.out.fw.mach.lt
                omega
              have := lNum (HL6.out.grown (grownBy_drewN w6 nq none)) g6 c6 t6 t7 (by omega) (by omega) HX6.out HX7.out hgB
              rw [HT67.out] at this
              exact this)
            clear k0 k1 et ew1 ew2
            go_wp2_with (first
              | (go_at_call 22; (with_reducible refine HWR.out.mono ?_); rintro e w8 ⟨M2, rfl, h8, n8⟩; have HL8 := hid h8; have HN8 := hid n8; clear h8 n8)
              | fail)
            exact ⟨⟨i + 1, P + j, M2, by congr 1, by congr 1, by omega, by omega, HL8.out, HN8.out⟩, by simp [Lib.intOf]; omega⟩
    · obtain rfl : i = ls.length := by omega
      obtain ⟨q1, hq1⟩ : ∃ q, hos % 256 = q := ⟨_, rfl⟩
      obtain ⟨q2, hq2⟩ : ∃ q, hos / 256 = q := ⟨_, rfl⟩
      have e3 : IntKind.u8.wrap ((hos : Int) % 256) = q1 := by simp [IntKind.wrap_u8]; omega
      have e4 : IntKind.u8.wrap ((hos : Int) / 256) = q2 := by simp [IntKind.wrap_u8]; omega
      have HQ := hid (show q1 + 256 * q2 = hos by omega)
      have hq1l : q1 < 256 := by omega
      have hq2l : q2 < 256 := by omega
      obtain ⟨pm, hpm⟩ : ∃ q, P % 65536 = q := ⟨_, rfl⟩
      have e5 : IntKind.u16.wrap (P : Int) = pm := by simp [IntKind.wrap_u16]; omega
      obtain ⟨hd, hhd⟩ : ∃ q, (pm + 65536 - hos) % 65536 = q := ⟨_, rfl⟩
      have e6 : IntKind.u16.wrap ((pm : Int) - hos) = hd := by simp [IntKind.wrap_u16]; omega
      have hpml : (pm : Int) ≤ 65535 := by omega
      have hdl : (hd : Int) ≤ 65535 := by omega
      obtain ⟨W9, hW9⟩ : ∃ W9, wr.alloc (Obj.cells #[.int .u8 q1, .int .u8 q2] 5) = W9 := ⟨_, rfl⟩
      have HWR := hid (show Calls Tryd.prog 22 #[.pointer (some ⟨B, 0, none⟩), .int .i64 0, .int .i64 4, .slice (some ⟨wr.heap.size, 0, none⟩) 2 2] W9 fun e w' => ∃ M2, e = .returned (.int .i64 0) ∧ LF W w' V G B C S ls.length 0 M2 P ∧ num4 M2 = q1 + 256 * q2 from by
        have hlt := HLF.out.fw.mach.lt
        rw [← hW9]
        exact lNum (HLF.out.grown (World.grownBy_alloc wr _ none)) wr.heap.size 2 q1 q2 hq1l hq2l ((Lib.cell_of_heap (MapKept.heap_alloc wr (Obj.cells #[.int .u8 q1, .int .u8 q2] 5)).1 0).trans rfl) ((Lib.cell_of_heap (MapKept.heap_alloc wr (Obj.cells #[.int .u8 q1, .int .u8 q2] 5)).1 1).trans rfl) (by omega))
      obtain ⟨k2, hk2⟩ : ∃ k, fedN pm hos 300 = k := ⟨_, rfl⟩
      have hk2v : k2 = 64 - hd := by rw [← hk2]; unfold fedN; rw [hhd]; omega
      have HK2 := hid hk2
      have HPM := hid hpm
      clear hq1 hq2 hpm hhd hk2 HN
      have hlsl : ls.length ≤ 5864062014805 := hl
      by_cases hd64 : 64 < hd
      · have hg : (64 : Int) < hd := by omega
        have eq : ((k2 : Int) == 0) = true := by simp; omega
        clear hk2v hd64
        go_wp2_with (first
          | (go_at_call 22; (with_reducible refine HWR.out.mono ?_); rintro e w8 ⟨M2, rfl, h8, n8⟩; have HL8 := hid h8; have HN8 := hid n8; obtain ⟨w10, hmk0, hmo, hmg⟩ := make_z w8 300 (by omega); have hmk : (Instr.makeSlice 22 (.int .i64 300) (.int .i64 300)).run Tryd.prog w8 = .ok (.slice (some ⟨w8.heap.size, 0, none⟩) 300 300) w10 := hmk0; have HF2 := hid (feedZ HL8.out hmo hmg (HPM.out) (by rw [HN8.out, HQ.out]) HK2.out hlsl); clear h8 n8 hmo hmg hmk0)
          | (go_at_call 24; (with_reducible refine HF2.out.mono ?_); rintro e w11 ⟨rfl, hg11⟩; have HG11 := hid hg11; have HAW := hid (lAwake w11 (Utf8Tabs_below HT.out (below_grown hg11))); clear hg11)
          | (go_at_call 11; (with_reducible refine HAW.out.mono ?_); rintro e w12 ⟨rfl, hb12⟩; have HB12 := hid hb12; clear hb12)
          | fail)
        go_ret
        exact ⟨rfl, (below_grown HG11.out).trans (HB12.out.mono HG11.out.size)⟩
      · have hg : ¬ (64 : Int) < hd := by omega
        have eq : ((k2 : Int) == 64 - (hd : Int)) = true := by simp; omega
        clear hk2v hd64
        go_wp2_with (first
          | (go_at_call 22; (with_reducible refine HWR.out.mono ?_); rintro e w8 ⟨M2, rfl, h8, n8⟩; have HL8 := hid h8; have HN8 := hid n8; obtain ⟨w10, hmk0, hmo, hmg⟩ := make_z w8 300 (by omega); have hmk : (Instr.makeSlice 22 (.int .i64 300) (.int .i64 300)).run Tryd.prog w8 = .ok (.slice (some ⟨w8.heap.size, 0, none⟩) 300 300) w10 := hmk0; have HF2 := hid (feedZ HL8.out hmo hmg (HPM.out) (by rw [HN8.out, HQ.out]) HK2.out hlsl); clear h8 n8 hmo hmg hmk0)
          | (go_at_call 24; (with_reducible refine HF2.out.mono ?_); rintro e w11 ⟨rfl, hg11⟩; have HG11 := hid hg11; have HAW := hid (lAwake w11 (Utf8Tabs_below HT.out (below_grown hg11))); clear hg11)
          | (go_at_call 11; (with_reducible refine HAW.out.mono ?_); rintro e w12 ⟨rfl, hb12⟩; have HB12 := hid hb12; clear hb12)
          | fail)
        go_ret
        exact ⟨rfl, (below_grown HG11.out).trans (HB12.out.mono HG11.out.size)⟩
theorem main {H : Type} {enc : TypeId × Value → H} (v0 : Value) (a1 : Int) (W : World) (hT : Lib.Utf8Tabs 0 1 W) (c0 : Flat.Came enc Tryd.prog W 0 (fun _ => true) true 53 v0) (_c1 : Flat.Came enc Tryd.prog W 0 (fun _ => true) true 45 (.int .u16 a1)) (w1 : (Lit.int .u16 a1).wf = true) :
    Calls Tryd.prog 6 #[v0, .int .u16 a1] W fun e w' => e = .returned (.bool true) ∧ Below W.heap.size W w' := by
  obtain ⟨p, ls, cap, rfl, hin, hl⟩ := came_parts c0
  have hb : 0 ≤ a1 ∧ a1 < 65536 := by
    have e1 : IntKind.u16.min = 0 := rfl
    have e2 : IntKind.u16.max = 65535 := rfl
    simp [Lit.wf, e1, e2] at w1
    omega
  obtain ⟨hos, rfl⟩ : ∃ h : Nat, a1 = h := ⟨a1.toNat, by omega⟩
  exact walk p ls cap hos W hT hin hl (by omega)
theorem own : ownKnob Tryd.prog.godebug = none := by kernel_rfl
theorem laidOut : laidOutB Tryd.prog = true := by kernel_rfl
set_option maxRecDepth 100000 in
theorem contract (H : Type) (enc : TypeId × Value → H) (W : World) (base : Nat) (args : Array Value) (ds gs : List (DataW H)) (before : List MemPlace)
    (hval0 : ∀ (j : Nat) t v, Tryd.f6.params[j]? = some t → args[j]? = some v → Value.okWide Tryd.prog W .any base t v)
    (hW : DataW.Whole enc Tryd.prog Tryd.f6.params.toList Rows.consFeedsSpec.vars false W args.toList ds gs before)
    (hsz0 : (DataW.weightsEach Tryd.prog (Tryd.f6.params.toList ++ Rows.consFeedsSpec.plain.varTypes Tryd.prog) (ds ++ gs)).all (· ≤ reachBytes) = true) (hT : Lib.Utf8Tabs 0 1 W) :
    Calls Tryd.prog 6 args W fun e W' => ∃ v, e = .returned v ∧ Rows.consFeedsSpec.post enc Tryd.prog Tryd.f6 false true false false W args v W' := by
  have hsz := hsz0
  clear hsz0
  have hval : ∀ (j : Nat) t v, Tryd.f6.params[j]? = some t → args[j]? = some v → Value.okWide Tryd.prog W .any base t v := hval0
  have hW' := hW
  obtain ⟨p, q, hA0, hV, rfl, hfz, hnd⟩ := hW
  have hA : DataW.TrodAll enc Tryd.prog W 0 (fun _ => true) true Tryd.f6.params.toList args.toList ds p := hA0
  rw [Tryd.params6] at hA hval hsz
  obtain ⟨v0, vs0, d0, ds0, p0, q0, hargs, rfl, rfl, h0, r0⟩ := trodAll_cons hA
  obtain ⟨v1, vs1, d1, ds1, p1, q1, rfl, rfl, rfl, h1, r1⟩ := trodAll_cons r0
  obtain ⟨rfl, rfl, rfl⟩ := trodAll_nil r1
  obtain rfl : args = #[v0, v1] := by cases args; simp_all
  obtain ⟨rfl, rfl⟩ := trodVars_none hV
  obtain ⟨ps0, ln0, cp0, rfl⟩ := okWide_slice Tryd.underlying53 (hval 0 53 v0 rfl rfl)
  have k0 := h0
  have lt0 : ∀ x ∈ p0, x.block < W.heap.size := by obtain ⟨m, hm⟩ := k0; exact DataW.trod_lt m _ _ _ hm
  have c0 : Flat.Came enc Tryd.prog W 0 (fun _ => true) true 53 (.slice ps0 ln0 cp0) := by
    obtain ⟨fuel, hf⟩ := h0
    exact ⟨fuel, _, hf, fun n hn => by
      have := List.all_eq_true.1 hsz n (DataW.weights_mem_each (j := 0) rfl rfl n hn)
      simpa using this⟩
  obtain ⟨a1, rfl, rfl, rfl, w1⟩ := open_int Tryd.underlying45 (hval 1 45 v1 rfl rfl) h1
  have k1 := h1
  have lt1 : ∀ x ∈ ([] : List MemPlace), x.block < W.heap.size := by obtain ⟨m, hm⟩ := k1; exact DataW.trod_lt m _ _ _ hm
  have c1 : Flat.Came enc Tryd.prog W 0 (fun _ => true) true 45 (.int .u16 a1) := by
    obtain ⟨fuel, hf⟩ := h1
    exact ⟨fuel, _, hf, fun n hn => by
      have := List.all_eq_true.1 hsz n (DataW.weights_mem_each (j := 1) rfl rfl n hn)
      simpa using this⟩
  clear hA0 hval0
  refine (main (.slice ps0 ln0 cp0) a1 W hT c0 c1 w1).mono fun e W' ⟨he, bel⟩ => ?_
  subst he
  simp only [List.append_nil, List.nil_append] at hW'
  exact ⟨_, rfl, _, _, _, [], _, [], hW', trodAll_mk1 (shut_bool Tryd.underlying4 _), (trodAll_cons_mk (Below.trod laidOut (by kernel_rfl) (of_decide_eq_true (by kernel_rfl)) k0 bel lt0) (trodAll_cons_mk (Below.trod laidOut (by kernel_rfl) (of_decide_eq_true (by kernel_rfl)) k1 bel lt1) trodAll_mk0)), rfl, bel.frame _, fun h => by cases h⟩
theorem laid_met (os : Os) (args : Array Value) : laidMet Tryd.prog Rows.consFeedsRow.laid ((World.laidAll Tryd.prog os Rows.consFeedsRow.laid).forCall (fun _ _ => 0) ⟨#[], args, []⟩).memory :=
  laidMet_laidAll _ (by kernel_rfl) (by kernel_rfl)
theorem reads (os : Os) {H : Type} (enc : TypeId × Value → H) : ∃ places, DataW.whole enc Tryd.prog ((World.laidAll Tryd.prog os Rows.consFeedsRow.laid).forCall (fun _ _ => 0) ⟨#[], #[.slice none 0 0, .int .u16 0], []⟩).memory Tryd.f6.params.toList Rows.consFeedsSpec.vars false (#[.slice none 0 0, .int .u16 0] : Array Value).toList 8 = some ([.nil, .lit (.int .u16 0)], [], places) :=
  ⟨[], by kernel_rfl⟩
set_option maxRecDepth 100000 in
theorem lifted (os : Os) (started : os.Started) (H : Type) (enc : TypeId × Value → H) (F : Stop.Interp) :
    ReturnsInHanded {} Tryd.checked os 6 .any ((OpenSpec.ofChange Rows.consFeedsSpec).preRow enc Tryd.prog Tryd.f6 Rows.consFeedsRow.domain false Rows.consFeedsRow.laid) (((OpenSpec.ofChange Rows.consFeedsSpec).at F).post enc Tryd.prog Tryd.f6 false true false false) := by
  obtain ⟨places, hx⟩ := reads os enc
  refine returnsInHanded_of_row (C := Tryd.checked) (s := (OpenSpec.ofChange Rows.consFeedsSpec)) own started (by kernel_rfl) Tryd.func6
    (witness_row_at (enc := enc) (C := Tryd.checked) false (World.laidAll Tryd.prog os Rows.consFeedsRow.laid) #[.slice none 0 0, .int .u16 0] (World.laidAll_os _ _ _) (by kernel_rfl) (by kernel_rfl) (by kernel_rfl)
      (OpenSpec.preRow_of_cond 8 hx (by kernel_rfl) (fun k hk => by cases hk) (by kernel_rfl) (laid_met os _))) ?_
  intro W base args ds gs before hval hW _ hcond hsz hL _ _
  exact contract H enc W base args ds gs before hval hW hsz (tabs_of hL (.head _) (.tail _ (.head _)))
theorem said : Rows.ConsFeedsSaid :=
  OpenClaim.holds_of_cond 6 Tryd.f6 rfl rfl rfl rfl rfl rfl rfl ⟨rfl, rfl, rfl, rfl, rfl⟩ rfl rfl rfl rfl rfl (by kernel_rfl) Tryd.func6 (by kernel_rfl)
    (of_decide_eq_true (by kernel_rfl)) (by unfold Func.isWrapper; first | (rw [if_pos (by decide +kernel)]; kernel_rfl) | (rw [if_neg (by decide +kernel)]; exact ⟨rfl, rfl⟩))
    (fun os started H enc _ F => by rw [OpenClaim.pre_eq_preRow]; exact lifted os started H enc F)
theorem plain (f : FuncId) (fn : Func) (hf : Tryd.pinned.checked.prog.funcNamed "tenement/tenementlaw16.ConsFeeds" = some f) (hfn : Tryd.pinned.checked.prog.funcs[f]? = some fn) :
    false = Tryd.pinned.checked.prog.looks [] ∧ ∀ (j : Nat) t, fn.params[j]? = some t → Tryd.pinned.checked.prog.wantsStandIn t = false := by
  obtain rfl : f = 6 := Option.some.inj ((show Tryd.prog.funcNamed "tenement/tenementlaw16.ConsFeeds" = some 6 by kernel_rfl).symm.trans hf) |>.symm
  obtain rfl : fn = Tryd.f6 := (Option.some.inj (Tryd.func6.symm.trans hfn)).symm
  refine ⟨by kernel_rfl, fun j t ht => ?_⟩
  rw [Tryd.params6] at ht
  have hm : t ∈ [53, 45] := by have := Array.mem_of_getElem? ht; simp at this ⊢; omega
  have hall : ([53, 45].all fun u => !Tryd.prog.wantsStandIn u) = true := by kernel_rfl
  exact (show Tryd.prog.wantsStandIn t = false by simpa using List.all_eq_true.1 hall t hm)
theorem card : Rows.ConsFeedsCardSaid :=
  Claim7.holds_tied_plain_at .later [] _ _ _ _ said (fun _ h => by cases h) (by kernel_rfl) (fun _ h => by cases h) consFeeds_row_tie rfl ⟨rfl, rfl⟩ (by kernel_rfl) rfl plain (by kernel_rfl)
#print axioms card
end Go.Proofs.YtnplkifohocekaaDoor.lawCoFeeds
