/-
  Package blk: the program's Pack where it names a page.
-/
import Derived.Test.YtoeohbiofmcdeaaBkW
set_option linter.unusedSimpArgs false
set_option linter.unusedVariables false
namespace Go.Proofs.Ytoeohbiofmcdeaa.Bk
open Go.RowKit Gen
set_option maxHeartbeats 4000000

theorem BA.keep {w w' : World} {p : Option Addr} {l : List UInt8} {base n : Nat} {v : Value} {xs : List Value} (h : BA w p l) (ho : w.ownsRow base 5 1 v n xs) (hb : ∀ a : Addr, p = some a → l ≠ [] → a.block < base) (hg : w.grownBy w' v.ownBlock) : BA w' p l := fun k hk => by
  obtain ⟨b, o, e, hc⟩ := h k hk
  exact ⟨b, o, e, own_keep ho (hb _ e (fun h0 => by rw [h0] at hk; simp at hk)) hg hc⟩
set_option maxRecDepth 100000 in
theorem bPack_page (r : Rq) (hf : r.fits) (page : Int) (hp0 : 0 ≤ page) (hp1 : page < 256) (p : Option Addr) (c : Nat) (w : World) (h : SA w p r.segs) (hl : r.segs.length ≤ 16) (hok : r.ok = true) (hno : rqForm r page = true) :
    Calls Try.prog 8 #[r.val p c, .int .i64 page] w (PackQ (packB r page) (packP r page) 0 w) := by
  have H1 := hid fun w' (h' : SA w' p r.segs) => hok ▸ bFitsRq r hf p c w' h' (by omega)
  have H3 := hid fun w' => bMay r.op r.segs.length page w'
  have H2 := hid fun w' => (show fitsV page 256 = true by simp [fitsV, hp0, hp1]) ▸ bFits8 page w' ⟨by omega, by omega⟩
  have b0 : (page != -1) = true := by simp; omega
  have hpn : ¬ page = -1 := by omega
  have H4 := hid fun w' (h' : SA w' p r.segs) => sHas_back r.segs p c w' h' (by omega)
  unfold rqForm at hno
  simp only [Bool.and_eq_true, Bool.not_eq_true'] at hno
  obtain ⟨hm, hb⟩ := hno
  rw [hm] at H3
  rw [hb] at H4
  obtain ⟨f1, f2, f3, f4⟩ := hf
  obtain ⟨op, id, sec, segs⟩ := r
  simp only [Rq.val, Rq.ok, Bool.and_eq_true, decide_eq_true_eq] at *
  obtain ⟨⟨⟨⟨o0, o2⟩, hi⟩, hs⟩, ha⟩ := hok
  have HPK := hid fun w' (h' : SA w' p segs) => bPackSegs segs p c w' h' (by omega) ha
  have HB1 := hid fun w' => bBytesOf id f2 2 (by omega) w'
  have HB2 := hid fun w' => bBytesOf sec f3 4 (by omega) w'
  simp only [show (8 * (2 : Nat) : Int) = 16 from rfl] at HB1
  simp only [show (8 * (4 : Nat) : Int) = 32 from rfl] at HB2
  have hpk : packB ⟨op, id, sec, segs⟩ page = [byteV 3, byteV segs.length] ++ leT id 2 ++ leT sec 4 ++ [byteV page, byteV op] ++ List.replicate 6 0 := by
    simp only [packB, padV, headV, leT_two, leT_four, hpn, if_false]
    have : (byteV 3 :: byteV segs.length :: (leV 2 id ++ leV 4 sec) ++ [byteV page, byteV op]).length = 10 := by simp [leV_len]
    rw [this]
    simp
  have hpp : packP ⟨op, id, sec, segs⟩ page = segsB segs := by simp only [packP, hpn, if_false]
  rw [hpk, hpp]
  have e0 : IntKind.u8.wrap page = page := by rw [IntKind.wrap_u8]; omega
  have e3 : IntKind.u8.wrap 3 = 3 := by decide
  have e1 : IntKind.u8.wrap op = op := by rw [IntKind.wrap_u8]; omega
  have e2 : IntKind.u8.wrap (segs.length : Int) = segs.length := by rw [IntKind.wrap_u8]; omega
  have HSL := hid (segsB_len segs)
  obtain ⟨lt, hlt⟩ : ∃ lt, segsB segs = lt := ⟨_, rfl⟩
  rw [hlt] at HPK HSL ⊢
  have HS := hid h
  obtain ⟨n, hn⟩ : ∃ n, segs.length = n := ⟨_, rfl⟩
  have hsl := HSL.out
  rw [hn] at hl H1 H3 H4 HPK HSL hsl e2 ⊢
  rw [hsl] at HPK
  obtain ⟨lt7, hlt7⟩ : ∃ l, [byteV page, byteV op] = l := ⟨_, rfl⟩
  have HLT7 := hid hlt7
  have HLT := hid (show lt7.length = 2 by rw [← hlt7]; rfl)
  have hlen7 := HLT.out
  rw [hlt7]
  obtain ⟨L9, hL9⟩ : ∃ L, [byteV 3, byteV (n : Int)] ++ leT id 2 ++ leT sec 4 ++ lt7 = L := ⟨_, rfl⟩
  obtain ⟨q, hq⟩ : ∃ q, 10 = q := ⟨_, rfl⟩
  obtain ⟨mm, hmm⟩ : ∃ m, 6 = m := ⟨_, rfl⟩
  have hq16 : q + mm = 16 := by omega
  have HQ := hid (show L9.length = q by rw [← hL9, ← hq]; simp [hlen7]; show 2 + (4 + 2) = 8; omega)
  rw [hL9, hmm]
  have HL9 := hid hL9
  have e9 : wrap64 (16 - (q : Int)) = (mm : Int) := by unfold wrap64; omega
  have e10 : (16 : Int) - (q : Int) = (mm : Int) := by omega
  have e11 : wrap64 (mm : Int) = (mm : Int) := by unfold wrap64; omega
  have HQ16 := hid hq16
  clear hq16
  clear hL9 hq hmm hlt7 hlen7
  clear hsl hpk hpp hpn hlt hn h f1 f2 f3 f4 hm hb hi hs ha
  obtain ⟨W, hW⟩ : ∃ W, w.alloc (.cells #[.int .i64 op, .int .i64 id, .int .i64 sec, .slice p n c] 24) = W := ⟨_, rfl⟩
  have HG0 := hid (show w.grownBy W none from hW ▸ World.grownBy_alloc _ _ _)
  have HRW := hid (rowQ hW)
  have c0 := HRW.out.cell (k := 0) (by omega); have c1 := HRW.out.cell (k := 1) (by omega); have c2 := HRW.out.cell (k := 2) (by omega); have c3 := HRW.out.cell (k := 3) (by omega)
  simp only [rqV] at c0 c1 c2 c3
  go_enter Try.func8, Try.ntmps8
  go_wp2_with (first
    | (go_at_call 22; refine (H1.out _ (HS.out.grown HG0.out)).mono ?_; rintro e wf ⟨rfl, g2⟩; replace HRW := hid (HRW.out.grown g2 (by simp)); replace HG0 := hid (HG0.out.trans g2); clear c0 c1 c2 c3; have c0 := HRW.out.cell (k := 0) (by omega); have c1 := HRW.out.cell (k := 1) (by omega); have c2 := HRW.out.cell (k := 2) (by omega); have c3 := HRW.out.cell (k := 3) (by omega); (simp only [rqV] at c0 c1 c2 c3); clear g2; clear H1)
    | (go_at_call 23; refine (H2.out _).mono ?_; rintro e w3 ⟨rfl, rfl⟩)
    | (go_at_call 24; refine (H3.out _).mono ?_; rintro e w3 ⟨rfl, rfl⟩)
    | (go_at_call 25; refine (H4.out _ (HS.out.grown HG0.out)).mono ?_; rintro e wh ⟨rfl, g2⟩; replace HRW := hid (HRW.out.grown g2 (by simp)); replace HG0 := hid (HG0.out.trans g2); clear c0 c1 c2 c3; have c0 := HRW.out.cell (k := 0) (by omega); have c1 := HRW.out.cell (k := 1) (by omega); have c2 := HRW.out.cell (k := 2) (by omega); have c3 := HRW.out.cell (k := 3) (by omega); (simp only [rqV] at c0 c1 c2 c3); clear g2; clear H4))
  go_region_held3 (fun w' => w'.cell? ⟨w.heap.size, 0, none⟩ = some (.int .i64 op) ∧ w'.cell? ⟨w.heap.size, 3, none⟩ = some (.slice p n c)) (first | exact ⟨by assumption, by assumption⟩ | go_keep)
    (first | (go_at_call 27; refine (HPK.out wh.drew (HS.out.grown (HG0.out.trans (grownBy_drew _ none)))).mono ?_; rintro e w5 ⟨v, rfl, ho, g5⟩; obtain ⟨pt, ct, rfl, hbt, hct, hct0, hc6⟩ := own_ba3 HSL.out ho; have HBT := hid hbt; have HCT := hid hct0; have HCL := hid hct; have HC6 := hid hc6; have g2 := (grownBy_drew wh none).trans g5; clear ho g5 hbt hct hct0 hc6; replace HRW := hid (HRW.out.grown g2 (by simp)); replace HG0 := hid (HG0.out.trans g2); clear c0 c1 c2 c3; have c0 := HRW.out.cell (k := 0) (by omega); have c1 := HRW.out.cell (k := 1) (by omega); have c2 := HRW.out.cell (k := 2) (by omega); have c3 := HRW.out.cell (k := 3) (by omega); (simp only [rqV] at c0 c1 c2 c3); clear g2))
  go_wp2
  have N0 := World.new_ne w5 ⟨w.heap.size, 0, none⟩ c0
  go_region_held3 (fun w' => w'.cell? ⟨w.heap.size, 0, none⟩ = some (.int .i64 op)) (first | assumption | go_keep) (fail)
  obtain ⟨w7, hw7⟩ : ∃ w7, (w5.alloc (.cells #[.int .u8 page, .int .u8 op] 5)).drew = w7 := ⟨_, rfl⟩
  have g7 : w5.grownBy w7 none := hw7 ▸ (World.grownBy_alloc w5 _ none).trans (grownBy_drew _ none)
  have HB7 := hid (show BA w7 (some ⟨w5.heap.size, 0, none⟩) lt7 from by rw [← HLT7.out, ← hw7]; exact (ba_new w5 page op (by omega) (by omega) (by omega) (by omega)).grown (grownBy_drew _ none))
  rw [hw7]
  have HBP := hid (HBT.out.grown g7)
  have HBK := hid (show ∀ a : Addr, pt = some a → lt ≠ [] → a.block < w7.heap.size from fun a ha hne => by
    have hpos : 0 < lt.length := List.length_pos_iff.2 hne
    obtain ⟨b9, o9, e9', hcc⟩ := HBP.out 0 hpos
    rw [ha] at e9'; cases e9'
    exact World.block_lt_of_cell? w7 _ hcc)
  clear hw7 N0
  replace HRW := hid (HRW.out.grown g7 (by simp)); replace HG0 := hid (HG0.out.trans g7); clear c0 c1 c2 c3; have c0 := HRW.out.cell (k := 0) (by omega); have c1 := HRW.out.cell (k := 1) (by omega); have c2 := HRW.out.cell (k := 2) (by omega); have c3 := HRW.out.cell (k := 3) (by omega); (simp only [rqV] at c0 c1 c2 c3); clear g7
  go_wp2
  have HP0 := hid (show 0 < [byteV 3, byteV (n : Int)].length from Nat.zero_lt_succ _)
  have HLE := hid (show [byteV 3, byteV (n : Int)].length + (leT id 2).length + (leT sec 4).length + lt7.length ≤ 1000 from by rw [HLT.out]; show 2 + 2 + 4 + 2 ≤ 1000; omega)
  have HBX := hid (fun (w' : World) => ba_new w' 3 n (by omega) (by omega) (by omega) (by omega))
  have l1 := fun ob => (grownBy_drew (w7.alloc ob) none).cell ((World.grownBy_alloc w7 ob none).cell c1 (by simp)) (by simp)
  have l2 := fun ob => (grownBy_drew (w7.alloc ob) none).cell ((World.grownBy_alloc w7 ob none).cell c2 (by simp)) (by simp)
  have l3 := fun ob => (grownBy_drew (w7.alloc ob) none).cell ((World.grownBy_alloc w7 ob none).cell c3 (by simp)) (by simp)
  go_region_held3 (fun w' => w'.cell? ⟨w.heap.size, 1, none⟩ = some (.int .i64 id) ∧ w'.cell? ⟨w.heap.size, 2, none⟩ = some (.int .i64 sec) ∧ w'.cell? ⟨w.heap.size, 3, none⟩ = some (.slice p n c)) (first | exact ⟨by assumption, by assumption, by assumption⟩ | exact ⟨l1 _, l2 _, l3 _⟩ | exact ⟨m1 _, m2 _, m3 _⟩ | exact ⟨k1 _, k2 _, k3 _⟩ | go_keep)
    (first
     | (go_at_call 29; first
       | ((with_reducible refine (HB1.out (w7.alloc (.cells #[.int .u8 3, .int .u8 n] 5)).drew).mono ?_); rintro e wa ⟨va, rfl, o1, g1⟩; obtain ⟨pa, ca, rfl, hba, _, hca, _⟩ := own_ba3 (l := leT id 2) (n := 2) rfl o1; have HCA := hid hca; have GA := hid (((World.grownBy_alloc w7 (.cells #[.int .u8 3, .int .u8 n] 5) none).trans (grownBy_drew _ none)).trans g1); have BXA := hid (((HBX.out w7).grown (grownBy_drew _ none)).grown g1); have BPA' := hid hba; have r1 := (GA.out).cell c1 (by simp); have r2 := (GA.out).cell c2 (by simp); have r3 := (GA.out).cell c3 (by simp); have m1 := fun ob => (World.grownBy_alloc wa ob none).cell r1 (by simp); have m2 := fun ob => (World.grownBy_alloc wa ob none).cell r2 (by simp); have m3 := fun ob => (World.grownBy_alloc wa ob none).cell r3 (by simp); clear o1 g1 hba hca)
       | ((with_reducible refine (HB1.out w7.drew).mono ?_); rintro e wa ⟨va, rfl, o1, g1⟩; obtain ⟨pa, ca, rfl, hba, _, hca, _⟩ := own_ba3 (l := leT id 2) (n := 2) rfl o1; have HCA := hid hca; have GA := hid ((grownBy_drew w7 none).trans g1); have BPA' := hid hba; have r1 := (GA.out).cell c1 (by simp); have r2 := (GA.out).cell c2 (by simp); have r3 := (GA.out).cell c3 (by simp); have m1 := fun ob => (World.grownBy_alloc wa ob none).cell r1 (by simp); have m2 := fun ob => (World.grownBy_alloc wa ob none).cell r2 (by simp); have m3 := fun ob => (World.grownBy_alloc wa ob none).cell r3 (by simp); clear o1 g1 hba hca)
       | ((with_reducible refine (HB2.out wa).mono ?_); rintro e wb ⟨vb, rfl, o2, g2'⟩; have BXB := hid (BXA.out.grown g2'); obtain ⟨pb, cb, rfl, hbb, _, hcb, _⟩ := own_ba3 (l := leT sec 4) (n := 4) rfl o2; have HCB := hid hcb; have BPB := hid hbb; have GB := hid (GA.out.trans g2'); have BPA := hid (BPA'.out.grown g2'); have s1 := (GB.out).cell c1 (by simp); have s2 := (GB.out).cell c2 (by simp); have s3 := (GB.out).cell c3 (by simp); have k1 := fun ob => (World.grownBy_alloc wb ob none).cell s1 (by simp); have k2 := fun ob => (World.grownBy_alloc wb ob none).cell s2 (by simp); have k3 := fun ob => (World.grownBy_alloc wb ob none).cell s3 (by simp); clear o2 g2' hbb hcb)
       | ((with_reducible refine (HB2.out (wa.alloc (.cells #[.int .u8 3, .int .u8 n] 5))).mono ?_); rintro e wb ⟨vb, rfl, o2, g2'⟩; have BXB2 := hid ((HBX.out wa).grown g2'); obtain ⟨pb, cb, rfl, hbb, _, hcb, _⟩ := own_ba3 (l := leT sec 4) (n := 4) rfl o2; have HCB := hid hcb; have BPB := hid hbb; have GB := hid ((GA.out.trans (World.grownBy_alloc wa _ none)).trans g2'); have BPA := hid ((BPA'.out.grown (World.grownBy_alloc wa _ none)).grown g2'); have s1 := (GB.out).cell c1 (by simp); have s2 := (GB.out).cell c2 (by simp); have s3 := (GB.out).cell c3 (by simp); have k1 := fun ob => (World.grownBy_alloc wb ob none).cell s1 (by simp); have k2 := fun ob => (World.grownBy_alloc wb ob none).cell s2 (by simp); have k3 := fun ob => (World.grownBy_alloc wb ob none).cell s3 (by simp); clear o2 g2' hbb hcb)
       | ((with_reducible refine (HB2.out wa).mono ?_); rintro e wb ⟨vb, rfl, o2, g2'⟩; obtain ⟨pb, cb, rfl, hbb, _, hcb, _⟩ := own_ba3 (l := leT sec 4) (n := 4) rfl o2; have HCB := hid hcb; have BPB := hid hbb; have GB := hid (GA.out.trans g2'); have BPA := hid (BPA'.out.grown g2'); have s1 := (GB.out).cell c1 (by simp); have s2 := (GB.out).cell c2 (by simp); have s3 := (GB.out).cell c3 (by simp); have k1 := fun ob => (World.grownBy_alloc wb ob none).cell s1 (by simp); have k2 := fun ob => (World.grownBy_alloc wb ob none).cell s2 (by simp); have k3 := fun ob => (World.grownBy_alloc wb ob none).cell s3 (by simp); clear o2 g2' hbb hcb))
     | (go_at_call 28; first
       | ((with_reducible refine (sConcat _ _ _ _ _ _ _ _ _ _ _ _ _ _ (four_at wb wb.heap.size rfl (leT id 2) (leT sec 4) lt7 3 n w7.heap.size pa pb (some ⟨w5.heap.size, 0, none⟩) ca cb 2 2 4 _ rfl rfl HLT.out BXB.out BPA.out BPB.out (HB7.out.grown GB.out) HCA.out HCB.out (fun e => by cases e)) HLE.out HP0.out).mono ?_); rintro e w9 ⟨v9, rfl, ho9, hg9⟩; rw [HL9.out, HQ.out] at ho9; have HSZ9 := hid (Nat.le_trans (Nat.le_trans (GB.out.trans (grownBy_refl wb none)).size (alloc_le wb _)) hg9.size); have HG9 := hid ((((HG0.out.trans GB.out).trans (grownBy_refl wb none)).trans (World.grownBy_alloc wb _ none)).trans hg9); have HO9 := hid (own_lower ho9 (Nat.le_trans (GB.out.trans (grownBy_refl wb none)).size (alloc_le wb _))); have HBT9 := hid ((((HB7.out.grown GB.out).grown (grownBy_refl wb none)).grown (World.grownBy_alloc wb _ none)).grown hg9); have HBP9 := hid ((((HBP.out.grown GB.out).grown (grownBy_refl wb none)).grown (World.grownBy_alloc wb _ none)).grown hg9); have n1 := hg9.cell ((World.grownBy_alloc wb _ none).cell ((grownBy_refl wb none).cell s1 (by simp)) (by simp)) (by simp); have n2 := hg9.cell ((World.grownBy_alloc wb _ none).cell ((grownBy_refl wb none).cell s2 (by simp)) (by simp)) (by simp); have n3 := hg9.cell ((World.grownBy_alloc wb _ none).cell ((grownBy_refl wb none).cell s3 (by simp)) (by simp)) (by simp); clear ho9 hg9)
       | ((with_reducible refine (sConcat _ _ _ _ _ _ _ _ _ _ _ _ _ _ (four_at wb wb.heap.size rfl (leT id 2) (leT sec 4) lt7 3 n wa.heap.size pa pb (some ⟨w5.heap.size, 0, none⟩) ca cb 2 2 4 _ rfl rfl HLT.out BXB2.out BPA.out BPB.out (HB7.out.grown GB.out) HCA.out HCB.out (fun e => by cases e)) HLE.out HP0.out).mono ?_); rintro e w9 ⟨v9, rfl, ho9, hg9⟩; rw [HL9.out, HQ.out] at ho9; have HSZ9 := hid (Nat.le_trans (Nat.le_trans (GB.out.trans (grownBy_refl wb none)).size (alloc_le wb _)) hg9.size); have HG9 := hid ((((HG0.out.trans GB.out).trans (grownBy_refl wb none)).trans (World.grownBy_alloc wb _ none)).trans hg9); have HO9 := hid (own_lower ho9 (Nat.le_trans (GB.out.trans (grownBy_refl wb none)).size (alloc_le wb _))); have HBT9 := hid ((((HB7.out.grown GB.out).grown (grownBy_refl wb none)).grown (World.grownBy_alloc wb _ none)).grown hg9); have HBP9 := hid ((((HBP.out.grown GB.out).grown (grownBy_refl wb none)).grown (World.grownBy_alloc wb _ none)).grown hg9); have n1 := hg9.cell ((World.grownBy_alloc wb _ none).cell ((grownBy_refl wb none).cell s1 (by simp)) (by simp)) (by simp); have n2 := hg9.cell ((World.grownBy_alloc wb _ none).cell ((grownBy_refl wb none).cell s2 (by simp)) (by simp)) (by simp); have n3 := hg9.cell ((World.grownBy_alloc wb _ none).cell ((grownBy_refl wb none).cell s3 (by simp)) (by simp)) (by simp); clear ho9 hg9)
       | ((with_reducible refine (sConcat _ _ _ _ _ _ _ _ _ _ _ _ _ _ (four_at (wb.alloc (.cells #[.int .u8 3, .int .u8 n] 5)) (wb.heap.size + 1) (World.size_alloc wb _) (leT id 2) (leT sec 4) lt7 3 n wb.heap.size pa pb (some ⟨w5.heap.size, 0, none⟩) ca cb 2 2 4 _ rfl rfl HLT.out (HBX.out wb) (BPA.out.grown (World.grownBy_alloc wb (.cells #[.int .u8 3, .int .u8 n] 5) none)) (BPB.out.grown (World.grownBy_alloc wb (.cells #[.int .u8 3, .int .u8 n] 5) none)) ((HB7.out.grown GB.out).grown (World.grownBy_alloc wb (.cells #[.int .u8 3, .int .u8 n] 5) none)) HCA.out HCB.out (fun e => by cases e)) HLE.out HP0.out).mono ?_); rintro e w9 ⟨v9, rfl, ho9, hg9⟩; rw [HL9.out, HQ.out] at ho9; have HSZ9 := hid (Nat.le_trans (Nat.le_trans (GB.out.trans (World.grownBy_alloc wb (.cells #[.int .u8 3, .int .u8 n] 5) none)).size (alloc_le (wb.alloc (.cells #[.int .u8 3, .int .u8 n] 5)) _)) hg9.size); have HG9 := hid ((((HG0.out.trans GB.out).trans (World.grownBy_alloc wb (.cells #[.int .u8 3, .int .u8 n] 5) none)).trans (World.grownBy_alloc (wb.alloc (.cells #[.int .u8 3, .int .u8 n] 5)) _ none)).trans hg9); have HO9 := hid (own_lower ho9 (Nat.le_trans (GB.out.trans (World.grownBy_alloc wb (.cells #[.int .u8 3, .int .u8 n] 5) none)).size (alloc_le (wb.alloc (.cells #[.int .u8 3, .int .u8 n] 5)) _))); have HBT9 := hid ((((HB7.out.grown GB.out).grown (World.grownBy_alloc wb (.cells #[.int .u8 3, .int .u8 n] 5) none)).grown (World.grownBy_alloc (wb.alloc (.cells #[.int .u8 3, .int .u8 n] 5)) _ none)).grown hg9); have HBP9 := hid ((((HBP.out.grown GB.out).grown (World.grownBy_alloc wb (.cells #[.int .u8 3, .int .u8 n] 5) none)).grown (World.grownBy_alloc (wb.alloc (.cells #[.int .u8 3, .int .u8 n] 5)) _ none)).grown hg9); have n1 := hg9.cell ((World.grownBy_alloc (wb.alloc (.cells #[.int .u8 3, .int .u8 n] 5)) _ none).cell ((World.grownBy_alloc wb (.cells #[.int .u8 3, .int .u8 n] 5) none).cell s1 (by simp)) (by simp)) (by simp); have n2 := hg9.cell ((World.grownBy_alloc (wb.alloc (.cells #[.int .u8 3, .int .u8 n] 5)) _ none).cell ((World.grownBy_alloc wb (.cells #[.int .u8 3, .int .u8 n] 5) none).cell s2 (by simp)) (by simp)) (by simp); have n3 := hg9.cell ((World.grownBy_alloc (wb.alloc (.cells #[.int .u8 3, .int .u8 n] 5)) _ none).cell ((World.grownBy_alloc wb (.cells #[.int .u8 3, .int .u8 n] 5) none).cell s3 (by simp)) (by simp)) (by simp); clear ho9 hg9)))
  all_goals
    obtain ⟨p9, k9, hv9⟩ := ownsRow_slice HO9.out
    subst hv9
    obtain ⟨vz, wz, hrz, hoz, hgz⟩ := run_append_zeros w9 w7.heap.size _ q mm _ HO9.out (by have := HQ16.out; omega) HSZ9.out
    have HBPZ := hid (HBP9.out.keep HO9.out HBK.out hgz)
    rw [HQ16.out, ← bcells_app] at hoz
    have HRZ := hid hrz
    have HOZ := hid hoz
    have HGZ := hid (own_then HG9.out HO9.out HG0.out.size hgz)
    clear hrz hoz hgz n1 n2 n3 m1 m2 m3 s1 s2 s3 r1 r2 r3 k1 k2 k3 l1 l2 l3 c0 c1 c2 c3
    clear o0 o2 hl e0 e1 e2
    go_wp2_with (at_builtin; with_reducible refine Lib.wpList_append_run _ rfl _ _ _ _ rfl _ _ rfl rfl _ _ (HRZ.out _) ?_)
    refine bodyPost_ret (v := .tuple #[vz, .slice pt (2 * n) ct, .int .i64 0]) (by simp [results, Try.results8, go_sem, Act.put]) rfl (PackQ.of (n := 2 * n) (by rw [List.length_append, HQ.out, List.length_replicate]; exact HQ16.out) HOZ.out HSL.out HBPZ.out HCL.out HC6.out HGZ.out)
end Go.Proofs.Ytoeohbiofmcdeaa.Bk
