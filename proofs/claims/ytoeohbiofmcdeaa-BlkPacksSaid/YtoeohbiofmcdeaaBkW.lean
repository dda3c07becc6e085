/-
  Package blk: the program's Pack where it tells bytes.
-/
import Derived.Test.YtoeohbiofmcdeaaBkV
set_option linter.unusedSimpArgs false
set_option linter.unusedVariables false
namespace Go.Proofs.Ytoeohbiofmcdeaa.Bk
open Go.RowKit Gen
set_option maxHeartbeats 4000000

theorem two_bytes (a b : Int) (ha0 : 0 ≤ a) (ha : a < 256) (hb0 : 0 ≤ b) (hb : b < 256) : bcells [byteV a, byteV b] = [.int .u8 a, .int .u8 b] := by
  rw [bcells_cons, bcells_cons, bcells_nil, byteV_nat, byteV_nat, show a % 256 = a by omega, show b % 256 = b by omega]
theorem ba_new (w : World) (a b : Int) (ha0 : 0 ≤ a) (ha : a < 256) (hb0 : 0 ≤ b) (hb : b < 256) : BA (w.alloc (.cells #[.int .u8 a, .int .u8 b] 5)) (some ⟨w.heap.size, 0, none⟩) [byteV a, byteV b] := fun k hk => by
  have e := two_bytes a b ha0 ha hb0 hb
  refine ⟨_, _, rfl, ?_⟩
  rw [Nat.zero_add]
  have hc := bcells_at (l := [byteV a, byteV b]) hk
  rw [e] at hc
  have := World.news_of_block (heap_alloc_new w (.cells #[.int .u8 a, .int .u8 b] 5)) k _ hc
  have e2 : (⟨w.heap.size, 0, none⟩ : Addr).add k = ⟨w.heap.size, k, none⟩ := by rw [show k = k from rfl]; clear hc this; unfold Addr.add; split <;> simp_all
  rw [e2] at this
  exact this
theorem PackQ.of {x y : List UInt8} {w w' : World} {base : Nat} {v : Value} {q : Option Addr} {d n : Nat} (hx : x.length = 16) (ho : w'.ownsRow base 5 1 v 16 (bcells x)) (hn : y.length = n) (hy : BA w' q y) (hd : n ≤ d) (hd63 : d ≤ 9223372036854775807) (hg : w.grownBy w' none) : PackQ x y 0 w (.returned (.tuple #[v, .slice q n d, .int .i64 0])) w' := by
  rw [← hx] at ho
  subst hn
  obtain ⟨p, c, rfl, hb, hc, _, hc63⟩ := own_ba2 ho
  exact ⟨p, c, q, d, rfl, hb, hy, hc, hc63, hd, hd63, hg⟩
/-- what Concat asks for, behind the slice of slices -/
theorem four_of (V : World) (l1 l2 l3 : List UInt8) (a b : Int) (x : Nat) (p1 p2 p3 : Option Addr) (c1 c2 c3 : Nat) (n1 n2 n3 : Nat) (h1 : l1.length = n1) (h2 : l2.length = n2) (h3 : l3.length = n3) (bx : BA V (some ⟨x, 0, none⟩) [byteV a, byteV b]) (b1 : BA V p1 l1) (b2 : BA V p2 l2) (b3 : BA V p3 l3) (q1 : p1 = none → c1 = 0) (q2 : p2 = none → c2 = 0) (q3 : p3 = none → c3 = 0) :
    Four (V.alloc (.cells #[.slice (some ⟨x, 0, none⟩) 2 2, .slice p1 n1 c1, .slice p2 n2 c2, .slice p3 n3 c3] 25)) V.heap.size [byteV a, byteV b] l1 l2 l3 (some ⟨x, 0, none⟩) p1 p2 p3 2 c1 c2 c3 := by
  subst h1 h2 h3
  have hg := World.grownBy_alloc V (.cells #[.slice (some ⟨x, 0, none⟩) 2 2, .slice p1 l1.length c1, .slice p2 l2.length c2, .slice p3 l3.length c3] 25) none
  exact ⟨by simp [go_sem], by simp [go_sem], by simp [go_sem], by simp [go_sem], bx.grown hg, b1.grown hg, b2.grown hg, b3.grown hg, (fun e => by cases e), q1, q2, q3⟩
theorem four_at (V : World) (B : Nat) (hB : V.heap.size = B) (l1 l2 l3 : List UInt8) (a b : Int) (x : Nat) (p1 p2 p3 : Option Addr) (c1 c2 c3 : Nat) (n1 n2 n3 : Nat) (h1 : l1.length = n1) (h2 : l2.length = n2) (h3 : l3.length = n3) (bx : BA V (some ⟨x, 0, none⟩) [byteV a, byteV b]) (b1 : BA V p1 l1) (b2 : BA V p2 l2) (b3 : BA V p3 l3) (q1 : p1 = none → c1 = 0) (q2 : p2 = none → c2 = 0) (q3 : p3 = none → c3 = 0) :
    Four (V.alloc (.cells #[.slice (some ⟨x, 0, none⟩) 2 2, .slice p1 n1 c1, .slice p2 n2 c2, .slice p3 n3 c3] 25)) B [byteV a, byteV b] l1 l2 l3 (some ⟨x, 0, none⟩) p1 p2 p3 2 c1 c2 c3 := hB ▸ four_of V l1 l2 l3 a b x p1 p2 p3 c1 c2 c3 n1 n2 n3 h1 h2 h3 bx b1 b2 b3 q1 q2 q3
theorem own_ba3 {w' : World} {base : Nat} {l : List UInt8} {v : Value} {n : Nat} (hn : l.length = n) (h : w'.ownsRow base 5 1 v n (bcells l)) : ∃ p c, v = .slice p n c ∧ BA w' p l ∧ n ≤ c ∧ (p = none → c = 0) ∧ c ≤ 9223372036854775807 := by
  subst hn
  exact own_ba2 h
set_option maxRecDepth 100000 in
theorem bPack_self (r : Rq) (hf : r.fits) (p : Option Addr) (c : Nat) (w : World) (h : SA w p r.segs) (hl : r.segs.length ≤ 4) (hok : r.ok = true) (hno : rqForm r (-1) = true) :
    Calls Try.prog 8 #[r.val p c, .int .i64 (-1)] w (PackQ (packB r (-1)) [] 0 w) := by
  have H1 := hid fun w' (h' : SA w' p r.segs) => hok ▸ bFitsRq r hf p c w' h' (by omega)
  have H3 := hid fun w' => bMay r.op r.segs.length (-1) w'
  have H4 := hid fun w' (h' : SA w' p r.segs) => sHas_back r.segs p c w' h' (by omega)
  unfold rqForm at hno
  simp only [Bool.and_eq_true, Bool.not_eq_true'] at hno
  obtain ⟨hm, hb⟩ := hno
  rw [hm] at H3
  rw [hb] at H4
  obtain ⟨f1, f2, f3, f4⟩ := hf
  obtain ⟨op, id, sec, segs⟩ := r
  simp only [Rq.val, Rq.ok, Bool.and_eq_true, decide_eq_true_eq] at *
  obtain ⟨⟨⟨⟨o0, o2⟩, hi⟩, hs⟩, ha⟩ := hok
  have HPK := hid fun w' (h' : SA w' p segs) => bPackSegs segs p c w' h' (by omega) ha
  have HB1 := hid fun w' => bBytesOf id f2 2 (by omega) w'
  have HB2 := hid fun w' => bBytesOf sec f3 4 (by omega) w'
  simp only [show (8 * (2 : Nat) : Int) = 16 from rfl] at HB1
  simp only [show (8 * (4 : Nat) : Int) = 32 from rfl] at HB2
  have hpk : packB ⟨op, id, sec, segs⟩ (-1) = [byteV op, byteV segs.length] ++ leT id 2 ++ leT sec 4 ++ segsB segs ++ List.replicate (16 - (8 + 2 * segs.length)) 0 := by
    simp only [packB, padV, headV, leT_two, leT_four, if_true]
    have : (byteV op :: byteV segs.length :: (leV 2 id ++ leV 4 sec) ++ segsB segs).length = 8 + 2 * segs.length := by simp [leV_len, segsB_len]; omega
    rw [this]
    simp
  rw [hpk]
  have e1 : IntKind.u8.wrap op = op := by rw [IntKind.wrap_u8]; omega
  have e2 : IntKind.u8.wrap (segs.length : Int) = segs.length := by rw [IntKind.wrap_u8]; omega
  have HSL := hid (segsB_len segs)
  obtain ⟨lt, hlt⟩ : ∃ lt, segsB segs = lt := ⟨_, rfl⟩
  rw [hlt] at HPK HSL ⊢
  have HS := hid h
  obtain ⟨n, hn⟩ : ∃ n, segs.length = n := ⟨_, rfl⟩
  have hsl := HSL.out
  rw [hn] at hl H1 H3 H4 HPK HSL hsl e2 ⊢
  rw [hsl] at HPK
  have HLT := HSL
  obtain ⟨L9, hL9⟩ : ∃ L, [byteV op, byteV n] ++ leT id 2 ++ leT sec 4 ++ lt = L := ⟨_, rfl⟩
  obtain ⟨q, hq⟩ : ∃ q, 8 + 2 * n = q := ⟨_, rfl⟩
  obtain ⟨mm, hmm⟩ : ∃ m, 16 - q = m := ⟨_, rfl⟩
  have hq16 : q + mm = 16 := by omega
  have HQ := hid (show L9.length = q by rw [← hL9, ← hq]; simp [hsl]; show 2 + (4 + 2 * n) + 1 + 1 = 8 + 2 * n; omega)
  rw [hL9, hq, hmm]
  have HL9 := hid hL9
  have e9 : wrap64 (16 - (q : Int)) = (mm : Int) := by unfold wrap64; omega
  have e10 : (16 : Int) - (q : Int) = (mm : Int) := by omega
  have e11 : wrap64 (mm : Int) = (mm : Int) := by unfold wrap64; omega
  have HQ16 := hid hq16
  clear hq16
  clear hL9 hq hmm
  clear hsl hpk hlt hn h f1 f2 f3 f4 hm hb hi hs ha
  obtain ⟨W, hW⟩ : ∃ W, w.alloc (.cells #[.int .i64 op, .int .i64 id, .int .i64 sec, .slice p n c] 24) = W := ⟨_, rfl⟩
  have HG0 := hid (show w.grownBy W none from hW ▸ World.grownBy_alloc _ _ _)
  have HRW := hid (rowQ hW)
  have c0 := HRW.out.cell (k := 0) (by omega); have c1 := HRW.out.cell (k := 1) (by omega); have c2 := HRW.out.cell (k := 2) (by omega); have c3 := HRW.out.cell (k := 3) (by omega)
  simp only [rqV] at c0 c1 c2 c3
  go_enter Try.func8, Try.ntmps8
  go_wp2_with (first
    | (go_at_call 22; refine (H1.out _ (HS.out.grown HG0.out)).mono ?_; rintro e wf ⟨rfl, g2⟩; replace HRW := hid (HRW.out.grown g2 (by simp)); replace HG0 := hid (HG0.out.trans g2); clear c0 c1 c2 c3; have c0 := HRW.out.cell (k := 0) (by omega); have c1 := HRW.out.cell (k := 1) (by omega); have c2 := HRW.out.cell (k := 2) (by omega); have c3 := HRW.out.cell (k := 3) (by omega); (simp only [rqV] at c0 c1 c2 c3); clear g2; clear H1)
    | (go_at_call 24; refine (H3.out _).mono ?_; rintro e w3 ⟨rfl, rfl⟩)
    | (go_at_call 25; refine (H4.out _ (HS.out.grown HG0.out)).mono ?_; rintro e wh ⟨rfl, g2⟩; replace HRW := hid (HRW.out.grown g2 (by simp)); replace HG0 := hid (HG0.out.trans g2); clear c0 c1 c2 c3; have c0 := HRW.out.cell (k := 0) (by omega); have c1 := HRW.out.cell (k := 1) (by omega); have c2 := HRW.out.cell (k := 2) (by omega); have c3 := HRW.out.cell (k := 3) (by omega); (simp only [rqV] at c0 c1 c2 c3); clear g2; clear H4))
  go_region_held3 (fun w' => w'.cell? ⟨w.heap.size, 0, none⟩ = some (.int .i64 op) ∧ w'.cell? ⟨w.heap.size, 3, none⟩ = some (.slice p n c)) (first | exact ⟨by assumption, by assumption⟩ | go_keep)
    (first | (go_at_call 27; refine (HPK.out wh.drew (HS.out.grown (HG0.out.trans (grownBy_drew _ none)))).mono ?_; rintro e w5 ⟨v, rfl, ho, g5⟩; obtain ⟨pt, ct, rfl, hbt, hct, hct0, _⟩ := own_ba3 HSL.out ho; have HBT := hid hbt; have HCT := hid hct0; have g2 := (grownBy_drew wh none).trans g5; clear ho g5 hbt hct hct0; replace HRW := hid (HRW.out.grown g2 (by simp)); replace HG0 := hid (HG0.out.trans g2); clear c0 c1 c2 c3; have c0 := HRW.out.cell (k := 0) (by omega); have c1 := HRW.out.cell (k := 1) (by omega); have c2 := HRW.out.cell (k := 2) (by omega); have c3 := HRW.out.cell (k := 3) (by omega); (simp only [rqV] at c0 c1 c2 c3); clear g2))
  go_wp2
  have HP0 := hid (show 0 < [byteV op, byteV (n : Int)].length from Nat.zero_lt_succ _)
  have HLE := hid (show [byteV op, byteV (n : Int)].length + (leT id 2).length + (leT sec 4).length + lt.length ≤ 1000 from by rw [HLT.out]; show 2 + 2 + 4 + _ ≤ 1000; omega)
  have HBX := hid (fun (w' : World) => ba_new w' op n (by omega) (by omega) (by omega) (by omega))
  have l1 := fun ob => (grownBy_drew (w5.alloc ob) none).cell ((World.grownBy_alloc w5 ob none).cell c1 (by simp)) (by simp)
  have l2 := fun ob => (grownBy_drew (w5.alloc ob) none).cell ((World.grownBy_alloc w5 ob none).cell c2 (by simp)) (by simp)
  have l3 := fun ob => (grownBy_drew (w5.alloc ob) none).cell ((World.grownBy_alloc w5 ob none).cell c3 (by simp)) (by simp)
  go_region_held3 (fun w' => w'.cell? ⟨w.heap.size, 1, none⟩ = some (.int .i64 id) ∧ w'.cell? ⟨w.heap.size, 2, none⟩ = some (.int .i64 sec) ∧ w'.cell? ⟨w.heap.size, 3, none⟩ = some (.slice p n c)) (first | exact ⟨by assumption, by assumption, by assumption⟩ | exact ⟨l1 _, l2 _, l3 _⟩ | exact ⟨m1 _, m2 _, m3 _⟩ | exact ⟨k1 _, k2 _, k3 _⟩ | go_keep)
    (first
     | (go_at_call 29; first
       | ((with_reducible refine (HB1.out (w5.alloc (.cells #[.int .u8 op, .int .u8 n] 5)).drew).mono ?_); rintro e wa ⟨va, rfl, o1, g1⟩; obtain ⟨pa, ca, rfl, hba, _, hca, _⟩ := own_ba3 (l := leT id 2) (n := 2) rfl o1; have HCA := hid hca; have GA := hid (((World.grownBy_alloc w5 (.cells #[.int .u8 op, .int .u8 n] 5) none).trans (grownBy_drew _ none)).trans g1); have BXA := hid (((HBX.out w5).grown (grownBy_drew _ none)).grown g1); have BPA' := hid hba; have r1 := (GA.out).cell c1 (by simp); have r2 := (GA.out).cell c2 (by simp); have r3 := (GA.out).cell c3 (by simp); have m1 := fun ob => (World.grownBy_alloc wa ob none).cell r1 (by simp); have m2 := fun ob => (World.grownBy_alloc wa ob none).cell r2 (by simp); have m3 := fun ob => (World.grownBy_alloc wa ob none).cell r3 (by simp); clear o1 g1 hba hca)
       | ((with_reducible refine (HB1.out w5.drew).mono ?_); rintro e wa ⟨va, rfl, o1, g1⟩; obtain ⟨pa, ca, rfl, hba, _, hca, _⟩ := own_ba3 (l := leT id 2) (n := 2) rfl o1; have HCA := hid hca; have GA := hid ((grownBy_drew w5 none).trans g1); have BPA' := hid hba; have r1 := (GA.out).cell c1 (by simp); have r2 := (GA.out).cell c2 (by simp); have r3 := (GA.out).cell c3 (by simp); have m1 := fun ob => (World.grownBy_alloc wa ob none).cell r1 (by simp); have m2 := fun ob => (World.grownBy_alloc wa ob none).cell r2 (by simp); have m3 := fun ob => (World.grownBy_alloc wa ob none).cell r3 (by simp); clear o1 g1 hba hca)
       | ((with_reducible refine (HB2.out wa).mono ?_); rintro e wb ⟨vb, rfl, o2, g2'⟩; have BXB := hid (BXA.out.grown g2'); obtain ⟨pb, cb, rfl, hbb, _, hcb, _⟩ := own_ba3 (l := leT sec 4) (n := 4) rfl o2; have HCB := hid hcb; have BPB := hid hbb; have GB := hid (GA.out.trans g2'); have BPA := hid (BPA'.out.grown g2'); have s1 := (GB.out).cell c1 (by simp); have s2 := (GB.out).cell c2 (by simp); have s3 := (GB.out).cell c3 (by simp); have k1 := fun ob => (World.grownBy_alloc wb ob none).cell s1 (by simp); have k2 := fun ob => (World.grownBy_alloc wb ob none).cell s2 (by simp); have k3 := fun ob => (World.grownBy_alloc wb ob none).cell s3 (by simp); clear o2 g2' hbb hcb)
       | ((with_reducible refine (HB2.out (wa.alloc (.cells #[.int .u8 op, .int .u8 n] 5))).mono ?_); rintro e wb ⟨vb, rfl, o2, g2'⟩; have BXB2 := hid ((HBX.out wa).grown g2'); obtain ⟨pb, cb, rfl, hbb, _, hcb, _⟩ := own_ba3 (l := leT sec 4) (n := 4) rfl o2; have HCB := hid hcb; have BPB := hid hbb; have GB := hid ((GA.out.trans (World.grownBy_alloc wa _ none)).trans g2'); have BPA := hid ((BPA'.out.grown (World.grownBy_alloc wa _ none)).grown g2'); have s1 := (GB.out).cell c1 (by simp); have s2 := (GB.out).cell c2 (by simp); have s3 := (GB.out).cell c3 (by simp); have k1 := fun ob => (World.grownBy_alloc wb ob none).cell s1 (by simp); have k2 := fun ob => (World.grownBy_alloc wb ob none).cell s2 (by simp); have k3 := fun ob => (World.grownBy_alloc wb ob none).cell s3 (by simp); clear o2 g2' hbb hcb)
       | ((with_reducible refine (HB2.out wa).mono ?_); rintro e wb ⟨vb, rfl, o2, g2'⟩; obtain ⟨pb, cb, rfl, hbb, _, hcb, _⟩ := own_ba3 (l := leT sec 4) (n := 4) rfl o2; have HCB := hid hcb; have BPB := hid hbb; have GB := hid (GA.out.trans g2'); have BPA := hid (BPA'.out.grown g2'); have s1 := (GB.out).cell c1 (by simp); have s2 := (GB.out).cell c2 (by simp); have s3 := (GB.out).cell c3 (by simp); have k1 := fun ob => (World.grownBy_alloc wb ob none).cell s1 (by simp); have k2 := fun ob => (World.grownBy_alloc wb ob none).cell s2 (by simp); have k3 := fun ob => (World.grownBy_alloc wb ob none).cell s3 (by simp); clear o2 g2' hbb hcb))
     | (go_at_call 28; first
       | ((with_reducible refine (sConcat _ _ _ _ _ _ _ _ _ _ _ _ _ _ (four_at wb wb.heap.size rfl (leT id 2) (leT sec 4) lt op n w5.heap.size pa pb pt ca cb ct 2 4 _ rfl rfl HLT.out BXB.out BPA.out BPB.out (HBT.out.grown GB.out) HCA.out HCB.out HCT.out) HLE.out HP0.out).mono ?_); rintro e w9 ⟨v9, rfl, ho9, hg9⟩; rw [HL9.out, HQ.out] at ho9; have HSZ9 := hid (Nat.le_trans (Nat.le_trans (GB.out.trans (grownBy_refl wb none)).size (alloc_le wb _)) hg9.size); have HG9 := hid ((((HG0.out.trans GB.out).trans (grownBy_refl wb none)).trans (World.grownBy_alloc wb _ none)).trans hg9); have HO9 := hid (own_lower ho9 (Nat.le_trans (GB.out.trans (grownBy_refl wb none)).size (alloc_le wb _))); have HBT9 := hid ((((HBT.out.grown GB.out).grown (grownBy_refl wb none)).grown (World.grownBy_alloc wb _ none)).grown hg9); have n1 := hg9.cell ((World.grownBy_alloc wb _ none).cell ((grownBy_refl wb none).cell s1 (by simp)) (by simp)) (by simp); have n2 := hg9.cell ((World.grownBy_alloc wb _ none).cell ((grownBy_refl wb none).cell s2 (by simp)) (by simp)) (by simp); have n3 := hg9.cell ((World.grownBy_alloc wb _ none).cell ((grownBy_refl wb none).cell s3 (by simp)) (by simp)) (by simp); clear ho9 hg9)
       | ((with_reducible refine (sConcat _ _ _ _ _ _ _ _ _ _ _ _ _ _ (four_at wb wb.heap.size rfl (leT id 2) (leT sec 4) lt op n wa.heap.size pa pb pt ca cb ct 2 4 _ rfl rfl HLT.out BXB2.out BPA.out BPB.out (HBT.out.grown GB.out) HCA.out HCB.out HCT.out) HLE.out HP0.out).mono ?_); rintro e w9 ⟨v9, rfl, ho9, hg9⟩; rw [HL9.out, HQ.out] at ho9; have HSZ9 := hid (Nat.le_trans (Nat.le_trans (GB.out.trans (grownBy_refl wb none)).size (alloc_le wb _)) hg9.size); have HG9 := hid ((((HG0.out.trans GB.out).trans (grownBy_refl wb none)).trans (World.grownBy_alloc wb _ none)).trans hg9); have HO9 := hid (own_lower ho9 (Nat.le_trans (GB.out.trans (grownBy_refl wb none)).size (alloc_le wb _))); have HBT9 := hid ((((HBT.out.grown GB.out).grown (grownBy_refl wb none)).grown (World.grownBy_alloc wb _ none)).grown hg9); have n1 := hg9.cell ((World.grownBy_alloc wb _ none).cell ((grownBy_refl wb none).cell s1 (by simp)) (by simp)) (by simp); have n2 := hg9.cell ((World.grownBy_alloc wb _ none).cell ((grownBy_refl wb none).cell s2 (by simp)) (by simp)) (by simp); have n3 := hg9.cell ((World.grownBy_alloc wb _ none).cell ((grownBy_refl wb none).cell s3 (by simp)) (by simp)) (by simp); clear ho9 hg9)
       | ((with_reducible refine (sConcat _ _ _ _ _ _ _ _ _ _ _ _ _ _ (four_at (wb.alloc (.cells #[.int .u8 op, .int .u8 n] 5)) (wb.heap.size + 1) (World.size_alloc wb _) (leT id 2) (leT sec 4) lt op n wb.heap.size pa pb pt ca cb ct 2 4 _ rfl rfl HLT.out (HBX.out wb) (BPA.out.grown (World.grownBy_alloc wb (.cells #[.int .u8 op, .int .u8 n] 5) none)) (BPB.out.grown (World.grownBy_alloc wb (.cells #[.int .u8 op, .int .u8 n] 5) none)) ((HBT.out.grown GB.out).grown (World.grownBy_alloc wb (.cells #[.int .u8 op, .int .u8 n] 5) none)) HCA.out HCB.out HCT.out) HLE.out HP0.out).mono ?_); rintro e w9 ⟨v9, rfl, ho9, hg9⟩; rw [HL9.out, HQ.out] at ho9; have HSZ9 := hid (Nat.le_trans (Nat.le_trans (GB.out.trans (World.grownBy_alloc wb (.cells #[.int .u8 op, .int .u8 n] 5) none)).size (alloc_le (wb.alloc (.cells #[.int .u8 op, .int .u8 n] 5)) _)) hg9.size); have HG9 := hid ((((HG0.out.trans GB.out).trans (World.grownBy_alloc wb (.cells #[.int .u8 op, .int .u8 n] 5) none)).trans (World.grownBy_alloc (wb.alloc (.cells #[.int .u8 op, .int .u8 n] 5)) _ none)).trans hg9); have HO9 := hid (own_lower ho9 (Nat.le_trans (GB.out.trans (World.grownBy_alloc wb (.cells #[.int .u8 op, .int .u8 n] 5) none)).size (alloc_le (wb.alloc (.cells #[.int .u8 op, .int .u8 n] 5)) _))); have HBT9 := hid ((((HBT.out.grown GB.out).grown (World.grownBy_alloc wb (.cells #[.int .u8 op, .int .u8 n] 5) none)).grown (World.grownBy_alloc (wb.alloc (.cells #[.int .u8 op, .int .u8 n] 5)) _ none)).grown hg9); have n1 := hg9.cell ((World.grownBy_alloc (wb.alloc (.cells #[.int .u8 op, .int .u8 n] 5)) _ none).cell ((World.grownBy_alloc wb (.cells #[.int .u8 op, .int .u8 n] 5) none).cell s1 (by simp)) (by simp)) (by simp); have n2 := hg9.cell ((World.grownBy_alloc (wb.alloc (.cells #[.int .u8 op, .int .u8 n] 5)) _ none).cell ((World.grownBy_alloc wb (.cells #[.int .u8 op, .int .u8 n] 5) none).cell s2 (by simp)) (by simp)) (by simp); have n3 := hg9.cell ((World.grownBy_alloc (wb.alloc (.cells #[.int .u8 op, .int .u8 n] 5)) _ none).cell ((World.grownBy_alloc wb (.cells #[.int .u8 op, .int .u8 n] 5) none).cell s3 (by simp)) (by simp)) (by simp); clear ho9 hg9)))
  all_goals
    obtain ⟨p9, k9, hv9⟩ := ownsRow_slice HO9.out
    subst hv9
    obtain ⟨vz, wz, hrz, hoz, hgz⟩ := run_append_zeros w9 w5.heap.size _ q mm _ HO9.out (by have := HQ16.out; omega) HSZ9.out
    rw [HQ16.out, ← bcells_app] at hoz
    have HRZ := hid hrz
    have HOZ := hid hoz
    have HGZ := hid (own_then HG9.out HO9.out HG0.out.size hgz)
    clear hrz hoz hgz n1 n2 n3 m1 m2 m3 s1 s2 s3 r1 r2 r3 k1 k2 k3 l1 l2 l3 c0 c1 c2 c3
    clear o0 o2 hl e1 e2
    go_wp2_with (at_builtin; with_reducible refine Lib.wpList_append_run _ rfl _ _ _ _ rfl _ _ rfl rfl _ _ (HRZ.out _) ?_)
    refine bodyPost_ret (v := .tuple #[vz, .slice none 0 0, .int .i64 0]) (by simp [results, Try.results8, go_sem, Act.put]) rfl (PackQ.of (n := 0) (by rw [List.length_append, HQ.out, List.length_replicate]; exact HQ16.out) HOZ.out rfl (BA.nil _ _) (Nat.le_refl _) (by omega) HGZ.out)
end Go.Proofs.Ytoeohbiofmcdeaa.Bk
