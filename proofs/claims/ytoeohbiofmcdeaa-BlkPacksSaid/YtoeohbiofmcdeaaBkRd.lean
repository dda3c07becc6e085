/-
  Package blk: the reference's Pack where it names a page.
-/
import Derived.Test.YtoeohbiofmcdeaaBkRc
import Derived.Test.YtoeohbiofmcdeaaBkK
import Derived.BigRegion
import Derived.Deep.RegionHeld3
import Derived.Deep.Cut
set_option linter.unusedSimpArgs false
set_option linter.unusedVariables false
namespace Go.Proofs.Ytoeohbiofmcdeaa.Bk
open Go.RowKit Gen
set_option maxHeartbeats 4000000

set_option maxRecDepth 100000 in
theorem rPack_page (r : Rq) (page : Int) (p : Option Addr) (c : Nat) (w : World) (h : SA w p r.segs) (hh : r.head page = true) (hall : r.segs.all Seg.ok = true) (hno : rqForm r page = true) (hpp : 0 ≤ page) : Calls Try.prog 13 #[r.val p c, .int .i64 page] w (PackR (packB r page) (packP r page) 0 w) := by
  have hl := form_le hno
  rw [if_neg (show ¬ page = -1 by omega)] at hl
  obtain ⟨op, id, sec, segs⟩ := r
  simp only [Rq.val] at *
  simp only [Rq.head, fitsV, pageOk, Bool.and_eq_true, decide_eq_true_eq, Bool.or_eq_true] at hh
  obtain ⟨⟨⟨⟨o0, o2⟩, i0, i1⟩, s0, s1⟩, hpg⟩ := hh
  have b0 : decide (op < 0) = false := by simp; omega
  have b1 : decide (2 < op) = false := by simp; omega
  have b2 : decide (id < 0) = false := by simp; omega
  have b3 : decide (65536 ≤ id) = false := by simp; omega
  have b4 : decide (sec < 0) = false := by simp; omega
  have b5 : decide (4294967296 ≤ sec) = false := by simp; omega
  have b6 : decide (page < -1) = false := by simp; omega
  have b7 : decide (255 < page) = false := by simp; omega
  unfold rqForm at hno
  simp only [Bool.and_eq_true, Bool.not_eq_true'] at hno
  obtain ⟨hm, hb⟩ := hno
  have hm2 : op ≤ 1 ∧ manyV op segs.length 16 = true := by
    obtain ⟨q, rfl⟩ : ∃ q : Nat, page = q := ⟨page.toNat, by omega⟩
    rw [mayV_page _ _ _ o0] at hm
    simpa using hm
  obtain ⟨o1, hmm⟩ := hm2
  have hp256 : page < 256 := by omega
  have hpk : packB ⟨op, id, sec, segs⟩ page = ([byteV 3, byteV segs.length, byteV id, byteV (id / 256)] ++ leT sec 4) ++ [byteV page, byteV op] ++ List.replicate 6 0 := by
    simp only [packB, padV, headV, leT_four, show ¬ page = -1 by omega, if_false]
    have : (byteV 3 :: byteV segs.length :: (leV 2 id ++ leV 4 sec) ++ [byteV page, byteV op]).length = 10 := by simp [leV_len]
    rw [this]
    simp [leV]
  have hpp2 : packP ⟨op, id, sec, segs⟩ page = segsB segs := by simp only [packP, show ¬ page = -1 by omega, if_false]
  rw [hpk, hpp2]
  have hx3 : IntKind.u8.wrap 3 = 3 := by decide
  have HALL := hid hall
  have HNB := hid hb
  have HPS := hid fun w' (h' : SA w' p segs) => rPackSegs segs p c w' h' (by omega) hall
  obtain ⟨n, hn⟩ : ∃ n, segs.length = n := ⟨_, rfl⟩
  have HN := hid hn
  have HS := hid h
  have HSL := hid (segsB_len segs)
  obtain ⟨LS, hLS⟩ : ∃ L, segsB segs = L := ⟨_, rfl⟩
  rw [hLS] at HPS HSL ⊢
  have hsl := HSL.out
  rw [hn] at hl hmm HPS HSL hsl ⊢
  rw [hsl] at HPS
  have HM := hid fun w' => hmm ▸ rMany op n 16 w'
  have f1 : IntKind.u8.wrap (id.tmod 256) = id % 256 := by rw [IntKind.wrap_u8, Int.tmod_eq_emod_of_nonneg i0]; omega
  have f2 : wrap64 (id.tdiv 256) = id / 256 := by rw [Int.tdiv_eq_ediv_of_nonneg i0]; unfold wrap64; omega
  have f3 : IntKind.u8.wrap (id / 256) = id / 256 := by rw [IntKind.wrap_u8]; omega
  have f4 : IntKind.u8.wrap op = op := by rw [IntKind.wrap_u8]; omega
  have f5 : IntKind.u8.wrap (n : Int) = n := by rw [IntKind.wrap_u8]; omega
  have hl4 : #[Value.int .u8 3, .int .u8 n, .int .u8 (id % 256), .int .u8 (id / 256)] = (bcells [byteV 3, byteV n, byteV id, byteV (id / 256)]).toArray := by
    simp only [bcells_cons, bcells_nil, byteV_nat]
    rw [show id / 256 % 256 = id / 256 by omega, show (n : Int) % 256 = n by omega]
    try rfl
  have HL4 := hid hl4
  obtain ⟨L0, hL0⟩ : ∃ L, [byteV 3, byteV (n : Int), byteV id, byteV (id / 256)] = L := ⟨_, rfl⟩
  have HL0 := hid (show L0.length = 4 by rw [← hL0]; rfl)
  rw [hL0] at hl4 ⊢
  obtain ⟨BX, hBX⟩ : ∃ B, L0 ++ leT sec 4 ++ [byteV page, byteV op] ++ List.replicate 6 0 = B := ⟨_, rfl⟩
  rw [hBX]
  have HBX := hid hBX
  clear hBX
  have HF := hid fun w' => own_fresh w' L0 (by rw [HL0.out]; decide)
  rw [← hl4, HL0.out] at HF
  have hx0 : 0 ≤ sec := s0
  have HSEC := hid (show 0 ≤ sec ∧ sec < 4294967296 from ⟨s0, s1⟩)
  obtain ⟨ii0, hi, hz0, hz1, hz2⟩ := info_parts info_u8
  have Hi := hid hi; have Hz0 := hid hz0; have Hz1 := hid hz1; have Hz2 := hid hz2
  have q0 : decide (page < 0) = false := by simp; omega
  have q1 : decide (0 ≤ page) = true := by simp; omega
  have q2 : (op == 2) = false := by simp; omega
  have q3 : IntKind.u8.wrap page = page := by rw [IntKind.wrap_u8]; omega
  have hl2 : [Value.int .u8 page, .int .u8 op] = bcells [byteV page, byteV op] := by
    rw [bcells_cons, bcells_cons, bcells_nil, byteV_nat, byteV_nat, show page % 256 = page by omega, show op % 256 = op by omega]
  have HL2 := hid hl2
  clear hl2
  clear h hn hpg hall hb hm hmm o0 o2 i0 i1 s0 s1 hpp hpk hpp2 hLS hsl hl4 hL0 hx0 hi hz0 hz1 hz2 o1 hp256
  obtain ⟨W, hW⟩ : ∃ W, w.alloc (.cells #[.int .i64 op, .int .i64 id, .int .i64 sec, .slice p n c] 24) = W := ⟨_, rfl⟩
  have HG0 := hid (show w.grownBy W none from hW ▸ World.grownBy_alloc _ _ _)
  have HRW := hid (rowQ hW)
  have HKB := hid (show w.heap.size < W.heap.size from HRW.out.lt)
  have c0 := HRW.out.cell (k := 0) (by omega); have c1 := HRW.out.cell (k := 1) (by omega); have c2 := HRW.out.cell (k := 2) (by omega); have c3 := HRW.out.cell (k := 3) (by omega)
  simp only [rqV] at c0 c1 c2 c3
  go_enter Try.func13, Try.ntmps13
  go_wp2
  go_loopw [7, 8] (fun v i wr => ∃ k : Nat, i = .int .i64 k ∧ k ≤ n ∧ v = .bool true ∧ (segs.take k).all Seg.ok = true ∧ W.grownBy wr none) (fun _ i _ => n - (intOf i).toNat)
  case atStart => exact ⟨0, rfl, by omega, rfl, by simp, grownBy_refl _ _⟩
  case round =>
    obtain ⟨k, rfl, hk, rfl, ha, hg⟩ := hrel
    have HRk := hid (HRW.out.grown hg (by simp))
    have c0 := HRk.out.cell (k := 0) (by omega); have c1 := HRk.out.cell (k := 1) (by omega); have c2 := HRk.out.cell (k := 2) (by omega); have c3 := HRk.out.cell (k := 3) (by omega)
    simp only [rqV] at c0 c1 c2 c3
    have HA := hid ha
    have HG := hid hg
    clear ha
    by_cases hlt : k < n
    · have hlt' : (k : Int) < n := by omega
      have hk0 : (0 : Int) ≤ k := by omega
      obtain ⟨s, hs⟩ : ∃ s, segs[k]? = some s := ⟨_, List.getElem?_eq_getElem (by rw [HN.out]; exact hlt)⟩
      obtain ⟨bb, oo, rfl, x0, x1, x2⟩ := (HS.out.grown (HG0.out.trans hg)) k s hs
      have HSk := hid hs
      clear hg
      have hok := ok_at HALL.out hs
      have hnb := nb_at HNB.out hs
      obtain ⟨r, f, g⟩ := s
      simp only at x0 x1 x2
      have HOK := hid hok
      simp only [Seg.ok, fitsV, Bool.and_eq_true, decide_eq_true_eq] at hok
      obtain ⟨⟨⟨r0, r1⟩, f0, f1⟩, g0, g1⟩ := hok
      have y0 : decide (r < 0) = false := by simp; omega
      have y1 : decide (255 < r) = false := by simp; omega
      have y2 : decide (f < 0) = false := by simp; omega
      have y3 : decide (3 < f) = false := by simp; omega
      have y4 : decide (g < 0) = false := by simp; omega
      have y5 : decide (3 < g) = false := by simp; omega
      have hfg : decide (f ≤ g) = true := by simpa [Seg.back] using hnb
      clear hnb
      clear hs r0 r1 f0 f1 g0 g1
      go_wp2
      go_roundw
      case rel => exact ⟨k + 1, by go_num, hlt, rfl, all_ok_next HSk.out HA.out HOK.out, HG.out.trans (World.grownBy_alloc _ _ none)⟩
      case measure => simp [intOf]; omega
    · have hge : decide ((k : Int) < n) = false := by simp; omega
      have hge2 : ¬ ((k : Int) < n) := by omega
      have HKn := hid (show n ≤ k by omega)
      have HF1 := hid (own_lower (HF.out wr) hg.size)
      have HGF := hid (hg.trans (World.grownBy_alloc wr (.cells #[.int .u8 3, .int .u8 n, .int .u8 (id % 256), .int .u8 (id / 256)] 5) none))
      clear hg
      have cc0 := fun ob => (World.grownBy_alloc wr ob none).cell c0 (by simp)
      have cc2 := fun ob => (World.grownBy_alloc wr ob none).cell c2 (by simp)
      go_wp2_with (go_at_call 35; refine (HM.out _).mono ?_; rintro e w' ⟨rfl, rfl⟩)
      go_loopw [12, 13, 14] (fun b x i wr => ∃ j : Nat, i = .int .i64 j ∧ j ≤ 4 ∧ x = .int .i64 (secK sec j) ∧ wr.ownsRow W.heap.size 5 1 b (4 + j) (bcells (L0 ++ leT sec j)) ∧ W.grownBy wr none) (fun _ _ i _ => 4 - (intOf i).toNat)
      case atStart => exact ⟨0, rfl, by omega, rfl, by have := HF1.out; simpa [leT] using this, HGF.out⟩
      case round =>
        obtain ⟨j, rfl, hj, rfl, ho, hgq⟩ := hrel
        clear c0 c1 c2 c3 cc0 cc2 f1 f2 f3 f5
        have HRq := hid (HRW.out.grown hgq (by simp))
        have c0 := HRq.out.cell (k := 0) (by omega); have c1 := HRq.out.cell (k := 1) (by omega); have c2 := HRq.out.cell (k := 2) (by omega); have c3 := HRq.out.cell (k := 3) (by omega)
        simp only [rqV] at c0 c1 c2 c3
        obtain ⟨pv, cv, hv⟩ := ownsRow_slice ho
        subst hv
        have HO := hid ho
        have HGq := hid hgq
        clear ho hgq
        by_cases hj4 : j < 4
        · have hj4' : (j : Int) < 4 := by omega
          obtain ⟨x, hx⟩ : ∃ x, secK sec j = x := ⟨_, rfl⟩
          have hxx := secK_next sec HSEC.out.1 HSEC.out.2 j hj4
          rw [hx] at hxx ⊢
          obtain ⟨x0, x1, hxn, hxl⟩ := hxx
          have HXN := hid hxn; have HXL := hid hxl
          have u1 : IntKind.u8.wrap (x.tmod 256) = x % 256 := by rw [IntKind.wrap_u8, Int.tmod_eq_emod_of_nonneg x0]; omega
          have u2 : wrap64 (x.tdiv 256) = x / 256 := by rw [Int.tdiv_eq_ediv_of_nonneg x0]; unfold wrap64; omega
          have HB1 := hid (show [Value.int .u8 (x % 256)] = bcells [byteV x] by rw [bcells_cons, bcells_nil, byteV_nat])
          clear hx hxn hxl x0 x1
          go_wp2_with (at_builtin; refine wpList_append_own _ rfl _ _ 25 rfl W.heap.size 5 ii0 (.int .u8 0) 1 1 Try.underlying25 Hi.out Hz0.out Hz1.out Hz2.out rfl (by decide) _ _ _ rfl (HO.out.alloc _) ⟨wr.heap.size, 0, none⟩ 1 1 [.int .u8 (x % 256)] rfl rfl (World.news_of_block (heap_alloc_new wr _)) (by simp [Value.oneCell']) (by unfold maxLen; omega) (by omega) (by have := HGq.out.size; simp; omega) ?_; intro v' w2 hown' hgrow hnil; clear hnil; have HO3 := hid hown'; have HG3 := hid ((HGq.out.trans (World.grownBy_alloc wr _ none)).andThen hgrow (fun j hj => .inl (HO.out.lt j hj).1)); clear hown' hgrow)
          go_roundw
          case rel =>
            first
              | (repeat apply Exists.intro
                 refine ⟨⟨j + 1, ?_, ?_, ?_, ?_, ?_⟩, rfl⟩)
              | refine ⟨j + 1, ?_, ?_, ?_, ?_, ?_⟩
            · go_num
            · omega
            · rw [HXN.out, u2]
            · rw [HXL.out, ← List.append_assoc, bcells_app, ← HB1.out, show 4 + (j + 1) = 4 + j + 1 by omega]; exact HO3.out
            · exact HG3.out
          case measure => simp [intOf]; omega
        · obtain rfl : j = 4 := by omega
          have hj8 : ¬ ((4 : Nat) : Int) < 4 := by omega
          obtain ⟨L8, hL8⟩ : ∃ L, L0 ++ leT sec 4 = L := ⟨_, rfl⟩
          have HL8 := hid (show L8.length = 8 by rw [← hL8, List.length_append, HL0.out]; rfl)
          rw [hL8] at HO
          have HL8e := hid hL8
          clear hL8
          have HO := hid (show wr.ownsRow W.heap.size 5 1 (.slice pv 8 cv) 8 (bcells L8) from HO.out)
          go_wp2_with (at_builtin; refine wpList_append_own _ rfl _ _ 25 rfl W.heap.size 5 ii0 (.int .u8 0) 1 1 Try.underlying25 Hi.out Hz0.out Hz1.out Hz2.out rfl (by decide) _ _ _ rfl (HO.out.alloc _) ⟨wr.heap.size, 0, none⟩ 2 2 [.int .u8 page, .int .u8 op] rfl rfl (World.news_of_block (heap_alloc_new wr _)) (by simp [Value.oneCell']) (by unfold maxLen; omega) (by omega) (by have := HGq.out.size; simp; omega) ?_; intro v' w2 hown' hgrow hnil; clear hnil; have hgw : (wr.alloc (.cells #[.int .u8 page, .int .u8 op] 5)).grownBy w2 (Value.slice pv 8 cv).ownBlock := hgrow; have hne := own_ne (HO.out.alloc (.cells #[.int .u8 page, .int .u8 op] 5)) HKB.out; have R2 := hid ((HRq.out.alloc (.cells #[.int .u8 page, .int .u8 op] 5)).grown hgw hne); clear hgw hne; obtain ⟨px, cx, hvx⟩ := ownsRow_slice hown'; subst hvx; have HO3 := hid hown'; have HG3 := hid ((HGq.out.trans (World.grownBy_alloc wr _ none)).andThen hgrow (fun j hj => .inl (HO.out.lt j hj).1)); clear hown' hgrow)
          clear c0 c1 c2 c3
          have c3 := R2.out.cell (k := 3) (by omega)
          simp only [rqV] at c3
          have hO3 := HO3.out
          rw [HL2.out, ← bcells_app] at hO3
          obtain ⟨L9, hL9⟩ : ∃ L, L8 ++ [byteV page, byteV op] = L := ⟨_, rfl⟩
          rw [hL9] at hO3
          have HBE := hid (show BX = L9 ++ List.replicate 6 0 by rw [← HBX.out, HL8e.out, hL9])
          have HX := hid (show BX.length = 16 by rw [HBE.out, ← hL9, List.length_append, List.length_append, HL8.out]; rfl)
          have HO4 := hid (show w2.drew.ownsRow W.heap.size 5 1 (.slice px 10 cx) 10 (bcells L9) from own_grown hO3 (grownBy_drew _ none))
          clear hO3 hL9
          obtain ⟨v7, w7, hr7, ho7, hg7⟩ := run_append_zeros w2.drew W.heap.size _ 10 6 _ HO4.out (by decide) (HG3.out.trans (grownBy_drew _ none)).size
          rw [← bcells_app, ← HBE.out] at ho7
          have HR7 := hid hr7; have HO7 := hid ho7
          have HG7 := hid (own_then (HG3.out.trans (grownBy_drew _ none)) HO4.out (Nat.le_refl _) hg7)
          have d3 := own_keep HO4.out HKB.out hg7 ((grownBy_drew w2 none).cell c3 (by simp))
          clear hr7 ho7 hg7
          go_region_held3 (fun w' => w'.cell? ⟨w.heap.size, 3, none⟩ = some (.slice p n c)) (first | assumption | go_keep)
            (first
             | (go_at_call 36; first
                | ((with_reducible refine (HPS.out w7 (HS.out.grown (HG0.out.trans HG7.out))).mono ?_); rintro e w8 ⟨v8, rfl, ho8, hg8⟩; obtain ⟨p8, c8, rfl, hb8, _, hn8, _⟩ := own_ba3 HSL.out ho8; have HB8 := hid hb8; have HG8 := hid (HG7.out.trans hg8); have HOX := hid (own_grown HO7.out hg8); have g3 := hg8.cell d3 (by simp); clear ho8 hg8 hb8 hn8))
             | (first
                | (refine step_append_run rfl _ _ _ _ rfl _ _ rfl rfl _ _ (HR7.out _) ?_)))
          all_goals
            clear c3 d3 g3
            go_wp2
            refine bodyPost_ret (v := .tuple #[v7, .slice p8 (2 * n) c8, .int .i64 0]) (by simp [results, Try.results13, go_sem, Act.put]) rfl (PackR.of HX.out HOX.out HSL.out HB8.out (HG0.out.trans HG8.out))
end Go.Proofs.Ytoeohbiofmcdeaa.Bk
