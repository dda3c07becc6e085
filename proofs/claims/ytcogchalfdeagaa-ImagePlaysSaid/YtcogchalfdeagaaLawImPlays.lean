/-
  ImagePlays: for every base, number of blocks and script the law returns true, and what was there stays. No condition.
-/
import Derived.Test.YtcogchalfdeagaaImRH
set_option linter.unusedSimpArgs false
set_option linter.unusedVariables false
namespace Go.Proofs.Ytcogchalfdeagaa.lawImPlays
open Go.ChangeShapes Go.WideShapes Go.ChangeAt Go.RowKit Gen
set_option maxHeartbeats 2000000

theorem mine_cell {w0 w : World} {pm : Option Addr} {n cm : Nat} {l : List UInt8} (h : w.ownsRow w0.heap.size 5 1 (.slice pm n cm) n (bcells l)) (hl : l.length = n) {k : Nat} (hk : k < n) :
    ∃ MB cur, pm = some ⟨MB, 0, none⟩ ∧ w0.heap.size ≤ MB ∧ w.heap[MB]? = some (.cells cur 5 (0, 0)) ∧ w.cell? ⟨MB, k, none⟩ = some (.int .u8 (l.getD k 0).toNat) ∧ w.frozen? ⟨MB, k, none⟩ = false ∧
      (w.setCell ⟨MB, k, none⟩ (.int .u8 ((l.getD k 0 + 1).toNat : Int))).ownsRow w0.heap.size 5 1 (.slice pm n cm) n (bcells (l.set k (l.getD k 0 + 1))) := by
  obtain ⟨n', rfl⟩ : ∃ n', n = n' + 1 := ⟨n - 1, by omega⟩
  rcases h.2 with ⟨_, h0⟩ | ⟨g, cap, cur, e, hb, hg, _⟩
  · omega
  · simp only [Value.slice.injEq, true_and] at e
    obtain ⟨rfl, rfl⟩ := e
    refine ⟨g, cur, rfl, hb, hg, ?_, h.frozenAt k, ?_⟩
    · rw [h.cellAt k (by omega), bcells_at (by omega)]
    · have := (h.stored k (.int .u8 ((l.getD k 0 + 1).toNat : Int))).1
      rwa [bcells_set] at this
set_option maxRecDepth 100000 in
theorem walk_no (p : Option Addr) (l : List UInt8) (c : Nat) (K : Int) (so : Value) (hso : ∃ a n c, so = .slice a n c) (w : World) (hb : BA w p l) (hl : l.length ≤ 140737488351232) (hn : p = none → c = 0) (hcode : newC l.length K ≠ 0) :
    Calls Try.prog 3 #[.slice p l.length c, .int .i64 K, so] w fun e w' => e = .returned (.bool true) ∧ w.grownBy w' none := by
  obtain ⟨sa, sn, sc, rfl⟩ := hso
  have HB := hid hb
  have HL := hid hl
  have HN := hid hn
  have HA := hid lAwake
  have HW := hid (fun (w' : World) (q : Option Addr) (c' : Nat) => iNew_no q l c' K w' hl hcode)
  have HV := hid (fun (w' : World) (q : Option Addr) (c' : Nat) => rNew_no q l c' K w' hl hcode)
  obtain ⟨code, hc⟩ : ∃ code, newC l.length K = code := ⟨_, rfl⟩
  rw [hc] at HW HV hcode
  have hl' := hl
  clear hc hb hl hn
  go_enter Try.func3, Try.ntmps3
  go_wp2_with (first
    | (at_builtin; refine wpList_append_empty rfl (.tmp 15) (.tmp 16) rfl rfl p l c rfl HB.out HL.out HN.out ?_; intro v w1 hv; obtain ⟨pm, cm, hve⟩ := ownsRow_slice hv.1; subst hve; have HG1 := hid hv.2; have HM := hid hv.1; clear hv)
    | (go_at_call 8; refine (HW.out _ _ _).mono ?_; rintro e w2 ⟨rfl, rfl⟩)
    | (go_at_call 9; refine (HV.out _ _ _).mono ?_; rintro e w2 ⟨rfl, rfl⟩))
  go_loopw [12] (fun i wr => ∃ (k : Nat) (l' : List UInt8), i = .int .i64 k ∧ k ≤ l.length ∧ l'.length = l.length ∧ wr.ownsRow w.heap.size 5 1 (.slice pm l.length cm) l.length (bcells l') ∧ w.grownBy wr none) (fun i _ => l.length - (intOf i).toNat)
  case atStart => exact ⟨0, l, rfl, by omega, rfl, HM.out, HG1.out⟩
  case round =>
    clear HM HG1
    obtain ⟨k, l', rfl, hk, hll, ho, hg⟩ := hrel
    have HO := hid ho
    have HG := hid hg
    have HLl := hid hll
    clear ho hg hll
    have hk0 : (0 : Int) ≤ k := by omega
    by_cases hlt : k < l.length
    · have hlt' : (k : Int) < l.length := by omega
      obtain ⟨MB, cur, rfl, hlo, hcur, hcell, hfz, hst⟩ := mine_cell HO.out HLl.out hlt
      have HS := hid hst
      have HLo := hid hlo
      have hwr := wrap_u8 (l'.getD k 0)
      obtain ⟨X, hX⟩ : ∃ X, l'.getD k 0 = X := ⟨_, rfl⟩
      rw [hX] at hcell hwr HS
      clear hst hlo hX hcur
      go_wp2
      go_roundw
      case rel => exact ⟨k + 1, _, by go_num, hlt, by rw [List.length_set]; exact HLl.out, HS.out, HG.out.andThen (grownBy_setCell _ _ _ _ _) fun j hj => by cases hj; exact .inl HLo.out⟩
      case measure => simp [intOf]; omega
    · obtain rfl : k = l.length := by omega
      have hge : (l.length : Int) ≤ l.length := by omega
      go_wp2_with fail
      go_loop [13] (fun i => i = .int .i64 0) (fun _ => 0)
      case atStart => rfl
      case round =>
        subst hrel
        go_wp2_with (go_at_call 19; refine (HA.out _).mono ?_; rintro e w3 ⟨rfl, g3⟩; have HG3 := hid (HG.out.trans g3); clear g3)
        go_ret
        exact ⟨rfl, HG3.out⟩
set_option maxRecDepth 100000 in
theorem walk_yes (p : Option Addr) (l : List UInt8) (c : Nat) (K : Int) (pa : Option Addr) (ops : List OpV) (cap : Nat) (w : World) (hb : BA w p l) (hl : l.length ≤ 140737488351232) (hn : p = none → c = 0) (hcode : newC l.length K = 0) (ho : OpsIn w pa ops) (hol : ops.length ≤ maxLen) :
    Calls Try.prog 3 #[.slice p l.length c, .int .i64 K, .slice pa ops.length cap] w fun e w' => e = .returned (.bool true) ∧ w.grownBy w' none := by
  have HB := hid hb
  have HL := hid hl
  have HN := hid hn
  have HC := hid hcode
  have HO := hid ho
  have HOL := hid hol
  have HA := hid lAwake
  have hl' := hl
  clear hb hl hn hcode ho hol
  go_enter Try.func3, Try.ntmps3
  go_wp2_with (first
    | (at_builtin; refine wpList_append_empty rfl (.tmp 15) (.tmp 16) rfl rfl p l c rfl HB.out HL.out HN.out ?_; intro v w1 hv; obtain ⟨pm, cm, hve, hba, -, hcm, -⟩ := hv.ba; subst hve; have HG1 := hid hv.2; have HM := hid hv.1; have HBm := hid hba; have HCm := hid hcm; have HPl := hid (fun (MB : Nat) (e : pm = some ⟨MB, 0, none⟩) => (hv.1.lt MB (by rw [e]; rfl)).2); clear hv hba hcm)
    | (go_at_call 8; refine (iNew_yes _ _ _ _ _ HC.out HBm.out HCm.out).mono ?_; rintro e w2 ⟨x, g, m, rfl, hi, -, -, hm, hg2⟩; have HI2 := hid (show IW w w2 x g m (newI l K) from ⟨hi, newI_ok HC.out, Nat.le_trans HG1.out.size hm, HG1.out.trans hg2⟩); have HM2 := hid (HM.out.kept hg2 (none_row' _)); have HS2 := hid hg2.size; clear hi hm hg2)
    | (go_at_call 9; refine (rNew_yes p l c K _ HC.out (HB.out.grown HI2.out.g) HL.out HN.out).mono ?_; rintro e w3 ⟨y, r, q, lp, cq, cl, rfl, hri, hy, hr, hq, hrr, hg3⟩; have HIB := hid (show IB w w3 x g m y r q lp cq cl (newI l K) (newI l K) from ⟨HI2.out.more hg3, hri, newI_ok HC.out, Nat.le_trans HI2.out.g.size hy, Nat.le_trans HI2.out.g.size hr, fun e => hrr (by simpa [newI] using e)⟩); have HM3 := hid (HM2.out.kept hg3 (none_row' _)); have HQ := hid (fun (MB : Nat) (e : pm = some ⟨MB, 0, none⟩) (a : Addr) (ea : q = some a) => (show a.block ≠ MB from by have h1 := HPl.out MB e; have h2 := hq a ea; have h3 := HS2.out; omega)); clear hri hy hr hq hrr hg3))
  go_loopw [12] (fun i wr => ∃ (k : Nat) (l' : List UInt8), i = .int .i64 k ∧ k ≤ l.length ∧ l'.length = l.length ∧ wr.ownsRow w.heap.size 5 1 (.slice pm l.length cm) l.length (bcells l') ∧ IB w wr x g m y r q lp cq cl (newI l K) (newI l K)) (fun i _ => l.length - (intOf i).toNat)
  case atStart => exact ⟨0, l, rfl, by omega, rfl, HM3.out, HIB.out⟩
  case round =>
    clear HM3 HIB HM2 HM HI2
    obtain ⟨k, l', rfl, hk, hll, ho, hib⟩ := hrel
    have HOw := hid ho
    have H := hid hib
    have HLl := hid hll
    clear ho hib hll
    have hk0 : (0 : Int) ≤ k := by omega
    by_cases hlt : k < l.length
    · have hlt' : (k : Int) < l.length := by omega
      obtain ⟨MB, cur, rfl, hlo, hcur, hcell, hfz, hst⟩ := mine_cell HOw.out HLl.out hlt
      have HS := hid hst
      have HMi := hid (fun v => H.out.mine (fun _ => rfl) hcur hlo (HQ.out MB rfl) k v)
      have hwr := wrap_u8 (l'.getD k 0)
      obtain ⟨X, hX⟩ : ∃ X, l'.getD k 0 = X := ⟨_, rfl⟩
      rw [hX] at hcell hwr HS
      clear hst hlo hX hcur
      go_wp2
      go_roundw
      case rel => exact ⟨k + 1, _, by go_num, hlt, by rw [List.length_set]; exact HLl.out, HS.out, HMi.out _⟩
      case measure => simp [intOf]; omega
    · obtain rfl : k = l.length := by omega
      have hge : (l.length : Int) ≤ l.length := by omega
      have hm := HOL.out
      unfold maxLen at hm
      go_wp2_with fail
      go_loopw [8, 13] (fun xv i wx => ∃ (k x m : Nat) (I : Im), xv = .pointer (some ⟨x, 0, none⟩) ∧ i = .int .i64 k ∧ k ≤ ops.length ∧ IB w wx x g m y r q lp cq cl I I) (fun _ i _ => ops.length - (intOf i).toNat)
      case atStart => exact ⟨0, x, m, _, rfl, rfl, by omega, H.out⟩
      case round =>
        clear H HOw hge
        obtain ⟨k, x, m, I, rfl, rfl, hk, hib⟩ := hrel
        have H := hid hib
        clear hib
        have hk0 : (0 : Int) ≤ k := by omega
        by_cases hlt : k < ops.length
        · have hlt' : (k : Int) < ops.length := by omega
          obtain ⟨pb, off, rfl, o0, o1, o2, o3, o4, hfit⟩ := HO.out k hlt
          obtain ⟨o, hoq⟩ : ∃ o, ops[k] = o := ⟨_, rfl⟩
          rw [hoq] at o0 o1 o2 o3 o4 hfit
          obtain ⟨what, a, bb, fl, bp, bl, bc⟩ := o
          simp only at o0 o1 o2 o3 o4
          have OC := hid (fun (w' : World) (hg : w.grownBy w' none) => (show w'.cell? ⟨pb, off + k * 5, none⟩ = some (.int .i64 what) ∧ w'.cell? ⟨pb, off + k * 5 + 1, none⟩ = some (.int .i64 a) ∧ w'.cell? ⟨pb, off + k * 5 + 2, none⟩ = some (.int .i64 bb) ∧ w'.cell? ⟨pb, off + k * 5 + 3, none⟩ = some (.int .u8 fl.toNat) ∧ w'.cell? ⟨pb, off + k * 5 + 4, none⟩ = some (.slice bp bl.length bc) from ⟨hg.cell o0 (by simp), hg.cell o1 (by simp), hg.cell o2 (by simp), hg.cell o3 (by simp), hg.cell o4 (by simp)⟩))
          obtain ⟨c0, c1, c2, c3, c4⟩ := OC.out _ H.out.pi.g
          have HFit := hid hfit
          clear hoq o0 o1 o2 o3 o4 hfit
          by_cases hw : what = 5
          · subst hw
            have HCo := hid (pCopy H.out)
            have HBy := hid (fun (w' : World) (hf : (⟨5, a, bb, fl, bp, bl, bc⟩ : OpV).fits w') => (show Calls Try.prog 12 #[.agg #[.int .i64 5, .int .i64 a, .int .i64 bb, .int .u8 fl.toNat, .slice bp bl.length bc]] w' _ from lBytesBU ⟨5, a, bb, fl, bp, bl, bc⟩ w' hf))
            have HLen := hid (OpV.out_len HFit.out.len)
            obtain ⟨out, hout⟩ : ∃ out, (⟨5, a, bb, fl, bp, bl, bc⟩ : OpV).out = out := ⟨_, rfl⟩
            rw [hout] at HBy HLen
            clear hout
            go_wp2_with (go_at_call 10; refine HCo.out.mono ?_; rintro e w4 ⟨x', m', rfl, hh1, hh2, hm', hx', g4⟩; have H4 := hid hh1; have H4' := hid hh2; have HNe := hid (And.intro hm' hx'); obtain ⟨z0, z1, z2, z3, z4⟩ := OC.out _ (hh1.pi.g.trans (grownBy_drew w4 none)); have Fd := hid (HFit.out.grown (hh1.pi.g.trans (grownBy_drew w4 none))); clear hh1 hh2 hm' hx' g4)
            have Hd0 := hid (H4.out.more (grownBy_drew w4 none))
            have Hd0' := hid (H4'.out.more (grownBy_drew w4 none))
            go_region_held3 (fun W => W.cell? ⟨pb, off + k * 5, none⟩ = some (.int .i64 5) ∧ W.cell? ⟨pb, off + k * 5 + 1, none⟩ = some (.int .i64 a) ∧ W.cell? ⟨pb, off + k * 5 + 2, none⟩ = some (.int .i64 bb) ∧ W.cell? ⟨pb, off + k * 5 + 3, none⟩ = some (.int .u8 fl.toNat) ∧ W.cell? ⟨pb, off + k * 5 + 4, none⟩ = some (.slice bp bl.length bc)) (first | exact ⟨by assumption, by assumption, by assumption, by assumption, by assumption⟩ | go_keep)
              (first
                | (go_at_call 12; (with_reducible refine (HBy.out _ Fd.out).mono ?_); rintro e w9 ⟨q9, c9, rfl, hb9, g9⟩; have H9 := hid (Hd0.out.more g9); have H9' := hid (Hd0'.out.more g9); have B9 := hid (hb9.1); obtain ⟨t0, t1, t2, t3, t4⟩ := OC.out _ H9.out.pi.g; clear hb9 g9)
                | (go_at_call 11; (with_reducible refine (pWriteOther H9.out H9'.out HNe.out.1 HNe.out.2 a q9 out c9 HLen.out B9.out).mono ?_); rintro e w10 ⟨code, rfl, h10, -⟩; have H10 := hid h10; obtain ⟨s0, s1, s2, s3, s4⟩ := OC.out _ h10.pi.g; clear h10))
            go_wp2_with fail
            have Hd := hid (H10.out.more (grownBy_drew w10 none))
            have pF := hid (fun (w' : World) (h : IB w w' x' g m' y r q lp cq cl I I) => pFree h)
            have pS := hid (fun (w' : World) (h : IB w w' x' g m' y r q lp cq cl I I) => iSectors h.pi.i)
            have pD := hid (fun (w' : World) (h : IB w w' x' g m' y r q lp cq cl I I) => pDirty h)
            have qD := hid (fun (w' : World) (h : IB w w' x' g m' y r q lp cq cl I I) => qDirty h)
            have HDl := hid (show (I.dirty).length ≤ 256 from Nat.le_trans (pickL_len _ _) H10.out.jok.n256)
            obtain ⟨D, hD⟩ : ∃ D, I.dirty = D := ⟨_, rfl⟩
            rw [hD] at pD qD HDl
            have y1 := Hd.out.ri.c1
            have y2 := Hd.out.ri.c2
            clear hD
            go_region_held3 (fun W => W.cell? ⟨y, 1, none⟩ = some (.slice lp I.n cl) ∧ W.cell? ⟨y, 2, none⟩ = some (.int .i64 ((I.most : Int) - I.used))) (first | exact ⟨by assumption, by assumption⟩ | go_keep)
              (first
                | (go_at_call 14; (with_reducible refine (pF.out _ Hd.out).mono ?_); rintro e w5 ⟨rfl, g5⟩; have H5 := hid (Hd.out.more g5); have a1 := g5.cell y1 (by simp); have a2 := g5.cell y2 (by simp); clear g5)
                | (go_at_call 15; (with_reducible refine (pS.out _ H5.out).mono ?_); rintro e w' ⟨rfl, rfl⟩)
                | (go_at_call 17; (with_reducible refine (pD.out _ H5.out).mono ?_); rintro e w6 ⟨p6, c6, rfl, ia6, g6⟩; have H6 := hid (H5.out.more g6); have A6 := hid ia6; have b1 := g6.cell a1 (by simp); have b2 := g6.cell a2 (by simp); clear ia6 g6)
                | (go_at_call 18; (with_reducible refine (qD.out _ H6.out).mono ?_); rintro e w7 ⟨p7, c7, rfl, ia7, g7⟩; have H7 := hid (H6.out.more g7); have A7 := hid ia7; have B6 := hid (A6.out.grown g7); have d1 := g7.cell b1 (by simp); have d2 := g7.cell b2 (by simp); clear ia7 g7)
                | (go_at_call 16; (with_reducible refine (lInts D p6 p7 c6 c7 _ HDl.out B6.out A7.out).mono ?_); rintro e w8 ⟨rfl, g8⟩; have H8 := hid (H7.out.more g8); have f1 := g8.cell d1 (by simp); have f2 := g8.cell d2 (by simp); clear g8))
            all_goals go_wp2
            all_goals
              go_roundw
              case rel => exact ⟨k + 1, x', m', I, rfl, by go_num, hlt, H8.out⟩
              case measure => simp [intOf]; omega
          · have hw' : (what == 5) = false := by simpa using hw
            have HP := hid (show Calls Try.prog 13 #[.pointer (some ⟨x, 0, none⟩), .pointer (some ⟨y, 0, none⟩), .agg #[.int .i64 what, .int .i64 a, .int .i64 bb, .int .u8 fl.toNat, .slice bp bl.length bc]] wr _ from lPlay H.out ⟨what, a, bb, fl, bp, bl, bc⟩ (HFit.out.grown H.out.pi.g))
            go_wp2_with (go_at_call 13; refine HP.out.mono ?_; rintro e w4 ⟨I', rfl, h4⟩; have H4 := hid h4; clear h4)
            have Hd := hid (H4.out.more (grownBy_drew w4 none))
            have pF := hid (fun (w' : World) (h : IB w w' x g m y r q lp cq cl I' I') => pFree h)
            have pS := hid (fun (w' : World) (h : IB w w' x g m y r q lp cq cl I' I') => iSectors h.pi.i)
            have pD := hid (fun (w' : World) (h : IB w w' x g m y r q lp cq cl I' I') => pDirty h)
            have qD := hid (fun (w' : World) (h : IB w w' x g m y r q lp cq cl I' I') => qDirty h)
            have HDl := hid (show (I'.dirty).length ≤ 256 from Nat.le_trans (pickL_len _ _) H4.out.jok.n256)
            obtain ⟨D, hD⟩ : ∃ D, I'.dirty = D := ⟨_, rfl⟩
            rw [hD] at pD qD HDl
            have y1 := Hd.out.ri.c1
            have y2 := Hd.out.ri.c2
            clear hD
            go_region_held3 (fun W => W.cell? ⟨y, 1, none⟩ = some (.slice lp I'.n cl) ∧ W.cell? ⟨y, 2, none⟩ = some (.int .i64 ((I'.most : Int) - I'.used))) (first | exact ⟨by assumption, by assumption⟩ | go_keep)
              (first
                | (go_at_call 14; (with_reducible refine (pF.out _ Hd.out).mono ?_); rintro e w5 ⟨rfl, g5⟩; have H5 := hid (Hd.out.more g5); have a1 := g5.cell y1 (by simp); have a2 := g5.cell y2 (by simp); clear g5)
                | (go_at_call 15; (with_reducible refine (pS.out _ H5.out).mono ?_); rintro e w' ⟨rfl, rfl⟩)
                | (go_at_call 17; (with_reducible refine (pD.out _ H5.out).mono ?_); rintro e w6 ⟨p6, c6, rfl, ia6, g6⟩; have H6 := hid (H5.out.more g6); have A6 := hid ia6; have b1 := g6.cell a1 (by simp); have b2 := g6.cell a2 (by simp); clear ia6 g6)
                | (go_at_call 18; (with_reducible refine (qD.out _ H6.out).mono ?_); rintro e w7 ⟨p7, c7, rfl, ia7, g7⟩; have H7 := hid (H6.out.more g7); have A7 := hid ia7; have B6 := hid (A6.out.grown g7); have d1 := g7.cell b1 (by simp); have d2 := g7.cell b2 (by simp); clear ia7 g7)
                | (go_at_call 16; (with_reducible refine (lInts D p6 p7 c6 c7 _ HDl.out B6.out A7.out).mono ?_); rintro e w8 ⟨rfl, g8⟩; have H8 := hid (H7.out.more g8); have f1 := g8.cell d1 (by simp); have f2 := g8.cell d2 (by simp); clear g8))
            all_goals go_wp2
            all_goals
              go_roundw
              case rel => exact ⟨k + 1, x, m, I', rfl, by go_num, hlt, H8.out⟩
              case measure => simp [intOf]; omega
        · obtain rfl : k = ops.length := by omega
          have hge : (ops.length : Int) ≤ ops.length := by omega
          go_wp2_with (go_at_call 19; refine (HA.out _).mono ?_; rintro e w3 ⟨rfl, g3⟩; have HG3 := hid (H.out.pi.g.trans g3); clear g3)
          go_ret
          exact ⟨rfl, HG3.out⟩
theorem main {H : Type} {enc : TypeId × Value → H} (v0 v1 v2 : Value) (W : World) (c0 : Flat.Came enc Try.prog W 0 (fun _ => true) true 22 v0) (c1 : Flat.Came enc Try.prog W 0 (fun _ => true) true 3 v1) (c2 : Flat.Came enc Try.prog W 0 (fun _ => true) true 23 v2) :
    Calls Try.prog 3 #[v0, v1, v2] W fun e w' => e = .returned (.bool true) ∧ W.grownBy w' none := by
  obtain ⟨p, l, c, rfl, hb, hl, hn, hlc⟩ := came_bytes c0
  obtain ⟨k, rfl, _⟩ := c1.int Try.underlying3
  obtain ⟨pa, ops, cap, rfl, ho, hol⟩ := open_ops c2
  by_cases hcode : newC l.length k = 0
  · exact walk_yes p l c k pa ops cap W hb hl hn hcode ho hol
  · exact walk_no p l c k _ ⟨_, _, _, rfl⟩ W hb hl hn hcode

theorem own : ownKnob Try.prog.godebug = none := by kernel_rfl
theorem laidOut : laidOutB Try.prog = true := by kernel_rfl

set_option maxRecDepth 100000 in
theorem lifted (os : Os) (started : os.Started) (H : Type) (enc : TypeId × Value → H) :
    ReturnsInHanded {} Try.checked os 3 .any (Rows.imagePlaysSpec.pre6 enc Try.prog Try.f3 Rows.imagePlaysRow.domain false) (Rows.imagePlaysSpec.post enc Try.prog Try.f3 false true false false) := by
  refine returnsInHanded_of_change_sized (C := Try.checked) own started (by kernel_rfl) Try.func3
    (ChangeSpec.witness6 (enc := enc) (C := Try.checked) false ⟨#[], #[.slice none 0 0, .int .i64 0, .slice none 0 0], []⟩ 8 (by kernel_rfl) (by kernel_rfl) (by kernel_rfl) (by kernel_rfl)) ?_
  intro W base args ds gs before hval0 hW _ hsz0 _
  have hsz : (DataW.weightsEach Try.prog (Try.f3.params.toList ++ Rows.imagePlaysSpec.plain.varTypes Try.prog) (ds ++ gs)).all (· ≤ reachBytes) = true := hsz0
  clear hsz0
  have hval : ∀ (j : Nat) t v, Try.f3.params[j]? = some t → args[j]? = some v → Value.okWide Try.prog W .any base t v := hval0
  have hW' := hW
  obtain ⟨p, q, hA0, hV, rfl, hfz, hnd⟩ := hW
  have hA : DataW.TrodAll enc Try.prog W 0 (fun _ => true) true Try.f3.params.toList args.toList ds p := hA0
  rw [Try.params3] at hA hval hsz
  obtain ⟨v0, vs0, d0, ds0, p0, q0, hargs, rfl, rfl, h0, r0⟩ := trodAll_cons hA
  obtain ⟨v1, vs1, d1, ds1, p1, q1, rfl, rfl, rfl, h1, r1⟩ := trodAll_cons r0
  obtain ⟨v2, vs2, d2, ds2, p2, q2, rfl, rfl, rfl, h2, r2⟩ := trodAll_cons r1
  obtain ⟨rfl, rfl, rfl⟩ := trodAll_nil r2
  obtain rfl : args = #[v0, v1, v2] := by cases args; simp_all
  obtain ⟨rfl, rfl⟩ := trodVars_none hV
  obtain ⟨ps0, ln0, cp0, rfl⟩ := okWide_slice Try.underlying22 (hval 0 22 v0 rfl rfl)
  have k0 := h0
  have lt0 : ∀ x ∈ p0, x.block < W.heap.size := by obtain ⟨m, hm⟩ := k0; exact DataW.trod_lt m _ _ _ hm
  have c0 : Flat.Came enc Try.prog W 0 (fun _ => true) true 22 (.slice ps0 ln0 cp0) := by
    obtain ⟨fuel, hf⟩ := h0
    exact ⟨fuel, _, hf, fun n hn => by
      have := List.all_eq_true.1 hsz n (DataW.weights_mem_each (j := 0) rfl rfl n hn)
      simpa using this⟩
  obtain ⟨a1, rfl, rfl, rfl, w1⟩ := open_int Try.underlying3 (hval 1 3 v1 rfl rfl) h1
  have k1 := h1
  have lt1 : ∀ x ∈ ([] : List MemPlace), x.block < W.heap.size := by obtain ⟨m, hm⟩ := k1; exact DataW.trod_lt m _ _ _ hm
  have c1 : Flat.Came enc Try.prog W 0 (fun _ => true) true 3 (.int .i64 a1) := by
    obtain ⟨fuel, hf⟩ := h1
    exact ⟨fuel, _, hf, fun n hn => by
      have := List.all_eq_true.1 hsz n (DataW.weights_mem_each (j := 1) rfl rfl n hn)
      simpa using this⟩
  obtain ⟨ps2, ln2, cp2, rfl⟩ := okWide_slice Try.underlying23 (hval 2 23 v2 rfl rfl)
  have k2 := h2
  have lt2 : ∀ x ∈ p2, x.block < W.heap.size := by obtain ⟨m, hm⟩ := k2; exact DataW.trod_lt m _ _ _ hm
  have c2 : Flat.Came enc Try.prog W 0 (fun _ => true) true 23 (.slice ps2 ln2 cp2) := by
    obtain ⟨fuel, hf⟩ := h2
    exact ⟨fuel, _, hf, fun n hn => by
      have := List.all_eq_true.1 hsz n (DataW.weights_mem_each (j := 2) rfl rfl n hn)
      simpa using this⟩
  clear hA0 hval0
  refine (main (.slice ps0 ln0 cp0) (.int .i64 a1) (.slice ps2 ln2 cp2) W c0 c1 c2).mono fun e W' ⟨he, hg⟩ => ?_
  subst he
  have bel := below_grown' hg
  simp only [List.append_nil, List.nil_append] at hW'
  exact ⟨_, rfl, _, _, _, [], _, [], hW', trodAll_mk1 (shut_bool Try.underlying4 _), (trodAll_cons_mk (Below.trod laidOut (by kernel_rfl) (of_decide_eq_true (by kernel_rfl)) k0 bel lt0) (trodAll_cons_mk (Below.trod laidOut (by kernel_rfl) (of_decide_eq_true (by kernel_rfl)) k1 bel lt1) (trodAll_cons_mk (Below.trod laidOut (by kernel_rfl) (of_decide_eq_true (by kernel_rfl)) k2 bel lt2) trodAll_mk0))), rfl, bel.frame _, fun h => by cases h⟩

theorem proved : Rows.ImagePlaysSaid :=
  OpenClaim.holds_of_wide 3 Try.f3 rfl rfl rfl rfl rfl rfl rfl ⟨rfl, rfl, rfl, rfl, rfl⟩ rfl rfl rfl rfl rfl (by kernel_rfl) Try.func3 (by kernel_rfl)
    (of_decide_eq_true (by kernel_rfl)) (by unfold Func.isWrapper; first | (rw [if_pos (by decide +kernel)]; kernel_rfl) | (rw [if_neg (by decide +kernel)]; exact ⟨rfl, rfl⟩))
    (fun os started H enc _ => lifted os started H enc)
#print axioms proved
end Go.Proofs.Ytcogchalfdeagaa.lawImPlays
