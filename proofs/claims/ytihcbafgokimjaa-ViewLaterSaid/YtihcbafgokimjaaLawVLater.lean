/-
  ViewLater: for every row of beginnings, every two rows of rewrites, every row of calls and every number the law returns true, and what was there stays. No condition.
-/
import Derived.Test.YtihcbafgokimjaaVTwin
import Derived.Deep.Cut
namespace Go.Proofs.Ytihcbafgokimjaa.lawVLater
open Go.ChangeShapes Go.WideShapes Go.ChangeAt Go.RowKit
set_option maxHeartbeats 2000000

set_option maxRecDepth 100000 in
set_option maxHeartbeats 6000000 in
theorem walk (ps : Option Addr) (cs : Nat) (ss : List StartV) (pa : Option Addr) (cap : Nat) (l : List PokeV) (pb : Option Addr) (capb : Nat) (lb : List PokeV) (po : Option Addr) (leno capo : Nat) (r q : Nat) (hr : r ≤ 255) (hq : (r : Int) % 8 = q) (w : World)
    (hs : StartsIn w ps ss) (hss : ss.length ≤ 9223372036854775807) (hp : PokesIn w pa l) (hl : l.length ≤ 9223372036854775807) (hp2 : PokesIn w pb lb) (hl2 : lb.length ≤ 9223372036854775807) (hlo : leno ≤ 140737488355328) (hop : VOpsIn w po leno) (hnil : pa = none → cap = 0) :
    Calls Try.prog 6 #[.slice ps ss.length cs, .slice pa l.length cap, .slice pb lb.length capb, .slice po leno capo, .int .u8 r] w fun e w' => e = .returned (.bool true) ∧ w.grownBy w' none := by
  obtain ⟨n, hn⟩ : ∃ n, n = min ss.length 8 := ⟨_, rfl⟩
  have HP := hid hp
  have HF := hid hp.fits
  have HB1 := hid (vBegin ps cs ss n w hs hn hss)
  have HBg := hid (fun (W : World) (hg : w.grownBy W none) => vBegin ps cs ss n W (hs.grown hg) hn hss)
  obtain ⟨M, hM⟩ : ∃ M, beginK ss n n = M := ⟨_, rfl⟩
  rw [hM] at HB1
  simp only [hM] at HBg
  have hq8 : q < 8 := by omega
  have hq0 : (0 : Int) ≤ q := by omega
  have hq8' : (q : Int) < 8 := by omega
  obtain ⟨rs, hrs, hat⟩ := raws_of hp
  obtain ⟨rb, hrb, hatb⟩ := raws_of hp2
  have hrl : rs.length = l.length := by rw [← hrs]; simp
  have hrbl : rb.length = lb.length := by rw [← hrb]; simp
  clear hM hs hp hn hss
  by_cases h32 : 32 < l.length
  · have h32' : (32 : Int) < l.length := by omega
    go_enter Try.func6, Try.ntmps6
    clear hrl hrbl
    go_wp2_with (go_at_call 19; first
          | ((with_reducible refine HB1.out.mono ?_); rintro e w1 ⟨B, b, L, rfl, h1⟩; have H1 := hid h1; clear h1)
          | ((with_reducible refine (HBg.out _ H1.out.grown).mono ?_); rintro e w2 ⟨B2, b2, L2, rfl, h2⟩; have G2 := hid (H1.out.grown.trans h2.grown); clear h2))
    go_ret
    exact ⟨rfl, G2.out⟩
  have h32' : (l.length : Int) ≤ 32 := by omega
  by_cases h33 : 32 < lb.length
  · have h33' : (32 : Int) < lb.length := by omega
    clear hrl hrbl
    go_enter Try.func6, Try.ntmps6
    go_wp2_with (go_at_call 19; first
          | ((with_reducible refine HB1.out.mono ?_); rintro e w1 ⟨B, b, L, rfl, h1⟩; have H1 := hid h1; clear h1)
          | ((with_reducible refine (HBg.out _ H1.out.grown).mono ?_); rintro e w2 ⟨B2, b2, L2, rfl, h2⟩; have G2 := hid (H1.out.grown.trans h2.grown); clear h2))
    go_ret
    exact ⟨rfl, G2.out⟩
  have h33' : (lb.length : Int) ≤ 32 := by omega
  have hlN : l.length ≤ 32 := by omega
  have hlbN : lb.length ≤ 32 := by omega
  have HRl := hid hrl
  have HRbl := hid hrbl
  have HAt := hid hat
  have HAtb := hid hatb
  clear hrl hrbl hat hatb h32 h33
  obtain ⟨i0, hi, hz0, hz1, hz2⟩ := info_parts info_poke
  have Hi := hid hi; have Hz0 := hid hz0; have Hz1 := hid hz1; have Hz2 := hid hz2
  clear hi hz0 hz1 hz2
  have HOp := hid hop
  clear hop
  obtain ⟨lr, hlr⟩ : ∃ k, rs.length = k := ⟨_, rfl⟩
  have HLr := hid hlr
  have hlr32 : lr ≤ 32 := by have := HRl.out; omega
  clear hlr
  cases pa with
  | none =>
    obtain rfl : cap = 0 := hnil rfl
    have hz : l.length = 0 := by
      cases e : l with
      | nil => rfl
      | cons x y =>
        obtain ⟨b, off, _, _, e, _⟩ := HP.out 0 (by rw [e]; simp)
        cases e
    obtain rfl : l = [] := List.eq_nil_of_length_eq_zero hz
    have HR0 := hid (show rs = [] from List.map_eq_nil_iff.1 hrs)
    have HL0 := hid (show lr = 0 by have := HLr.out; rw [HR0.out] at this; simpa using this.symm)
    clear hnil h32' hlN hz
    simp only [List.length_nil]
    go_enter Try.func6, Try.ntmps6
    go_upto_region 7 with (first
      | (go_at_call 19; first
          | ((with_reducible refine HB1.out.mono ?_); rintro e w1 ⟨B, b, L, rfl, h1⟩; have H1 := hid h1; have hB0 := h1.farB; have hB1 := h1.m.lt; clear h1)
          | ((with_reducible refine (HBg.out _ H1.out.grown).mono ?_); rintro e w2 ⟨B2, b2, L2, rfl, h2⟩; have H2 := hid h2; have H1b := hid (H1.out.more h2.grown); have G2 := hid (H1.out.grown.trans h2.grown); have hB2 := h2.farB; have hB3 := h2.m.lt; have hs1 := H1.out.grown.size; have hs2 := h2.grown.size; clear h2))
      | (at_builtin; refine wpList_append_own_none rfl _ _ 44 rfl w2.heap.size 62 i0 4 Try.underlying44 Hi.out (.slice (some ⟨w2.heap.size, 0, none⟩) 0 0) 0 [] rfl (World.ownsRow_made (base := w2.heap.size) (e := 62) (size := 4) w2 #[] 0 (Nat.le_refl _) (by unfold maxLen; omega) (by simp)) rfl ?_))
    have hO : (w2.alloc (.cells #[] 62)).ownsRow w2.heap.size 62 4 (.slice (some ⟨w2.heap.size, 0, none⟩) 0 0) 0 (rcells []) := World.ownsRow_made (base := w2.heap.size) (e := 62) (size := 4) w2 #[] 0 (Nat.le_refl _) (by unfold maxLen; omega) (by simp)
    have hG3 := World.grownBy_alloc w2 (.cells #[] 62) none
    obtain ⟨w3, hw3⟩ : ∃ W, w2.alloc (.cells #[] 62) = W := ⟨_, rfl⟩
    rw [hw3] at hO hG3
    rw [hw3]
    have HO := hid hO; have HG3 := hid hG3
    clear hw3 hO hG3
    go_wp2
    go_loopw [18, 19] (fun v x wr => ∃ k : Nat, x = .int .i64 k ∧ k ≤ lb.length ∧ wr.ownsRow w2.heap.size 62 4 v (lr + k) (rcells (rs ++ (rb.take k).map (RawP.late q))) ∧ w2.grownBy wr none) (fun _ x _ => lb.length - (intOf x).toNat)
    case atStart => exact ⟨0, rfl, by omega, by rw [HL0.out, HR0.out]; simpa using HO.out, HG3.out⟩
    case round =>
      clear HO HG3
      obtain ⟨k, rfl, hk, ho, hg⟩ := hrel
      obtain ⟨pv, cv, hv⟩ := ownsRow_slice ho
      have HO := hid ho; have HG := hid hg
      clear ho hg
      subst hv
      have hk0 : (0 : Int) ≤ k := by omega
      by_cases hkl : k < lb.length
      · have hkl' : (k : Int) < lb.length := by omega
        have hkr : k < rb.length := by rw [HRbl.out]; exact hkl
        obtain ⟨xb, off, rfl, hb, hc⟩ := (HAtb.out k hkr).lies
        have HTk := hid (show rb.take (k + 1) = rb.take k ++ [rb[k]] by rw [List.take_succ_eq_append_getElem hkr])
        generalize rb[k] = y at *
        have gw := G2.out.trans HG.out
        have d0 := gw.cell (a := ⟨xb, off + k * 4, none⟩) (v := .int .i64 y.p.t) (hc 0 (by omega)) (by simp)
        have d1 := gw.cell (a := ⟨xb, off + k * 4 + 1, none⟩) (v := .int .i64 y.p.i) (hc 1 (by omega)) (by simp)
        have d2 := gw.cell (a := ⟨xb, off + k * 4 + 2, none⟩) (v := .int .i64 y.p.off) (hc 2 (by omega)) (by simp)
        have d3 := gw.cell (a := ⟨xb, off + k * 4 + 3, none⟩) (v := .slice y.qa y.p.l.length y.qc) (hc 3 (by omega)) (by simp)
        have hw2 := HG.out.size
        clear hc gw
        by_cases hlt : y.p.t < q
        · have HCl := hid (show rcells (rs ++ (rb.take (k + 1)).map (RawP.late q)) = rcells (rs ++ (rb.take k).map (RawP.late q)) ++ [.int .i64 q, .int .i64 y.p.i, .int .i64 y.p.off, .slice y.qa y.p.l.length y.qc] by
            rw [HTk.out, List.map_append, ← List.append_assoc, rcells_app]; congr 1; simp [rcells, RawP.late, hlt, RawP.cells])
          go_wp2_with (at_builtin; refine wpList_append_own _ rfl _ _ 44 rfl w2.heap.size 62 i0 (.agg #[.int .i64 0, .int .i64 0, .int .i64 0, .slice none 0 0]) 4 48 Try.underlying44 Hi.out Hz0.out Hz1.out Hz2.out rfl (by decide) _ _ _ rfl ((HO.out.alloc _).alloc _) ⟨wr.heap.size + 1, 0, none⟩ 1 1 [.int .i64 q, .int .i64 y.p.i, .int .i64 y.p.off, .slice y.qa y.p.l.length y.qc] rfl rfl (World.news_of_block (B := wr.heap.size + 1) (cs := #[.int .i64 q, .int .i64 y.p.i, .int .i64 y.p.off, .slice y.qa y.p.l.length y.qc]) (by have := heap_alloc_new (wr.alloc (.cells #[.int .i64 q, .int .i64 y.p.i, .int .i64 y.p.off, .slice y.qa y.p.l.length y.qc] 62)) (.cells #[.int .i64 q, .int .i64 y.p.i, .int .i64 y.p.off, .slice y.qa y.p.l.length y.qc] 62); simpa using this)) (by simp [Value.oneCell']) (by unfold maxLen; omega) (by omega) (by simp; omega) ?_; intro v' w4 hown' hgrow hnil'; clear hnil'; obtain ⟨p4, c4, rfl⟩ := ownsRow_slice hown'; have HO1 := hid hown'; have HG1 := hid (((HG.out.trans (World.grownBy_alloc wr _ none)).trans (World.grownBy_alloc _ _ none)).andThen hgrow (fun j hj => .inl (HO.out.lt j hj).1)); clear hown' hgrow)
          go_roundw
          case rel => exact ⟨k + 1, by go_num, by omega, by rw [HCl.out, ← Nat.add_assoc]; exact HO1.out, HG1.out⟩
          case measure => simp [intOf]; omega
        · have hlt' : (q : Int) ≤ y.p.t := by omega
          have HCl := hid (show rcells (rs ++ (rb.take (k + 1)).map (RawP.late q)) = rcells (rs ++ (rb.take k).map (RawP.late q)) ++ [.int .i64 y.p.t, .int .i64 y.p.i, .int .i64 y.p.off, .slice y.qa y.p.l.length y.qc] by
            rw [HTk.out, List.map_append, ← List.append_assoc, rcells_app]; congr 1; simp [rcells, RawP.late, hlt, RawP.cells])
          go_wp2_with (at_builtin; refine wpList_append_own _ rfl _ _ 44 rfl w2.heap.size 62 i0 (.agg #[.int .i64 0, .int .i64 0, .int .i64 0, .slice none 0 0]) 4 48 Try.underlying44 Hi.out Hz0.out Hz1.out Hz2.out rfl (by decide) _ _ _ rfl ((HO.out.alloc _).alloc _) ⟨wr.heap.size + 1, 0, none⟩ 1 1 [.int .i64 y.p.t, .int .i64 y.p.i, .int .i64 y.p.off, .slice y.qa y.p.l.length y.qc] rfl rfl (World.news_of_block (B := wr.heap.size + 1) (cs := #[.int .i64 y.p.t, .int .i64 y.p.i, .int .i64 y.p.off, .slice y.qa y.p.l.length y.qc]) (by have := heap_alloc_new (wr.alloc (.cells #[.int .i64 y.p.t, .int .i64 y.p.i, .int .i64 y.p.off, .slice y.qa y.p.l.length y.qc] 62)) (.cells #[.int .i64 y.p.t, .int .i64 y.p.i, .int .i64 y.p.off, .slice y.qa y.p.l.length y.qc] 62); simpa using this)) (by simp [Value.oneCell']) (by unfold maxLen; omega) (by omega) (by simp; omega) ?_; intro v' w4 hown' hgrow hnil'; clear hnil'; obtain ⟨p4, c4, rfl⟩ := ownsRow_slice hown'; have HO1 := hid hown'; have HG1 := hid (((HG.out.trans (World.grownBy_alloc wr _ none)).trans (World.grownBy_alloc _ _ none)).andThen hgrow (fun j hj => .inl (HO.out.lt j hj).1)); clear hown' hgrow)
          go_roundw
          case rel => exact ⟨k + 1, by go_num, by omega, by rw [HCl.out, ← Nat.add_assoc]; exact HO1.out, HG1.out⟩
          case measure => simp [intOf]; omega
      · obtain rfl : k = lb.length := by omega
        have hge : (lb.length : Int) ≤ lb.length := by omega
        obtain ⟨w0, hw0⟩ : ∃ x, x = wr := ⟨_, rfl⟩
        subst hw0
        have HRow := hid (late_row HAt.out HAtb.out (G2.out.trans HG.out) (by omega : q ≤ 8) (m := lr + lb.length) (by rw [← HRbl.out, List.take_length] at HO; rw [← HRbl.out]; exact HO.out) (by rw [HLr.out, HRbl.out]))
        obtain ⟨l2, hl2, hp2', hd2⟩ := HRow.out
        rw [hrs] at hd2
        have HP2 := hid hp2'; have HD2 := hid hd2; have HF2 := hid hp2'.fits
        have HN2 := hid (fun (W : World) (hg : w0.grownBy W none) => (show Calls Try.prog 20 #[.pointer (some ⟨B2, 0, none⟩), .slice pv (lr + lb.length) cv] W fun e w' => e = .returned (.tuple #[.pointer (some ⟨W.heap.size + 1, 0, none⟩), .int .i64 0]) ∧
          (∃ f T, VV w' (W.heap.size + 1) W.heap.size B2 (fun k => W.heap.size + 2 ≤ k ∧ k < w'.heap.size) l2 0 T f) ∧ W.grownBy w' none from by
            have h := vNew B2 pv cv l2 W M ((H2.out.m.grown HG.out (by simp)).grown hg (by simp)) H2.out.ok.n1 (by omega) (hp2'.grown hg)
            rw [hl2] at h
            refine h.mono ?_
            rintro e w' ⟨e1, ⟨f, h1⟩, h2⟩
            exact ⟨e1, ⟨f, _, h1⟩, h2⟩))
        have HN1 := hid (show Calls Try.prog 20 #[.pointer (some ⟨B, 0, none⟩), .slice none 0 0] w0 fun e w' => e = .returned (.tuple #[.pointer (some ⟨w0.heap.size + 1, 0, none⟩), .int .i64 0]) ∧
          (∃ f, VV w' (w0.heap.size + 1) w0.heap.size B (fun k => w0.heap.size + 2 ≤ k ∧ k < w'.heap.size) ([] : List PokeV) 0 ([] : List PokeV).length f) ∧ w0.grownBy w' none from
            vNew B none 0 ([] : List PokeV) _ M (H1b.out.m.grown HG.out (by simp)) H1b.out.ok.n1 (by first | omega | simp) (HP.out.grown (G2.out.trans HG.out)))
        have hl2c : l2.length ≤ 64 := by omega
        have hwrs := HG.out.size
        clear hp2' hd2 HRow hge
        go_wp2_with (go_at_call 20; first
          | ((with_reducible refine HN1.out.mono ?_); rintro e w4 ⟨rfl, ⟨f4, hv4⟩, g4⟩; have HV4 := hid hv4; have HG4 := hid g4; have hs4 := hv4.top.lt; clear hv4 g4)
          | ((with_reducible refine (HN2.out _ HG4.out).mono ?_); rintro e w5 ⟨rfl, ⟨f5, T5, hv5⟩, g5⟩; have hs5 := hv5.top.lt; have HT := hid (twin_start (w := w) (W := w0) (M := M) hB0 (by omega) (by omega) (H1b.out.m.grown HG.out (by simp)) (H2.out.m.grown HG.out (by simp)) (G2.out.trans HG.out) HV4.out HG4.out hv5 g5); clear hv5 g5))
        go_loopw [25] (fun x W => ∃ (i j : Nat), x = .int .i64 i ∧ i ≤ leno ∧ j ≤ q ∧ Twin w W (w0.heap.size + 1) w0.heap.size B (w4.heap.size + 1) w4.heap.size B2 (fun k => w0.heap.size + 2 ≤ k ∧ k < w4.heap.size) (fun k => w4.heap.size + 2 ≤ k ∧ k < w5.heap.size) ([] : List PokeV) l2 j (M.after ([] : List PokeV) j) ([] : List PokeV).length T5) (fun x _ => leno - (intOf x).toNat)
        case atStart => exact ⟨0, 0, rfl, by omega, by omega, HT.out⟩
        case round =>
          clear HT HV4
          obtain ⟨i, j, rfl, hi, hj, ht⟩ := hrel
          obtain ⟨f1, hv1⟩ := ht.v1
          obtain ⟨f2, hv2⟩ := ht.v2
          have ht1 := hv1.top.lt
          have ht2 := hv2.top.lt
          have HT := hid ht; have HV1 := hid hv1; have HV2 := hid hv2
          clear ht hv1 hv2
          have hi0 : (0 : Int) ≤ i := by omega
          by_cases hil : i < leno
          · have hil' : (i : Int) < leno := by omega
            by_cases hjq : j < q
            · have hjq' : (j : Int) < q := by omega
              obtain ⟨bo, oo, x0, xi, xo, xn, xv, rfl, hbo, d0, d1, d2, d3, d4, ⟨qp, ql, qc, rfl, _, _⟩, _, _, wo, _⟩ := HOp.out i hil
              have hxo : xo ≤ 9223372036854775807 := (bounds_i64 wo).2
              have gw := HT.out.grown
              have k0 := gw.cell d0 (by simp)
              have k1 := gw.cell d1 (by simp)
              have k2 := gw.cell d2 (by simp)
              have k3 := gw.cell d3 (by simp)
              have k4 := gw.cell d4 (by simp)
              have hd := HD2.out j hjq
              obtain ⟨R, hR⟩ : ∃ R, ((M.after ([] : List PokeV) j).rews (due ([] : List PokeV) j)).read xi xo xn = R := ⟨_, rfl⟩
              have hok := Mach.after_ok H1b.out.ok ([] : List PokeV) j
              have ga := World.grownBy_alloc wr (.cells #[.int .i64 x0, .int .i64 xi, .int .i64 xo, .int .i64 xn, .slice qp ql.length qc] 56) none
              have HR1 := hid (vRead _ _ B _ ([] : List PokeV) j _ f1 xi xo xn _ (M.after ([] : List PokeV) j) _ (HV1.out.grown ga) (HT.out.m1.grown ga (by simp)) hok HF.out (by omega) (by first | omega | simp) hxo)
              have HR2 := hid (fun (W6 : World) (f : Int → Option Value) (hv : VV W6 (w4.heap.size + 1) w4.heap.size B2 (fun k => w4.heap.size + 2 ≤ k ∧ k < w5.heap.size) l2 j T5 f) (hm : PM W6 B2 (M.after ([] : List PokeV) j)) => (vRead _ _ B2 _ l2 j _ f xi xo xn W6 (M.after ([] : List PokeV) j) _ hv hm hok HF2.out (by omega) hl2c hxo))
              rw [hR] at HR1
              simp only [hd, hR] at HR2
              have HTa := hid (HT.out.more ga)
              have HD := hid hd
              obtain ⟨q1, q2, q3⟩ := opcell (W := wr) (t := 56) (a := x0) (b := xi) (c := xo) (d := xn) (v := .slice qp ql.length qc)
              have hBT := HT.out.BB
              have hfar := HT.out.far
              have hm1 := HT.out.m1.lt
              clear hR d0 d1 d2 d3 d4 gw hok ga hd wo
              go_upto_region 24 with (go_at_call 23; refine (vReads _ _ B _ ([] : List PokeV) j _ f1 wr HV1.out).mono ?_; rintro e w' ⟨rfl, rfl⟩)
              with_reducible refine HR1.out.mono ?_
              rintro e w6 ⟨v6, rfl, ⟨p6, c6, rfl, hk6⟩, hr6⟩
              have HH := hid (HTa.out.half hr6)
              have HK6 := hid hk6
              have s6 := hr6.chg.size
              have z1 := hr6.chg.cell q1 (by rintro (e | e | e) <;> (have e' : wr.heap.size = _ := e; omega))
              have z2 := hr6.chg.cell q2 (by rintro (e | e | e) <;> (have e' : wr.heap.size = _ := e; omega))
              have z3 := hr6.chg.cell q3 (by rintro (e | e | e) <;> (have e' : wr.heap.size = _ := e; omega))
              obtain ⟨g2, hg2⟩ := HH.out.v2
              have HG2 := hid hg2
              clear hk6 hr6 hg2
              go_upto_region 24 with (fail)
              with_reducible refine (HR2.out _ g2 HG2.out HH.out.m2).mono ?_
              rintro e w7 ⟨v7, rfl, ⟨p7, c7, rfl, hk7⟩, hr7⟩
              have HT7 := hid (Half.twin HTa.out HH.out hr7 HD.out)
              have kc1 := (kept_string (HK6.out.chg hr7.chg (by rintro k ⟨ka, kb⟩ e; have ka' := Nat.le_trans (World.grownBy_alloc wr (.cells #[.int .i64 x0, .int .i64 xi, .int .i64 xo, .int .i64 xn, .slice qp ql.length qc] 56) none).size ka; omega)) c6 w7 (grownBy_drewN w7 0 none))
              have kc2 := (kept_string hk7 c7 w7 (grownBy_drewN w7 0 none))
              obtain ⟨fa, hva⟩ := HT7.out.v1
              obtain ⟨fb, hvb⟩ := HT7.out.v2
              have HQa := hid (vReads _ _ B _ ([] : List PokeV) (j + 1) _ fa w7 hva)
              have HQb := hid (vReads _ _ B2 _ l2 (j + 1) _ fb w7 hvb)
              clear hk7 hr7 hva hvb z1 z2 z3 q1 q2 q3 k0 k1 k2 k3 k4
              go_upto_region 24 with (fail)
              go_wp2_with (go_at_call 23; first | ((with_reducible refine HQa.out.mono ?_); rintro e w' ⟨rfl, rfl⟩) | ((with_reducible refine HQb.out.mono ?_); rintro e w' ⟨rfl, rfl⟩))
              go_roundw
              case rel => exact ⟨i + 1, j + 1, by go_num, by omega, by omega, HT7.out⟩
              case measure => simp [intOf]; omega
            · obtain rfl : j = q := by omega
              have hge : (j : Int) ≤ j := by omega
              have heq := eql_mach B
              go_wp2_with (first
                | (go_at_call 23; refine (vReads _ _ B _ ([] : List PokeV) j _ f1 wr HV1.out).mono ?_; rintro e w' ⟨rfl, rfl⟩)
                | (go_at_call 26; refine (vMachine _ _ B _ ([] : List PokeV) j _ f1 wr HV1.out).mono ?_; rintro e w' ⟨rfl, rfl⟩))
              go_ret
              exact ⟨rfl, HT.out.grown⟩
          · obtain rfl : i = leno := by omega
            have hge : (i : Int) ≤ i := by omega
            have heq := eql_mach B
            go_wp2_with (go_at_call 26; refine (vMachine _ _ B _ ([] : List PokeV) j _ f1 wr HV1.out).mono ?_; rintro e w' ⟨rfl, rfl⟩)
            go_ret
            exact ⟨rfl, HT.out.grown⟩
  | some a =>
    clear hnil
    have HNw := hid (fun (W : World) (hg : w.grownBy W none) => news_raws HAt.out hg)
    have HLc := hid (rcells_len rs)
    go_enter Try.func6, Try.ntmps6
    go_upto_region 7 with (first
      | (go_at_call 19; first
          | ((with_reducible refine HB1.out.mono ?_); rintro e w1 ⟨B, b, L, rfl, h1⟩; have H1 := hid h1; have hB0 := h1.farB; have hB1 := h1.m.lt; clear h1)
          | ((with_reducible refine (HBg.out _ H1.out.grown).mono ?_); rintro e w2 ⟨B2, b2, L2, rfl, h2⟩; have H2 := hid h2; have H1b := hid (H1.out.more h2.grown); have G2 := hid (H1.out.grown.trans h2.grown); have hB2 := h2.farB; have hB3 := h2.m.lt; have hs1 := H1.out.grown.size; have hs2 := h2.grown.size; clear h2))
      | (at_builtin; refine wpList_append_own _ rfl _ _ 44 rfl w2.heap.size 62 i0 (.agg #[.int .i64 0, .int .i64 0, .int .i64 0, .slice none 0 0]) 4 48 Try.underlying44 Hi.out Hz0.out Hz1.out Hz2.out rfl (by decide) _ 0 [] rfl (World.ownsRow_made (base := w2.heap.size) (e := 62) (size := 4) w2 #[] 0 (Nat.le_refl _) (by unfold maxLen; omega) (by simp)) a l.length cap (rcells rs) rfl (by rw [HLc.out, HRl.out]) (HNw.out _ (G2.out.trans (World.grownBy_alloc w2 _ none))) (rcells_one rs) (by unfold maxLen; omega) (by omega) (by simp) ?_; intro v' w3 hown' hgrow hnil'; clear hnil'; simp only [Nat.zero_add, List.nil_append] at hown'; rw [← HRl.out, HLr.out] at hown'; obtain ⟨p3, c3, rfl⟩ := ownsRow_slice hown'; have HO := hid hown'; have HG3 := hid ((World.grownBy_alloc w2 (.cells #[] 62) none).andThen hgrow (fun j hj => .inl (by cases hj; exact Nat.le_refl _))); clear hown' hgrow))
    go_wp2
    go_loopw [18, 19] (fun v x wr => ∃ k : Nat, x = .int .i64 k ∧ k ≤ lb.length ∧ wr.ownsRow w2.heap.size 62 4 v (lr + k) (rcells (rs ++ (rb.take k).map (RawP.late q))) ∧ w2.grownBy wr none) (fun _ x _ => lb.length - (intOf x).toNat)
    case atStart => exact ⟨0, rfl, by omega, by simpa using HO.out, HG3.out⟩
    case round =>
      clear HO HG3
      obtain ⟨k, rfl, hk, ho, hg⟩ := hrel
      obtain ⟨pv, cv, hv⟩ := ownsRow_slice ho
      have HO := hid ho; have HG := hid hg
      clear ho hg
      subst hv
      have hk0 : (0 : Int) ≤ k := by omega
      by_cases hkl : k < lb.length
      · have hkl' : (k : Int) < lb.length := by omega
        have hkr : k < rb.length := by rw [HRbl.out]; exact hkl
        obtain ⟨xb, off, rfl, hb, hc⟩ := (HAtb.out k hkr).lies
        have HTk := hid (show rb.take (k + 1) = rb.take k ++ [rb[k]] by rw [List.take_succ_eq_append_getElem hkr])
        generalize rb[k] = y at *
        have gw := G2.out.trans HG.out
        have d0 := gw.cell (a := ⟨xb, off + k * 4, none⟩) (v := .int .i64 y.p.t) (hc 0 (by omega)) (by simp)
        have d1 := gw.cell (a := ⟨xb, off + k * 4 + 1, none⟩) (v := .int .i64 y.p.i) (hc 1 (by omega)) (by simp)
        have d2 := gw.cell (a := ⟨xb, off + k * 4 + 2, none⟩) (v := .int .i64 y.p.off) (hc 2 (by omega)) (by simp)
        have d3 := gw.cell (a := ⟨xb, off + k * 4 + 3, none⟩) (v := .slice y.qa y.p.l.length y.qc) (hc 3 (by omega)) (by simp)
        have hw2 := HG.out.size
        clear hc gw
        by_cases hlt : y.p.t < q
        · have HCl := hid (show rcells (rs ++ (rb.take (k + 1)).map (RawP.late q)) = rcells (rs ++ (rb.take k).map (RawP.late q)) ++ [.int .i64 q, .int .i64 y.p.i, .int .i64 y.p.off, .slice y.qa y.p.l.length y.qc] by
            rw [HTk.out, List.map_append, ← List.append_assoc, rcells_app]; congr 1; simp [rcells, RawP.late, hlt, RawP.cells])
          go_wp2_with (at_builtin; refine wpList_append_own _ rfl _ _ 44 rfl w2.heap.size 62 i0 (.agg #[.int .i64 0, .int .i64 0, .int .i64 0, .slice none 0 0]) 4 48 Try.underlying44 Hi.out Hz0.out Hz1.out Hz2.out rfl (by decide) _ _ _ rfl ((HO.out.alloc _).alloc _) ⟨wr.heap.size + 1, 0, none⟩ 1 1 [.int .i64 q, .int .i64 y.p.i, .int .i64 y.p.off, .slice y.qa y.p.l.length y.qc] rfl rfl (World.news_of_block (B := wr.heap.size + 1) (cs := #[.int .i64 q, .int .i64 y.p.i, .int .i64 y.p.off, .slice y.qa y.p.l.length y.qc]) (by have := heap_alloc_new (wr.alloc (.cells #[.int .i64 q, .int .i64 y.p.i, .int .i64 y.p.off, .slice y.qa y.p.l.length y.qc] 62)) (.cells #[.int .i64 q, .int .i64 y.p.i, .int .i64 y.p.off, .slice y.qa y.p.l.length y.qc] 62); simpa using this)) (by simp [Value.oneCell']) (by unfold maxLen; omega) (by omega) (by simp; omega) ?_; intro v' w4 hown' hgrow hnil'; clear hnil'; obtain ⟨p4, c4, rfl⟩ := ownsRow_slice hown'; have HO1 := hid hown'; have HG1 := hid (((HG.out.trans (World.grownBy_alloc wr _ none)).trans (World.grownBy_alloc _ _ none)).andThen hgrow (fun j hj => .inl (HO.out.lt j hj).1)); clear hown' hgrow)
          go_roundw
          case rel => exact ⟨k + 1, by go_num, by omega, by rw [HCl.out, ← Nat.add_assoc]; exact HO1.out, HG1.out⟩
          case measure => simp [intOf]; omega
        · have hlt' : (q : Int) ≤ y.p.t := by omega
          have HCl := hid (show rcells (rs ++ (rb.take (k + 1)).map (RawP.late q)) = rcells (rs ++ (rb.take k).map (RawP.late q)) ++ [.int .i64 y.p.t, .int .i64 y.p.i, .int .i64 y.p.off, .slice y.qa y.p.l.length y.qc] by
            rw [HTk.out, List.map_append, ← List.append_assoc, rcells_app]; congr 1; simp [rcells, RawP.late, hlt, RawP.cells])
          go_wp2_with (at_builtin; refine wpList_append_own _ rfl _ _ 44 rfl w2.heap.size 62 i0 (.agg #[.int .i64 0, .int .i64 0, .int .i64 0, .slice none 0 0]) 4 48 Try.underlying44 Hi.out Hz0.out Hz1.out Hz2.out rfl (by decide) _ _ _ rfl ((HO.out.alloc _).alloc _) ⟨wr.heap.size + 1, 0, none⟩ 1 1 [.int .i64 y.p.t, .int .i64 y.p.i, .int .i64 y.p.off, .slice y.qa y.p.l.length y.qc] rfl rfl (World.news_of_block (B := wr.heap.size + 1) (cs := #[.int .i64 y.p.t, .int .i64 y.p.i, .int .i64 y.p.off, .slice y.qa y.p.l.length y.qc]) (by have := heap_alloc_new (wr.alloc (.cells #[.int .i64 y.p.t, .int .i64 y.p.i, .int .i64 y.p.off, .slice y.qa y.p.l.length y.qc] 62)) (.cells #[.int .i64 y.p.t, .int .i64 y.p.i, .int .i64 y.p.off, .slice y.qa y.p.l.length y.qc] 62); simpa using this)) (by simp [Value.oneCell']) (by unfold maxLen; omega) (by omega) (by simp; omega) ?_; intro v' w4 hown' hgrow hnil'; clear hnil'; obtain ⟨p4, c4, rfl⟩ := ownsRow_slice hown'; have HO1 := hid hown'; have HG1 := hid (((HG.out.trans (World.grownBy_alloc wr _ none)).trans (World.grownBy_alloc _ _ none)).andThen hgrow (fun j hj => .inl (HO.out.lt j hj).1)); clear hown' hgrow)
          go_roundw
          case rel => exact ⟨k + 1, by go_num, by omega, by rw [HCl.out, ← Nat.add_assoc]; exact HO1.out, HG1.out⟩
          case measure => simp [intOf]; omega
      · obtain rfl : k = lb.length := by omega
        have hge : (lb.length : Int) ≤ lb.length := by omega
        obtain ⟨w0, hw0⟩ : ∃ x, x = wr := ⟨_, rfl⟩
        subst hw0
        have HRow := hid (late_row HAt.out HAtb.out (G2.out.trans HG.out) (by omega : q ≤ 8) (m := lr + lb.length) (by rw [← HRbl.out, List.take_length] at HO; rw [← HRbl.out]; exact HO.out) (by rw [HLr.out, HRbl.out]))
        obtain ⟨l2, hl2, hp2', hd2⟩ := HRow.out
        rw [hrs] at hd2
        have HP2 := hid hp2'; have HD2 := hid hd2; have HF2 := hid hp2'.fits
        have HN2 := hid (fun (W : World) (hg : w0.grownBy W none) => (show Calls Try.prog 20 #[.pointer (some ⟨B2, 0, none⟩), .slice pv (lr + lb.length) cv] W fun e w' => e = .returned (.tuple #[.pointer (some ⟨W.heap.size + 1, 0, none⟩), .int .i64 0]) ∧
          (∃ f T, VV w' (W.heap.size + 1) W.heap.size B2 (fun k => W.heap.size + 2 ≤ k ∧ k < w'.heap.size) l2 0 T f) ∧ W.grownBy w' none from by
            have h := vNew B2 pv cv l2 W M ((H2.out.m.grown HG.out (by simp)).grown hg (by simp)) H2.out.ok.n1 (by omega) (hp2'.grown hg)
            rw [hl2] at h
            refine h.mono ?_
            rintro e w' ⟨e1, ⟨f, h1⟩, h2⟩
            exact ⟨e1, ⟨f, _, h1⟩, h2⟩))
        have HN1 := hid (show Calls Try.prog 20 #[.pointer (some ⟨B, 0, none⟩), .slice (some a) l.length cap] w0 fun e w' => e = .returned (.tuple #[.pointer (some ⟨w0.heap.size + 1, 0, none⟩), .int .i64 0]) ∧
          (∃ f, VV w' (w0.heap.size + 1) w0.heap.size B (fun k => w0.heap.size + 2 ≤ k ∧ k < w'.heap.size) l 0 l.length f) ∧ w0.grownBy w' none from
            vNew B (some a) cap l _ M (H1b.out.m.grown HG.out (by simp)) H1b.out.ok.n1 (by first | omega | simp) (HP.out.grown (G2.out.trans HG.out)))
        have hl2c : l2.length ≤ 64 := by omega
        have hwrs := HG.out.size
        clear hp2' hd2 HRow hge
        go_wp2_with (go_at_call 20; first
          | ((with_reducible refine HN1.out.mono ?_); rintro e w4 ⟨rfl, ⟨f4, hv4⟩, g4⟩; have HV4 := hid hv4; have HG4 := hid g4; have hs4 := hv4.top.lt; clear hv4 g4)
          | ((with_reducible refine (HN2.out _ HG4.out).mono ?_); rintro e w5 ⟨rfl, ⟨f5, T5, hv5⟩, g5⟩; have hs5 := hv5.top.lt; have HT := hid (twin_start (w := w) (W := w0) (M := M) hB0 (by omega) (by omega) (H1b.out.m.grown HG.out (by simp)) (H2.out.m.grown HG.out (by simp)) (G2.out.trans HG.out) HV4.out HG4.out hv5 g5); clear hv5 g5))
        go_loopw [25] (fun x W => ∃ (i j : Nat), x = .int .i64 i ∧ i ≤ leno ∧ j ≤ q ∧ Twin w W (w0.heap.size + 1) w0.heap.size B (w4.heap.size + 1) w4.heap.size B2 (fun k => w0.heap.size + 2 ≤ k ∧ k < w4.heap.size) (fun k => w4.heap.size + 2 ≤ k ∧ k < w5.heap.size) l l2 j (M.after l j) l.length T5) (fun x _ => leno - (intOf x).toNat)
        case atStart => exact ⟨0, 0, rfl, by omega, by omega, HT.out⟩
        case round =>
          clear HT HV4
          obtain ⟨i, j, rfl, hi, hj, ht⟩ := hrel
          obtain ⟨f1, hv1⟩ := ht.v1
          obtain ⟨f2, hv2⟩ := ht.v2
          have ht1 := hv1.top.lt
          have ht2 := hv2.top.lt
          have HT := hid ht; have HV1 := hid hv1; have HV2 := hid hv2
          clear ht hv1 hv2
          have hi0 : (0 : Int) ≤ i := by omega
          by_cases hil : i < leno
          · have hil' : (i : Int) < leno := by omega
            by_cases hjq : j < q
            · have hjq' : (j : Int) < q := by omega
              obtain ⟨bo, oo, x0, xi, xo, xn, xv, rfl, hbo, d0, d1, d2, d3, d4, ⟨qp, ql, qc, rfl, _, _⟩, _, _, wo, _⟩ := HOp.out i hil
              have hxo : xo ≤ 9223372036854775807 := (bounds_i64 wo).2
              have gw := HT.out.grown
              have k0 := gw.cell d0 (by simp)
              have k1 := gw.cell d1 (by simp)
              have k2 := gw.cell d2 (by simp)
              have k3 := gw.cell d3 (by simp)
              have k4 := gw.cell d4 (by simp)
              have hd := HD2.out j hjq
              obtain ⟨R, hR⟩ : ∃ R, ((M.after l j).rews (due l j)).read xi xo xn = R := ⟨_, rfl⟩
              have hok := Mach.after_ok H1b.out.ok l j
              have ga := World.grownBy_alloc wr (.cells #[.int .i64 x0, .int .i64 xi, .int .i64 xo, .int .i64 xn, .slice qp ql.length qc] 56) none
              have HR1 := hid (vRead _ _ B _ l j _ f1 xi xo xn _ (M.after l j) _ (HV1.out.grown ga) (HT.out.m1.grown ga (by simp)) hok HF.out (by omega) (by first | omega | simp) hxo)
              have HR2 := hid (fun (W6 : World) (f : Int → Option Value) (hv : VV W6 (w4.heap.size + 1) w4.heap.size B2 (fun k => w4.heap.size + 2 ≤ k ∧ k < w5.heap.size) l2 j T5 f) (hm : PM W6 B2 (M.after l j)) => (vRead _ _ B2 _ l2 j _ f xi xo xn W6 (M.after l j) _ hv hm hok HF2.out (by omega) hl2c hxo))
              rw [hR] at HR1
              simp only [hd, hR] at HR2
              have HTa := hid (HT.out.more ga)
              have HD := hid hd
              obtain ⟨q1, q2, q3⟩ := opcell (W := wr) (t := 56) (a := x0) (b := xi) (c := xo) (d := xn) (v := .slice qp ql.length qc)
              have hBT := HT.out.BB
              have hfar := HT.out.far
              have hm1 := HT.out.m1.lt
              clear hR d0 d1 d2 d3 d4 gw hok ga hd wo
              go_upto_region 24 with (go_at_call 23; refine (vReads _ _ B _ l j _ f1 wr HV1.out).mono ?_; rintro e w' ⟨rfl, rfl⟩)
              with_reducible refine HR1.out.mono ?_
              rintro e w6 ⟨v6, rfl, ⟨p6, c6, rfl, hk6⟩, hr6⟩
              have HH := hid (HTa.out.half hr6)
              have HK6 := hid hk6
              have s6 := hr6.chg.size
              have z1 := hr6.chg.cell q1 (by rintro (e | e | e) <;> (have e' : wr.heap.size = _ := e; omega))
              have z2 := hr6.chg.cell q2 (by rintro (e | e | e) <;> (have e' : wr.heap.size = _ := e; omega))
              have z3 := hr6.chg.cell q3 (by rintro (e | e | e) <;> (have e' : wr.heap.size = _ := e; omega))
              obtain ⟨g2, hg2⟩ := HH.out.v2
              have HG2 := hid hg2
              clear hk6 hr6 hg2
              go_upto_region 24 with (fail)
              with_reducible refine (HR2.out _ g2 HG2.out HH.out.m2).mono ?_
              rintro e w7 ⟨v7, rfl, ⟨p7, c7, rfl, hk7⟩, hr7⟩
              have HT7 := hid (Half.twin HTa.out HH.out hr7 HD.out)
              have kc1 := (kept_string (HK6.out.chg hr7.chg (by rintro k ⟨ka, kb⟩ e; have ka' := Nat.le_trans (World.grownBy_alloc wr (.cells #[.int .i64 x0, .int .i64 xi, .int .i64 xo, .int .i64 xn, .slice qp ql.length qc] 56) none).size ka; omega)) c6 w7 (grownBy_drewN w7 0 none))
              have kc2 := (kept_string hk7 c7 w7 (grownBy_drewN w7 0 none))
              obtain ⟨fa, hva⟩ := HT7.out.v1
              obtain ⟨fb, hvb⟩ := HT7.out.v2
              have HQa := hid (vReads _ _ B _ l (j + 1) _ fa w7 hva)
              have HQb := hid (vReads _ _ B2 _ l2 (j + 1) _ fb w7 hvb)
              clear hk7 hr7 hva hvb z1 z2 z3 q1 q2 q3 k0 k1 k2 k3 k4
              go_upto_region 24 with (fail)
              go_wp2_with (go_at_call 23; first | ((with_reducible refine HQa.out.mono ?_); rintro e w' ⟨rfl, rfl⟩) | ((with_reducible refine HQb.out.mono ?_); rintro e w' ⟨rfl, rfl⟩))
              go_roundw
              case rel => exact ⟨i + 1, j + 1, by go_num, by omega, by omega, HT7.out⟩
              case measure => simp [intOf]; omega
            · obtain rfl : j = q := by omega
              have hge : (j : Int) ≤ j := by omega
              have heq := eql_mach B
              go_wp2_with (first
                | (go_at_call 23; refine (vReads _ _ B _ l j _ f1 wr HV1.out).mono ?_; rintro e w' ⟨rfl, rfl⟩)
                | (go_at_call 26; refine (vMachine _ _ B _ l j _ f1 wr HV1.out).mono ?_; rintro e w' ⟨rfl, rfl⟩))
              go_ret
              exact ⟨rfl, HT.out.grown⟩
          · obtain rfl : i = leno := by omega
            have hge : (i : Int) ≤ i := by omega
            have heq := eql_mach B
            go_wp2_with (go_at_call 26; refine (vMachine _ _ B _ l j _ f1 wr HV1.out).mono ?_; rintro e w' ⟨rfl, rfl⟩)
            go_ret
            exact ⟨rfl, HT.out.grown⟩

theorem main {H : Type} {enc : TypeId × Value → H} (v0 v1 v2 v3 v4 : Value) (W : World) (c0 : Flat.Came enc Try.prog W 0 (fun _ => true) true 43 v0) (c1 : Flat.Came enc Try.prog W 0 (fun _ => true) true 44 v1) (c2 : Flat.Came enc Try.prog W 0 (fun _ => true) true 44 v2) (c3 : Flat.Came enc Try.prog W 0 (fun _ => true) true 45 v3) (c4 : Flat.Came enc Try.prog W 0 (fun _ => true) true 5 v4) :
    Calls Try.prog 6 #[v0, v1, v2, v3, v4] W fun e w' => e = .returned (.bool true) ∧ W.grownBy w' none := by
  obtain ⟨ps, ss, cs, rfl, hss, hs⟩ := open_starts c0
  obtain ⟨pa, l, cap, rfl, hl, hp⟩ := open_pokes c1
  obtain ⟨pb, lb, capb, rfl, hl2, hp2⟩ := open_pokes c2
  obtain ⟨po, leno, capo, rfl, hlo, hop⟩ := open_vops c3
  obtain ⟨r, rfl, hr⟩ := c4.int Try.underlying5
  obtain ⟨a0, a1⟩ := bounds_u8 hr
  obtain ⟨n, rfl⟩ := Int.eq_ofNat_of_zero_le a0
  exact walk ps cs ss pa cap l pb capb lb po leno capo n (n % 8) (by omega) (by omega) W hs hss hp hl hp2 hl2 hlo hop (by rintro rfl; exact came_nil Try.underlying44 c1)

theorem own : ownKnob Try.prog.godebug = none := by kernel_rfl
theorem laidOut : laidOutB Try.prog = true := by kernel_rfl

set_option maxRecDepth 100000 in
theorem lifted (os : Os) (started : os.Started) (H : Type) (enc : TypeId × Value → H) :
    ReturnsInHanded {} Try.checked os 6 .any (Rows.viewLaterSpec.pre6 enc Try.prog Try.f6 Rows.viewLaterRow.domain false) (Rows.viewLaterSpec.post enc Try.prog Try.f6 false true false false) := by
  refine returnsInHanded_of_change_sized (C := Try.checked) own started (by kernel_rfl) Try.func6
    (ChangeSpec.witness6 (enc := enc) (C := Try.checked) false ⟨#[], #[.slice none 0 0, .slice none 0 0, .slice none 0 0, .slice none 0 0, .int .u8 0], []⟩ 8 (by kernel_rfl) (by kernel_rfl) (by kernel_rfl) (by kernel_rfl)) ?_
  intro W base args ds gs before hval0 hW _ hsz0 _
  have hsz : (DataW.weightsEach Try.prog (Try.f6.params.toList ++ Rows.viewLaterSpec.plain.varTypes Try.prog) (ds ++ gs)).all (· ≤ reachBytes) = true := hsz0
  clear hsz0
  have hval : ∀ (j : Nat) t v, Try.f6.params[j]? = some t → args[j]? = some v → Value.okWide Try.prog W .any base t v := hval0
  have hW' := hW
  obtain ⟨p, q, hA0, hV, rfl, hfz, hnd⟩ := hW
  have hA : DataW.TrodAll enc Try.prog W 0 (fun _ => true) true Try.f6.params.toList args.toList ds p := hA0
  rw [Try.params6] at hA hval hsz
  obtain ⟨v0, vs0, d0, ds0, p0, q0, hargs, rfl, rfl, h0, r0⟩ := trodAll_cons hA
  obtain ⟨v1, vs1, d1, ds1, p1, q1, rfl, rfl, rfl, h1, r1⟩ := trodAll_cons r0
  obtain ⟨v2, vs2, d2, ds2, p2, q2, rfl, rfl, rfl, h2, r2⟩ := trodAll_cons r1
  obtain ⟨v3, vs3, d3, ds3, p3, q3, rfl, rfl, rfl, h3, r3⟩ := trodAll_cons r2
  obtain ⟨v4, vs4, d4, ds4, p4, q4, rfl, rfl, rfl, h4, r4⟩ := trodAll_cons r3
  obtain ⟨rfl, rfl, rfl⟩ := trodAll_nil r4
  obtain rfl : args = #[v0, v1, v2, v3, v4] := by cases args; simp_all
  obtain ⟨rfl, rfl⟩ := trodVars_none hV
  obtain ⟨ps0, ln0, cp0, rfl⟩ := okWide_slice Try.underlying43 (hval 0 43 v0 rfl rfl)
  have k0 := h0
  have lt0 : ∀ x ∈ p0, x.block < W.heap.size := by obtain ⟨m, hm⟩ := k0; exact DataW.trod_lt m _ _ _ hm
  have c0 : Flat.Came enc Try.prog W 0 (fun _ => true) true 43 (.slice ps0 ln0 cp0) := by
    obtain ⟨fuel, hf⟩ := h0
    exact ⟨fuel, _, hf, fun n hn => by
      have := List.all_eq_true.1 hsz n (DataW.weights_mem_each (j := 0) rfl rfl n hn)
      simpa using this⟩
  obtain ⟨ps1, ln1, cp1, rfl⟩ := okWide_slice Try.underlying44 (hval 1 44 v1 rfl rfl)
  have k1 := h1
  have lt1 : ∀ x ∈ p1, x.block < W.heap.size := by obtain ⟨m, hm⟩ := k1; exact DataW.trod_lt m _ _ _ hm
  have c1 : Flat.Came enc Try.prog W 0 (fun _ => true) true 44 (.slice ps1 ln1 cp1) := by
    obtain ⟨fuel, hf⟩ := h1
    exact ⟨fuel, _, hf, fun n hn => by
      have := List.all_eq_true.1 hsz n (DataW.weights_mem_each (j := 1) rfl rfl n hn)
      simpa using this⟩
  obtain ⟨ps2, ln2, cp2, rfl⟩ := okWide_slice Try.underlying44 (hval 2 44 v2 rfl rfl)
  have k2 := h2
  have lt2 : ∀ x ∈ p2, x.block < W.heap.size := by obtain ⟨m, hm⟩ := k2; exact DataW.trod_lt m _ _ _ hm
  have c2 : Flat.Came enc Try.prog W 0 (fun _ => true) true 44 (.slice ps2 ln2 cp2) := by
    obtain ⟨fuel, hf⟩ := h2
    exact ⟨fuel, _, hf, fun n hn => by
      have := List.all_eq_true.1 hsz n (DataW.weights_mem_each (j := 2) rfl rfl n hn)
      simpa using this⟩
  obtain ⟨ps3, ln3, cp3, rfl⟩ := okWide_slice Try.underlying45 (hval 3 45 v3 rfl rfl)
  have k3 := h3
  have lt3 : ∀ x ∈ p3, x.block < W.heap.size := by obtain ⟨m, hm⟩ := k3; exact DataW.trod_lt m _ _ _ hm
  have c3 : Flat.Came enc Try.prog W 0 (fun _ => true) true 45 (.slice ps3 ln3 cp3) := by
    obtain ⟨fuel, hf⟩ := h3
    exact ⟨fuel, _, hf, fun n hn => by
      have := List.all_eq_true.1 hsz n (DataW.weights_mem_each (j := 3) rfl rfl n hn)
      simpa using this⟩
  obtain ⟨a4, rfl, rfl, rfl, w4⟩ := open_int Try.underlying5 (hval 4 5 v4 rfl rfl) h4
  have k4 := h4
  have lt4 : ∀ x ∈ ([] : List MemPlace), x.block < W.heap.size := by obtain ⟨m, hm⟩ := k4; exact DataW.trod_lt m _ _ _ hm
  have c4 : Flat.Came enc Try.prog W 0 (fun _ => true) true 5 (.int .u8 a4) := by
    obtain ⟨fuel, hf⟩ := h4
    exact ⟨fuel, _, hf, fun n hn => by
      have := List.all_eq_true.1 hsz n (DataW.weights_mem_each (j := 4) rfl rfl n hn)
      simpa using this⟩
  clear hA0 hval0
  refine (main (.slice ps0 ln0 cp0) (.slice ps1 ln1 cp1) (.slice ps2 ln2 cp2) (.slice ps3 ln3 cp3) (.int .u8 a4) W c0 c1 c2 c3 c4).mono fun e W' ⟨he, hg⟩ => ?_
  subst he
  have bel := below_grown hg
  simp only [List.append_nil, List.nil_append] at hW'
  exact ⟨_, rfl, _, _, _, [], _, [], hW', trodAll_mk1 (shut_bool Try.underlying4 _), (trodAll_cons_mk (Below.trod laidOut (by kernel_rfl) (of_decide_eq_true (by kernel_rfl)) k0 bel lt0) (trodAll_cons_mk (Below.trod laidOut (by kernel_rfl) (of_decide_eq_true (by kernel_rfl)) k1 bel lt1) (trodAll_cons_mk (Below.trod laidOut (by kernel_rfl) (of_decide_eq_true (by kernel_rfl)) k2 bel lt2) (trodAll_cons_mk (Below.trod laidOut (by kernel_rfl) (of_decide_eq_true (by kernel_rfl)) k3 bel lt3) (trodAll_cons_mk (Below.trod laidOut (by kernel_rfl) (of_decide_eq_true (by kernel_rfl)) k4 bel lt4) trodAll_mk0))))), rfl, bel.frame _, fun h => by cases h⟩

theorem proved : Rows.ViewLaterSaid :=
  OpenClaim.holds_of_wide 6 Try.f6 rfl rfl rfl rfl rfl rfl rfl ⟨rfl, rfl, rfl, rfl, rfl⟩ rfl rfl rfl rfl rfl (by kernel_rfl) Try.func6 (by kernel_rfl)
    (of_decide_eq_true (by kernel_rfl)) (by unfold Func.isWrapper; first | (rw [if_pos (by decide +kernel)]; kernel_rfl) | (rw [if_neg (by decide +kernel)]; exact ⟨rfl, rfl⟩))
    (fun os started H enc _ => lifted os started H enc)
#print axioms proved
end Go.Proofs.Ytihcbafgokimjaa.lawVLater
