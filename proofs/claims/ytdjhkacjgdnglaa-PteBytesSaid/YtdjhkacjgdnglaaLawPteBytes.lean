/-
  PteBytes: for every input the law returns true, and what was there stays. No condition.
-/
import Derived.Test.YtdjhkacjgdnglaaPteY5
import Derived.Laws.AppendOwnNone
import Derived.OpenShut
import Derived.Deep.Cut
namespace Go.Proofs.Ytdjhkacjgdnglaa.lawPteBytes
open Go.ChangeShapes Go.WideShapes Go.ChangeAt Go.RowKit
set_option maxHeartbeats 4000000

set_option maxRecDepth 100000 in
theorem walkS (a : Nat) (pa : Option Addr) (cap : Nat) (ps : List PutV) (r : Int) (va : Nat) (n : Int) (l : List UInt8) (ad : Addr) (cb : Nat) (w : World) (hps : ps.length ≤ 9223372036854775807) (hin : PutsIn w pa ps) (hva : va < 4294967296) (hb : InBytes w (some ad) l) (hcap : l.length ≤ cb) (hmx : l.length ≤ 140737488351232) :
    Calls Try.prog 6 #[.int .u8 a, .slice pa ps.length cap, .int .i64 r, .int .u32 va, .int .i64 n, .slice (some ad) l.length cb] w fun e w' => e = .returned (.bool true) ∧ w.grownBy w' none := by
  have e1 : ((1 + a % 8 : Nat) : Int) = 1 + (a : Int) % 8 := by omega
  have HBg := hid (pBegin (1 + a % 8) pa cap ps w hin (by omega) (by omega) hps)
  rw [e1] at HBg
  obtain ⟨M, hM⟩ : ∃ M, pC (1 + a % 8) ps ps.length = M := ⟨_, rfl⟩
  rw [hM] at HBg
  clear e1 hM hin hps
  obtain ⟨⟨fb, fe⟩, hf⟩ : ∃ y, M.fetchV r va n = y := ⟨_, rfl⟩
  obtain ⟨⟨sc, M'⟩, hs⟩ : ∃ y, M.storeV r va l = y := ⟨_, rfl⟩
  have HF := hid (fun B w (hM : PM w B M) hok => hf ▸ ptFetch B r va n w M 0 hM hok hva)
  have HRF := hid (fun b w L (hM : RM w b M L) => hf ▸ rFetch b r va n w M L hM hva)
  have HS := hid (fun B w v (hM : PM w B M) hok (hl : SB w B v l) => hs ▸ ptStore B r va v l w M 0 hM hok hva hl (by omega))
  have HRS := hid (fun b w v L (hM : RM w b M L) (hl : SR w L b v l) => hs ▸ rStore b r va v l w M L hM hva hl (by omega))
  have HOk' := hid (show M.ok 0 → M'.ok 0 from fun h => by have e : M' = M.layV (M.runsV r va l.length true).1 l := by rw [show M' = (M.storeV r va l).2 by rw [hs]]; rfl
                                                           rw [e]; exact layV_ok _ _ _ _ h)
  have HIn := hid hb; have HCap := hid hcap; have HMx := hid hmx
  clear hb hcap
  clear hf hs hva
  obtain ⟨i0, hi, hz0, hz1, hz2⟩ := info_parts info_u8
  have Hi := hid hi; have Hz0 := hid hz0; have Hz1 := hid hz1; have Hz2 := hid hz2
  clear hi hz0 hz1 hz2
  go_enter Try.func6, Try.ntmps6
  go_wp2_with (first
    | (go_at_call 23; refine HBg.out.mono ?_; rintro e w1 ⟨B, b, L, rfl, hbg⟩; have HO := hid hbg; clear hbg)
    | (go_at_call 29; refine (HF.out _ _ HO.out.m HO.out.ok).mono ?_; rintro e w2 ⟨v2, rfl, p2, cp2, rfl, hi2, hg⟩; have HO2 := hid (HO.out.more hg); have HI2 := hid hi2; clear hg hi2)
    | (go_at_call 30; refine (HRF.out _ _ _ HO2.out.r).mono ?_; rintro e w3 ⟨v3, rfl, p3, cp3, rfl, hi3, hg⟩; have HO3 := hid (HO2.out.more hg); have ks2 := in_string HI2.out cp2 _ hg; have ks3 := in_string hi3 cp3 _ (World.grownBy.refl _ _); clear hg hi3)
    | (at_builtin; refine wpList_append_own _ rfl _ _ 31 rfl w3.heap.size 5 i0 (.int .u8 0) 1 1 Try.underlying31 Hi.out Hz0.out Hz1.out Hz2.out rfl (by decide) _ 0 [] rfl (World.ownsRow_made w3 #[] 0 (Nat.le_refl _) (by unfold maxLen; omega) (by simp)) ad l.length cb (bcells l) rfl (by rw [bcells_len]; omega) (in_cells HIn.out (HO3.out.grown.trans (World.grownBy_alloc _ _ _))) (bcells_one _) (by have := HMx.out; unfold maxLen; omega) (by have := HMx.out; omega) (by simp) ?_; intro v4 w4 hown hgrow _; simp only [Nat.zero_add, List.nil_append] at hown; have HG4 := hid ((World.grownBy_alloc w3 (.cells #[] 5) none).andThen hgrow (fun j hj => by cases hj; exact .inl (Nat.le_refl _))); have HSB := hid (sb_of hown rfl HO3.out.lt.1); clear hown hgrow)
    | (go_at_call 31; refine (HS.out _ _ _ (HO3.out.more HG4.out).m HO3.out.ok HSB.out).mono ?_; rintro e w5 ⟨rfl, h5, g5⟩; have HM5 := hid h5; have HG5 := hid g5; have HR5 := hid ((HO3.out.more HG4.out).r1 g5); clear h5 g5)
    | (go_at_call 32; refine (HRS.out _ _ _ _ HR5.out (hin_sr HIn.out HCap.out (grown_own (HO3.out.more HG4.out).grown HG5.out HO3.out.farB) HO3.out.far)).mono ?_; rintro e w6 ⟨rfl, L6, h6, hn6, c6, f6⟩; have HO6 := hid ((HO3.out.more HG4.out).step HM5.out HG5.out h6 c6 f6 (HOk'.out HO3.out.ok)); clear h6 hn6 c6 f6))
  have HOk1 := hid HO6.out.ok
  have HNn := hid (HO6.out.r.hn)
  have hLn : (L6.n : Int) ≤ 256 := by have := HO6.out.ok.n2; have := HNn.out; omega
  go_loopw [20] (fun x wr => ∃ i : Nat, x = .int .i64 i ∧ i ≤ L6.n ∧ Bg w wr B b M' L6 0) (fun x _ => L6.n - (intOf x).toNat)
  case atStart => exact ⟨0, rfl, by omega, HO6.out⟩
  case round =>
    obtain ⟨i, rfl, hi, hbg⟩ := hrel
    have HOr := hid hbg
    have e0 := hbg.r.slB
    clear hbg
    have hi0 : (0 : Int) ≤ i := by omega
    by_cases hil : i < L6.n
    · have hil' : (i : Int) < L6.n := by omega
      have HRd := hid (fun W (hM : PM W B M') => Read_yes B i 0 256 W M' 0 hM HOk1.out (by rw [HNn.out]; exact hil') (by omega))
      go_upto_region 14 with (first
        | (go_at_call 33; refine (HRd.out _ HOr.out.m).mono ?_; rintro e w8 ⟨v8, rfl, hv⟩; obtain ⟨g, rfl, _, hc, hg⟩ := newBytes_pos hv (by rw [part_len]; omega); rw [part_len] at hc ⊢; have HO8 := hid (HOr.out.more hg); have HC := hid hc; clear hv hc hg))
      clear e0
      have e1 := HO8.out.r.slB
      have e6 := HO8.out.r.sl hil
      have kc1 : ∀ n : Nat, (convert 31 9 (.slice (some ⟨g, 0, none⟩) 256 256)).run Try.prog (w8.drewN n) = .ok (.string ⟨((M'.fr i).part 0 256).toArray⟩) (w8.drewN n) := fun n =>
        vconv_row _ _ 0 256 _ _ (part_len _ _ _) fun q hq => by rw [Nat.zero_add]; exact HC.out q hq
      have kc2 : ∀ n : Nat, (convert 31 9 (.slice (some ⟨L6.g i, 0, none⟩) 256 (L6.cg i))).run Try.prog (w8.drewN n) = .ok (.string ⟨((M'.fr i).part 0 256).toArray⟩) (w8.drewN n) := fun n =>
        vconv_row _ _ 0 256 _ _ (part_len _ _ _) fun q hq => by rw [part_get _ _ _ _ hq]; simpa using (HO8.out.r.byte hil hq)
      go_quiet (fail)
      clear e1 e6 kc1 kc2
      go_wp2
      go_roundw
      case rel => exact ⟨i + 1, by go_num, by omega, HO8.out.more (grownBy_drewN _ _ _)⟩
      case measure => simp [intOf]; omega
    · obtain rfl : i = L6.n := by omega
      have hge : ¬ (L6.n : Int) < L6.n := by omega
      clear hil
      go_wp2_with (go_at_call 28; refine (pAwake _).mono ?_; rintro e w9 ⟨rfl, hg⟩; have HG9 := hid (HOr.out.more hg); clear hg)
      go_ret
      exact ⟨rfl, HG9.out.grown⟩
set_option maxRecDepth 100000 in
theorem walkN (a : Nat) (pa : Option Addr) (cap : Nat) (ps : List PutV) (r : Int) (va : Nat) (n : Int) (w : World) (hps : ps.length ≤ 9223372036854775807) (hin : PutsIn w pa ps) (hva : va < 4294967296) :
    Calls Try.prog 6 #[.int .u8 a, .slice pa ps.length cap, .int .i64 r, .int .u32 va, .int .i64 n, .slice none 0 0] w fun e w' => e = .returned (.bool true) ∧ w.grownBy w' none := by
  have e1 : ((1 + a % 8 : Nat) : Int) = 1 + (a : Int) % 8 := by omega
  have HBg := hid (pBegin (1 + a % 8) pa cap ps w hin (by omega) (by omega) hps)
  rw [e1] at HBg
  obtain ⟨M, hM⟩ : ∃ M, pC (1 + a % 8) ps ps.length = M := ⟨_, rfl⟩
  rw [hM] at HBg
  clear e1 hM hin hps
  obtain ⟨⟨fb, fe⟩, hf⟩ : ∃ y, M.fetchV r va n = y := ⟨_, rfl⟩
  obtain ⟨⟨sc, M'⟩, hs⟩ : ∃ y, M.storeV r va [] = y := ⟨_, rfl⟩
  have HF := hid (fun B w (hM : PM w B M) hok => hf ▸ ptFetch B r va n w M 0 hM hok hva)
  have HRF := hid (fun b w L (hM : RM w b M L) => hf ▸ rFetch b r va n w M L hM hva)
  have HS := hid (fun B w v (hM : PM w B M) hok (hl : SB w B v []) => hs ▸ ptStore B r va v [] w M 0 hM hok hva hl (by simp))
  have HRS := hid (fun b w v L (hM : RM w b M L) (hl : SR w L b v []) => hs ▸ rStore b r va v [] w M L hM hva hl (by simp))
  have HOk' := hid (show M.ok 0 → M'.ok 0 from fun h => by have e : M' = M.layV (M.runsV r va ([] : List UInt8).length true).1 [] := by rw [show M' = (M.storeV r va []).2 by rw [hs]]; rfl
                                                           rw [e]; exact layV_ok _ _ _ _ h)
  clear hf hs hva
  obtain ⟨i0, hi, hz0, hz1, hz2⟩ := info_parts info_u8
  have Hi := hid hi; have Hz0 := hid hz0; have Hz1 := hid hz1; have Hz2 := hid hz2
  clear hi hz0 hz1 hz2
  go_enter Try.func6, Try.ntmps6
  go_wp2_with (first
    | (go_at_call 23; refine HBg.out.mono ?_; rintro e w1 ⟨B, b, L, rfl, hbg⟩; have HO := hid hbg; clear hbg)
    | (go_at_call 29; refine (HF.out _ _ HO.out.m HO.out.ok).mono ?_; rintro e w2 ⟨v2, rfl, p2, cp2, rfl, hi2, hg⟩; have HO2 := hid (HO.out.more hg); have HI2 := hid hi2; clear hg hi2)
    | (go_at_call 30; refine (HRF.out _ _ _ HO2.out.r).mono ?_; rintro e w3 ⟨v3, rfl, p3, cp3, rfl, hi3, hg⟩; have HO3 := hid (HO2.out.more hg); have ks2 := in_string HI2.out cp2 _ hg; have ks3 := in_string hi3 cp3 _ (World.grownBy.refl _ _); clear hg hi3)
    | (at_builtin; refine wpList_append_own_none rfl _ _ 31 rfl w3.heap.size 5 i0 1 Try.underlying31 Hi.out _ 0 [] rfl (World.ownsRow_made w3 #[] 0 (Nat.le_refl _) (by unfold maxLen; omega) (by simp)) rfl ?_; have HG4 := hid (World.grownBy_alloc w3 (.cells #[] 5) none); have HSB := hid (show SB (w3.alloc (.cells #[] 5)) B (.slice (some ⟨w3.heap.size, 0, none⟩) 0 0) [] from ⟨_, _, rfl, Nat.le_refl _, fun h => absurd rfl h⟩))
    | (go_at_call 31; refine (HS.out _ _ _ (HO3.out.more HG4.out).m HO3.out.ok HSB.out).mono ?_; rintro e w5 ⟨rfl, h5, g5⟩; have HM5 := hid h5; have HG5 := hid g5; have HR5 := hid ((HO3.out.more HG4.out).r1 g5); clear h5 g5)
    | (go_at_call 32; refine (HRS.out _ _ _ _ HR5.out ⟨none, 0, rfl, Nat.le_refl _, fun h => absurd rfl h⟩).mono ?_; rintro e w6 ⟨rfl, L6, h6, hn6, c6, f6⟩; have HO6 := hid ((HO3.out.more HG4.out).step HM5.out HG5.out h6 c6 f6 (HOk'.out HO3.out.ok)); clear h6 hn6 c6 f6))
  have HOk1 := hid HO6.out.ok
  have HNn := hid (HO6.out.r.hn)
  have hLn : (L6.n : Int) ≤ 256 := by have := HO6.out.ok.n2; have := HNn.out; omega
  go_loopw [20] (fun x wr => ∃ i : Nat, x = .int .i64 i ∧ i ≤ L6.n ∧ Bg w wr B b M' L6 0) (fun x _ => L6.n - (intOf x).toNat)
  case atStart => exact ⟨0, rfl, by omega, HO6.out⟩
  case round =>
    obtain ⟨i, rfl, hi, hbg⟩ := hrel
    have HOr := hid hbg
    have e0 := hbg.r.slB
    clear hbg
    have hi0 : (0 : Int) ≤ i := by omega
    by_cases hil : i < L6.n
    · have hil' : (i : Int) < L6.n := by omega
      have HRd := hid (fun W (hM : PM W B M') => Read_yes B i 0 256 W M' 0 hM HOk1.out (by rw [HNn.out]; exact hil') (by omega))
      go_upto_region 14 with (first
        | (go_at_call 33; refine (HRd.out _ HOr.out.m).mono ?_; rintro e w8 ⟨v8, rfl, hv⟩; obtain ⟨g, rfl, _, hc, hg⟩ := newBytes_pos hv (by rw [part_len]; omega); rw [part_len] at hc ⊢; have HO8 := hid (HOr.out.more hg); have HC := hid hc; clear hv hc hg))
      clear e0
      have e1 := HO8.out.r.slB
      have e6 := HO8.out.r.sl hil
      have kc1 : ∀ n : Nat, (convert 31 9 (.slice (some ⟨g, 0, none⟩) 256 256)).run Try.prog (w8.drewN n) = .ok (.string ⟨((M'.fr i).part 0 256).toArray⟩) (w8.drewN n) := fun n =>
        vconv_row _ _ 0 256 _ _ (part_len _ _ _) fun q hq => by rw [Nat.zero_add]; exact HC.out q hq
      have kc2 : ∀ n : Nat, (convert 31 9 (.slice (some ⟨L6.g i, 0, none⟩) 256 (L6.cg i))).run Try.prog (w8.drewN n) = .ok (.string ⟨((M'.fr i).part 0 256).toArray⟩) (w8.drewN n) := fun n =>
        vconv_row _ _ 0 256 _ _ (part_len _ _ _) fun q hq => by rw [part_get _ _ _ _ hq]; simpa using (HO8.out.r.byte hil hq)
      go_quiet (fail)
      clear e1 e6 kc1 kc2
      go_wp2
      go_roundw
      case rel => exact ⟨i + 1, by go_num, by omega, HO8.out.more (grownBy_drewN _ _ _)⟩
      case measure => simp [intOf]; omega
    · obtain rfl : i = L6.n := by omega
      have hge : ¬ (L6.n : Int) < L6.n := by omega
      clear hil
      go_wp2_with (go_at_call 28; refine (pAwake _).mono ?_; rintro e w9 ⟨rfl, hg⟩; have HG9 := hid (HOr.out.more hg); clear hg)
      go_ret
      exact ⟨rfl, HG9.out.grown⟩

theorem main {H : Type} {enc : TypeId × Value → H} (v0 v1 v2 v3 v4 v5 : Value) (w : World) (c0 : Flat.Came enc Try.prog w 0 (fun _ => true) true 5 v0) (c1 : Flat.Came enc Try.prog w 0 (fun _ => true) true 43 v1) (c2 : Flat.Came enc Try.prog w 0 (fun _ => true) true 3 v2) (c3 : Flat.Came enc Try.prog w 0 (fun _ => true) true 44 v3) (c4 : Flat.Came enc Try.prog w 0 (fun _ => true) true 3 v4) (c5 : Flat.Came enc Try.prog w 0 (fun _ => true) true 31 v5) :
    Calls Try.prog 6 #[v0, v1, v2, v3, v4, v5] w fun e w' => e = .returned (.bool true) ∧ w.grownBy w' none := by
  obtain ⟨a', rfl, wf⟩ := c0.int Try.underlying5
  obtain ⟨a, rfl, ha⟩ := u8_nat wf
  obtain ⟨pa, ps, cap, rfl, hps, hin⟩ := open_puts c1
  obtain ⟨r, rfl, _⟩ := c2.int Try.underlying3
  obtain ⟨va', rfl, wf3⟩ := c3.int Try.underlying44
  obtain ⟨va, rfl, hva⟩ := u32_nat wf3
  obtain ⟨n, rfl, _⟩ := c4.int Try.underlying3
  obtain ⟨pb, l, cb, rfl, hb, hmx, hcap, hnil⟩ := came_room2 c5
  cases pb with
  | none =>
    obtain ⟨rfl, rfl⟩ := hnil rfl
    exact walkN a pa cap ps r va n w hps hin hva
  | some ad => exact walkS a pa cap ps r va n l ad cb w hps hin hva hb hcap hmx

theorem own : ownKnob Try.prog.godebug = none := by kernel_rfl
theorem laidOut : laidOutB Try.prog = true := by kernel_rfl

set_option maxRecDepth 100000 in
theorem lifted (os : Os) (started : os.Started) (H : Type) (enc : TypeId × Value → H) :
    ReturnsInHanded {} Try.checked os 6 .any (Rows.pteBytesSpec.pre6 enc Try.prog Try.f6 Rows.pteBytesRow.domain false) (Rows.pteBytesSpec.post enc Try.prog Try.f6 false true false false) := by
  refine returnsInHanded_of_change_sized (C := Try.checked) own started (by kernel_rfl) Try.func6
    (ChangeSpec.witness6 (enc := enc) (C := Try.checked) false ⟨#[], #[.int .u8 0, .slice none 0 0, .int .i64 0, .int .u32 0, .int .i64 0, .slice none 0 0], []⟩ 8 (by kernel_rfl) (by kernel_rfl) (by kernel_rfl) (by kernel_rfl)) ?_
  intro W base args ds gs before hval0 hW _ hsz0 _
  have hsz : (DataW.weightsEach Try.prog (Try.f6.params.toList ++ Rows.pteBytesSpec.plain.varTypes Try.prog) (ds ++ gs)).all (· ≤ reachBytes) = true := hsz0
  clear hsz0
  have hval : ∀ (j : Nat) t v, Try.f6.params[j]? = some t → args[j]? = some v → Value.okWide Try.prog W .any base t v := hval0
  have hW' := hW
  obtain ⟨p, q, hA0, hV, rfl, hfz, hnd⟩ := hW
  have hA : DataW.TrodAll enc Try.prog W 0 (fun _ => true) true Try.f6.params.toList args.toList ds p := hA0
  rw [Try.params6] at hA hval hsz
  obtain ⟨v0, vs0, d0, ds0, p0, q0, hargs, rfl, rfl, h0, r0⟩ := trodAll_cons hA
  obtain ⟨v1, vs1, d1, ds1, p1, q1, rfl, rfl, rfl, h1, r1⟩ := trodAll_cons r0
  obtain ⟨v2, vs2, d2, ds2, p2, q2, rfl, rfl, rfl, h2, r2⟩ := trodAll_cons r1
  obtain ⟨v3, vs3, d3, ds3, p3, q3, rfl, rfl, rfl, h3, r3⟩ := trodAll_cons r2
  obtain ⟨v4, vs4, d4, ds4, p4, q4, rfl, rfl, rfl, h4, r4⟩ := trodAll_cons r3
  obtain ⟨v5, vs5, d5, ds5, p5, q5, rfl, rfl, rfl, h5, r5⟩ := trodAll_cons r4
  obtain ⟨rfl, rfl, rfl⟩ := trodAll_nil r5
  obtain rfl : args = #[v0, v1, v2, v3, v4, v5] := by cases args; simp_all
  obtain ⟨rfl, rfl⟩ := trodVars_none hV
  obtain ⟨a0, rfl, rfl, rfl, w0⟩ := open_int Try.underlying5 (hval 0 5 v0 rfl rfl) h0
  have k0 := h0
  have lt0 : ∀ x ∈ ([] : List MemPlace), x.block < W.heap.size := by obtain ⟨m, hm⟩ := k0; exact DataW.trod_lt m _ _ _ hm
  have c0 : Flat.Came enc Try.prog W 0 (fun _ => true) true 5 (.int .u8 a0) := by
    obtain ⟨fuel, hf⟩ := h0
    exact ⟨fuel, _, hf, fun n hn => by
      have := List.all_eq_true.1 hsz n (DataW.weights_mem_each (j := 0) rfl rfl n hn)
      simpa using this⟩
  obtain ⟨ps1, ln1, cp1, rfl⟩ := okWide_slice Try.underlying43 (hval 1 43 v1 rfl rfl)
  have k1 := h1
  have lt1 : ∀ x ∈ p1, x.block < W.heap.size := by obtain ⟨m, hm⟩ := k1; exact DataW.trod_lt m _ _ _ hm
  have c1 : Flat.Came enc Try.prog W 0 (fun _ => true) true 43 (.slice ps1 ln1 cp1) := by
    obtain ⟨fuel, hf⟩ := h1
    exact ⟨fuel, _, hf, fun n hn => by
      have := List.all_eq_true.1 hsz n (DataW.weights_mem_each (j := 1) rfl rfl n hn)
      simpa using this⟩
  obtain ⟨a2, rfl, rfl, rfl, w2⟩ := open_int Try.underlying3 (hval 2 3 v2 rfl rfl) h2
  have k2 := h2
  have lt2 : ∀ x ∈ ([] : List MemPlace), x.block < W.heap.size := by obtain ⟨m, hm⟩ := k2; exact DataW.trod_lt m _ _ _ hm
  have c2 : Flat.Came enc Try.prog W 0 (fun _ => true) true 3 (.int .i64 a2) := by
    obtain ⟨fuel, hf⟩ := h2
    exact ⟨fuel, _, hf, fun n hn => by
      have := List.all_eq_true.1 hsz n (DataW.weights_mem_each (j := 2) rfl rfl n hn)
      simpa using this⟩
  obtain ⟨a3, rfl, rfl, rfl, w3⟩ := open_int Try.underlying44 (hval 3 44 v3 rfl rfl) h3
  have k3 := h3
  have lt3 : ∀ x ∈ ([] : List MemPlace), x.block < W.heap.size := by obtain ⟨m, hm⟩ := k3; exact DataW.trod_lt m _ _ _ hm
  have c3 : Flat.Came enc Try.prog W 0 (fun _ => true) true 44 (.int .u32 a3) := by
    obtain ⟨fuel, hf⟩ := h3
    exact ⟨fuel, _, hf, fun n hn => by
      have := List.all_eq_true.1 hsz n (DataW.weights_mem_each (j := 3) rfl rfl n hn)
      simpa using this⟩
  obtain ⟨a4, rfl, rfl, rfl, w4⟩ := open_int Try.underlying3 (hval 4 3 v4 rfl rfl) h4
  have k4 := h4
  have lt4 : ∀ x ∈ ([] : List MemPlace), x.block < W.heap.size := by obtain ⟨m, hm⟩ := k4; exact DataW.trod_lt m _ _ _ hm
  have c4 : Flat.Came enc Try.prog W 0 (fun _ => true) true 3 (.int .i64 a4) := by
    obtain ⟨fuel, hf⟩ := h4
    exact ⟨fuel, _, hf, fun n hn => by
      have := List.all_eq_true.1 hsz n (DataW.weights_mem_each (j := 4) rfl rfl n hn)
      simpa using this⟩
  obtain ⟨ps5, ln5, cp5, rfl⟩ := okWide_slice Try.underlying31 (hval 5 31 v5 rfl rfl)
  have k5 := h5
  have lt5 : ∀ x ∈ p5, x.block < W.heap.size := by obtain ⟨m, hm⟩ := k5; exact DataW.trod_lt m _ _ _ hm
  have c5 : Flat.Came enc Try.prog W 0 (fun _ => true) true 31 (.slice ps5 ln5 cp5) := by
    obtain ⟨fuel, hf⟩ := h5
    exact ⟨fuel, _, hf, fun n hn => by
      have := List.all_eq_true.1 hsz n (DataW.weights_mem_each (j := 5) rfl rfl n hn)
      simpa using this⟩
  clear hA0 hval0
  refine (main (.int .u8 a0) (.slice ps1 ln1 cp1) (.int .i64 a2) (.int .u32 a3) (.int .i64 a4) (.slice ps5 ln5 cp5) W c0 c1 c2 c3 c4 c5).mono fun e W' ⟨he, hg⟩ => ?_
  subst he
  have bel := below_grown hg
  simp only [List.append_nil, List.nil_append] at hW'
  exact ⟨_, rfl, _, _, _, [], _, [], hW', trodAll_mk1 (shut_bool Try.underlying4 _), (trodAll_cons_mk (Below.trod laidOut (by kernel_rfl) (of_decide_eq_true (by kernel_rfl)) k0 bel lt0) (trodAll_cons_mk (Below.trod laidOut (by kernel_rfl) (of_decide_eq_true (by kernel_rfl)) k1 bel lt1) (trodAll_cons_mk (Below.trod laidOut (by kernel_rfl) (of_decide_eq_true (by kernel_rfl)) k2 bel lt2) (trodAll_cons_mk (Below.trod laidOut (by kernel_rfl) (of_decide_eq_true (by kernel_rfl)) k3 bel lt3) (trodAll_cons_mk (Below.trod laidOut (by kernel_rfl) (of_decide_eq_true (by kernel_rfl)) k4 bel lt4) (trodAll_cons_mk (Below.trod laidOut (by kernel_rfl) (of_decide_eq_true (by kernel_rfl)) k5 bel lt5) trodAll_mk0)))))), rfl, bel.frame _, fun h => by cases h⟩

theorem proved : Rows.PteBytesSaid :=
  OpenClaim.holds_of_wide 6 Try.f6 rfl rfl rfl rfl rfl rfl rfl ⟨rfl, rfl, rfl, rfl, rfl⟩ rfl rfl rfl rfl rfl (by kernel_rfl) Try.func6 (by kernel_rfl)
    (of_decide_eq_true (by kernel_rfl)) (by unfold Func.isWrapper; first | (rw [if_pos (by decide +kernel)]; kernel_rfl) | (rw [if_neg (by decide +kernel)]; exact ⟨rfl, rfl⟩))
    (fun os started H enc _ => lifted os started H enc)
#print axioms proved

end Go.Proofs.Ytdjhkacjgdnglaa.lawPteBytes
