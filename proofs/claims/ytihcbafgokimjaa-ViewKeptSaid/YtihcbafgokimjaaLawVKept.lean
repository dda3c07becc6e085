/-
  ViewKept: for every row of beginnings, every row of rewrites and every number the law returns true, and what was there stays. No condition.
-/
import Derived.Test.YtihcbafgokimjaaVStr
import Derived.Deep.Cut
namespace Go.Proofs.Ytihcbafgokimjaa.lawVKept
open Go.ChangeShapes Go.WideShapes Go.ChangeAt Go.RowKit
set_option maxHeartbeats 2000000

theorem may_no {f : Fr} (h : f.may = false) : f.owner < 0 ∨ (0 ≤ f.owner ∧ f.ty = 2) ∨ (0 ≤ f.owner ∧ f.ty ≠ 2 ∧ f.ty = 3) := by
  unfold Fr.may at h
  by_cases h0 : 0 ≤ f.owner
  · by_cases h2 : f.ty = 2
    · exact .inr (.inl ⟨h0, h2⟩)
    · by_cases h3 : f.ty = 3
      · exact .inr (.inr ⟨h0, h2, h3⟩)
      · simp [h0, h2, h3] at h
  · exact .inl (by omega)
theorem may_yes {f : Fr} (h : f.may = true) : 0 ≤ f.owner ∧ f.ty ≠ 2 ∧ f.ty ≠ 3 := by
  unfold Fr.may at h
  simp only [Bool.and_eq_true, decide_eq_true_eq, bne_iff_ne] at h
  exact ⟨h.1.1, h.1.2, h.2⟩

set_option maxRecDepth 100000 in
set_option maxHeartbeats 6000000 in
theorem walk (ps : Option Addr) (cs : Nat) (ss : List StartV) (pa : Option Addr) (cap : Nat) (l : List PokeV) (r q : Nat) (hr : r ≤ 255) (hq : (r : Int) % 16 = q) (w : World) (hs : StartsIn w ps ss) (hss : ss.length ≤ 9223372036854775807) (hp : PokesIn w pa l) (hl : l.length ≤ 9223372036854775807) :
    Calls Try.prog 7 #[.slice ps ss.length cs, .slice pa l.length cap, .int .u8 r] w fun e w' => e = .returned (.bool true) ∧ w.grownBy w' none := by
  obtain ⟨n, hn⟩ : ∃ n, n = min ss.length 8 := ⟨_, rfl⟩
  have hn8 : n ≤ 8 := by omega
  have HP := hid hp
  have HF := hid hp.fits
  have HB1 := hid (vBegin ps cs ss n w hs hn hss)
  have HMn := hid (beginK_n ss n n)
  obtain ⟨M, hM⟩ : ∃ M, beginK ss n n = M := ⟨_, rfl⟩
  rw [hM] at HB1 HMn
  have hq16 : q < 16 := by omega
  have hq0 : (0 : Int) ≤ q := by omega
  have hq16' : (q : Int) < 16 := by omega
  clear hM hs hp hn hss
  by_cases h64 : 64 < l.length
  · have h64' : (64 : Int) < l.length := by omega
    go_enter Try.func7, Try.ntmps7
    go_wp2_with (first
      | (go_at_call 19; refine HB1.out.mono ?_; rintro e w1 ⟨B, b, L, rfl, h1⟩; have H1 := hid h1; clear h1)
      | (go_at_call 20; refine (vNew_long B pa l.length cap _ M H1.out.m H1.out.ok.n1 h64).mono ?_; rintro e w3 ⟨rfl, rfl⟩))
    go_ret
    exact ⟨rfl, H1.out.grown⟩
  · have h64' : l.length ≤ 64 := by omega
    clear h64
    go_enter Try.func7, Try.ntmps7
    go_wp2_with (first
      | (go_at_call 19; refine HB1.out.mono ?_; rintro e w1 ⟨B, b, L, rfl, h1⟩; have H1 := hid h1; have hB1 := h1.m.lt; have hB0 := h1.farB; clear h1)
      | (go_at_call 20; refine (vNew B pa cap l _ M H1.out.m H1.out.ok.n1 h64' (HP.out.grown H1.out.grown)).mono ?_; rintro e w3 ⟨rfl, ⟨f3, hv3⟩, g3⟩; have HV3 := hid hv3; have H3 := hid (H1.out.more g3); have hs3 := hv3.top.lt; clear hv3 g3))
    go_loopw [12] (fun x wr => ∃ (k : Nat) (f : Int → Option Value), x = .int .i64 k ∧ k ≤ q ∧ VV wr (w1.heap.size + 1) w1.heap.size B (fun j => w1.heap.size + 2 ≤ j ∧ j < w3.heap.size) l k l.length f ∧ PM wr B (M.after l k) ∧ RM wr b M L ∧ w.grownBy wr none) (fun x _ => q - (intOf x).toNat)
    case atStart => exact ⟨0, f3, rfl, by omega, HV3.out, H3.out.m, H3.out.r, H3.out.grown⟩
    case round =>
      obtain ⟨k, f, rfl, hk, hv, hm, hrm, hg⟩ := hrel
      have HV := hid hv; have HM := hid hm; have HR := hid hrm; have HG := hid hg
      clear hv hm hrm hg
      have hk0 : (0 : Int) ≤ k := by omega
      by_cases hkq : k < q
      · have hkq' : (k : Int) < q := by omega
        go_wp2_with (go_at_call 28; refine (vRead _ _ B _ l k l.length f 0 0 1 _ (M.after l k) n HV.out HM.out (Mach.after_ok H1.out.ok l k) HF.out (by omega) h64' (by omega)).mono ?_; rintro e w5 ⟨v, rfl, hb, hr5⟩; obtain ⟨f5, hvv⟩ := hr5.view; have HV5 := hid hvv; have HM5 := hid hr5.mach; have HR5 := hid (HR.out.chg hr5.chg (by intro j hj e; rcases e with e | e | e <;> first | (have := H1.out.r.lt hj; omega) | exact H1.out.r.off H1.out.m (e ▸ hj))); have HG5 := hid (hr5.chg.grown HG.out (by intro j e; have := H1.out.grown.size; omega)); clear hvv hb hr5)
        go_roundw
        case rel => exact ⟨k + 1, f5, by go_num, by omega, HV5.out, HM5.out, HR5.out, HG5.out⟩
        case measure => simp [intOf]; omega
      · obtain rfl : k = q := by omega
        have hge : (k : Int) ≤ k := by omega
        go_wp2
        obtain ⟨M', hM'⟩ : ∃ M', M.after l k = M' := ⟨_, rfl⟩
        have HFr := hid (show ∀ j : Nat, _ from fun j => hM' ▸ M.after_fr l k j)
        have HOk' := hid (show M'.ok n from hM' ▸ Mach.after_ok H1.out.ok l k)
        have HNn := hid (show M'.n = L.n from hM' ▸ (Mach.after_n M l k).trans HR.out.hn)
        rw [hM'] at HM
        clear hM'
        have hLn : (L.n : Int) ≤ 9 := by have h1 := HMn.out; have h2 := HR.out.hn; omega
        simp only [hq]
        go_loopw [13] (fun x wr' => ∃ i : Nat, x = .int .i64 i ∧ i ≤ L.n ∧ VV wr' (w1.heap.size + 1) w1.heap.size B (fun j => w1.heap.size + 2 ≤ j ∧ j < w3.heap.size) l k l.length f ∧ PM wr' B M' ∧ RM wr' b M L ∧ w.grownBy wr' none) (fun x _ => L.n - (intOf x).toNat)
        case atStart => exact ⟨0, rfl, by omega, HV.out, HM.out, HR.out, HG.out⟩
        case round =>
          clear HV HM HR HG
          obtain ⟨i, rfl, hi, hv, hm, hrm, hg⟩ := hrel
          have e0 := hrm.slF
          have HV := hid hv; have HM := hid hm; have HR := hid hrm; have HG := hid hg
          clear hv hm hrm hg
          have hi0 : (0 : Int) ≤ i := by omega
          by_cases hil : i < L.n
          · have hil' : (i : Int) < L.n := by omega
            obtain ⟨fo, ft, fs⟩ := HFr.out i
            have HF2 := hid (Frame_yes B i _ M' n HM.out HOk'.out (by rw [HNn.out]; exact hil'))
            unfold Fr.head at HF2
            rw [fo, ft] at HF2
            cases hmay : (M.fr i).may with
            | true =>
              obtain ⟨m1, m2, m3⟩ := may_yes hmay
              have m2b : ((M.fr i).ty != 2) = true := by simp [m2]
              have m3b : ((M.fr i).ty != 3) = true := by simp [m3]
              clear fo ft fs hmay m2 m3
              go_wp2_with (go_at_call 29; refine HF2.out.mono ?_; rintro e w7 ⟨rfl, g7⟩; have G7 := hid (g7.trans (World.grownBy_alloc w7 (.cells #[.int .i64 (M.fr i).owner, .int .i64 (M.fr i).ty, .int .i64 (M'.fr i).cnt, .int .i64 (M'.fr i).tot] 71) none)); clear g7)
              go_roundw
              case rel => exact ⟨i + 1, by go_num, by omega, HV.out.grown G7.out, HM.out.grown G7.out (by simp), HR.out.grown G7.out, HG.out.trans G7.out⟩
              case measure => simp [intOf]; omega
            | false =>
              have hsame := fs hmay
              have HRd := hid (fun (W : World) (h : PM W B M') => (show Calls Try.prog 30 #[.pointer (some ⟨B, 0, none⟩), .int .i64 i, .int .i64 0, .int .i64 256] W fun e w' => ∃ v, e = .returned (.tuple #[v, .int .i64 0]) ∧ FreshB W ((M.fr i).part 0 256) v w' ∧ W.grownBy w' none from by
                have := Read_all B i 0 256 W M' n h HOk'.out (by omega)
                rw [read_page M' i (by rw [HNn.out]; exact hil'), hsame] at this
                exact this))
              have hmn := may_no hmay
              clear fo ft fs hmay hsame
              rcases hmn with m1 | ⟨m1, m2⟩ | ⟨m1, m2, m3⟩
              · have m1' : ¬ 0 ≤ (M.fr i).owner := by omega
                go_upto_region 21 with (first
                  | (go_at_call 29; refine HF2.out.mono ?_; rintro e w7 ⟨rfl, g7⟩; have G7 := hid (g7.trans (World.grownBy_alloc w7 (.cells #[.int .i64 (M.fr i).owner, .int .i64 (M.fr i).ty, .int .i64 (M'.fr i).cnt, .int .i64 (M'.fr i).tot] 71) none)); clear g7)
                  | (go_at_call 30; refine (HRd.out _ (HM.out.grown G7.out (by simp))).mono ?_; rintro e w8 ⟨v8, rfl, ⟨p8, c8, rfl, hk8⟩, g8⟩; have G8 := hid (G7.out.trans g8); have kc1 := (fun n => kept_string hk8 c8 _ (grownBy_drewN w8 n none)); rw [part_len] at kc1; rw [part_len]; clear hk8 g8))
                have HR8 := hid (HR.out.grown G8.out)
                clear e0
                have e1 := HR8.out.slB
                have e6 := HR8.out.sl hil
                have kc2 : ∀ n : Nat, (convert 31 9 (.slice (some ⟨L.g i, 0, none⟩) 256 (L.cg i))).run Try.prog (w8.drewN n) = .ok (.string ⟨((M.fr i).part 0 256).toArray⟩) (w8.drewN n) := fun n =>
                  vconv_row _ _ 0 256 _ _ (part_len _ _ _) fun q hq => by rw [part_get _ _ _ _ hq]; simpa using (HR8.out.byte hil hq)
                go_quiet (fail)
                clear e1 e6 kc1 kc2
                go_wp2
                go_roundw
                case rel => exact ⟨i + 1, by go_num, by omega, (HV.out.grown G8.out).grown (grownBy_drewN _ _ _), (HM.out.grown G8.out (by simp)).grown (grownBy_drewN _ _ none) (by simp), HR8.out.grown (grownBy_drewN _ _ _), (HG.out.trans G8.out).trans (grownBy_drewN _ _ _)⟩
                case measure => simp [intOf]; omega
              · have m2b : ((M.fr i).ty != 2) = false := by simp [m2]
                clear m2
                go_upto_region 21 with (first
                  | (go_at_call 29; refine HF2.out.mono ?_; rintro e w7 ⟨rfl, g7⟩; have G7 := hid (g7.trans (World.grownBy_alloc w7 (.cells #[.int .i64 (M.fr i).owner, .int .i64 (M.fr i).ty, .int .i64 (M'.fr i).cnt, .int .i64 (M'.fr i).tot] 71) none)); clear g7)
                  | (go_at_call 30; refine (HRd.out _ (HM.out.grown G7.out (by simp))).mono ?_; rintro e w8 ⟨v8, rfl, ⟨p8, c8, rfl, hk8⟩, g8⟩; have G8 := hid (G7.out.trans g8); have kc1 := (fun n => kept_string hk8 c8 _ (grownBy_drewN w8 n none)); rw [part_len] at kc1; rw [part_len]; clear hk8 g8))
                have HR8 := hid (HR.out.grown G8.out)
                clear e0
                have e1 := HR8.out.slB
                have e6 := HR8.out.sl hil
                have kc2 : ∀ n : Nat, (convert 31 9 (.slice (some ⟨L.g i, 0, none⟩) 256 (L.cg i))).run Try.prog (w8.drewN n) = .ok (.string ⟨((M.fr i).part 0 256).toArray⟩) (w8.drewN n) := fun n =>
                  vconv_row _ _ 0 256 _ _ (part_len _ _ _) fun q hq => by rw [part_get _ _ _ _ hq]; simpa using (HR8.out.byte hil hq)
                go_quiet (fail)
                clear e1 e6 kc1 kc2
                go_wp2
                go_roundw
                case rel => exact ⟨i + 1, by go_num, by omega, (HV.out.grown G8.out).grown (grownBy_drewN _ _ _), (HM.out.grown G8.out (by simp)).grown (grownBy_drewN _ _ none) (by simp), HR8.out.grown (grownBy_drewN _ _ _), (HG.out.trans G8.out).trans (grownBy_drewN _ _ _)⟩
                case measure => simp [intOf]; omega
              · have m2b : ((M.fr i).ty != 2) = true := by simp [m2]
                have m3b : ((M.fr i).ty != 3) = false := by simp [m3]
                clear m2 m3
                go_upto_region 21 with (first
                  | (go_at_call 29; refine HF2.out.mono ?_; rintro e w7 ⟨rfl, g7⟩; have G7 := hid (g7.trans (World.grownBy_alloc w7 (.cells #[.int .i64 (M.fr i).owner, .int .i64 (M.fr i).ty, .int .i64 (M'.fr i).cnt, .int .i64 (M'.fr i).tot] 71) none)); clear g7)
                  | (go_at_call 30; refine (HRd.out _ (HM.out.grown G7.out (by simp))).mono ?_; rintro e w8 ⟨v8, rfl, ⟨p8, c8, rfl, hk8⟩, g8⟩; have G8 := hid (G7.out.trans g8); have kc1 := (fun n => kept_string hk8 c8 _ (grownBy_drewN w8 n none)); rw [part_len] at kc1; rw [part_len]; clear hk8 g8))
                have HR8 := hid (HR.out.grown G8.out)
                clear e0
                have e1 := HR8.out.slB
                have e6 := HR8.out.sl hil
                have kc2 : ∀ n : Nat, (convert 31 9 (.slice (some ⟨L.g i, 0, none⟩) 256 (L.cg i))).run Try.prog (w8.drewN n) = .ok (.string ⟨((M.fr i).part 0 256).toArray⟩) (w8.drewN n) := fun n =>
                  vconv_row _ _ 0 256 _ _ (part_len _ _ _) fun q hq => by rw [part_get _ _ _ _ hq]; simpa using (HR8.out.byte hil hq)
                go_quiet (fail)
                clear e1 e6 kc1 kc2
                go_wp2
                go_roundw
                case rel => exact ⟨i + 1, by go_num, by omega, (HV.out.grown G8.out).grown (grownBy_drewN _ _ _), (HM.out.grown G8.out (by simp)).grown (grownBy_drewN _ _ none) (by simp), HR8.out.grown (grownBy_drewN _ _ _), (HG.out.trans G8.out).trans (grownBy_drewN _ _ _)⟩
                case measure => simp [intOf]; omega
          · obtain rfl : i = L.n := by omega
            have hge2 : (L.n : Int) ≤ L.n := by omega
            go_wp2_with (go_at_call 23; refine (vReads _ _ B _ l k l.length f _ HV.out).mono ?_; rintro e w7 ⟨rfl, rfl⟩)
            go_ret
            exact ⟨by simp, HG.out⟩
theorem main {H : Type} {enc : TypeId × Value → H} (v0 v1 v2 : Value) (W : World) (c0 : Flat.Came enc Try.prog W 0 (fun _ => true) true 43 v0) (c1 : Flat.Came enc Try.prog W 0 (fun _ => true) true 44 v1) (c2 : Flat.Came enc Try.prog W 0 (fun _ => true) true 5 v2) :
    Calls Try.prog 7 #[v0, v1, v2] W fun e w' => e = .returned (.bool true) ∧ W.grownBy w' none := by
  obtain ⟨ps, ss, cs, rfl, hss, hs⟩ := open_starts c0
  obtain ⟨pa, l, cap, rfl, hl, hp⟩ := open_pokes c1
  obtain ⟨r, rfl, hr⟩ := c2.int Try.underlying5
  obtain ⟨a0, a1⟩ := bounds_u8 hr
  obtain ⟨n, rfl⟩ := Int.eq_ofNat_of_zero_le a0
  exact walk ps cs ss pa cap l n (n % 16) (by omega) (by omega) W hs hss hp hl

theorem own : ownKnob Try.prog.godebug = none := by kernel_rfl
theorem laidOut : laidOutB Try.prog = true := by kernel_rfl

set_option maxRecDepth 100000 in
theorem lifted (os : Os) (started : os.Started) (H : Type) (enc : TypeId × Value → H) :
    ReturnsInHanded {} Try.checked os 7 .any (Rows.viewKeptSpec.pre6 enc Try.prog Try.f7 Rows.viewKeptRow.domain false) (Rows.viewKeptSpec.post enc Try.prog Try.f7 false true false false) := by
  refine returnsInHanded_of_change_sized (C := Try.checked) own started (by kernel_rfl) Try.func7
    (ChangeSpec.witness6 (enc := enc) (C := Try.checked) false ⟨#[], #[.slice none 0 0, .slice none 0 0, .int .u8 0], []⟩ 8 (by kernel_rfl) (by kernel_rfl) (by kernel_rfl) (by kernel_rfl)) ?_
  intro W base args ds gs before hval0 hW _ hsz0 _
  have hsz : (DataW.weightsEach Try.prog (Try.f7.params.toList ++ Rows.viewKeptSpec.plain.varTypes Try.prog) (ds ++ gs)).all (· ≤ reachBytes) = true := hsz0
  clear hsz0
  have hval : ∀ (j : Nat) t v, Try.f7.params[j]? = some t → args[j]? = some v → Value.okWide Try.prog W .any base t v := hval0
  have hW' := hW
  obtain ⟨p, q, hA0, hV, rfl, hfz, hnd⟩ := hW
  have hA : DataW.TrodAll enc Try.prog W 0 (fun _ => true) true Try.f7.params.toList args.toList ds p := hA0
  rw [Try.params7] at hA hval hsz
  obtain ⟨v0, vs0, d0, ds0, p0, q0, hargs, rfl, rfl, h0, r0⟩ := trodAll_cons hA
  obtain ⟨v1, vs1, d1, ds1, p1, q1, rfl, rfl, rfl, h1, r1⟩ := trodAll_cons r0
  obtain ⟨v2, vs2, d2, ds2, p2, q2, rfl, rfl, rfl, h2, r2⟩ := trodAll_cons r1
  obtain ⟨rfl, rfl, rfl⟩ := trodAll_nil r2
  obtain rfl : args = #[v0, v1, v2] := by cases args; simp_all
  obtain ⟨rfl, rfl⟩ := trodVars_none hV
  obtain ⟨ps0, ln0, cp0, rfl⟩ := okWide_slice Try.underlying43 (hval 0 43 v0 rfl rfl)
  have k0 := h0
  have lt0 : ∀ x ∈ p0, x.block < W.heap.size := by obtain ⟨m, hm⟩ := k0; exact DataW.trod_lt m _ _ _ hm
  have c0 : Flat.Came enc Try.prog W 0 (fun _ => true) true 43 (.slice ps0 ln0 cp0) := by
    obtain ⟨fuel, hf⟩ := h0
    exact ⟨fuel, _, hf, fun n hn => by
      have := List.all_eq_true.1 hsz n (DataW.weights_mem_each (j := 0) rfl rfl n hn)
      simpa using this⟩
  obtain ⟨ps1, ln1, cp1, rfl⟩ := okWide_slice Try.underlying44 (hval 1 44 v1 rfl rfl)
  have k1 := h1
  have lt1 : ∀ x ∈ p1, x.block < W.heap.size := by obtain ⟨m, hm⟩ := k1; exact DataW.trod_lt m _ _ _ hm
  have c1 : Flat.Came enc Try.prog W 0 (fun _ => true) true 44 (.slice ps1 ln1 cp1) := by
    obtain ⟨fuel, hf⟩ := h1
    exact ⟨fuel, _, hf, fun n hn => by
      have := List.all_eq_true.1 hsz n (DataW.weights_mem_each (j := 1) rfl rfl n hn)
      simpa using this⟩
  obtain ⟨a2, rfl, rfl, rfl, w2⟩ := open_int Try.underlying5 (hval 2 5 v2 rfl rfl) h2
  have k2 := h2
  have lt2 : ∀ x ∈ ([] : List MemPlace), x.block < W.heap.size := by obtain ⟨m, hm⟩ := k2; exact DataW.trod_lt m _ _ _ hm
  have c2 : Flat.Came enc Try.prog W 0 (fun _ => true) true 5 (.int .u8 a2) := by
    obtain ⟨fuel, hf⟩ := h2
    exact ⟨fuel, _, hf, fun n hn => by
      have := List.all_eq_true.1 hsz n (DataW.weights_mem_each (j := 2) rfl rfl n hn)
      simpa using this⟩
  clear hA0 hval0
  refine (main (.slice ps0 ln0 cp0) (.slice ps1 ln1 cp1) (.int .u8 a2) W c0 c1 c2).mono fun e W' ⟨he, hg⟩ => ?_
  subst he
  have bel := below_grown hg
  simp only [List.append_nil, List.nil_append] at hW'
  exact ⟨_, rfl, _, _, _, [], _, [], hW', trodAll_mk1 (shut_bool Try.underlying4 _), (trodAll_cons_mk (Below.trod laidOut (by kernel_rfl) (of_decide_eq_true (by kernel_rfl)) k0 bel lt0) (trodAll_cons_mk (Below.trod laidOut (by kernel_rfl) (of_decide_eq_true (by kernel_rfl)) k1 bel lt1) (trodAll_cons_mk (Below.trod laidOut (by kernel_rfl) (of_decide_eq_true (by kernel_rfl)) k2 bel lt2) trodAll_mk0))), rfl, bel.frame _, fun h => by cases h⟩

theorem proved : Rows.ViewKeptSaid :=
  OpenClaim.holds_of_wide 7 Try.f7 rfl rfl rfl rfl rfl rfl rfl ⟨rfl, rfl, rfl, rfl, rfl⟩ rfl rfl rfl rfl rfl (by kernel_rfl) Try.func7 (by kernel_rfl)
    (of_decide_eq_true (by kernel_rfl)) (by unfold Func.isWrapper; first | (rw [if_pos (by decide +kernel)]; kernel_rfl) | (rw [if_neg (by decide +kernel)]; exact ⟨rfl, rfl⟩))
    (fun os started H enc _ => lifted os started H enc)
#print axioms proved
end Go.Proofs.Ytihcbafgokimjaa.lawVKept
