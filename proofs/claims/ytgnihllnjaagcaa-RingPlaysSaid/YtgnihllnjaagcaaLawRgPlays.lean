/-
  RingPlays: for every page, every number of a frame and every script of calls the law returns true, and what was there stays. No condition.
-/
import Derived.Test.YtgnihllnjaagcaaRgOne
import Derived.Test.YtgnihllnjaagcaaRgF
import Derived.Test.YtgnihllnjaagcaaRgO
import Derived.Test.YtgnihllnjaagcaaLift
import Derived.ProofKit
import Derived.OpenShut
import Derived.Deep.Cut
import Derived.Deep.RegionWith
set_option linter.unusedSimpArgs false
set_option linter.unusedVariables false
namespace Go.Proofs.Ytgnihllnjaagcaa.lawRgPlays
open Go.ChangeShapes Go.WideShapes Go.ChangeAt Go.RowKit
set_option maxHeartbeats 4000000

theorem came_cap {H : Type} {enc : TypeId × Value → H} {w : World} {p : Option Addr} {len cap : Nat} (h : Flat.Came enc Try.prog w 0 (fun _ => true) true 31 (.slice p len cap)) : len ≤ cap := by
  obtain ⟨fuel, x, h, _⟩ := h
  rcases Go.Deep.open_slice Try.underlying31 h with ⟨hcs, _⟩ | ⟨a, len', cap', m, n, D, Pl, hcs, _, hl, _⟩
  · simp only [List.cons.injEq, Value.slice.injEq, and_true] at hcs
    omega
  · simp only [List.cons.injEq, Value.slice.injEq, and_true] at hcs
    omega
theorem quiet_tail {P : Program} {md : Region.Mode} {ops : Array Oper} {Q' : Exit → Act → World → Prop} {a : Act} {w : World} {listed : Array Bool} (k : Nat) {fuel : Nat} (hf : fuel = (ops.toList.drop k).length) (hs : Region.noSelect ops = true) (hlex : Region.lexFrom md ops (ops.toList.drop k).length k listed = true)
    (h : wpQuiet P ops (fun w' => ∃ n, w' = w.drewN n) (fun a' => ∀ w', (∃ n, w' = w.drewN n) → Q' .normal a' w') (ops.toList.drop k) a) : wpAny P md ops Q' fuel listed a w := by
  subst hf
  exact wpAny_of_quiet (Q := fun a' => ∀ w', (∃ n, w' = w.drewN n) → Q' .normal a' w') (C := fun w' => ∃ n, w' = w.drewN n) (fun _ w' hw' h => h w' hw') _ _ _ _ ⟨0, rfl⟩ (wpAnyQ_lex hs _ k listed a (fun j => by simp) hlex h)
set_option maxRecDepth 100000 in
theorem walk (pa : Option Addr) (cap : Nat) (l : List UInt8) (mfn : Int) (po : Option Addr) (leno capo : Nat) (w : World) (hin : InBytes w pa l) (hl : l.length ≤ 140737488351232) (hcap : l.length ≤ cap) (hlo : leno ≤ 140737488355328) (hop : ROpsIn w po leno) :
    Calls Try.prog 5 #[.slice pa l.length cap, .int .i64 mfn, .slice po leno capo] w fun e w' => e = .returned (.bool true) ∧ w.grownBy w' none := by
  have HB := hid (rgBegin pa cap l w hin hl hcap)
  have HOk0 := hid (rgStart_ok l)
  have HOp := hid hop
  clear hin hl hcap hop
  by_cases hm : mfn < 0 ∨ 256 ≤ mfn
  · go_enter Try.func5, Try.ntmps5
    go_wp2_with (first
      | (go_at_call 28; refine HB.out.mono ?_; rintro e w1 ⟨B, b, L, rfl, h1⟩; have H1 := hid h1; clear h1)
      | (go_at_call 29; refine (rgNew_no mfn _ hm).mono ?_; rintro e w2 ⟨rfl, rfl⟩)
      | (go_at_call 30; refine (rcNew_no mfn _ hm).mono ?_; rintro e w3 ⟨rfl, rfl⟩)
      | (go_at_call 31; refine (rAwake _).mono ?_; rintro e w4 ⟨rfl, rfl⟩))
    go_ret
    exact ⟨rfl, H1.out.grown⟩
  · have h0 : 0 ≤ mfn := by omega
    have h8 : mfn < 256 := by omega
    clear hm
    go_enter Try.func5, Try.ntmps5
    go_wp2_with (first
      | (go_at_call 28; refine HB.out.mono ?_; rintro e w1 ⟨B, b, L, rfl, h1⟩; have H1 := hid h1; clear h1)
      | (go_at_call 29; refine (rgNew_yes mfn _ h0 h8).mono ?_; rintro e w2 ⟨rfl, hk2, g2⟩; have HK2 := hid hk2; have H2 := hid (H1.out.more g2); clear hk2 g2)
      | (go_at_call 30; refine (rcNew_yes mfn _ h0 h8).mono ?_; rintro e w3 ⟨rfl, hc3, g3⟩; have HC3 := hid hc3; have HK3 := hid (HK2.out.grown g3 (by simp)); have H3 := hid (H2.out.more g3); clear hc3 g3))
    have HS := hid (show RS w w3 B b w1.heap.size w2.heap.size (rgStart l) (Rg.new mfn) from
      ⟨H3.out.m, ⟨L, H3.out.r, H3.out.far⟩, HK3.out, HC3.out, ⟨H3.out.farB, H1.out.grown.size, H2.out.grown.size⟩, H3.out.grown⟩)
    obtain ⟨K, hK⟩ : ∃ K, w1.heap.size = K := ⟨_, rfl⟩
    obtain ⟨C, hC⟩ : ∃ C, w2.heap.size = C := ⟨_, rfl⟩
    rw [hK, hC] at HS ⊢
    have HG0 := hid (Rg.new_ok mfn)
    have HMf0 := hid (show (Rg.new mfn).mfn = mfn from rfl)
    generalize Rg.new mfn = gs at *
    generalize rgStart l = Ms at *
    clear H1 H2 H3 HK2 HK3 HC3 hK hC HB
    go_loopw [14] (fun x wr => ∃ (i : Nat) (M : Mach) (g : Rg), x = .int .i64 i ∧ i ≤ leno ∧ RS w wr B b K C M g ∧ M.ok 0 ∧ g.ok ∧ g.mfn = mfn) (fun x _ => leno - (intOf x).toNat)
    case atStart => exact ⟨0, Ms, gs, rfl, by omega, HS.out, HOk0.out, HG0.out, HMf0.out⟩
    case round =>
      clear HS HOk0 HG0 HMf0
      obtain ⟨i, M, g, rfl, hi, hs, hok, hg, hmf⟩ := hrel
      have HS := hid hs; have HOk := hid hok; have HG := hid hg; have HMf := hid hmf
      clear hs hok hg hmf
      have hi0 : (0 : Int) ≤ i := by omega
      by_cases hil : i < leno
      · as_aux_lemma =>
          have hil' : (i : Int) < leno := by omega
          obtain ⟨ob, oo, x, off, bp, bl, bc, pp, ps, pc, rfl, hob, d0, d1, d2, d3, hin, hbl, hp, hpl, hoff⟩ := HOp.out i hil
          have gw := HS.out.g
          have k0 := gw.cell d0 (by simp); have k1 := gw.cell d1 (by simp); have k2 := gw.cell d2 (by simp); have k3 := gw.cell d3 (by simp)
          have HIn := hid hin; have HP := hid hp
          have HSd := hid (HS.out.more (grownBy_drew wr none))
          clear d0 d1 d2 d3 gw hin hp
          go_wp2
          refine wp_region_any (by kernel_rfl) ?_
          change wpAny _ _ _ _ _ _ _ (World.drew _)
          refine wpAny_take (i := 0) (v := .pointer (some ⟨B, 0, none⟩)) rfl (by kernel_rfl) (by kernel_rfl) (by kernel_rfl) (fun _ _ _ h => h) (Or.inl ⟨by rfl, fun w => by go_simp⟩) ?_
          try dsimp only [Act.put]
          try simp only [List.setIfInBounds_toArray, List.set_cons_zero, List.set_cons_succ]
          refine wpAny_take (i := 1) (v := .pointer (some ⟨b, 0, none⟩)) rfl (by kernel_rfl) (by kernel_rfl) (by kernel_rfl) (fun _ _ _ h => h) (Or.inl ⟨by rfl, fun w => by go_simp⟩) ?_
          try dsimp only [Act.put]
          try simp only [List.setIfInBounds_toArray, List.set_cons_zero, List.set_cons_succ]
          refine wpAny_take (i := 2) (v := .pointer (some ⟨K, 0, none⟩)) rfl (by kernel_rfl) (by kernel_rfl) (by kernel_rfl) (fun _ _ _ h => h) (Or.inl ⟨by rfl, fun w => by go_simp⟩) ?_
          try dsimp only [Act.put]
          try simp only [List.setIfInBounds_toArray, List.set_cons_zero, List.set_cons_succ]
          refine wpAny_take (i := 3) (v := .pointer (some ⟨C, 0, none⟩)) rfl (by kernel_rfl) (by kernel_rfl) (by kernel_rfl) (fun _ _ _ h => h) (Or.inl ⟨by rfl, fun w => by go_simp⟩) ?_
          try dsimp only [Act.put]
          try simp only [List.setIfInBounds_toArray, List.set_cons_zero, List.set_cons_succ]
          refine wpAny_take (i := 4) (v := .slice (some ⟨ob, oo, none⟩) leno capo) rfl (by kernel_rfl) (by kernel_rfl) (by kernel_rfl) (fun _ _ _ h => h) (Or.inl ⟨by rfl, fun w => by go_simp⟩) ?_
          try dsimp only [Act.put]
          try simp only [List.setIfInBounds_toArray, List.set_cons_zero, List.set_cons_succ]
          refine wpAny_take (i := 5) (v := .int .i64 i) rfl (by kernel_rfl) (by kernel_rfl) (by kernel_rfl) (fun _ _ _ h => h) (Or.inl ⟨by rfl, fun w => by go_simp⟩) ?_
          try dsimp only [Act.put]
          try simp only [List.setIfInBounds_toArray, List.set_cons_zero, List.set_cons_succ]
          refine wpAny_take (i := 6) (v := .pointer (some ⟨ob, oo + i * 4, none⟩)) rfl (by kernel_rfl) (by kernel_rfl) (by kernel_rfl) (fun _ _ _ h => h) (Or.inl ⟨by rfl, fun w => by go_simp⟩) ?_
          try dsimp only [Act.put]
          try simp only [List.setIfInBounds_toArray, List.set_cons_zero, List.set_cons_succ]
          refine wpAny_ready (rs := [7]) (by kernel_rfl) (by simp) ?_
          refine AllReady.cons rfl (fun K0 hK0 => ?_) AllReady.nil
          go_simp
          refine hK0 _ _ ?_
          clear hK0 K0
          try dsimp only [Act.put]
          try simp only [List.setIfInBounds_toArray, List.set_cons_zero, List.set_cons_succ]
          refine wpAny_ready (rs := [8]) (by kernel_rfl) (by simp) ?_
          refine AllReady.cons rfl (fun K0 hK0 => ?_) AllReady.nil
          go_simp
          refine (rgPlay w _ B b K C M g 0 x off bp bl bc pp ps pc HSd.out HOk.out HG.out HP.out HIn.out hbl hoff).mono ?_
          rintro e w5 ⟨rfl, M5, g5, hs5, hok5, hg5, hm5, _⟩
          have HS5 := hid hs5; have HOk5 := hid hok5; have HG5 := hid hg5; have HM5 := hid (hm5.trans HMf.out)
          refine hK0 _ _ ?_
          clear hK0 K0
          try dsimp only [Act.put]
          try simp only [List.setIfInBounds_toArray, List.set_cons_zero, List.set_cons_succ]
          have e1 := hs5.c.c1; have e2 := hs5.c.c2
          have t1 : (g5.tk != g5.tk) = false := by simp
          have t2 : (g5.ld != g5.ld) = false := by simp
          have t3 : (g5.wait != g5.wait) = false := by simp
          have t4 : (g5.mfn != mfn) = false := by simp [HM5.out]
          have HTk := hid (fun n => rgTaken K g5 (w5.drewN n) (HS5.out.more (grownBy_drewN w5 n none)).k)
          have HLd := hid (fun n => rgLaid K g5 (w5.drewN n) (HS5.out.more (grownBy_drewN w5 n none)).k)
          have HWt := hid (fun n => rgWaitingD K g5 (w5.drewN n) (HS5.out.more (grownBy_drewN w5 n none)).k)
          have HWc := hid (fun n => rcWaiting C g5 (w5.drewN n) (HS5.out.more (grownBy_drewN w5 n none)).c)
          have HMn := hid (fun n => rgMfn K g5 (w5.drewN n) (HS5.out.more (grownBy_drewN w5 n none)).k)
          clear hs5 hok5 hg5 hm5 k0 k1 k2 k3
          refine quiet_tail 9 (by kernel_rfl) (by kernel_rfl) (by kernel_rfl) ?_
          simp only [List.toList_toArray, List.drop_succ_cons, List.drop_zero]
          repeat (go_big_quiet_step (first
            | (go_at_call 33; exact Calls.quiet_of_same (v := .int .u16 g5.tk) ((HTk.out _).mono (by rintro e w9 ⟨rfl, rfl⟩; exact ⟨rfl, rfl⟩)))
            | (go_at_call 34; exact Calls.quiet_of_same (v := .int .u16 g5.ld) ((HLd.out _).mono (by rintro e w9 ⟨rfl, rfl⟩; exact ⟨rfl, rfl⟩)))
            | (go_at_call 35; exact Calls.quiet_of (v := .int .i64 g5.wait) (HWt.out _))
            | (go_at_call 36; exact Calls.quiet_of (v := .int .i64 g5.wait) (HWc.out _))
            | (go_at_call 37; exact Calls.quiet_of_same (v := .int .i64 g5.mfn) ((HMn.out _).mono (by rintro e w9 ⟨rfl, rfl⟩; exact ⟨rfl, rfl⟩)))))
          refine wpQuiet_nil ?_
          intro _ hw'
          obtain ⟨nq, rfl⟩ := hw'
          go_wp2
          go_roundw
          case rel => exact ⟨i + 1, M5, g5, by go_num, by omega, HS5.out.more (grownBy_drewN _ _ none), HOk5.out, HG5.out, HM5.out⟩
          case measure => simp [intOf]; omega
      · as_aux_lemma =>
          obtain rfl : i = leno := by omega
          have hge : (i : Int) ≤ i := by omega
          have HRd := hid (show Calls Try.prog 38 #[.pointer (some ⟨B, 0, none⟩), .int .i64 0, .int .i64 0, .int .i64 256] wr fun e w' => ∃ v, e = .returned (.tuple #[v, .int .i64 0]) ∧ FreshB wr ((M.fr 0).part 0 256) v w' ∧ wr.grownBy w' none from by
            have := Read_all B 0 0 256 wr M 0 HS.out.m HOk.out (by omega)
            rw [show M.read 0 0 256 = ((M.fr 0).part 0 256, 0) from read_page M 0 (by have := HOk.out.n1; omega)] at this
            exact this)
          go_wp2_with (go_at_call 38; refine HRd.out.mono ?_; rintro e w8 ⟨v8, rfl, ⟨p8, c8, rfl, hk8⟩, g8⟩; have G8 := hid g8; have kc1 := (fun n => kept_string hk8 c8 _ (grownBy_drewN w8 n none)); rw [part_len] at kc1; rw [part_len]; clear hk8 g8)
          obtain ⟨L, hL, hf⟩ := HS.out.r
          have HR8 := hid (hL.grown G8.out)
          have h0n : 0 < L.n := by have h1 := hL.hn; have h2 := HOk.out.n1; omega
          have h0n' : (0 : Int) < L.n := by omega
          have e1 := HR8.out.slB
          have e6 := HR8.out.sl h0n
          have kc2 : ∀ n : Nat, (convert 31 9 (.slice (some ⟨L.g 0, 0, none⟩) 256 (L.cg 0))).run Try.prog (w8.drewN n) = .ok (.string ⟨((M.fr 0).part 0 256).toArray⟩) (w8.drewN n) := fun n =>
            vconv_row _ _ 0 256 _ _ (part_len _ _ _) fun q hq => by rw [part_get _ _ _ _ hq]; simpa using (HR8.out.byte h0n hq)
          have HAw := hid (fun n => rAwake (w8.drewN n))
          clear hL hf
          go_quiet (first | (go_at_call 31; exact Calls.quiet_of_same (v := .bool true) (HAw.out _)))
          all_goals go_wp2
          all_goals go_ret
          all_goals exact ⟨rfl, (HS.out.g.trans G8.out).trans (grownBy_drewN _ _ none)⟩
theorem main {H : Type} {enc : TypeId × Value → H} (v0 v1 v2 : Value) (W : World) (c0 : Flat.Came enc Try.prog W 0 (fun _ => true) true 31 v0) (c1 : Flat.Came enc Try.prog W 0 (fun _ => true) true 3 v1) (c2 : Flat.Came enc Try.prog W 0 (fun _ => true) true 59 v2) :
    Calls Try.prog 5 #[v0, v1, v2] W fun e w' => e = .returned (.bool true) ∧ W.grownBy w' none := by
  obtain ⟨pa, l, cap, rfl, hin, hl⟩ := came_bytes c0
  obtain ⟨mfn, rfl, _⟩ := c1.int Try.underlying3
  obtain ⟨po, leno, capo, rfl, hlo, hop⟩ := open_rops c2
  exact walk pa cap l mfn po leno capo W hin hl (came_cap c0) hlo hop

theorem own : ownKnob Try.prog.godebug = none := by kernel_rfl
theorem laidOut : laidOutB Try.prog = true := by kernel_rfl

set_option maxRecDepth 100000 in
theorem lifted (os : Os) (started : os.Started) (H : Type) (enc : TypeId × Value → H) :
    ReturnsInHanded {} Try.checked os 5 .any (Rows.ringPlaysSpec.pre6 enc Try.prog Try.f5 Rows.ringPlaysRow.domain false) (Rows.ringPlaysSpec.post enc Try.prog Try.f5 false true false false) := by
  refine returnsInHanded_of_change_sized (C := Try.checked) own started (by kernel_rfl) Try.func5
    (ChangeSpec.witness6 (enc := enc) (C := Try.checked) false ⟨#[], #[.slice none 0 0, .int .i64 0, .slice none 0 0], []⟩ 8 (by kernel_rfl) (by kernel_rfl) (by kernel_rfl) (by kernel_rfl)) ?_
  intro W base args ds gs before hval0 hW _ hsz0 _
  have hsz : (DataW.weightsEach Try.prog (Try.f5.params.toList ++ Rows.ringPlaysSpec.plain.varTypes Try.prog) (ds ++ gs)).all (· ≤ reachBytes) = true := hsz0
  clear hsz0
  have hval : ∀ (j : Nat) t v, Try.f5.params[j]? = some t → args[j]? = some v → Value.okWide Try.prog W .any base t v := hval0
  have hW' := hW
  obtain ⟨p, q, hA0, hV, rfl, hfz, hnd⟩ := hW
  have hA : DataW.TrodAll enc Try.prog W 0 (fun _ => true) true Try.f5.params.toList args.toList ds p := hA0
  rw [Try.params5] at hA hval hsz
  obtain ⟨v0, vs0, d0, ds0, p0, q0, hargs, rfl, rfl, h0, r0⟩ := trodAll_cons hA
  obtain ⟨v1, vs1, d1, ds1, p1, q1, rfl, rfl, rfl, h1, r1⟩ := trodAll_cons r0
  obtain ⟨v2, vs2, d2, ds2, p2, q2, rfl, rfl, rfl, h2, r2⟩ := trodAll_cons r1
  obtain ⟨rfl, rfl, rfl⟩ := trodAll_nil r2
  obtain rfl : args = #[v0, v1, v2] := by cases args; simp_all
  obtain ⟨rfl, rfl⟩ := trodVars_none hV
  obtain ⟨ps0, ln0, cp0, rfl⟩ := okWide_slice Try.underlying31 (hval 0 31 v0 rfl rfl)
  have k0 := h0
  have lt0 : ∀ x ∈ p0, x.block < W.heap.size := by obtain ⟨m, hm⟩ := k0; exact DataW.trod_lt m _ _ _ hm
  have c0 : Flat.Came enc Try.prog W 0 (fun _ => true) true 31 (.slice ps0 ln0 cp0) := by
    obtain ⟨fuel, hf⟩ := h0
    exact ⟨fuel, _, hf, fun n hn => by
      have := List.all_eq_true.1 hsz n (DataW.weights_mem_each (j := 0) rfl rfl n hn)
      simpa using this⟩
  obtain ⟨a1, rfl, rfl, rfl, w1⟩ := open_int Try.underlying3 (hval 1 3 v1 rfl rfl) h1
  have k1 := h1
  have lt1 : ∀ x ∈ ([] : List MemPlace), x.block < W.heap.size := by obtain ⟨m, hm⟩ := k1; exact DataW.trod_lt m _ _ _ hm
  have c1 : Flat.Came enc Try.prog W 0 (fun _ => true) true 3 (.int .i64 a1) := by
    obtain ⟨fuel, hf⟩ := h1
    exact ⟨fuel, _, hf, fun n hn => by
      have := List.all_eq_true.1 hsz n (DataW.weights_mem_each (j := 1) rfl rfl n hn)
      simpa using this⟩
  obtain ⟨ps2, ln2, cp2, rfl⟩ := okWide_slice Try.underlying59 (hval 2 59 v2 rfl rfl)
  have k2 := h2
  have lt2 : ∀ x ∈ p2, x.block < W.heap.size := by obtain ⟨m, hm⟩ := k2; exact DataW.trod_lt m _ _ _ hm
  have c2 : Flat.Came enc Try.prog W 0 (fun _ => true) true 59 (.slice ps2 ln2 cp2) := by
    obtain ⟨fuel, hf⟩ := h2
    exact ⟨fuel, _, hf, fun n hn => by
      have := List.all_eq_true.1 hsz n (DataW.weights_mem_each (j := 2) rfl rfl n hn)
      simpa using this⟩
  clear hA0 hval0
  refine (main (.slice ps0 ln0 cp0) (.int .i64 a1) (.slice ps2 ln2 cp2) W c0 c1 c2).mono fun e W' ⟨he, hg⟩ => ?_
  subst he
  have bel := below_grown' hg
  simp only [List.append_nil, List.nil_append] at hW'
  exact ⟨_, rfl, _, _, _, [], _, [], hW', trodAll_mk1 (shut_bool Try.underlying4 _), (trodAll_cons_mk (Below.trod laidOut (by kernel_rfl) (of_decide_eq_true (by kernel_rfl)) k0 bel lt0) (trodAll_cons_mk (Below.trod laidOut (by kernel_rfl) (of_decide_eq_true (by kernel_rfl)) k1 bel lt1) (trodAll_cons_mk (Below.trod laidOut (by kernel_rfl) (of_decide_eq_true (by kernel_rfl)) k2 bel lt2) trodAll_mk0))), rfl, bel.frame _, fun h => by cases h⟩

theorem proved : Rows.RingPlaysSaid :=
  OpenClaim.holds_of_wide 5 Try.f5 rfl rfl rfl rfl rfl rfl rfl ⟨rfl, rfl, rfl, rfl, rfl⟩ rfl rfl rfl rfl rfl (by kernel_rfl) Try.func5 (by kernel_rfl)
    (of_decide_eq_true (by kernel_rfl)) (by unfold Func.isWrapper; first | (rw [if_pos (by decide +kernel)]; kernel_rfl) | (rw [if_neg (by decide +kernel)]; exact ⟨rfl, rfl⟩))
    (fun os started H enc _ => lifted os started H enc)
#print axioms proved
end Go.Proofs.Ytgnihllnjaagcaa.lawRgPlays
