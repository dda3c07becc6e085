/-
  RingClamps: for every page and every script of calls the law returns true, and what was there stays. No condition.
-/
import Derived.Test.YtgnihllnjaagcaaRgOne
import Derived.Test.YtgnihllnjaagcaaRgF
import Derived.Test.YtgnihllnjaagcaaRgO
import Derived.Test.YtgnihllnjaagcaaLift
import Derived.ProofKit
import Derived.OpenShut
import Derived.Deep.Cut
set_option linter.unusedSimpArgs false
set_option linter.unusedVariables false
namespace Go.Proofs.Ytgnihllnjaagcaa.lawRgClamps
open Go.ChangeShapes Go.WideShapes Go.ChangeAt Go.RowKit
set_option maxHeartbeats 8000000

theorem delta {g g' : Rg} (hg : g.ok) (h' : g'.ok) (h : RgStep g g') : ∃ dt dl : Int, IntKind.u16.wrap (g'.tk - g.tk) = dt ∧ IntKind.u16.wrap (g'.ld - g.ld) = dl ∧ 0 ≤ dt ∧ dt ≤ 1 ∧ 0 ≤ dl ∧ dl ≤ 1 ∧ g.opn + dt - dl = g'.opn := by
  refine ⟨_, _, rfl, rfl, ?_⟩
  have := hg.t0; have := hg.t1; have := hg.l0; have := hg.l1
  have ho := hg.o; have ho' := h'.o
  unfold Rg.opn at *
  rcases h with ⟨e1, e2⟩ | ⟨e1, e2, e3⟩ | ⟨e1, e2, e3⟩
  · rw [e1, e2]; simp only [wrap16]; omega
  · unfold Rg.opn at e3
    rw [e1, e2]; simp only [wrap16] at *; omega
  · unfold Rg.opn at e3
    rw [e1, e2]; simp only [wrap16] at *; omega
theorem came_cap {H : Type} {enc : TypeId × Value → H} {w : World} {p : Option Addr} {len cap : Nat} (h : Flat.Came enc Try.prog w 0 (fun _ => true) true 31 (.slice p len cap)) : len ≤ cap := by
  obtain ⟨fuel, x, h, _⟩ := h
  rcases Go.Deep.open_slice Try.underlying31 h with ⟨hcs, _⟩ | ⟨a, len', cap', m, n, D, Pl, hcs, _, hl, _⟩
  · simp only [List.cons.injEq, Value.slice.injEq, and_true] at hcs
    omega
  · simp only [List.cons.injEq, Value.slice.injEq, and_true] at hcs
    omega
set_option maxRecDepth 100000 in
theorem walk (pa : Option Addr) (cap : Nat) (l : List UInt8) (po : Option Addr) (leno capo : Nat) (w : World) (hin : InBytes w pa l) (hl : l.length ≤ 140737488351232) (hcap : l.length ≤ cap) (hlo : leno ≤ 140737488355328) (hop : ROpsIn w po leno) :
    Calls Try.prog 6 #[.slice pa l.length cap, .slice po leno capo] w fun e w' => e = .returned (.bool true) ∧ w.grownBy w' none := by
  have HB := hid (rgBegin pa cap l w hin hl hcap)
  have HOk0 := hid (rgStart_ok l)
  have HOp := hid hop
  clear hin hl hcap hop
  go_enter Try.func6, Try.ntmps6
  go_wp2_with (first
    | (go_at_call 28; refine HB.out.mono ?_; rintro e w1 ⟨B, b, L, rfl, h1⟩; have H1 := hid h1; clear h1)
    | (go_at_call 29; refine (rgNew_yes 0 _ (by omega) (by omega)).mono ?_; rintro e w2 ⟨rfl, hk2, g2⟩; have HK2 := hid hk2; have H2 := hid (H1.out.more g2); clear hk2 g2)
    | (go_at_call 30; refine (rcNew_yes 0 _ (by omega) (by omega)).mono ?_; rintro e w3 ⟨rfl, hc3, g3⟩; have HC3 := hid hc3; have HK3 := hid (HK2.out.grown g3 (by simp)); have H3 := hid (H2.out.more g3); clear hc3 g3))
  have HS := hid (show RS w w3 B b w1.heap.size w2.heap.size (rgStart l) (Rg.new 0) from
    ⟨H3.out.m, ⟨L, H3.out.r, H3.out.far⟩, HK3.out, HC3.out, ⟨H3.out.farB, H1.out.grown.size, H2.out.grown.size⟩, H3.out.grown⟩)
  obtain ⟨K, hK⟩ : ∃ K, w1.heap.size = K := ⟨_, rfl⟩
  obtain ⟨C, hC⟩ : ∃ C, w2.heap.size = C := ⟨_, rfl⟩
  rw [hK, hC] at HS ⊢
  have HG0 := hid (Rg.new_ok 0)
  have HO0 := hid (show (Rg.new 0).opn = 0 by show IntKind.u16.wrap (0 - 0) = 0; rw [wrap16]; rfl)
  generalize Rg.new 0 = gs at *
  generalize rgStart l = Ms at *
  clear H1 H2 H3 HK2 HK3 HC3 hK hC HB
  go_loopw [12, 13, 14] (fun p q x wr => ∃ (i : Nat) (t d : Int) (M : Mach) (g : Rg), p = .int .i64 t ∧ q = .int .i64 d ∧ x = .int .i64 i ∧ i ≤ leno ∧ 0 ≤ d ∧ t - d = g.opn ∧ t ≤ i ∧ RS w wr B b K C M g ∧ M.ok 0 ∧ g.ok) (fun _ _ x _ => leno - (intOf x).toNat)
  case atStart => exact ⟨0, 0, 0, Ms, gs, rfl, rfl, rfl, by omega, by omega, by rw [HO0.out]; rfl, by omega, HS.out, HOk0.out, HG0.out⟩
  case round =>
    clear HS HOk0 HG0 HO0
    obtain ⟨i, t, d, M, g, rfl, rfl, rfl, hi, hd0, htd, hti, hs, hok, hg⟩ := hrel
    have HS := hid hs; have HOk := hid hok; have HG := hid hg; have HTD := hid htd
    have hop0 := g.opn_ge
    have hop8 := hg.o
    have hdt : d ≤ t := by omega
    have hti2 := hti
    have hi0 : (0 : Int) ≤ i := by omega
    by_cases hil : i < leno
    · have hil' : (i : Int) < leno := by omega
      obtain ⟨ob, oo, x, off, bp, bl, bc, pp, ps, pc, rfl, hob, d0, d1, d2, d3, hin, hbl, hp, hpl, hoff⟩ := HOp.out i hil
      have gw := HS.out.g
      have k0 := gw.cell d0 (by simp); have k1 := gw.cell d1 (by simp); have k2 := gw.cell d2 (by simp); have k3 := gw.cell d3 (by simp)
      have HIn := hid hin; have HP := hid hp
      have HT0 := hid (rgTaken K g wr HS.out.k)
      have HL0 := hid (rgLaid K g wr HS.out.k)
      have HHop := hid (⟨hop0, hop8, hdt, hti, hd0, htd⟩ : 0 ≤ g.opn ∧ g.opn ≤ 8 ∧ d ≤ t ∧ t ≤ (i : Int) ∧ 0 ≤ d ∧ t - d = g.opn)
      clear d0 d1 d2 d3 gw hin hp hs hok hg htd hop0 hop8
      go_wp2_with (first
        | (go_at_call 33; first | (with_reducible refine HT0.out.mono ?_; rintro e w6 ⟨rfl, rfl⟩) | (with_reducible refine HT5.out.mono ?_; rintro e w6 ⟨rfl, rfl⟩))
        | (go_at_call 34; first | (with_reducible refine HL0.out.mono ?_; rintro e w6 ⟨rfl, rfl⟩) | (with_reducible refine HL5.out.mono ?_; rintro e w6 ⟨rfl, rfl⟩))
        | (go_at_call 32; refine (rgPlay w _ B b K C M g 0 x off bp bl bc pp ps pc HS.out HOk.out HG.out HP.out HIn.out hbl hoff).mono ?_; rintro e w5 ⟨rfl, M5, g5, hs5, hok5, hg5, _, hst5⟩; have HS5 := hid hs5; have HOk5 := hid hok5; have HG5 := hid hg5; have HT5 := hid (rgTaken K g5 w5 hs5.k); have HL5 := hid (rgLaid K g5 w5 hs5.k); obtain ⟨dt, dl, hdt5, hdl5, q0, q1, q2, q3, hrel5⟩ := delta HG.out hg5 hst5; have HRel := hid hrel5; have a1 := hg5.o; have a2 := g5.opn_ge; have a3 := HHop.out; have b1 : IntKind.i64.wrap (t + dt) = t + dt := (IntWalk.i64_in _ (by omega)); have b2 : IntKind.i64.wrap (d + dl) = d + dl := (IntWalk.i64_in _ (by omega)); have b3 : d + dl ≤ t + dt := (by omega); have b4 : IntKind.i64.wrap (t + dt - (d + dl)) = t + dt - (d + dl) := (IntWalk.i64_in _ (by omega)); have b5 : t + dt - (d + dl) ≤ 8 := (by omega); have w1 := hg5.w; have w2 := g5.wait_ge; clear hs5 hok5 hg5 hst5 hrel5 k0 k1 k2 k3 a1 a2 a3)
        | (go_at_call 35; first | (with_reducible refine (rgWaiting K g5 w5 HS5.out.k).mono ?_; rintro e w7 ⟨rfl, g7⟩; have HS7 := hid (HS5.out.more g7); clear g7) | (refine (rgWaiting K g5 w7 HS7.out.k).mono ?_; rintro e w8 ⟨rfl, g8⟩; have HS8 := hid (HS7.out.more g8); clear g8)))
      go_roundw
      case rel => exact ⟨i + 1, t + dt, d + dl, M5, g5, rfl, rfl, by go_num, by omega, by omega, by have h1 := HRel.out; have h2 := HTD.out; omega, by omega, HS8.out, HOk5.out, HG5.out⟩
      case measure => simp [intOf]; omega
    · obtain rfl : i = leno := by omega
      have hge : (i : Int) ≤ i := by omega
      go_wp2_with (go_at_call 31; refine (rAwake _).mono ?_; rintro e w8 ⟨rfl, rfl⟩)
      go_ret
      exact ⟨rfl, HS.out.g⟩
theorem main {H : Type} {enc : TypeId × Value → H} (v0 v1 : Value) (W : World) (c0 : Flat.Came enc Try.prog W 0 (fun _ => true) true 31 v0) (c1 : Flat.Came enc Try.prog W 0 (fun _ => true) true 59 v1) :
    Calls Try.prog 6 #[v0, v1] W fun e w' => e = .returned (.bool true) ∧ W.grownBy w' none := by
  obtain ⟨pa, l, cap, rfl, hin, hl⟩ := came_bytes c0
  obtain ⟨po, leno, capo, rfl, hlo, hop⟩ := open_rops c1
  exact walk pa cap l po leno capo W hin hl (came_cap c0) hlo hop

theorem own : ownKnob Try.prog.godebug = none := by kernel_rfl
theorem laidOut : laidOutB Try.prog = true := by kernel_rfl

set_option maxRecDepth 100000 in
theorem lifted (os : Os) (started : os.Started) (H : Type) (enc : TypeId × Value → H) :
    ReturnsInHanded {} Try.checked os 6 .any (Rows.ringClampsSpec.pre6 enc Try.prog Try.f6 Rows.ringClampsRow.domain false) (Rows.ringClampsSpec.post enc Try.prog Try.f6 false true false false) := by
  refine returnsInHanded_of_change_sized (C := Try.checked) own started (by kernel_rfl) Try.func6
    (ChangeSpec.witness6 (enc := enc) (C := Try.checked) false ⟨#[], #[.slice none 0 0, .slice none 0 0], []⟩ 8 (by kernel_rfl) (by kernel_rfl) (by kernel_rfl) (by kernel_rfl)) ?_
  intro W base args ds gs before hval0 hW _ hsz0 _
  have hsz : (DataW.weightsEach Try.prog (Try.f6.params.toList ++ Rows.ringClampsSpec.plain.varTypes Try.prog) (ds ++ gs)).all (· ≤ reachBytes) = true := hsz0
  clear hsz0
  have hval : ∀ (j : Nat) t v, Try.f6.params[j]? = some t → args[j]? = some v → Value.okWide Try.prog W .any base t v := hval0
  have hW' := hW
  obtain ⟨p, q, hA0, hV, rfl, hfz, hnd⟩ := hW
  have hA : DataW.TrodAll enc Try.prog W 0 (fun _ => true) true Try.f6.params.toList args.toList ds p := hA0
  rw [Try.params6] at hA hval hsz
  obtain ⟨v0, vs0, d0, ds0, p0, q0, hargs, rfl, rfl, h0, r0⟩ := trodAll_cons hA
  obtain ⟨v1, vs1, d1, ds1, p1, q1, rfl, rfl, rfl, h1, r1⟩ := trodAll_cons r0
  obtain ⟨rfl, rfl, rfl⟩ := trodAll_nil r1
  obtain rfl : args = #[v0, v1] := by cases args; simp_all
  obtain ⟨rfl, rfl⟩ := trodVars_none hV
  obtain ⟨ps0, ln0, cp0, rfl⟩ := okWide_slice Try.underlying31 (hval 0 31 v0 rfl rfl)
  have k0 := h0
  have lt0 : ∀ x ∈ p0, x.block < W.heap.size := by obtain ⟨m, hm⟩ := k0; exact DataW.trod_lt m _ _ _ hm
  have c0 : Flat.Came enc Try.prog W 0 (fun _ => true) true 31 (.slice ps0 ln0 cp0) := by
    obtain ⟨fuel, hf⟩ := h0
    exact ⟨fuel, _, hf, fun n hn => by
      have := List.all_eq_true.1 hsz n (DataW.weights_mem_each (j := 0) rfl rfl n hn)
      simpa using this⟩
  obtain ⟨ps1, ln1, cp1, rfl⟩ := okWide_slice Try.underlying59 (hval 1 59 v1 rfl rfl)
  have k1 := h1
  have lt1 : ∀ x ∈ p1, x.block < W.heap.size := by obtain ⟨m, hm⟩ := k1; exact DataW.trod_lt m _ _ _ hm
  have c1 : Flat.Came enc Try.prog W 0 (fun _ => true) true 59 (.slice ps1 ln1 cp1) := by
    obtain ⟨fuel, hf⟩ := h1
    exact ⟨fuel, _, hf, fun n hn => by
      have := List.all_eq_true.1 hsz n (DataW.weights_mem_each (j := 1) rfl rfl n hn)
      simpa using this⟩
  clear hA0 hval0
  refine (main (.slice ps0 ln0 cp0) (.slice ps1 ln1 cp1) W c0 c1).mono fun e W' ⟨he, hg⟩ => ?_
  subst he
  have bel := below_grown' hg
  simp only [List.append_nil, List.nil_append] at hW'
  exact ⟨_, rfl, _, _, _, [], _, [], hW', trodAll_mk1 (shut_bool Try.underlying4 _), (trodAll_cons_mk (Below.trod laidOut (by kernel_rfl) (of_decide_eq_true (by kernel_rfl)) k0 bel lt0) (trodAll_cons_mk (Below.trod laidOut (by kernel_rfl) (of_decide_eq_true (by kernel_rfl)) k1 bel lt1) trodAll_mk0)), rfl, bel.frame _, fun h => by cases h⟩

theorem proved : Rows.RingClampsSaid :=
  OpenClaim.holds_of_wide 6 Try.f6 rfl rfl rfl rfl rfl rfl rfl ⟨rfl, rfl, rfl, rfl, rfl⟩ rfl rfl rfl rfl rfl (by kernel_rfl) Try.func6 (by kernel_rfl)
    (of_decide_eq_true (by kernel_rfl)) (by unfold Func.isWrapper; first | (rw [if_pos (by decide +kernel)]; kernel_rfl) | (rw [if_neg (by decide +kernel)]; exact ⟨rfl, rfl⟩))
    (fun os started H enc _ => lifted os started H enc)
#print axioms proved
end Go.Proofs.Ytgnihllnjaagcaa.lawRgClamps
