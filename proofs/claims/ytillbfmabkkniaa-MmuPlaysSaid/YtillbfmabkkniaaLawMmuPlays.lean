/-
  MmuPlays: for every row of entries and every script of calls the law returns true, and what was there stays. No condition.
-/
import Derived.Test.YtillbfmabkkniaaK31
import Derived.Test.YtillbfmabkkniaaK29
import Derived.ProofKit
import Derived.OpenShut
import Derived.Deep.RegionWith
namespace Go.Proofs.Ytillbfmabkkniaa.lawMmuPlays
open Go.ChangeShapes Go.WideShapes Go.ChangeAt Go.RowKit
set_option maxHeartbeats 2000000

set_option maxRecDepth 100000 in
set_option maxHeartbeats 6000000 in
theorem walk (pa : Option Addr) (cap : Nat) (ps : List PutV) (po : Option Addr) (co : Nat) (os : List MOpR) (w : World) (hp : PutsIn w pa ps) (hps : ps.length ≤ 9223372036854775807) (ho : MOpsIn w po os) (hos : os.length ≤ 140737488355328) :
    Calls Try.prog 9 #[.slice pa ps.length cap, .slice po os.length co] w fun e w' => e = .returned (.bool true) ∧ w.grownBy w' none := by
  have HB := hid (mBegin pa cap ps w hp hps)
  have HO := hid ho; have HOs := hid hos
  have HAl := hid (All.begin ps)
  clear hp ho hos hps
  go_enter Try.func9, Try.ntmps9
  go_wp2_with (go_at_call 36; refine HB.out.mono ?_; rintro e w1 ⟨X, Y, B, b, pv, L, A, rfl, h1⟩; have H1 := hid h1; clear h1)
  obtain ⟨s0, hs0⟩ : ∃ s : Mach × (Nat → Sp), s = (mC ps ps.length, sp0) := ⟨_, rfl⟩
  have HR := hid (show Run w w1 X B Y b s0 0 pv L A E0 by subst hs0; exact ⟨H1.out, HAl.out, few0⟩)
  clear H1 HAl hs0 HB
  go_loopw [8] (fun i wr => ∃ (j : Nat) (pv : Nat → Value) (L : Lay) (A : YL) (E : Cnt), i = .int .i64 j ∧ j ≤ os.length ∧ Run w wr X B Y b (runM os s0 j) j pv L A E) (fun i _ => os.length - (intOf i).toNat)
  case atStart => exact ⟨0, _, _, _, _, rfl, by omega, HR.out⟩
  case round =>
    clear HR
    obtain ⟨j, pv, L, A, E, rfl, hj, hr⟩ := hrel
    have HR := hid hr
    clear hr
    have hj0 : (0 : Int) ≤ j := by omega
    by_cases hjl : j < os.length
    · have hjl' : (j : Int) < os.length := by omega
      obtain ⟨b', off, rfl, hb', d0, d1, d2, d3, d4⟩ := (HO.out j hjl).at'
      have HRok := hid (HO.out j hjl).ok; have HRlen := hid (HO.out j hjl).len; have HRsrc := hid (HO.out j hjl).src
      have HSt := hid (runM_succ os s0 j hjl)
      have gw := HR.out.bo.g
      have k0 := gw.cell d0 (by simp); have k1 := gw.cell d1 (by simp); have k2 := gw.cell d2 (by simp); have k3 := gw.cell d3 (by simp); have k4 := gw.cell d4 (by simp)
      have hj2 := HOs.out
      have HJ := hid (show j ≤ 140737488355328 by omega)
      clear d0 d1 d2 d3 d4 gw
      generalize os[j] = r at *
      go_wp2_with (first
        | (go_at_call 37; refine (HR.out.play HJ.out r HRok.out HRlen.out HRsrc.out).mono ?_; rintro e w2 ⟨rfl, pv2, L2, A2, E2, h2, _⟩; have H2 := hid h2; clear h2)
        | (go_at_call 38; refine (mSame w _ X B Y b _ _ E2 _ pv2 L2 A2 H2.out.bo H2.out.all (H2.out.all.okF H2.out.few)).mono ?_; rintro e w3 ⟨rfl, g3⟩; have H3 := hid (H2.out.more g3); clear g3))
      go_roundw
      case rel => exact ⟨j + 1, pv2, L2, A2, E2, by go_num, by omega, by rw [HSt.out]; exact H3.out⟩
      case measure => simp [intOf]; omega
    · obtain rfl : j = os.length := by omega
      have hge : (os.length : Int) ≤ os.length := by omega
      go_wp2_with (go_at_call 38; refine (mSame w _ X B Y b _ _ E _ pv L A HR.out.bo HR.out.all (HR.out.all.okF HR.out.few)).mono ?_; rintro e w3 ⟨rfl, g3⟩; have H3 := hid (HR.out.more g3); clear g3)
      go_ret
      exact ⟨rfl, H3.out.bo.g⟩
theorem main {H : Type} {enc : TypeId × Value → H} (v0 v1 : Value) (W : World) (c0 : Flat.Came enc Try.prog W 0 (fun _ => true) true 70 v0) (c1 : Flat.Came enc Try.prog W 0 (fun _ => true) true 71 v1) :
    Calls Try.prog 9 #[v0, v1] W fun e w' => e = .returned (.bool true) ∧ W.grownBy w' none := by
  obtain ⟨pa, ps, cap, rfl, hps, hp⟩ := open_mputs c0
  obtain ⟨po, os, co, rfl, hos, ho⟩ := open_mops c1
  exact walk pa cap ps po co os W hp hps ho hos
theorem own : ownKnob Try.prog.godebug = none := by kernel_rfl
theorem laidOut : laidOutB Try.prog = true := by kernel_rfl

set_option maxRecDepth 100000 in
theorem lifted (os : Os) (started : os.Started) (H : Type) (enc : TypeId × Value → H) :
    ReturnsInHanded {} Try.checked os 9 .any (Rows.mmuPlaysSpec.pre6 enc Try.prog Try.f9 Rows.mmuPlaysRow.domain false) (Rows.mmuPlaysSpec.post enc Try.prog Try.f9 false true false false) := by
  refine returnsInHanded_of_change_sized (C := Try.checked) own started (by kernel_rfl) Try.func9
    (ChangeSpec.witness6 (enc := enc) (C := Try.checked) false ⟨#[], #[.slice none 0 0, .slice none 0 0], []⟩ 8 (by kernel_rfl) (by kernel_rfl) (by kernel_rfl) (by kernel_rfl)) ?_
  intro W base args ds gs before hval0 hW _ hsz0 _
  have hsz : (DataW.weightsEach Try.prog (Try.f9.params.toList ++ Rows.mmuPlaysSpec.plain.varTypes Try.prog) (ds ++ gs)).all (· ≤ reachBytes) = true := hsz0
  clear hsz0
  have hval : ∀ (j : Nat) t v, Try.f9.params[j]? = some t → args[j]? = some v → Value.okWide Try.prog W .any base t v := hval0
  have hW' := hW
  obtain ⟨p, q, hA0, hV, rfl, hfz, hnd⟩ := hW
  have hA : DataW.TrodAll enc Try.prog W 0 (fun _ => true) true Try.f9.params.toList args.toList ds p := hA0
  rw [Try.params9] at hA hval hsz
  obtain ⟨v0, vs0, d0, ds0, p0, q0, hargs, rfl, rfl, h0, r0⟩ := trodAll_cons hA
  obtain ⟨v1, vs1, d1, ds1, p1, q1, rfl, rfl, rfl, h1, r1⟩ := trodAll_cons r0
  obtain ⟨rfl, rfl, rfl⟩ := trodAll_nil r1
  obtain rfl : args = #[v0, v1] := by cases args; simp_all
  obtain ⟨rfl, rfl⟩ := trodVars_none hV
  obtain ⟨ps0, ln0, cp0, rfl⟩ := okWide_slice Try.underlying70 (hval 0 70 v0 rfl rfl)
  have k0 := h0
  have lt0 : ∀ x ∈ p0, x.block < W.heap.size := by obtain ⟨m, hm⟩ := k0; exact DataW.trod_lt m _ _ _ hm
  have c0 : Flat.Came enc Try.prog W 0 (fun _ => true) true 70 (.slice ps0 ln0 cp0) := by
    obtain ⟨fuel, hf⟩ := h0
    exact ⟨fuel, _, hf, fun n hn => by
      have := List.all_eq_true.1 hsz n (DataW.weights_mem_each (j := 0) rfl rfl n hn)
      simpa using this⟩
  obtain ⟨ps1, ln1, cp1, rfl⟩ := okWide_slice Try.underlying71 (hval 1 71 v1 rfl rfl)
  have k1 := h1
  have lt1 : ∀ x ∈ p1, x.block < W.heap.size := by obtain ⟨m, hm⟩ := k1; exact DataW.trod_lt m _ _ _ hm
  have c1 : Flat.Came enc Try.prog W 0 (fun _ => true) true 71 (.slice ps1 ln1 cp1) := by
    obtain ⟨fuel, hf⟩ := h1
    exact ⟨fuel, _, hf, fun n hn => by
      have := List.all_eq_true.1 hsz n (DataW.weights_mem_each (j := 1) rfl rfl n hn)
      simpa using this⟩
  clear hA0 hval0
  refine (main (.slice ps0 ln0 cp0) (.slice ps1 ln1 cp1) W c0 c1).mono fun e W' ⟨he, hg⟩ => ?_
  subst he
  have bel := below_grown' hg
  simp only [List.append_nil, List.nil_append] at hW'
  exact ⟨_, rfl, _, _, _, [], _, [], hW', trodAll_mk1 (shut_bool Try.underlying4 _), (trodAll_cons_mk (Below.trod laidOut (by kernel_rfl) (of_decide_eq_true (by kernel_rfl)) k0 bel lt0) (trodAll_cons_mk (Below.trod laidOut (by kernel_rfl) (of_decide_eq_true (by kernel_rfl)) k1 bel lt1) trodAll_mk0)), rfl, bel.frame _, fun h => by cases h⟩

theorem proved : Rows.MmuPlaysSaid :=
  OpenClaim.holds_of_wide 9 Try.f9 rfl rfl rfl rfl rfl rfl rfl ⟨rfl, rfl, rfl, rfl, rfl⟩ rfl rfl rfl rfl rfl (by kernel_rfl) Try.func9 (by kernel_rfl)
    (of_decide_eq_true (by kernel_rfl)) (by unfold Func.isWrapper; first | (rw [if_pos (by decide +kernel)]; kernel_rfl) | (rw [if_neg (by decide +kernel)]; exact ⟨rfl, rfl⟩))
    (fun os started H enc _ => lifted os started H enc)
#print axioms proved
end Go.Proofs.Ytillbfmabkkniaa.lawMmuPlays
