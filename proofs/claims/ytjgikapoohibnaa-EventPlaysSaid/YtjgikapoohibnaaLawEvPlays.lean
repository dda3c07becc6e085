/-
  EventPlays: for every script of calls the law returns true, and what was there stays. No condition.
-/
import Derived.Test.YtjgikapoohibnaaEvV
import Derived.Test.YtjgikapoohibnaaLift
import Derived.ProofKit
import Derived.OpenShut
import Derived.Deep.RegionWith
set_option linter.unusedSimpArgs false
set_option linter.unusedVariables false
namespace Go.Proofs.Ytjgikapoohibnaa.lawEvPlays
open Go.ChangeShapes Go.WideShapes Go.ChangeAt Go.RowKit Gen
set_option maxHeartbeats 2000000

set_option maxRecDepth 100000 in
theorem walk (po : Option Addr) (co : Nat) (os : List EOp) (w : World) (ho : EOpsIn w po os) (hos : os.length ≤ 140737488355328) :
    Calls Try.prog 3 #[.slice po os.length co] w fun e w' => e = .returned (.bool true) ∧ w.grownBy w' none := by
  have HO := hid ho; have HOs := hid hos
  clear ho hos
  go_enter Try.func3, Try.ntmps3
  go_wp2_with (first
    | (go_at_call 9; refine (eNew _).mono ?_; rintro e w1 ⟨X, rfl, h1, g1, f1⟩; have H1 := hid h1; have G1 := hid g1; have F1 := hid f1; clear h1 g1 f1)
    | (go_at_call 10; refine (rNew _).mono ?_; rintro e w2 ⟨Y, L, rfl, h2, g2, f2⟩; have HE := hid (eStart H1.out G1.out F1.out h2 g2 f2); clear h2 g2 f2))
  go_loopw [5] (fun i wr => ∃ k : Nat, i = .int .i64 k ∧ k ≤ os.length ∧ EB w wr X Y (runE os k) L) (fun i _ => os.length - (intOf i).toNat)
  case atStart => exact ⟨0, rfl, by omega, HE.out⟩
  case round =>
    clear HE
    obtain ⟨k, rfl, hk, he⟩ := hrel
    have HE := hid he
    clear he
    have hk0 : (0 : Int) ≤ k := by omega
    by_cases hlt : k < os.length
    · have hlt' : (k : Int) < os.length := by omega
      obtain ⟨b', off, rfl, hb', d0, d1, d2, d3, d4⟩ := HO.out k hlt
      have HSt := hid (runE_succ os k hlt)
      have gw := HE.out.g
      have k0 := gw.cell d0 (by simp); have k1 := gw.cell d1 (by simp); have k2 := gw.cell d2 (by simp); have k3 := gw.cell d3 (by simp); have k4 := gw.cell d4 (by simp)
      have hj2 := HOs.out
      have D1 := hid d1; have D2 := hid d2
      clear d0 d1 d2 d3 d4 gw
      generalize os[k] = r at *
      go_wp2_with (first
        | (go_at_call 11; refine (ePlay w _ X Y r _ L HE.out).mono ?_; rintro e w3 ⟨rfl, h3⟩; have H3 := hid h3; have l1 := h3.g.cell D1.out (by simp); have l2 := h3.g.cell D2.out (by simp); clear h3)
        | (go_at_call 12; first | (with_reducible refine (eTold X Y r.a _ _ L H3.out.x H3.out.y).mono ?_; rintro e w4 ⟨rfl, g4⟩; have H4 := hid (H3.out.more g4); have m1 := H4.out.g.cell D1.out (by simp); have m2 := H4.out.g.cell D2.out (by simp); clear g4) | (with_reducible refine (eTold X Y r.b _ _ L H4.out.x H4.out.y).mono ?_; rintro e w5 ⟨rfl, g5⟩; have H5 := hid (H4.out.more g5); clear g5)))
      go_roundw
      case rel => exact ⟨k + 1, by go_num, by omega, by rw [HSt.out]; exact H5.out⟩
      case measure => simp [intOf]; omega
    · obtain rfl : k = os.length := by omega
      have hge : (os.length : Int) ≤ os.length := by omega
      go_wp2_with (first
        | (go_at_call 12; refine (eTold X Y 0 _ _ L HE.out.x HE.out.y).mono ?_; rintro e w3 ⟨rfl, g3⟩; have H3 := hid (HE.out.more g3); clear g3)
        | (go_at_call 13; refine (eAwake _).mono ?_; rintro e w4 ⟨rfl, g4⟩; have HG := hid (H3.out.g.trans g4); clear g4))
      go_ret
      exact ⟨rfl, HG.out⟩
theorem main {H : Type} {enc : TypeId × Value → H} (v0 : Value) (W : World) (c0 : Flat.Came enc Try.prog W 0 (fun _ => true) true 22 v0) :
    Calls Try.prog 3 #[v0] W fun e w' => e = .returned (.bool true) ∧ W.grownBy w' none := by
  obtain ⟨po, os, co, rfl, hos, ho⟩ := open_eops c0
  exact walk po co os W ho hos
theorem own : ownKnob Try.prog.godebug = none := by kernel_rfl
theorem laidOut : laidOutB Try.prog = true := by kernel_rfl

set_option maxRecDepth 100000 in
theorem lifted (os : Os) (started : os.Started) (H : Type) (enc : TypeId × Value → H) :
    ReturnsInHanded {} Try.checked os 3 .any (Rows.eventPlaysSpec.pre6 enc Try.prog Try.f3 Rows.eventPlaysRow.domain false) (Rows.eventPlaysSpec.post enc Try.prog Try.f3 false true false false) := by
  refine returnsInHanded_of_change_sized (C := Try.checked) own started (by kernel_rfl) Try.func3
    (ChangeSpec.witness6 (enc := enc) (C := Try.checked) false ⟨#[], #[.slice none 0 0], []⟩ 8 (by kernel_rfl) (by kernel_rfl) (by kernel_rfl) (by kernel_rfl)) ?_
  intro W base args ds gs before hval0 hW _ hsz0 _
  have hsz : (DataW.weightsEach Try.prog (Try.f3.params.toList ++ Rows.eventPlaysSpec.plain.varTypes Try.prog) (ds ++ gs)).all (· ≤ reachBytes) = true := hsz0
  clear hsz0
  have hval : ∀ (j : Nat) t v, Try.f3.params[j]? = some t → args[j]? = some v → Value.okWide Try.prog W .any base t v := hval0
  have hW' := hW
  obtain ⟨p, q, hA0, hV, rfl, hfz, hnd⟩ := hW
  have hA : DataW.TrodAll enc Try.prog W 0 (fun _ => true) true Try.f3.params.toList args.toList ds p := hA0
  rw [Try.params3] at hA hval hsz
  obtain ⟨v0, vs0, d0, ds0, p0, q0, hargs, rfl, rfl, h0, r0⟩ := trodAll_cons hA
  obtain ⟨rfl, rfl, rfl⟩ := trodAll_nil r0
  obtain rfl : args = #[v0] := by cases args; simp_all
  obtain ⟨rfl, rfl⟩ := trodVars_none hV
  obtain ⟨ps0, ln0, cp0, rfl⟩ := okWide_slice Try.underlying22 (hval 0 22 v0 rfl rfl)
  have k0 := h0
  have lt0 : ∀ x ∈ p0, x.block < W.heap.size := by obtain ⟨m, hm⟩ := k0; exact DataW.trod_lt m _ _ _ hm
  have c0 : Flat.Came enc Try.prog W 0 (fun _ => true) true 22 (.slice ps0 ln0 cp0) := by
    obtain ⟨fuel, hf⟩ := h0
    exact ⟨fuel, _, hf, fun n hn => by
      have := List.all_eq_true.1 hsz n (DataW.weights_mem_each (j := 0) rfl rfl n hn)
      simpa using this⟩
  clear hA0 hval0
  refine (main (.slice ps0 ln0 cp0) W c0).mono fun e W' ⟨he, hg⟩ => ?_
  subst he
  have bel := below_grown' hg
  simp only [List.append_nil, List.nil_append] at hW'
  exact ⟨_, rfl, _, _, _, [], _, [], hW', trodAll_mk1 (shut_bool Try.underlying4 _), (trodAll_cons_mk (Below.trod laidOut (by kernel_rfl) (of_decide_eq_true (by kernel_rfl)) k0 bel lt0) trodAll_mk0), rfl, bel.frame _, fun h => by cases h⟩

theorem proved : Rows.EventPlaysSaid :=
  OpenClaim.holds_of_wide 3 Try.f3 rfl rfl rfl rfl rfl rfl rfl ⟨rfl, rfl, rfl, rfl, rfl⟩ rfl rfl rfl rfl rfl (by kernel_rfl) Try.func3 (by kernel_rfl)
    (of_decide_eq_true (by kernel_rfl)) (by unfold Func.isWrapper; first | (rw [if_pos (by decide +kernel)]; kernel_rfl) | (rw [if_neg (by decide +kernel)]; exact ⟨rfl, rfl⟩))
    (fun os started H enc _ => lifted os started H enc)
#print axioms proved
end Go.Proofs.Ytjgikapoohibnaa.lawEvPlays
