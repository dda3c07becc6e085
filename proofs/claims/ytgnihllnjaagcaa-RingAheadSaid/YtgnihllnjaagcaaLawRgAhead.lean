/-
  RingAhead: for every two numbers of 16 bits the law returns true, and what was there stays. No condition.
-/
import Derived.Test.YtgnihllnjaagcaaRgOne
import Derived.Test.YtgnihllnjaagcaaOpen
import Derived.Test.YtgnihllnjaagcaaLift
import Derived.ProofKit
import Derived.OpenShut
set_option linter.unusedSimpArgs false
set_option linter.unusedVariables false
namespace Go.Proofs.Ytgnihllnjaagcaa.lawRgAhead
open Go.ChangeShapes Go.WideShapes Go.ChangeAt Go.RowKit
set_option maxHeartbeats 1000000

set_option maxRecDepth 100000 in
theorem walk (i t : Int) (w : World) (i0 : 0 ≤ i) (i1 : i ≤ 65535) (t0 : 0 ≤ t) (t1 : t ≤ 65535) :
    Calls Try.prog 7 #[.int .u16 i, .int .u16 t] w fun e w' => e = .returned (.bool true) ∧ w.grownBy w' none := by
  have HA := hid (fun W => rgAhead i t W)
  have HC := hid (fun W => rcAhead i t W)
  obtain ⟨a, c, ha⟩ : ∃ a c, ringAhead i t = (a, c) := ⟨_, _, rfl⟩
  have hin := ringAhead_in i t
  rw [ha] at HA HC hin
  have a0 : 0 ≤ a := hin.1
  have a8 : a ≤ 8 := hin.2
  have e1 : (a != a) = false := by simp
  have hz : c = false → IntKind.u16.wrap (t + a) = i := by
    intro hc
    unfold ringAhead at ha
    split at ha
    · cases ha; cases hc
    · simp only [Prod.mk.injEq] at ha
      rw [← ha.1, wrap16, wrap16]; omega
  clear ha hin
  cases c with
  | true =>
    go_enter Try.func7, Try.ntmps7
    go_wp2_with (first
      | (go_at_call 39; refine (HA.out _).mono ?_; rintro e w1 ⟨rfl, rfl⟩)
      | (go_at_call 40; refine (HC.out _).mono ?_; rintro e w2 ⟨rfl, rfl⟩))
    all_goals go_ret
    all_goals exact ⟨rfl, World.grownBy.refl _ _⟩
  | false =>
    have hz2 := hz rfl
    clear hz
    go_enter Try.func7, Try.ntmps7
    go_wp2_with (first
      | (go_at_call 39; refine (HA.out _).mono ?_; rintro e w1 ⟨rfl, rfl⟩)
      | (go_at_call 40; refine (HC.out _).mono ?_; rintro e w2 ⟨rfl, rfl⟩))
    all_goals go_ret
    all_goals exact ⟨by simp, World.grownBy.refl _ _⟩
theorem main {H : Type} {enc : TypeId × Value → H} (v0 v1 : Value) (W : World) (c0 : Flat.Came enc Try.prog W 0 (fun _ => true) true 70 v0) (c1 : Flat.Came enc Try.prog W 0 (fun _ => true) true 70 v1) :
    Calls Try.prog 7 #[v0, v1] W fun e w' => e = .returned (.bool true) ∧ W.grownBy w' none := by
  obtain ⟨i, rfl, hi⟩ := c0.int Try.underlying70
  obtain ⟨t, rfl, ht⟩ := c1.int Try.underlying70
  exact walk i t W (bounds_u16 hi).1 (bounds_u16 hi).2 (bounds_u16 ht).1 (bounds_u16 ht).2

theorem own : ownKnob Try.prog.godebug = none := by kernel_rfl
theorem laidOut : laidOutB Try.prog = true := by kernel_rfl

set_option maxRecDepth 100000 in
theorem lifted (os : Os) (started : os.Started) (H : Type) (enc : TypeId × Value → H) :
    ReturnsInHanded {} Try.checked os 7 .any (Rows.ringAheadSpec.pre6 enc Try.prog Try.f7 Rows.ringAheadRow.domain false) (Rows.ringAheadSpec.post enc Try.prog Try.f7 false true false false) := by
  refine returnsInHanded_of_change_sized (C := Try.checked) own started (by kernel_rfl) Try.func7
    (ChangeSpec.witness6 (enc := enc) (C := Try.checked) false ⟨#[], #[.int .u16 0, .int .u16 0], []⟩ 8 (by kernel_rfl) (by kernel_rfl) (by kernel_rfl) (by kernel_rfl)) ?_
  intro W base args ds gs before hval0 hW _ hsz0 _
  have hsz : (DataW.weightsEach Try.prog (Try.f7.params.toList ++ Rows.ringAheadSpec.plain.varTypes Try.prog) (ds ++ gs)).all (· ≤ reachBytes) = true := hsz0
  clear hsz0
  have hval : ∀ (j : Nat) t v, Try.f7.params[j]? = some t → args[j]? = some v → Value.okWide Try.prog W .any base t v := hval0
  have hW' := hW
  obtain ⟨p, q, hA0, hV, rfl, hfz, hnd⟩ := hW
  have hA : DataW.TrodAll enc Try.prog W 0 (fun _ => true) true Try.f7.params.toList args.toList ds p := hA0
  rw [Try.params7] at hA hval hsz
  obtain ⟨v0, vs0, d0, ds0, p0, q0, hargs, rfl, rfl, h0, r0⟩ := trodAll_cons hA
  obtain ⟨v1, vs1, d1, ds1, p1, q1, rfl, rfl, rfl, h1, r1⟩ := trodAll_cons r0
  obtain ⟨rfl, rfl, rfl⟩ := trodAll_nil r1
  obtain rfl : args = #[v0, v1] := by cases args; simp_all
  obtain ⟨rfl, rfl⟩ := trodVars_none hV
  obtain ⟨a0, rfl, rfl, rfl, w0⟩ := open_int Try.underlying70 (hval 0 70 v0 rfl rfl) h0
  have k0 := h0
  have lt0 : ∀ x ∈ ([] : List MemPlace), x.block < W.heap.size := by obtain ⟨m, hm⟩ := k0; exact DataW.trod_lt m _ _ _ hm
  have c0 : Flat.Came enc Try.prog W 0 (fun _ => true) true 70 (.int .u16 a0) := by
    obtain ⟨fuel, hf⟩ := h0
    exact ⟨fuel, _, hf, fun n hn => by
      have := List.all_eq_true.1 hsz n (DataW.weights_mem_each (j := 0) rfl rfl n hn)
      simpa using this⟩
  obtain ⟨a1, rfl, rfl, rfl, w1⟩ := open_int Try.underlying70 (hval 1 70 v1 rfl rfl) h1
  have k1 := h1
  have lt1 : ∀ x ∈ ([] : List MemPlace), x.block < W.heap.size := by obtain ⟨m, hm⟩ := k1; exact DataW.trod_lt m _ _ _ hm
  have c1 : Flat.Came enc Try.prog W 0 (fun _ => true) true 70 (.int .u16 a1) := by
    obtain ⟨fuel, hf⟩ := h1
    exact ⟨fuel, _, hf, fun n hn => by
      have := List.all_eq_true.1 hsz n (DataW.weights_mem_each (j := 1) rfl rfl n hn)
      simpa using this⟩
  clear hA0 hval0
  refine (main (.int .u16 a0) (.int .u16 a1) W c0 c1).mono fun e W' ⟨he, hg⟩ => ?_
  subst he
  have bel := below_grown' hg
  simp only [List.append_nil, List.nil_append] at hW'
  exact ⟨_, rfl, _, _, _, [], _, [], hW', trodAll_mk1 (shut_bool Try.underlying4 _), (trodAll_cons_mk (Below.trod laidOut (by kernel_rfl) (of_decide_eq_true (by kernel_rfl)) k0 bel lt0) (trodAll_cons_mk (Below.trod laidOut (by kernel_rfl) (of_decide_eq_true (by kernel_rfl)) k1 bel lt1) trodAll_mk0)), rfl, bel.frame _, fun h => by cases h⟩

theorem proved : Rows.RingAheadSaid :=
  OpenClaim.holds_of_wide 7 Try.f7 rfl rfl rfl rfl rfl rfl rfl ⟨rfl, rfl, rfl, rfl, rfl⟩ rfl rfl rfl rfl rfl (by kernel_rfl) Try.func7 (by kernel_rfl)
    (of_decide_eq_true (by kernel_rfl)) (by unfold Func.isWrapper; first | (rw [if_pos (by decide +kernel)]; kernel_rfl) | (rw [if_neg (by decide +kernel)]; exact ⟨rfl, rfl⟩))
    (fun os started H enc _ => lifted os started H enc)
#print axioms proved
end Go.Proofs.Ytgnihllnjaagcaa.lawRgAhead
