/-
  ImageZero: for every two numbers the law returns true, and what was there stays. No condition.
-/
import Derived.Test.YtcogchalfdeagaaImV
import Derived.Test.YtcogchalfdeagaaOpen
import Derived.Test.YtcogchalfdeagaaLift
import Derived.OpenShut
set_option linter.unusedSimpArgs false
set_option linter.unusedVariables false
namespace Go.Proofs.Ytcogchalfdeagaa.lawImZero
open Go.ChangeShapes Go.WideShapes Go.ChangeAt Go.RowKit Gen
set_option maxHeartbeats 1000000

set_option maxRecDepth 100000 in
theorem walk (a b : Int) (w : World) : Calls Try.prog 6 #[.int .i64 a, .int .i64 b] w fun e w' => e = .returned (.bool true) ∧ w.grownBy w' none := by
  obtain ⟨W, hW, hg, hx⟩ : ∃ W, w.alloc (.cells #[.slice none 0 0, .map none, .int .i64 0] 55) = W ∧ w.grownBy W none ∧ W.cell? ⟨w.heap.size, 1, none⟩ = some (.map none) := ⟨_, rfl, World.grownBy_alloc _ _ _, by simp [go_sem]⟩
  have N0 := hid (fun (w' : World) => (show NoI w' none from .inl rfl))
  have N1 := hid (fun (w' : World) (h : W.grownBy w' none) => (show NoI w' (some ⟨w.heap.size, 0, none⟩) from .inr ⟨_, rfl, h.cell hx (by simp)⟩))
  have HG := hid hg
  clear hg hx
  go_enter Try.func6, Try.ntmps6
  go_wp2_with (first
    | (go_at_call 22; refine (iRead_none _ _ _ (N0.out _)).mono ?_; rintro e w2 ⟨rfl, rfl⟩)
    | (go_at_call 21; refine (iBase_none _ _ _ (N1.out _ (grownBy_refl _ _))).mono ?_; rintro e w2 ⟨rfl, rfl⟩)
    | (go_at_call 23; refine (iNeed_none _ _ _ _ (N0.out _)).mono ?_; rintro e w3 ⟨rfl, g3⟩; have G3 := hid g3; clear g3)
    | (go_at_call 11; refine (iWrite_none _ _ _ _ _ _ (N1.out _ G3.out)).mono ?_; rintro e w2 ⟨rfl, rfl⟩)
    | (go_at_call 20; refine (iTrim_none _ _ _ (N0.out _)).mono ?_; rintro e w2 ⟨rfl, rfl⟩)
    | (go_at_call 15; refine (iSectors_no _ _ (N0.out _)).mono ?_; rintro e w2 ⟨rfl, rfl⟩)
    | (go_at_call 14; refine (iFree_no _ _ (N1.out _ G3.out)).mono ?_; rintro e w2 ⟨rfl, rfl⟩)
    | (go_at_call 17; refine (iDirty_no _ _ (N0.out _)).mono ?_; rintro e w4 ⟨rfl, g4⟩; have G4 := hid (G3.out.trans g4); clear g4)
    | (go_at_call 10; first | ((with_reducible refine (iCopy_no _ _ (N0.out _)).mono ?_); rintro e w2 ⟨rfl, rfl⟩) | ((with_reducible refine (iCopy_no _ _ (N1.out _ G4.out)).mono ?_); rintro e w2 ⟨rfl, rfl⟩)))
  go_ret
  exact ⟨rfl, HG.out.trans G4.out⟩
theorem main {H : Type} {enc : TypeId × Value → H} (v0 v1 : Value) (W : World) (c0 : Flat.Came enc Try.prog W 0 (fun _ => true) true 3 v0) (c1 : Flat.Came enc Try.prog W 0 (fun _ => true) true 3 v1) :
    Calls Try.prog 6 #[v0, v1] W fun e w' => e = .returned (.bool true) ∧ W.grownBy w' none := by
  obtain ⟨a, rfl, _⟩ := c0.int Try.underlying3
  obtain ⟨b, rfl, _⟩ := c1.int Try.underlying3
  exact walk a b W

theorem own : ownKnob Try.prog.godebug = none := by kernel_rfl
theorem laidOut : laidOutB Try.prog = true := by kernel_rfl

set_option maxRecDepth 100000 in
theorem lifted (os : Os) (started : os.Started) (H : Type) (enc : TypeId × Value → H) :
    ReturnsInHanded {} Try.checked os 6 .any (Rows.imageZeroSpec.pre6 enc Try.prog Try.f6 Rows.imageZeroRow.domain false) (Rows.imageZeroSpec.post enc Try.prog Try.f6 false true false false) := by
  refine returnsInHanded_of_change_sized (C := Try.checked) own started (by kernel_rfl) Try.func6
    (ChangeSpec.witness6 (enc := enc) (C := Try.checked) false ⟨#[], #[.int .i64 0, .int .i64 0], []⟩ 8 (by kernel_rfl) (by kernel_rfl) (by kernel_rfl) (by kernel_rfl)) ?_
  intro W base args ds gs before hval0 hW _ hsz0 _
  have hsz : (DataW.weightsEach Try.prog (Try.f6.params.toList ++ Rows.imageZeroSpec.plain.varTypes Try.prog) (ds ++ gs)).all (· ≤ reachBytes) = true := hsz0
  clear hsz0
  have hval : ∀ (j : Nat) t v, Try.f6.params[j]? = some t → args[j]? = some v → Value.okWide Try.prog W .any base t v := hval0
  have hW' := hW
  obtain ⟨p, q, hA0, hV, rfl, hfz, hnd⟩ := hW
  have hA : DataW.TrodAll enc Try.prog W 0 (fun _ => true) true Try.f6.params.toList args.toList ds p := hA0
  rw [Try.params6] at hA hval hsz
  obtain ⟨v0, vs0, d0, ds0, p0, q0, hargs, rfl, rfl, h0, r0⟩ := trodAll_cons hA
  obtain ⟨v1, vs1, d1, ds1, p1, q1, rfl, rfl, rfl, h1, r1⟩ := trodAll_cons r0
  obtain ⟨rfl, rfl, rfl⟩ := trodAll_nil r1
  obtain rfl : args = #[v0, v1] := by cases args; simp_all
  obtain ⟨rfl, rfl⟩ := trodVars_none hV
  obtain ⟨a0, rfl, rfl, rfl, w0⟩ := open_int Try.underlying3 (hval 0 3 v0 rfl rfl) h0
  have k0 := h0
  have lt0 : ∀ x ∈ ([] : List MemPlace), x.block < W.heap.size := by obtain ⟨m, hm⟩ := k0; exact DataW.trod_lt m _ _ _ hm
  have c0 : Flat.Came enc Try.prog W 0 (fun _ => true) true 3 (.int .i64 a0) := by
    obtain ⟨fuel, hf⟩ := h0
    exact ⟨fuel, _, hf, fun n hn => by
      have := List.all_eq_true.1 hsz n (DataW.weights_mem_each (j := 0) rfl rfl n hn)
      simpa using this⟩
  obtain ⟨a1, rfl, rfl, rfl, w1⟩ := open_int Try.underlying3 (hval 1 3 v1 rfl rfl) h1
  have k1 := h1
  have lt1 : ∀ x ∈ ([] : List MemPlace), x.block < W.heap.size := by obtain ⟨m, hm⟩ := k1; exact DataW.trod_lt m _ _ _ hm
  have c1 : Flat.Came enc Try.prog W 0 (fun _ => true) true 3 (.int .i64 a1) := by
    obtain ⟨fuel, hf⟩ := h1
    exact ⟨fuel, _, hf, fun n hn => by
      have := List.all_eq_true.1 hsz n (DataW.weights_mem_each (j := 1) rfl rfl n hn)
      simpa using this⟩
  clear hA0 hval0
  refine (main (.int .i64 a0) (.int .i64 a1) W c0 c1).mono fun e W' ⟨he, hg⟩ => ?_
  subst he
  have bel := below_grown' hg
  simp only [List.append_nil, List.nil_append] at hW'
  exact ⟨_, rfl, _, _, _, [], _, [], hW', trodAll_mk1 (shut_bool Try.underlying4 _), (trodAll_cons_mk (Below.trod laidOut (by kernel_rfl) (of_decide_eq_true (by kernel_rfl)) k0 bel lt0) (trodAll_cons_mk (Below.trod laidOut (by kernel_rfl) (of_decide_eq_true (by kernel_rfl)) k1 bel lt1) trodAll_mk0)), rfl, bel.frame _, fun h => by cases h⟩

theorem proved : Rows.ImageZeroSaid :=
  OpenClaim.holds_of_wide 6 Try.f6 rfl rfl rfl rfl rfl rfl rfl ⟨rfl, rfl, rfl, rfl, rfl⟩ rfl rfl rfl rfl rfl (by kernel_rfl) Try.func6 (by kernel_rfl)
    (of_decide_eq_true (by kernel_rfl)) (by unfold Func.isWrapper; first | (rw [if_pos (by decide +kernel)]; kernel_rfl) | (rw [if_neg (by decide +kernel)]; exact ⟨rfl, rfl⟩))
    (fun os started H enc _ => lifted os started H enc)
#print axioms proved
end Go.Proofs.Ytcogchalfdeagaa.lawImZero
