/-
  ViewZero: for every two numbers the law returns true, and what was there stays. No condition.
-/
import Derived.Test.YtmemeaaffbalbaaViewZ
import Derived.ProofKit
import Derived.OpenShut
namespace Go.Proofs.Ytmemeaaffbalbaa.lawVZero
open Go.ChangeShapes Go.WideShapes Go.ChangeAt Go.RowKit
set_option maxHeartbeats 1000000

theorem own : ownKnob Try.prog.godebug = none := by kernel_rfl

set_option maxRecDepth 100000 in
theorem walk (a b : Int) (w : World) : Calls Try.prog 8 #[.int .i64 a, .int .i64 b] w fun e w' => e = .returned (.bool true) ∧ Below w.heap.size w w' := by
  go_enter Try.func8, Try.ntmps8
  go_wp2_with (first
    | (go_at_call 21; first | ((with_reducible refine (vNew_nil _ _).mono ?_); rintro e w2 ⟨rfl, rfl⟩) | ((with_reducible refine (vNew_zero _ _ _ hmz).mono ?_); rintro e w2 ⟨rfl, rfl⟩))
    | refine wpList_build_mach0 rfl rfl ?_
    | (refine wpList_box_mach rfl (.tmp 21) rfl (flatMach 0 zeroFr) rfl ?_; intro w1 hs1 hM1 hg1; have hmz : w1.cell? ⟨w.heap.size + 1, 0, none⟩ = some (.int .i64 0) := (by have := hM1.size; simpa [flatMach] using this); have hx := hg1.cell (a := ⟨w.heap.size, 0, none⟩) (v := .pointer none) (by simp [go_sem]) (by simp); have HG1 := hid ((World.grownBy_alloc w _ none).trans hg1); clear hs1 hM1 hg1)
    | (go_at_call 29; refine (vRead_nil _ _ _ _).mono ?_; rintro e w2 ⟨rfl, rfl⟩)
    | (go_at_call 32; refine (vWord_zero _ _ _ _ hx).mono ?_; rintro e w2 ⟨rfl, rfl⟩)
    | (go_at_call 33; refine (vWrite_nil _ _ _ _).mono ?_; rintro e w2 ⟨rfl, rfl⟩)
    | (go_at_call 24; refine (vReads_zero _ _ hx).mono ?_; rintro e w2 ⟨rfl, rfl⟩)
    | (go_at_call 25; refine (vRest_nil _).mono ?_; rintro e w2 ⟨rfl, rfl⟩)
    | (go_at_call 27; refine (vMachine_zero _ _ hx).mono ?_; rintro e w2 ⟨rfl, rfl⟩))
  go_ret
  exact ⟨rfl, below_grown HG1.out⟩

set_option maxRecDepth 100000 in
theorem lifted (os : Os) (started : os.Started) (H : Type) (enc : TypeId × Value → H) :
    ReturnsInHanded {} Try.checked os 8 .any (Rows.viewZeroSpec.pre6 enc Try.prog Try.f8 Rows.viewZeroRow.domain false) (Rows.viewZeroSpec.post enc Try.prog Try.f8 false true false false) := by
  refine returnsInHanded_of_change (C := Try.checked) own started (by kernel_rfl) Try.func8
    (ChangeSpec.witness6 (enc := enc) (C := Try.checked) false ⟨#[], #[.int .i64 0, .int .i64 0], []⟩ 8 (by kernel_rfl) (by kernel_rfl) (by kernel_rfl) (by kernel_rfl)) ?_
  intro W base args ds gs before hval0 hW hcnd _
  have hval : ∀ (j : Nat) t v, Try.f8.params[j]? = some t → args[j]? = some v → Value.okWide Try.prog W .any base t v := hval0
  have hW' := hW
  obtain ⟨p, q, hA0, hV, rfl, hfz, hnd⟩ := hW
  have hA : DataW.TrodAll enc Try.prog W 0 (fun _ => true) true Try.f8.params.toList args.toList ds p := hA0
  rw [Try.params8] at hA hval
  obtain ⟨v0, v1, d0, d1, p0, p1, rfl, rfl, rfl, h0, h1⟩ := trodAll_two hA
  obtain ⟨rfl, rfl⟩ := trodVars_none hV
  obtain ⟨a0, rfl, rfl, rfl, w0⟩ := open_int Try.underlying3 (hval 0 3 v0 rfl rfl) h0
  obtain ⟨a1, rfl, rfl, rfl, w1⟩ := open_int Try.underlying3 (hval 1 3 v1 rfl rfl) h1
  clear hA0 hval0
  simp only [List.append_nil, List.nil_append] at hW'
  refine (walk a0 a1 W).mono fun e W' ⟨he, bel⟩ => ?_
  subst he
  exact ⟨_, rfl, _, _, _, [], _, [], hW', trodAll_mk1 (shut_bool Try.underlying4 _), (trodAll_mk2 (shut_int Try.underlying3 w0) (shut_int Try.underlying3 w1)), rfl, bel.frame _, fun h => by cases h⟩

theorem proved : Rows.ViewZeroSaid :=
  OpenClaim.holds_of_wide 8 Try.f8 rfl rfl rfl rfl rfl rfl rfl ⟨rfl, rfl, rfl, rfl, rfl⟩ rfl rfl rfl rfl rfl (by kernel_rfl) Try.func8 (by kernel_rfl)
    (of_decide_eq_true (by kernel_rfl)) (by unfold Func.isWrapper; first | (rw [if_pos (by decide +kernel)]; kernel_rfl) | (rw [if_neg (by decide +kernel)]; exact ⟨rfl, rfl⟩))
    (fun os started H enc _ => lifted os started H enc)
#print axioms proved

end Go.Proofs.Ytmemeaaffbalbaa.lawVZero
