/-
  PhysZero: for every three numbers the law returns true, and what was there stays. No condition.
-/
import Derived.Test.YtfifhaajjjamcaaPhysJ
import Derived.ProofKit
import Derived.OpenShut
namespace Go.Proofs.Ytfifhaajjjamcaa.lawZero
open Go.ChangeShapes Go.WideShapes Go.ChangeAt Go.RowKit
set_option maxHeartbeats 1000000

theorem own : ownKnob Try.prog.godebug = none := by kernel_rfl

set_option maxRecDepth 100000 in
theorem walk (a b c : Int) (w : World) : Calls Try.prog 6 #[.int .i64 a, .int .i64 b, .int .i64 c] w fun e w' => e = .returned (.bool true) ∧ Below w.heap.size w w' := by
  go_enter Try.func6, Try.ntmps6
  go_wp2_with (first
    | (refine wpList_alloc_mach rfl rfl ?_; intro w1 hs1 hM1 hg1; have hz : w1.cell? ⟨w.heap.size, 0, none⟩ = some (.int .i64 0) := hM1.size; have HG1 := hid hg1; clear hs1 hM1 hg1)
    | (go_at_call 15; refine (Alloc_nil _ _).mono ?_; rintro e w2 ⟨rfl, hg2⟩; have hz2 := hg2.cell hz (by simp); have HG2 := hid (HG1.out.trans hg2); clear hg2 hz)
    | (go_at_call 19; refine (Frame_zero _ _ _ hz2).mono ?_; rintro e w3 ⟨rfl, hg3⟩; have hz3 := hg3.cell hz2 (by simp); have HG3 := hid (HG2.out.trans hg3); clear hg3 hz2)
    | (go_at_call 26; refine (Read_nil _ _ _ _).mono ?_; rintro e w4 ⟨rfl, rfl⟩)
    | (go_at_call 23; refine (Free_zero _ _ _ ((World.grownBy_alloc w3 _ none).cell hz3 (by simp))).mono ?_; rintro e w5 ⟨rfl, h5⟩; have hg5 : w3.grownBy w5 none := h5 ▸ World.grownBy_alloc w3 _ none; have hz5 := hg5.cell hz3 (by simp); have HG5 := hid (HG3.out.trans hg5); clear h5 hg5 hz3)
    | (go_at_call 24; refine (Give_nil _ _ _).mono ?_; rintro e w6 ⟨rfl, rfl⟩)
    | (go_at_call 22; refine (Get_zero _ _ _ _ _ hz5).mono ?_; rintro e w6 ⟨rfl, rfl⟩)
    | (go_at_call 25; refine (Put_nil _ _ _).mono ?_; rintro e w6 ⟨rfl, rfl⟩)
    | (go_at_call 14; refine (Write_zero _ _ _ _ hz5).mono ?_; rintro e w6 ⟨rfl, rfl⟩)
    | (go_at_call 13; first | ((with_reducible refine (Copy_nil _).mono ?_); rintro e w6 ⟨rfl, rfl⟩) | ((with_reducible refine (Copy_zero _ _ hz5).mono ?_); rintro e w6 ⟨rfl, rfl⟩))
    | (go_at_call 27; refine (Size_nil _).mono ?_; rintro e w6 ⟨rfl, rfl⟩)
    | (go_at_call 21; refine (Left_zero _ _ hz5).mono ?_; rintro e w7 ⟨rfl, hg7⟩; have HG7 := hid (HG5.out.trans hg7); clear hg7)
    | (go_at_call 18; refine (Owned_nil _ _).mono ?_; rintro e w8 ⟨rfl, hg8⟩; have HG8 := hid (HG7.out.trans hg8); clear hg8))
  go_ret
  exact ⟨rfl, below_grown HG8.out⟩

set_option maxRecDepth 100000 in
theorem lifted (os : Os) (started : os.Started) (H : Type) (enc : TypeId × Value → H) :
    ReturnsInHanded {} Try.checked os 6 .any (Rows.physZeroSpec.pre6 enc Try.prog Try.f6 Rows.physZeroRow.domain false) (Rows.physZeroSpec.post enc Try.prog Try.f6 false true false false) := by
  refine returnsInHanded_of_change (C := Try.checked) own started (by kernel_rfl) Try.func6
    (ChangeSpec.witness6 (enc := enc) (C := Try.checked) false ⟨#[], #[.int .i64 0, .int .i64 0, .int .i64 0], []⟩ 8 (by kernel_rfl) (by kernel_rfl) (by kernel_rfl) (by kernel_rfl)) ?_
  intro W base args ds gs before hval0 hW hcnd _
  have hval : ∀ (j : Nat) t v, Try.f6.params[j]? = some t → args[j]? = some v → Value.okWide Try.prog W .any base t v := hval0
  have hW' := hW
  obtain ⟨p, q, hA0, hV, rfl, hfz, hnd⟩ := hW
  have hA : DataW.TrodAll enc Try.prog W 0 (fun _ => true) true Try.f6.params.toList args.toList ds p := hA0
  rw [Try.params6] at hA hval
  obtain ⟨v0, vs0, d0, ds0, p0, q0, hargs, rfl, rfl, h0, r0⟩ := trodAll_cons hA
  obtain ⟨v1, vs1, d1, ds1, p1, q1, rfl, rfl, rfl, h1, r1⟩ := trodAll_cons r0
  obtain ⟨v2, vs2, d2, ds2, p2, q2, rfl, rfl, rfl, h2, r2⟩ := trodAll_cons r1
  obtain ⟨rfl, rfl, rfl⟩ := trodAll_nil r2
  obtain rfl : args = #[v0, v1, v2] := by cases args; simp_all
  obtain ⟨rfl, rfl⟩ := trodVars_none hV
  obtain ⟨a0, rfl, rfl, rfl, w0⟩ := open_int Try.underlying3 (hval 0 3 v0 rfl rfl) h0
  obtain ⟨a1, rfl, rfl, rfl, w1⟩ := open_int Try.underlying3 (hval 1 3 v1 rfl rfl) h1
  obtain ⟨a2, rfl, rfl, rfl, w2⟩ := open_int Try.underlying3 (hval 2 3 v2 rfl rfl) h2
  clear hA0 hval0
  simp only [List.append_nil] at hW'
  refine (walk a0 a1 a2 W).mono fun e W' ⟨he, bel⟩ => ?_
  subst he
  exact ⟨_, rfl, _, _, _, [], _, [], hW', trodAll_mk1 (shut_bool Try.underlying4 _), (trodAll_cons_mk (shut_int Try.underlying3 w0) (trodAll_cons_mk (shut_int Try.underlying3 w1) (trodAll_cons_mk (shut_int Try.underlying3 w2) trodAll_mk0))), rfl, bel.frame _, fun h => by cases h⟩

theorem proved : Rows.PhysZeroSaid :=
  OpenClaim.holds_of_wide 6 Try.f6 rfl rfl rfl rfl rfl rfl rfl ⟨rfl, rfl, rfl, rfl, rfl⟩ rfl rfl rfl rfl rfl (by kernel_rfl) Try.func6 (by kernel_rfl)
    (of_decide_eq_true (by kernel_rfl)) (by unfold Func.isWrapper; first | (rw [if_pos (by decide +kernel)]; kernel_rfl) | (rw [if_neg (by decide +kernel)]; exact ⟨rfl, rfl⟩))
    (fun os started H enc _ => lifted os started H enc)
#print axioms proved

end Go.Proofs.Ytfifhaajjjamcaa.lawZero
