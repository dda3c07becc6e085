/-
  PteUnpacks: for every number the law returns true, and what was there stays. No condition.
-/
import Derived.Test.YtdjhkacjgdnglaaPteC
import Derived.Test.YtdjhkacjgdnglaaOpen
import Derived.Test.YtdjhkacjgdnglaaLift
import Derived.ProofKit
import Derived.OpenShut
import Derived.Lib.SmallJoins
namespace Go.Proofs.Ytdjhkacjgdnglaa.lawPteUnpacks
open Go.ChangeShapes Go.WideShapes Go.ChangeAt Go.RowKit
set_option maxHeartbeats 1000000

set_option maxRecDepth 100000 in
theorem main {H : Type} {enc : TypeId × Value → H} (v0 : Value) (W : World) (c0 : Flat.Came enc Try.prog W 0 (fun _ => true) true 44 v0) :
    Calls Try.prog 11 #[v0] W fun e W' => e = .returned (.bool true) ∧ W.grownBy W' none := by
  obtain ⟨n, rfl, wf⟩ := c0.int Try.underlying44
  obtain ⟨k, rfl, hk⟩ := u32_nat wf
  clear c0 wf
  have H1 := Lib.hid (fun w => unpack_any k w hk)
  have H2 := Lib.hid (fun w => rUnpack_any k w hk)
  obtain ⟨⟨⟨p, q, m⟩, f⟩, hr⟩ : ∃ r, unpackV k = r := ⟨_, rfl⟩
  rw [hr] at H1 H2
  clear hr
  go_enter Try.func11, Try.ntmps11
  go_wp2_with (first
    | (go_at_call 35; refine (H1.out _).mono ?_; rintro e w2 ⟨rfl, hg⟩; have HG1 := Lib.hid hg; clear hg; simp only [Ent.val])
    | (go_at_call 41; refine (H2.out _).mono ?_; rintro e w3 ⟨rfl, hg⟩; have HG2 := Lib.hid hg; have hz : w2.heap.size < w3.heap.size := (by have := hg.size; simp at this; omega); have x0 := hg.cell (a := ⟨w2.heap.size, 0, none⟩) (v := .bool p) (by simp [go_sem]) (by simp); have x1 := hg.cell (a := ⟨w2.heap.size, 1, none⟩) (v := .bool q) (by simp [go_sem]) (by simp); have x2 := hg.cell (a := ⟨w2.heap.size, 2, none⟩) (v := .int .i64 m) (by simp [go_sem]) (by simp); clear hg; simp only [Ent.val])
    | (go_at_call 28; refine (pAwake _).mono ?_; rintro e w4 ⟨rfl, hg⟩; have HG3 := Lib.hid hg; clear hg))
  go_ret
  exact ⟨rfl, HG1.out.trans ((World.grownBy_alloc _ _ _).trans (HG2.out.trans ((World.grownBy_alloc _ _ _).trans HG3.out)))⟩

theorem own : ownKnob Try.prog.godebug = none := by kernel_rfl
theorem laidOut : laidOutB Try.prog = true := by kernel_rfl

set_option maxRecDepth 100000 in
theorem lifted (os : Os) (started : os.Started) (H : Type) (enc : TypeId × Value → H) :
    ReturnsInHanded {} Try.checked os 11 .any (Rows.pteUnpacksSpec.pre6 enc Try.prog Try.f11 Rows.pteUnpacksRow.domain false) (Rows.pteUnpacksSpec.post enc Try.prog Try.f11 false true false false) := by
  refine returnsInHanded_of_change_sized (C := Try.checked) own started (by kernel_rfl) Try.func11
    (ChangeSpec.witness6 (enc := enc) (C := Try.checked) false ⟨#[], #[.int .u32 0], []⟩ 8 (by kernel_rfl) (by kernel_rfl) (by kernel_rfl) (by kernel_rfl)) ?_
  intro W base args ds gs before hval0 hW _ hsz0 _
  have hsz : (DataW.weightsEach Try.prog (Try.f11.params.toList ++ Rows.pteUnpacksSpec.plain.varTypes Try.prog) (ds ++ gs)).all (· ≤ reachBytes) = true := hsz0
  clear hsz0
  have hval : ∀ (j : Nat) t v, Try.f11.params[j]? = some t → args[j]? = some v → Value.okWide Try.prog W .any base t v := hval0
  have hW' := hW
  obtain ⟨p, q, hA0, hV, rfl, hfz, hnd⟩ := hW
  have hA : DataW.TrodAll enc Try.prog W 0 (fun _ => true) true Try.f11.params.toList args.toList ds p := hA0
  rw [Try.params11] at hA hval hsz
  obtain ⟨v0, vs0, d0, ds0, p0, q0, hargs, rfl, rfl, h0, r0⟩ := trodAll_cons hA
  obtain ⟨rfl, rfl, rfl⟩ := trodAll_nil r0
  obtain rfl : args = #[v0] := by cases args; simp_all
  obtain ⟨rfl, rfl⟩ := trodVars_none hV
  obtain ⟨a0, rfl, rfl, rfl, w0⟩ := open_int Try.underlying44 (hval 0 44 v0 rfl rfl) h0
  have k0 := h0
  have lt0 : ∀ x ∈ ([] : List MemPlace), x.block < W.heap.size := by obtain ⟨m, hm⟩ := k0; exact DataW.trod_lt m _ _ _ hm
  have c0 : Flat.Came enc Try.prog W 0 (fun _ => true) true 44 (.int .u32 a0) := by
    obtain ⟨fuel, hf⟩ := h0
    exact ⟨fuel, _, hf, fun n hn => by
      have := List.all_eq_true.1 hsz n (DataW.weights_mem_each (j := 0) rfl rfl n hn)
      simpa using this⟩
  clear hA0 hval0
  refine (main (.int .u32 a0) W c0).mono fun e W' ⟨he, hg⟩ => ?_
  subst he
  have bel := below_grown' hg
  simp only [List.append_nil, List.nil_append] at hW'
  exact ⟨_, rfl, _, _, _, [], _, [], hW', trodAll_mk1 (shut_bool Try.underlying4 _), (trodAll_cons_mk (Below.trod laidOut (by kernel_rfl) (of_decide_eq_true (by kernel_rfl)) k0 bel lt0) trodAll_mk0), rfl, bel.frame _, fun h => by cases h⟩

theorem proved : Rows.PteUnpacksSaid :=
  OpenClaim.holds_of_wide 11 Try.f11 rfl rfl rfl rfl rfl rfl rfl ⟨rfl, rfl, rfl, rfl, rfl⟩ rfl rfl rfl rfl rfl (by kernel_rfl) Try.func11 (by kernel_rfl)
    (of_decide_eq_true (by kernel_rfl)) (by unfold Func.isWrapper; first | (rw [if_pos (by decide +kernel)]; kernel_rfl) | (rw [if_neg (by decide +kernel)]; exact ⟨rfl, rfl⟩))
    (fun os started H enc _ => lifted os started H enc)
#print axioms proved

end Go.Proofs.Ytdjhkacjgdnglaa.lawPteUnpacks
