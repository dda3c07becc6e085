/-
  PtePacks: for every entry the law returns true, and what was there stays. No condition.
-/
import Derived.Test.YtdjhkacjgdnglaaPteC
import Derived.Test.YtdjhkacjgdnglaaOpen
import Derived.Test.YtdjhkacjgdnglaaLift
import Derived.ProofKit
import Derived.OpenShut
import Derived.Lib.SmallJoins
namespace Go.Proofs.Ytdjhkacjgdnglaa.lawPtePacks
open Go.ChangeShapes Go.WideShapes Go.ChangeAt Go.RowKit
set_option maxHeartbeats 1000000

set_option maxRecDepth 100000 in
theorem main {H : Type} {enc : TypeId × Value → H} (p q : Bool) (m : Int) (W : World) :
    Calls Try.prog 10 #[.agg #[.bool p, .bool q, .int .i64 m]] W fun e W' => e = .returned (.bool true) ∧ W.grownBy W' none := by
  have H1 := Lib.hid (fun w => pack_any ⟨p, q, m⟩ w)
  have H2 := Lib.hid (fun w => rPack_any ⟨p, q, m⟩ w)
  obtain ⟨⟨x, f⟩, hr⟩ : ∃ r, packV ⟨p, q, m⟩ = r := ⟨_, rfl⟩
  rw [hr] at H1 H2
  clear hr
  go_enter Try.func10, Try.ntmps10
  go_wp2_with (first
    | (go_at_call 34; refine (H1.out _).mono ?_; rintro e w2 ⟨rfl, hg⟩; have HG1 := Lib.hid hg; have x0 := hg.cell (a := ⟨W.heap.size, 0, none⟩) (v := .bool p) (by simp [go_sem]) (by simp); have x1 := hg.cell (a := ⟨W.heap.size, 1, none⟩) (v := .bool q) (by simp [go_sem]) (by simp); have x2 := hg.cell (a := ⟨W.heap.size, 2, none⟩) (v := .int .i64 m) (by simp [go_sem]) (by simp); clear hg)
    | (go_at_call 40; refine (H2.out _).mono ?_; rintro e w3 ⟨rfl, hg⟩; have HG2 := Lib.hid hg; clear hg)
    | (go_at_call 28; refine (pAwake _).mono ?_; rintro e w4 ⟨rfl, hg⟩; have HG3 := Lib.hid hg; clear hg))
  go_ret
  exact ⟨rfl, ((World.grownBy_alloc _ _ _).trans HG1.out).trans (HG2.out.trans HG3.out)⟩

theorem own : ownKnob Try.prog.godebug = none := by kernel_rfl
theorem laidOut : laidOutB Try.prog = true := by kernel_rfl

set_option maxRecDepth 100000 in
theorem lifted (os : Os) (started : os.Started) (H : Type) (enc : TypeId × Value → H) :
    ReturnsInHanded {} Try.checked os 10 .any (Rows.ptePacksSpec.pre6 enc Try.prog Try.f10 Rows.ptePacksRow.domain false) (Rows.ptePacksSpec.post enc Try.prog Try.f10 false true false false) := by
  refine returnsInHanded_of_change_sized (C := Try.checked) own started (by kernel_rfl) Try.func10
    (ChangeSpec.witness6 (enc := enc) (C := Try.checked) false ⟨#[], #[.agg #[.bool false, .bool false, .int .i64 0]], []⟩ 8 (by kernel_rfl) (by kernel_rfl) (by kernel_rfl) (by kernel_rfl)) ?_
  intro W base args ds gs before hval0 hW _ hsz0 _
  have hsz : (DataW.weightsEach Try.prog (Try.f10.params.toList ++ Rows.ptePacksSpec.plain.varTypes Try.prog) (ds ++ gs)).all (· ≤ reachBytes) = true := hsz0
  clear hsz0
  have hval : ∀ (j : Nat) t v, Try.f10.params[j]? = some t → args[j]? = some v → Value.okWide Try.prog W .any base t v := hval0
  have hW' := hW
  obtain ⟨p, q, hA0, hV, rfl, hfz, hnd⟩ := hW
  have hA : DataW.TrodAll enc Try.prog W 0 (fun _ => true) true Try.f10.params.toList args.toList ds p := hA0
  rw [Try.params10] at hA hval hsz
  obtain ⟨v0, vs0, d0, ds0, p0, q0, hargs, rfl, rfl, h0, r0⟩ := trodAll_cons hA
  obtain ⟨rfl, rfl, rfl⟩ := trodAll_nil r0
  obtain rfl : args = #[v0] := by cases args; simp_all
  obtain ⟨rfl, rfl⟩ := trodVars_none hV
  obtain ⟨x0a, x0b, x0c, y0a, y0b, y0c, m0, rfl, hd0, hp0, hy0a, hy0b, hy0c⟩ := Joins.open_agg3 Try.underlying69 (by kernel_rfl) (by kernel_rfl) (hval 0 69 v0 rfl rfl) h0
  obtain ⟨f0a, e0a, rfl⟩ := DataW.trod_bool Try.underlying4 hy0a
  simp only [List.cons.injEq, and_true] at e0a
  subst e0a
  obtain ⟨f0b, e0b, rfl⟩ := DataW.trod_bool Try.underlying4 hy0b
  simp only [List.cons.injEq, and_true] at e0b
  subst e0b
  obtain ⟨f0c, e0c, rfl, w0c⟩ := DataW.trod_int Try.underlying3 hy0c
  simp only [List.cons.injEq, and_true] at e0c
  subst e0c
  have k0 := h0
  have lt0 : ∀ x ∈ p0, x.block < W.heap.size := by obtain ⟨m, hm⟩ := k0; exact DataW.trod_lt m _ _ _ hm
  clear hA0 hval0
  refine (main (H := H) (enc := enc) f0a f0b f0c W).mono fun e W' ⟨he, hg⟩ => ?_
  subst he
  have bel := below_grown' hg
  simp only [List.append_nil, List.nil_append] at hW'
  exact ⟨_, rfl, _, _, _, [], _, [], hW', trodAll_mk1 (shut_bool Try.underlying4 _), (trodAll_cons_mk (Below.trod laidOut (by kernel_rfl) (of_decide_eq_true (by kernel_rfl)) k0 bel lt0) trodAll_mk0), rfl, bel.frame _, fun h => by cases h⟩

theorem proved : Rows.PtePacksSaid :=
  OpenClaim.holds_of_wide 10 Try.f10 rfl rfl rfl rfl rfl rfl rfl ⟨rfl, rfl, rfl, rfl, rfl⟩ rfl rfl rfl rfl rfl (by kernel_rfl) Try.func10 (by kernel_rfl)
    (of_decide_eq_true (by kernel_rfl)) (by unfold Func.isWrapper; first | (rw [if_pos (by decide +kernel)]; kernel_rfl) | (rw [if_neg (by decide +kernel)]; exact ⟨rfl, rfl⟩))
    (fun os started H enc _ => lifted os started H enc)
#print axioms proved

end Go.Proofs.Ytdjhkacjgdnglaa.lawPtePacks
