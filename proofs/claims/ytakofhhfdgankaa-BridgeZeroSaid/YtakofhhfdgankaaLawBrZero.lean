/-
  BridgeZero: for every two numbers the law returns true, and what was there stays. No condition.
-/
import Derived.Test.YtakofhhfdgankaaBrN
import Derived.Test.YtakofhhfdgankaaBrF
import Derived.Test.YtakofhhfdgankaaOpen
import Derived.Test.YtakofhhfdgankaaLift
import Derived.OpenShut
set_option linter.unusedSimpArgs false
set_option linter.unusedVariables false
namespace Go.Proofs.Ytakofhhfdgankaa.lawBrZero
open Go.ChangeShapes Go.WideShapes Go.ChangeAt Go.RowKit Gen Br
set_option maxHeartbeats 1000000

set_option maxRecDepth 100000 in
theorem walk (a b : Int) (w : World) : Calls Try.prog 7 #[.int .i64 a, .int .i64 b] w fun e w' => e = .returned (.bool true) ∧ w.grownBy w' none := by
  obtain ⟨W, hW, hg, hx⟩ : ∃ W, w.alloc (.cells #[.slice none 0 0, .map none] 58) = W ∧ w.grownBy W none ∧ W.cell? ⟨w.heap.size, 0, none⟩ = some (.slice none 0 0) := ⟨_, rfl, World.grownBy_alloc _ _ _, by simp [go_sem]⟩
  have N0 := hid (fun (w' : World) => (show NoS w' none from .inl rfl))
  have N1 := hid (fun (w' : World) (h : W.grownBy w' none) => (show NoS w' (some ⟨w.heap.size, 0, none⟩) from .inr ⟨_, _, _, rfl, h.cell hx (by simp)⟩))
  have HG := hid hg
  clear hg hx
  go_enter Try.func7, Try.ntmps7
  go_wp2_with (first
    | (go_at_call 20; refine (bHead_none _ _ _ (N0.out _)).mono ?_; rintro e w2 ⟨rfl, rfl⟩)
    | (go_at_call 21; refine (bKnown_no _ _ _ (N1.out _ (grownBy_refl _ _))).mono ?_; rintro e w2 ⟨rfl, rfl⟩)
    | (go_at_call 14; refine (bCounts_none _ _ _ (N0.out _)).mono ?_; rintro e w3 ⟨rfl, g3⟩; have G3 := hid g3; clear g3)
    | (refine wpList_alloc_ct rfl rfl ?_; intro w4 hs4 hb4 hg4; have B4 := hid hb4; have G4 := hid hg4; clear hs4 hb4 hg4)
    | (refine wpList_store_ct rfl (.tmp 11) (.tmp 29) rfl _ (ctC 0 0 0 0 0 0 0 0 0) rfl (ctC_one _ _ _ _ _ _ _ _ _) rfl rfl _ B4.out ?_; intro w5 hs5 hb5 hg5; have G5 := hid ((G3.out.trans G4.out).andThen hg5 fun j hj => by cases hj; exact .inl G3.out.size); clear hs5 hb5 hg5)
    | (go_at_call 18; refine (bSend_none _ _ _ _ (N1.out _ G5.out)).mono ?_; rintro e w2 ⟨rfl, rfl⟩)
    | (go_at_call 22; refine (bRate_none _ _ _ _ _ (N0.out _)).mono ?_; rintro e w2 ⟨rfl, rfl⟩)
    | (go_at_call 23; refine (bTick_none _ _ (N1.out _ G5.out)).mono ?_; rintro e w2 ⟨rfl, rfl⟩)
    | (go_at_call 24; refine (bBad_none _ _ _ (N0.out _)).mono ?_; rintro e w2 ⟨rfl, rfl⟩)
    | (go_at_call 25; refine (bDone_none _ _ _ _ (N1.out _ G5.out)).mono ?_; rintro e w2 ⟨rfl, rfl⟩)
    | (go_at_call 16; refine (bDown_none _ _ _ (N0.out _)).mono ?_; rintro e w6 ⟨rfl, g6⟩; have G6 := hid (G5.out.trans g6); clear g6)
    | (go_at_call 26; refine (bPorts_no _ _ (N0.out _)).mono ?_; rintro e w2 ⟨rfl, rfl⟩)
    | (go_at_call 15; refine (bCredit_no _ _ _ (N1.out _ G6.out)).mono ?_; rintro e w2 ⟨rfl, rfl⟩))
  go_ret
  exact ⟨rfl, HG.out.trans G6.out⟩
theorem main {H : Type} {enc : TypeId × Value → H} (v0 v1 : Value) (W : World) (c0 : Flat.Came enc Try.prog W 0 (fun _ => true) true 3 v0) (c1 : Flat.Came enc Try.prog W 0 (fun _ => true) true 3 v1) :
    Calls Try.prog 7 #[v0, v1] W fun e w' => e = .returned (.bool true) ∧ W.grownBy w' none := by
  obtain ⟨a, rfl, _⟩ := c0.int Try.underlying3
  obtain ⟨b, rfl, _⟩ := c1.int Try.underlying3
  exact walk a b W

theorem own : ownKnob Try.prog.godebug = none := by kernel_rfl
theorem laidOut : laidOutB Try.prog = true := by kernel_rfl

set_option maxRecDepth 100000 in
theorem lifted (os : Os) (started : os.Started) (H : Type) (enc : TypeId × Value → H) :
    ReturnsInHanded {} Try.checked os 7 .any (Rows.bridgeZeroSpec.pre6 enc Try.prog Try.f7 Rows.bridgeZeroRow.domain false) (Rows.bridgeZeroSpec.post enc Try.prog Try.f7 false true false false) := by
  refine returnsInHanded_of_change_sized (C := Try.checked) own started (by kernel_rfl) Try.func7
    (ChangeSpec.witness6 (enc := enc) (C := Try.checked) false ⟨#[], #[.int .i64 0, .int .i64 0], []⟩ 8 (by kernel_rfl) (by kernel_rfl) (by kernel_rfl) (by kernel_rfl)) ?_
  intro W base args ds gs before hval0 hW _ hsz0 _
  have hsz : (DataW.weightsEach Try.prog (Try.f7.params.toList ++ Rows.bridgeZeroSpec.plain.varTypes Try.prog) (ds ++ gs)).all (· ≤ reachBytes) = true := hsz0
  clear hsz0
  have hval : ∀ (j : Nat) t v, Try.f7.params[j]? = some t → args[j]? = some v → Value.okWide Try.prog W .any base t v := hval0
  have hW' := hW
  obtain ⟨p, q, hA0, hV, rfl, hfz, hnd⟩ := hW
  have hA : DataW.TrodAll enc Try.prog W 0 (fun _ => true) true Try.f7.params.toList args.toList ds p := hA0
  rw [Try.params7] at hA hval hsz
  obtain ⟨v0, vs0, d0, ds0, p0, q0, hargs, rfl, rfl, h0, r0⟩ := trodAll_cons hA
  obtain ⟨v1, vs1, d1, ds1, p1, q1, rfl, rfl, rfl, h1, r1⟩ := trodAll_cons r0
  obtain ⟨rfl, rfl, rfl⟩ := trodAll_nil r1
  obtain rfl : args = #[v0, v1] := by cases args; simp_all
  obtain ⟨rfl, rfl⟩ := trodVars_none hV
  obtain ⟨a0, rfl, rfl, rfl, w0⟩ := open_int Try.underlying3 (hval 0 3 v0 rfl rfl) h0
  have k0 := h0
  have lt0 : ∀ x ∈ ([] : List MemPlace), x.block < W.heap.size := by obtain ⟨m, hm⟩ := k0; exact DataW.trod_lt m _ _ _ hm
  have c0 : Flat.Came enc Try.prog W 0 (fun _ => true) true 3 (.int .i64 a0) := by
    obtain ⟨fuel, hf⟩ := h0
    exact ⟨fuel, _, hf, fun n hn => by
      have := List.all_eq_true.1 hsz n (DataW.weights_mem_each (j := 0) rfl rfl n hn)
      simpa using this⟩
  obtain ⟨a1, rfl, rfl, rfl, w1⟩ := open_int Try.underlying3 (hval 1 3 v1 rfl rfl) h1
  have k1 := h1
  have lt1 : ∀ x ∈ ([] : List MemPlace), x.block < W.heap.size := by obtain ⟨m, hm⟩ := k1; exact DataW.trod_lt m _ _ _ hm
  have c1 : Flat.Came enc Try.prog W 0 (fun _ => true) true 3 (.int .i64 a1) := by
    obtain ⟨fuel, hf⟩ := h1
    exact ⟨fuel, _, hf, fun n hn => by
      have := List.all_eq_true.1 hsz n (DataW.weights_mem_each (j := 1) rfl rfl n hn)
      simpa using this⟩
  clear hA0 hval0
  refine (main (.int .i64 a0) (.int .i64 a1) W c0 c1).mono fun e W' ⟨he, hg⟩ => ?_
  subst he
  have bel := below_grown' hg
  simp only [List.append_nil, List.nil_append] at hW'
  exact ⟨_, rfl, _, _, _, [], _, [], hW', trodAll_mk1 (shut_bool Try.underlying4 _), (trodAll_cons_mk (Below.trod laidOut (by kernel_rfl) (of_decide_eq_true (by kernel_rfl)) k0 bel lt0) (trodAll_cons_mk (Below.trod laidOut (by kernel_rfl) (of_decide_eq_true (by kernel_rfl)) k1 bel lt1) trodAll_mk0)), rfl, bel.frame _, fun h => by cases h⟩

theorem proved : Rows.BridgeZeroSaid :=
  OpenClaim.holds_of_wide 7 Try.f7 rfl rfl rfl rfl rfl rfl rfl ⟨rfl, rfl, rfl, rfl, rfl⟩ rfl rfl rfl rfl rfl (by kernel_rfl) Try.func7 (by kernel_rfl)
    (of_decide_eq_true (by kernel_rfl)) (by unfold Func.isWrapper; first | (rw [if_pos (by decide +kernel)]; kernel_rfl) | (rw [if_neg (by decide +kernel)]; exact ⟨rfl, rfl⟩))
    (fun os started H enc _ => lifted os started H enc)
#print axioms proved
end Go.Proofs.Ytakofhhfdgankaa.lawBrZero
