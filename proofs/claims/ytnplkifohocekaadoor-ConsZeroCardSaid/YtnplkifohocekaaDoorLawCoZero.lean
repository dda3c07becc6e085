/-
  ConsZero: a console that nobody made answers nothing, and a console that was made answers nothing to a view that is nil; what came in is as it was.
-/
import Derived.Test.YtnplkifohocekaaDoorCoZ
import Derived.Test.YtnplkifohocekaaDoorViewD
set_option linter.unusedSimpArgs false
set_option linter.unusedVariables false
namespace Go.Proofs.YtnplkifohocekaaDoor.lawCoZero
open Go.RowKit Go.Lib Go.Proofs.YtnplkifohocekaaDoor.Bk Go.Proofs.YtnplkifohocekaaDoor.Co Go.ChangeShapes Go.WideShapes Go.ChangeAt Go.Deep
set_option maxHeartbeats 4000000
theorem upTo1 : 1 ≤ (upTo ((1 : Nat) : Int) 1).n := by show (1 : Int) ≤ ((1 : Nat) : Int); omega
set_option maxRecDepth 100000 in
theorem main {H : Type} {enc : TypeId × Value → H} (v0 : Value) (W : World) (_hT : Lib.Utf8Tabs 0 1 W) (_c0 : Flat.Came enc Tryd.prog W 0 (fun _ => true) true 22 v0) :
    Calls Tryd.prog 7 #[v0] W fun e w' => e = .returned (.bool true) ∧ Below W.heap.size W w' := by
  obtain ⟨W1, hW1⟩ : ∃ W1, W.alloc (Obj.cells (cnCells 0 false 0 (.slice none 0 0) (.slice none 0 0) 0) 74) = W1 := ⟨_, rfl⟩
  have hd : W1.cell? ⟨W.heap.size, 1, none⟩ = some (.bool false) := by rw [← hW1]; simp [cnCells]
  have HD := hid hd
  have HG1 := hid (show W.grownBy W1 none from hW1 ▸ World.grownBy_alloc W _ none)
  have HN := hid (New_yes 1 W1 (by omega) (by omega))
  unfold cnCells at hW1
  clear hd _hT _c0
  go_enter Tryd.func7, Tryd.ntmps7
  go_wp2_with (first
    | (go_at_call 25; refine HN.out.mono ?_; rintro e w2 ⟨v, rfl, B, rfl, hB, hM, hg⟩; have HV := hid (vNew B none 0 [] w2 _ hM upTo1 (by simp) (fun j hj => by simp at hj)); have HG2 := hid (HG1.out.trans hg); have HD2 := hid (hg.cell HD.out (by simp)); clear hB hM hg)
    | (go_at_call 21; refine HV.out.mono ?_; rintro e w3 ⟨rfl, _, hg⟩; have HG3 := hid (HG2.out.trans hg); have HD3 := hid (hg.cell HD2.out (by simp)); clear hg)
    | (go_at_call 23; (with_reducible refine (cDrain_nil _ _).mono ?_); rintro e w' ⟨rfl, hw'⟩; subst w')
    | (go_at_call 24; (with_reducible refine (cFeed_no _ _ _ _ HD3.out).mono ?_); rintro e w' ⟨rfl, hw'⟩; subst w')
    | (go_at_call 13; refine (cNew_yes 0 _ (by decide) (by decide)).mono ?_; rintro e w4 ⟨rfl, hw4⟩; have HK := hid (show w4.cell? ⟨w3.heap.size, 1, none⟩ = some (.bool true) by rw [hw4]; simp [cnCells]); have HG4 := hid (show W.grownBy w4 none by rw [hw4]; exact HG3.out.trans (World.grownBy_alloc w3 _ none)); have HD4 := hid (show w4.cell? ⟨W.heap.size, 1, none⟩ = some (.bool false) by rw [hw4]; exact (World.grownBy_alloc w3 _ none).cell HD3.out (by simp)); clear hw4)
    | (go_at_call 24; (with_reducible refine (cFeed_nov _ _ _ HK.out).mono ?_); rintro e w' ⟨rfl, hw'⟩; subst w')
    | (go_at_call 17; (with_reducible refine (cLines_nil _).mono ?_); rintro e w' ⟨rfl, hw'⟩; subst w')
    | (go_at_call 18; (with_reducible refine (cRest_no _ _ HD4.out).mono ?_); rintro e w' ⟨rfl, hw'⟩; subst w')
    | (go_at_call 19; (with_reducible refine (cMfn_nil _).mono ?_); rintro e w' ⟨rfl, hw'⟩; subst w')
    | fail)
  go_ret
  exact ⟨rfl, below_grown HG4.out⟩
theorem own : ownKnob Tryd.prog.godebug = none := by kernel_rfl
theorem laidOut : laidOutB Tryd.prog = true := by kernel_rfl
set_option maxRecDepth 100000 in
theorem contract (H : Type) (enc : TypeId × Value → H) (W : World) (base : Nat) (args : Array Value) (ds gs : List (DataW H)) (before : List MemPlace)
    (hval0 : ∀ (j : Nat) t v, Tryd.f7.params[j]? = some t → args[j]? = some v → Value.okWide Tryd.prog W .any base t v)
    (hW : DataW.Whole enc Tryd.prog Tryd.f7.params.toList Rows.consZeroSpec.vars false W args.toList ds gs before)
    (hsz0 : (DataW.weightsEach Tryd.prog (Tryd.f7.params.toList ++ Rows.consZeroSpec.plain.varTypes Tryd.prog) (ds ++ gs)).all (· ≤ reachBytes) = true) (hT : Lib.Utf8Tabs 0 1 W) :
    Calls Tryd.prog 7 args W fun e W' => ∃ v, e = .returned v ∧ Rows.consZeroSpec.post enc Tryd.prog Tryd.f7 false true false false W args v W' := by
  have hsz := hsz0
  clear hsz0
  have hval : ∀ (j : Nat) t v, Tryd.f7.params[j]? = some t → args[j]? = some v → Value.okWide Tryd.prog W .any base t v := hval0
  have hW' := hW
  obtain ⟨p, q, hA0, hV, rfl, hfz, hnd⟩ := hW
  have hA : DataW.TrodAll enc Tryd.prog W 0 (fun _ => true) true Tryd.f7.params.toList args.toList ds p := hA0
  rw [Tryd.params7] at hA hval hsz
  obtain ⟨v0, vs0, d0, ds0, p0, q0, hargs, rfl, rfl, h0, r0⟩ := trodAll_cons hA
  obtain ⟨rfl, rfl, rfl⟩ := trodAll_nil r0
  obtain rfl : args = #[v0] := by cases args; simp_all
  obtain ⟨rfl, rfl⟩ := trodVars_none hV
  obtain ⟨ps0, ln0, cp0, rfl⟩ := okWide_slice Tryd.underlying22 (hval 0 22 v0 rfl rfl)
  have k0 := h0
  have lt0 : ∀ x ∈ p0, x.block < W.heap.size := by obtain ⟨m, hm⟩ := k0; exact DataW.trod_lt m _ _ _ hm
  have c0 : Flat.Came enc Tryd.prog W 0 (fun _ => true) true 22 (.slice ps0 ln0 cp0) := by
    obtain ⟨fuel, hf⟩ := h0
    exact ⟨fuel, _, hf, fun n hn => by
      have := List.all_eq_true.1 hsz n (DataW.weights_mem_each (j := 0) rfl rfl n hn)
      simpa using this⟩
  clear hA0 hval0
  refine (main (.slice ps0 ln0 cp0) W hT c0).mono fun e W' ⟨he, bel⟩ => ?_
  subst he
  simp only [List.append_nil, List.nil_append] at hW'
  exact ⟨_, rfl, _, _, _, [], _, [], hW', trodAll_mk1 (shut_bool Tryd.underlying4 _), (trodAll_cons_mk (Below.trod laidOut (by kernel_rfl) (of_decide_eq_true (by kernel_rfl)) k0 bel lt0) trodAll_mk0), rfl, bel.frame _, fun h => by cases h⟩
theorem laid_met (os : Os) (args : Array Value) : laidMet Tryd.prog Rows.consZeroRow.laid ((World.laidAll Tryd.prog os Rows.consZeroRow.laid).forCall (fun _ _ => 0) ⟨#[], args, []⟩).memory :=
  laidMet_laidAll _ (by kernel_rfl) (by kernel_rfl)
theorem reads (os : Os) {H : Type} (enc : TypeId × Value → H) : ∃ places, DataW.whole enc Tryd.prog ((World.laidAll Tryd.prog os Rows.consZeroRow.laid).forCall (fun _ _ => 0) ⟨#[], #[.slice none 0 0], []⟩).memory Tryd.f7.params.toList Rows.consZeroSpec.vars false (#[.slice none 0 0] : Array Value).toList 8 = some ([.nil], [], places) :=
  ⟨[], by kernel_rfl⟩
set_option maxRecDepth 100000 in
theorem lifted (os : Os) (started : os.Started) (H : Type) (enc : TypeId × Value → H) (F : Stop.Interp) :
    ReturnsInHanded {} Tryd.checked os 7 .any ((OpenSpec.ofChange Rows.consZeroSpec).preRow enc Tryd.prog Tryd.f7 Rows.consZeroRow.domain false Rows.consZeroRow.laid) (((OpenSpec.ofChange Rows.consZeroSpec).at F).post enc Tryd.prog Tryd.f7 false true false false) := by
  obtain ⟨places, hx⟩ := reads os enc
  refine returnsInHanded_of_row (C := Tryd.checked) (s := (OpenSpec.ofChange Rows.consZeroSpec)) own started (by kernel_rfl) Tryd.func7
    (witness_row_at (enc := enc) (C := Tryd.checked) false (World.laidAll Tryd.prog os Rows.consZeroRow.laid) #[.slice none 0 0] (World.laidAll_os _ _ _) (by kernel_rfl) (by kernel_rfl) (by kernel_rfl)
      (OpenSpec.preRow_of_cond 8 hx (by kernel_rfl) (fun k hk => by cases hk) (by kernel_rfl) (laid_met os _))) ?_
  intro W base args ds gs before hval hW _ hcond hsz hL _ _
  exact contract H enc W base args ds gs before hval hW hsz (tabs_of hL (.head _) (.tail _ (.head _)))
theorem said : Rows.ConsZeroSaid :=
  OpenClaim.holds_of_cond 7 Tryd.f7 rfl rfl rfl rfl rfl rfl rfl ⟨rfl, rfl, rfl, rfl, rfl⟩ rfl rfl rfl rfl rfl (by kernel_rfl) Tryd.func7 (by kernel_rfl)
    (of_decide_eq_true (by kernel_rfl)) (by unfold Func.isWrapper; first | (rw [if_pos (by decide +kernel)]; kernel_rfl) | (rw [if_neg (by decide +kernel)]; exact ⟨rfl, rfl⟩))
    (fun os started H enc _ F => by rw [OpenClaim.pre_eq_preRow]; exact lifted os started H enc F)
theorem plain (f : FuncId) (fn : Func) (hf : Tryd.pinned.checked.prog.funcNamed "tenement/tenementlaw16.ConsZero" = some f) (hfn : Tryd.pinned.checked.prog.funcs[f]? = some fn) :
    false = Tryd.pinned.checked.prog.looks [] ∧ ∀ (j : Nat) t, fn.params[j]? = some t → Tryd.pinned.checked.prog.wantsStandIn t = false := by
  obtain rfl : f = 7 := Option.some.inj ((show Tryd.prog.funcNamed "tenement/tenementlaw16.ConsZero" = some 7 by kernel_rfl).symm.trans hf) |>.symm
  obtain rfl : fn = Tryd.f7 := (Option.some.inj (Tryd.func7.symm.trans hfn)).symm
  refine ⟨by kernel_rfl, fun j t ht => ?_⟩
  rw [Tryd.params7] at ht
  have hm : t ∈ [22] := by have := Array.mem_of_getElem? ht; simp at this ⊢; omega
  have hall : ([22].all fun u => !Tryd.prog.wantsStandIn u) = true := by kernel_rfl
  exact (show Tryd.prog.wantsStandIn t = false by simpa using List.all_eq_true.1 hall t hm)
theorem card : Rows.ConsZeroCardSaid :=
  Claim7.holds_tied_plain_at .later [] _ _ _ _ said (fun _ h => by cases h) (by kernel_rfl) (fun _ h => by cases h) consZero_row_tie rfl ⟨rfl, rfl⟩ (by kernel_rfl) rfl plain (by kernel_rfl)
#print axioms card
end Go.Proofs.YtnplkifohocekaaDoor.lawCoZero
