/-
  ConsShows, where what comes in is of bulk at most 1048576: every row of bytes is shown as the document says, whatever the bytes; what came in is as it was. The two tables of the library's decoder hold what the program's text lays.
-/
import Derived.Test.YtnplkifohocekaaDoorCoL
set_option linter.unusedSimpArgs false
set_option linter.unusedVariables false
namespace Go.Proofs.YtnplkifohocekaaDoor.lawCoShows
open Go.RowKit Go.Lib Go.Proofs.YtnplkifohocekaaDoor.Bk Go.Proofs.YtnplkifohocekaaDoor.Co Go.ChangeShapes Go.WideShapes Go.ChangeAt Go.Deep
set_option maxHeartbeats 4000000
set_option maxRecDepth 100000 in
theorem main {H : Type} {enc : TypeId × Value → H} (v0 : Value) (W : World) (hT : Lib.Utf8Tabs 0 1 W) (c0 : Flat.Came enc Tryd.prog W 0 (fun _ => true) true 22 v0) (hn : ∀ p n c, v0 = .slice p n c → n ≤ 1048576) :
    Calls Tryd.prog 3 #[v0] W fun e w' => e = .returned (.bool true) ∧ Below W.heap.size W w' := by
  obtain ⟨p, l, c, rfl, hin, _, hpc, hlc⟩ := came_bytes c0
  have hl := hn _ _ _ rfl
  clear hn c0
  obtain ⟨W1, hW1⟩ : ∃ W1, W.alloc (Obj.cells #[] 5) = W1 := ⟨_, rfl⟩
  have HB1 := hid (show W.grownBy W1 none from hW1 ▸ World.grownBy_alloc W _ none)
  have ho := own_made0 W
  rw [hW1] at ho
  obtain ⟨v', W2, hr, ho2, hg2⟩ := run_append_ba W1 W.heap.size _ 0 _ ho p l c hpc (hin.grown HB1.out) (by omega) HB1.out.size
  have HB2 := hid (own_then HB1.out ho (Nat.le_refl _) hg2)
  rw [Nat.zero_add, bcells_nil, List.nil_append] at ho2
  obtain ⟨p2, c2, rfl, hb2, hlc2, _⟩ := own_ba ho2
  have HS := hid (bShow l p2 c2 W2 (by omega) hb2 (Utf8Tabs_below hT (below_grown HB2.out)))
  have HR := hid hr
  have HI := hid hin
  have HT := hid hT
  clear hr ho ho2 hb2 hg2 hin hT
  have e0 : (⟨(showV l).toArray⟩ : ByteArray) = ⟨(showV l).toArray⟩ := rfl
  obtain ⟨T, hT⟩ : ∃ T : ByteArray, ⟨(showV l).toArray⟩ = T := ⟨_, rfl⟩
  rw [hT] at HS
  have HTT := hid hT
  clear hT e0
  go_enter Tryd.func3, Tryd.ntmps3
  go_wp2_with (first
    | (at_builtin; (with_reducible refine Lib.wpList_append_run _ rfl _ _ _ _ rfl _ _ rfl rfl _ _ (HR.out _) ?_))
    | (go_at_call 9; (with_reducible refine HS.out.mono ?_); rintro e W3 ⟨rfl, hb3⟩; have HB3 := hid (HB2.out.trans (grown_below hb3)); have HR2 := hid (rShow l p c W3 (by omega) hlc (HI.out.grown HB3.out)); rw [HTT.out] at HR2; clear hb3)
    | (go_at_call 10; (with_reducible refine HR2.out.mono ?_); rintro e W4 ⟨rfl, m4, rfl⟩; have HB4 := hid (HB3.out.trans (grownBy_drewN W3 m4 none)); have HA := hid (lAwake (W3.drewN m4) (Utf8Tabs_below HT.out (below_grown HB4.out))))
    | (go_at_call 11; (with_reducible refine HA.out.mono ?_); rintro e W5 ⟨rfl, hb5⟩; have HB5 := hid (HB4.out.trans (grown_below hb5)); clear hb5))
  go_wp2
  go_ret
  exact ⟨rfl, below_grown HB5.out⟩
theorem own : ownKnob Tryd.prog.godebug = none := by kernel_rfl
theorem laidOut : laidOutB Tryd.prog = true := by kernel_rfl
set_option maxRecDepth 100000 in
theorem contract (H : Type) (enc : TypeId × Value → H) (W : World) (base : Nat) (args : Array Value) (ds gs : List (DataW H)) (before : List MemPlace)
    (hval0 : ∀ (j : Nat) t v, Tryd.f3.params[j]? = some t → args[j]? = some v → Value.okWide Tryd.prog W .any base t v)
    (hW : DataW.Whole enc Tryd.prog Tryd.f3.params.toList Rows.consShowsSpec.vars false W args.toList ds gs before)
    (hk : Rows.uptoSmall H (ds ++ gs) = true)
    (hsz0 : (DataW.weightsEach Tryd.prog (Tryd.f3.params.toList ++ Rows.consShowsSpec.plain.varTypes Tryd.prog) (ds ++ gs)).all (· ≤ reachBytes) = true) (hT : Lib.Utf8Tabs 0 1 W) :
    Calls Tryd.prog 3 args W fun e W' => ∃ v, e = .returned v ∧ Rows.consShowsSpec.post enc Tryd.prog Tryd.f3 false true false false W args v W' := by
  have hsz := hsz0
  clear hsz0
  have hval : ∀ (j : Nat) t v, Tryd.f3.params[j]? = some t → args[j]? = some v → Value.okWide Tryd.prog W .any base t v := hval0
  have hW' := hW
  obtain ⟨p, q, hA0, hV, rfl, hfz, hnd⟩ := hW
  have hA : DataW.TrodAll enc Tryd.prog W 0 (fun _ => true) true Tryd.f3.params.toList args.toList ds p := hA0
  rw [Tryd.params3] at hA hval hsz
  obtain ⟨v0, vs0, d0, ds0, p0, q0, hargs, rfl, rfl, h0, r0⟩ := trodAll_cons hA
  obtain ⟨rfl, rfl, rfl⟩ := trodAll_nil r0
  obtain rfl : args = #[v0] := by cases args; simp_all
  obtain ⟨rfl, rfl⟩ := trodVars_none hV
  obtain ⟨ps0, ln0, cp0, rfl⟩ := okWide_slice Tryd.underlying22 (hval 0 22 v0 rfl rfl)
  have k0 := h0
  have lt0 : ∀ x ∈ p0, x.block < W.heap.size := by obtain ⟨m, hm⟩ := k0; exact DataW.trod_lt m _ _ _ hm
  have c0 : Flat.Came enc Tryd.prog W 0 (fun _ => true) true 22 (.slice ps0 ln0 cp0) := by
    obtain ⟨fuel, hf⟩ := h0
    exact ⟨fuel, _, hf, fun n hn => by
      have := List.all_eq_true.1 hsz n (DataW.weights_mem_each (j := 0) rfl rfl n hn)
      simpa using this⟩
  have n0 : ln0 ≤ 1048576 := small_len Tryd.underlying22 (Nat.le_trans (part_le (by simp)) (of_decide_eq_true hk)) h0
  clear hA0 hval0
  refine (main (.slice ps0 ln0 cp0) W hT c0 (fun _ _ _ e => by cases e; exact n0)).mono fun e W' ⟨he, bel⟩ => ?_
  subst he
  simp only [List.append_nil, List.nil_append] at hW'
  exact ⟨_, rfl, _, _, _, [], _, [], hW', trodAll_mk1 (shut_bool Tryd.underlying4 _), (trodAll_cons_mk (Below.trod laidOut (by kernel_rfl) (of_decide_eq_true (by kernel_rfl)) k0 bel lt0) trodAll_mk0), rfl, bel.frame _, fun h => by cases h⟩
theorem laid_met (os : Os) (args : Array Value) : laidMet Tryd.prog Rows.consShowsUptoRow.laid ((World.laidAll Tryd.prog os Rows.consShowsUptoRow.laid).forCall (fun _ _ => 0) ⟨#[], args, []⟩).memory :=
  laidMet_laidAll _ (by kernel_rfl) (by kernel_rfl)
theorem reads (os : Os) {H : Type} (enc : TypeId × Value → H) : ∃ places, DataW.whole enc Tryd.prog ((World.laidAll Tryd.prog os Rows.consShowsUptoRow.laid).forCall (fun _ _ => 0) ⟨#[], #[.slice none 0 0], []⟩).memory Tryd.f3.params.toList Rows.consShowsSpec.vars false (#[.slice none 0 0] : Array Value).toList 8 = some ([.nil], [], places) :=
  ⟨[], by kernel_rfl⟩
set_option maxRecDepth 100000 in
theorem lifted (os : Os) (started : os.Started) (H : Type) (enc : TypeId × Value → H) (F : Stop.Interp) :
    ReturnsInHanded {} Tryd.checked os 3 .any ((Rows.OpenSpec.upto Rows.consShowsSpec).preRow enc Tryd.prog Tryd.f3 Rows.consShowsUptoRow.domain false Rows.consShowsUptoRow.laid) (((Rows.OpenSpec.upto Rows.consShowsSpec).at F).post enc Tryd.prog Tryd.f3 false true false false) := by
  obtain ⟨places, hx⟩ := reads os enc
  refine returnsInHanded_of_row (C := Tryd.checked) (s := (Rows.OpenSpec.upto Rows.consShowsSpec)) own started (by kernel_rfl) Tryd.func3
    (witness_row_at (enc := enc) (C := Tryd.checked) false (World.laidAll Tryd.prog os Rows.consShowsUptoRow.laid) #[.slice none 0 0] (World.laidAll_os _ _ _) (by kernel_rfl) (by kernel_rfl) (by kernel_rfl)
      (OpenSpec.preRow_of_cond 8 hx (by kernel_rfl) (fun k hk => by cases hk; kernel_rfl) (by kernel_rfl) (laid_met os _))) ?_
  intro W base args ds gs before hval hW _ hcond hsz hL _ _
  exact contract H enc W base args ds gs before hval hW (hcond _ rfl) hsz (tabs_of hL (.head _) (.tail _ (.head _)))
theorem said : Rows.ConsShowsUptoSaid :=
  OpenClaim.holds_of_cond 3 Tryd.f3 rfl rfl rfl rfl rfl rfl rfl ⟨rfl, rfl, rfl, rfl, rfl⟩ rfl rfl rfl rfl rfl (by kernel_rfl) Tryd.func3 (by kernel_rfl)
    (of_decide_eq_true (by kernel_rfl)) (by unfold Func.isWrapper; first | (rw [if_pos (by decide +kernel)]; kernel_rfl) | (rw [if_neg (by decide +kernel)]; exact ⟨rfl, rfl⟩))
    (fun os started H enc _ F => by rw [OpenClaim.pre_eq_preRow]; exact lifted os started H enc F)
theorem plain (f : FuncId) (fn : Func) (hf : Tryd.pinned.checked.prog.funcNamed "tenement/tenementlaw16.ConsShows" = some f) (hfn : Tryd.pinned.checked.prog.funcs[f]? = some fn) :
    false = Tryd.pinned.checked.prog.looks [] ∧ ∀ (j : Nat) t, fn.params[j]? = some t → Tryd.pinned.checked.prog.wantsStandIn t = false := by
  obtain rfl : f = 3 := Option.some.inj ((show Tryd.prog.funcNamed "tenement/tenementlaw16.ConsShows" = some 3 by kernel_rfl).symm.trans hf) |>.symm
  obtain rfl : fn = Tryd.f3 := (Option.some.inj (Tryd.func3.symm.trans hfn)).symm
  refine ⟨by kernel_rfl, fun j t ht => ?_⟩
  rw [Tryd.params3] at ht
  have hm : t ∈ [22] := by have := Array.mem_of_getElem? ht; simp at this ⊢; omega
  have hall : ([22].all fun u => !Tryd.prog.wantsStandIn u) = true := by kernel_rfl
  exact (show Tryd.prog.wantsStandIn t = false by simpa using List.all_eq_true.1 hall t hm)
theorem card : Rows.ConsShowsUptoCardSaid :=
  Claim7.holds_tied_plain_at .later [] _ _ _ _ said (fun _ h => by cases h) (by kernel_rfl) (fun _ h => by cases h) consShowsUpto_row_tie rfl ⟨rfl, rfl⟩ (by kernel_rfl) rfl plain (by kernel_rfl)
#print axioms card
end Go.Proofs.YtnplkifohocekaaDoor.lawCoShows
