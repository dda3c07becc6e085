/-
  DomZero: for all three numbers the law returns true, and what was there stays. No condition.
-/
import Derived.Test.YtbbaplcfhofeeaaGreatDmZ
import Derived.Test.YtbbaplcfhofeeaaGreatRows
import Derived.Deep.Cut
set_option linter.unusedSimpArgs false
set_option linter.unusedVariables false
namespace Go.Proofs.YtbbaplcfhofeeaaGreat.lawDomZero
open Go.ChangeShapes Go.WideShapes Go.ChangeAt Go.RowKit Gen Dm
set_option maxHeartbeats 4000000
theorem zeroHy (w : World) : ∃ W, w.alloc (.cells #[.pointer none, .pointer none, .pointer none, .pointer none, .int .i64 0, .int .i64 0, .int .i64 0, .pointer none, .int .i64 0, .int .i64 0, .int .i64 0, .pointer none, .int .i64 0, .int .i64 0, .int .i64 0, .pointer none, .int .i64 0, .int .i64 0, .int .i64 0, .pointer none, .int .i64 0, .int .i64 0, .int .i64 0, .pointer none, .int .i64 0, .int .i64 0, .int .i64 0, .pointer none, .int .i64 0, .int .i64 0, .int .i64 0, .pointer none, .int .i64 0, .int .i64 0, .int .i64 0, .pointer none] 67) = W ∧ w.grownBy W none ∧ NoHy W (some ⟨w.heap.size, 0, none⟩) :=
  ⟨_, rfl, World.grownBy_alloc _ _ none, .inr ⟨_, rfl, by simp [go_sem]⟩⟩
set_option maxRecDepth 100000 in
theorem walk (a b c : Int) (w : World) : Calls Tryz.prog 4 #[.int .i64 a, .int .i64 b, .int .i64 c] w fun e w' => e = .returned (.bool true) ∧ w.grownBy w' none := by
  obtain ⟨W1, hW1, g1, n1⟩ := zeroHy w
  have G := hid g1
  have N := hid n1
  clear g1 n1
  go_enter Tryz.func4, Tryz.ntmps4
  go_wp2_with (first
    | (go_at_call 6; refine (hBuild_no none _ _ (NoHy.nil _)).mono ?_; rintro e wn ⟨rfl, rfl⟩)
    | (go_at_call 18; refine (hDom_no _ _ _ N.out).mono ?_; rintro e w3 ⟨rfl, g2⟩; replace G := hid (G.out.trans g2); replace N := hid (N.out.grown g2); clear g2)
    | (go_at_call 13; refine (hGrant_no none none _ _ _ _ _ (NoHy.nil _)).mono ?_; rintro e wn ⟨rfl, rfl⟩)
    | (go_at_call 23; refine (hPause_no _ _ _ (by first | exact N.out | exact N.out.grown (World.grownBy_alloc _ _ none))).mono ?_; rintro e wn ⟨rfl, rfl⟩)
    | (go_at_call 24; refine (hUnpause_no none _ _ (NoHy.nil _)).mono ?_; rintro e wn ⟨rfl, rfl⟩)
    | (go_at_call 15; refine (hDestroy_no _ _ _ (by first | exact N.out | exact N.out.grown (World.grownBy_alloc _ _ none))).mono ?_; rintro e wn ⟨rfl, rfl⟩)
    | (go_at_call 25; refine (hLive_no none _ _ (NoHy.nil _)).mono ?_; rintro e wn ⟨rfl, rfl⟩)
    | (go_at_call 26; refine (hUnpin_no none _ _ _ (NoHy.nil _)).mono ?_; rintro e wn ⟨rfl, rfl⟩)
    | (go_at_call 27; refine (hSweep_no _ _ (by first | exact N.out | exact N.out.grown (World.grownBy_alloc _ _ none))).mono ?_; rintro e wn ⟨rfl, rfl⟩)
    | (go_at_call 7; refine (hMachine_no none _ (NoHy.nil _)).mono ?_; rintro e wn ⟨rfl, rfl⟩)
    | (go_at_call 28; refine (hMmu_no _ _ (by first | exact N.out | exact N.out.grown (World.grownBy_alloc _ _ none))).mono ?_; rintro e wn ⟨rfl, rfl⟩)
    | (go_at_call 29; refine (hGrants_no none _ (NoHy.nil _)).mono ?_; rintro e wn ⟨rfl, rfl⟩)
    | (go_at_call 30; refine (hEvents_no _ _ (by first | exact N.out | exact N.out.grown (World.grownBy_alloc _ _ none))).mono ?_; rintro e wn ⟨rfl, rfl⟩)
    | (go_at_call 8; refine (hMap_no none _ _ (NoHy.nil _)).mono ?_; rintro e wn ⟨rfl, rfl⟩)
    | (go_at_call 19; refine (hUngrant_no _ _ _ _ (by first | exact N.out | exact N.out.grown (World.grownBy_alloc _ _ none))).mono ?_; rintro e w4 ⟨rfl, g2⟩; replace N := hid ((N.out.grown (World.grownBy_alloc _ _ none)).grown g2); replace G := hid ((G.out.trans (World.grownBy_alloc _ _ none)).trans g2); clear g2)
    | fail)
  go_ret
  exact ⟨rfl, G.out⟩
theorem main {H : Type} {enc : TypeId × Value → H} (v0 v1 v2 : Value) (W : World) (c0 : Flat.Came enc Tryz.prog W 0 (fun _ => true) true 3 v0) (c1 : Flat.Came enc Tryz.prog W 0 (fun _ => true) true 3 v1) (c2 : Flat.Came enc Tryz.prog W 0 (fun _ => true) true 3 v2) :
    Calls Tryz.prog 4 #[v0, v1, v2] W fun e w' => e = .returned (.bool true) ∧ W.grownBy w' none := by
  obtain ⟨a, rfl, _⟩ := c0.int Tryz.underlying3
  obtain ⟨b, rfl, _⟩ := c1.int Tryz.underlying3
  obtain ⟨c, rfl, _⟩ := c2.int Tryz.underlying3
  exact walk a b c W
theorem own : ownKnob Tryz.prog.godebug = none := by kernel_rfl
theorem laidOut : laidOutB Tryz.prog = true := by kernel_rfl

set_option maxRecDepth 100000 in
theorem lifted (os : Os) (started : os.Started) (H : Type) (enc : TypeId × Value → H) :
    ReturnsInHanded {} Tryz.checked os 4 .any (Rows.domZeroSpec.pre6 enc Tryz.prog Tryz.f4 Rows.domZeroRow.domain false) (Rows.domZeroSpec.post enc Tryz.prog Tryz.f4 false true false false) := by
  refine returnsInHanded_of_change_sized (C := Tryz.checked) own started (by kernel_rfl) Tryz.func4
    (ChangeSpec.witness6 (enc := enc) (C := Tryz.checked) false ⟨#[], #[.int .i64 0, .int .i64 0, .int .i64 0], []⟩ 8 (by kernel_rfl) (by kernel_rfl) (by kernel_rfl) (by kernel_rfl)) ?_
  intro W base args ds gs before hval0 hW _ hsz0 _
  have hsz : (DataW.weightsEach Tryz.prog (Tryz.f4.params.toList ++ Rows.domZeroSpec.plain.varTypes Tryz.prog) (ds ++ gs)).all (· ≤ reachBytes) = true := hsz0
  clear hsz0
  have hval : ∀ (j : Nat) t v, Tryz.f4.params[j]? = some t → args[j]? = some v → Value.okWide Tryz.prog W .any base t v := hval0
  have hW' := hW
  obtain ⟨p, q, hA0, hV, rfl, hfz, hnd⟩ := hW
  have hA : DataW.TrodAll enc Tryz.prog W 0 (fun _ => true) true Tryz.f4.params.toList args.toList ds p := hA0
  rw [Tryz.params4] at hA hval hsz
  obtain ⟨v0, vs0, d0, ds0, p0, q0, hargs, rfl, rfl, h0, r0⟩ := trodAll_cons hA
  obtain ⟨v1, vs1, d1, ds1, p1, q1, rfl, rfl, rfl, h1, r1⟩ := trodAll_cons r0
  obtain ⟨v2, vs2, d2, ds2, p2, q2, rfl, rfl, rfl, h2, r2⟩ := trodAll_cons r1
  obtain ⟨rfl, rfl, rfl⟩ := trodAll_nil r2
  obtain rfl : args = #[v0, v1, v2] := by cases args; simp_all
  obtain ⟨rfl, rfl⟩ := trodVars_none hV
  obtain ⟨a0, rfl, rfl, rfl, w0⟩ := open_int Tryz.underlying3 (hval 0 3 v0 rfl rfl) h0
  have k0 := h0
  have lt0 : ∀ x ∈ ([] : List MemPlace), x.block < W.heap.size := by obtain ⟨m, hm⟩ := k0; exact DataW.trod_lt m _ _ _ hm
  have c0 : Flat.Came enc Tryz.prog W 0 (fun _ => true) true 3 (.int .i64 a0) := by
    obtain ⟨fuel, hf⟩ := h0
    exact ⟨fuel, _, hf, fun n hn => by
      have := List.all_eq_true.1 hsz n (DataW.weights_mem_each (j := 0) rfl rfl n hn)
      simpa using this⟩
  obtain ⟨a1, rfl, rfl, rfl, w1⟩ := open_int Tryz.underlying3 (hval 1 3 v1 rfl rfl) h1
  have k1 := h1
  have lt1 : ∀ x ∈ ([] : List MemPlace), x.block < W.heap.size := by obtain ⟨m, hm⟩ := k1; exact DataW.trod_lt m _ _ _ hm
  have c1 : Flat.Came enc Tryz.prog W 0 (fun _ => true) true 3 (.int .i64 a1) := by
    obtain ⟨fuel, hf⟩ := h1
    exact ⟨fuel, _, hf, fun n hn => by
      have := List.all_eq_true.1 hsz n (DataW.weights_mem_each (j := 1) rfl rfl n hn)
      simpa using this⟩
  obtain ⟨a2, rfl, rfl, rfl, w2⟩ := open_int Tryz.underlying3 (hval 2 3 v2 rfl rfl) h2
  have k2 := h2
  have lt2 : ∀ x ∈ ([] : List MemPlace), x.block < W.heap.size := by obtain ⟨m, hm⟩ := k2; exact DataW.trod_lt m _ _ _ hm
  have c2 : Flat.Came enc Tryz.prog W 0 (fun _ => true) true 3 (.int .i64 a2) := by
    obtain ⟨fuel, hf⟩ := h2
    exact ⟨fuel, _, hf, fun n hn => by
      have := List.all_eq_true.1 hsz n (DataW.weights_mem_each (j := 2) rfl rfl n hn)
      simpa using this⟩
  clear hA0 hval0
  refine (main (.int .i64 a0) (.int .i64 a1) (.int .i64 a2) W c0 c1 c2).mono fun e W' ⟨he, hg⟩ => ?_
  subst he
  have bel := below_grown' hg
  simp only [List.append_nil, List.nil_append] at hW'
  exact ⟨_, rfl, _, _, _, [], _, [], hW', trodAll_mk1 (shut_bool Tryz.underlying4 _), (trodAll_cons_mk (Below.trod laidOut (by kernel_rfl) (of_decide_eq_true (by kernel_rfl)) k0 bel lt0) (trodAll_cons_mk (Below.trod laidOut (by kernel_rfl) (of_decide_eq_true (by kernel_rfl)) k1 bel lt1) (trodAll_cons_mk (Below.trod laidOut (by kernel_rfl) (of_decide_eq_true (by kernel_rfl)) k2 bel lt2) trodAll_mk0))), rfl, bel.frame _, fun h => by cases h⟩

theorem proved : Rows.DomZeroSaid :=
  OpenClaim.holds_of_wide 4 Tryz.f4 rfl rfl rfl rfl rfl rfl rfl ⟨rfl, rfl, rfl, rfl, rfl⟩ rfl rfl rfl rfl rfl (by kernel_rfl) Tryz.func4 (by kernel_rfl)
    (of_decide_eq_true (by kernel_rfl)) (by unfold Func.isWrapper; first | (rw [if_pos (by decide +kernel)]; kernel_rfl) | (rw [if_neg (by decide +kernel)]; exact ⟨rfl, rfl⟩))
    (fun os started H enc _ => lifted os started H enc)
#print axioms proved
#print axioms proved
end Go.Proofs.YtbbaplcfhofeeaaGreat.lawDomZero
