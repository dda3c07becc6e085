/-
  PathLeads: for every three texts the law returns true, and the input reads as it did. No condition.
-/
import Derived.Test.YtmnolfaejneomaaDoorPaL
import Derived.Test.YtmnolfaejneomaaDoorPaF
import Derived.Test.YtmnolfaejneomaaDoorCards
import Derived.Test.YtmnolfaejneomaaDoorTie
import Derived.ProofKit
import Derived.OpenShut
import Derived.Deep.DeepHandedRow
import Derived.Lay
set_option linter.unusedSimpArgs false
set_option linter.unusedVariables false
namespace Go.Proofs.YtmnolfaejneomaaDoor.lawPaLeads
open Go.ChangeShapes Go.WideShapes Go.ChangeAt Go.RowKit
open Go.ChangeMaps (open_string shut_string)
set_option maxHeartbeats 4000000
theorem walk (a b c : ByteArray) (w : World) (hm : Ml w) (ha : a.size ≤ 9223372036854775807) (hb : b.size ≤ 9223372036854775807) (hc : c.size ≤ 9223372036854775807) :
    Calls Tryd.prog 5 #[.string a, .string b, .string c] w fun e w' => e = .returned (.bool true) ∧ Below w.heap.size w w' := by
  have hB := Below.refl w.heap.size w
  have HS := hid (show ∀ x ∈ [a, b, c, ⟨#[47]⟩], x.size ≤ 9223372036854775807 by
    intro x hx
    simp only [List.mem_cons, List.not_mem_nil, or_false] at hx
    rcases hx with rfl | rfl | rfl | rfl
    · exact ha
    · exact hb
    · exact hc
    · decide)
  have HU := hid (show ∀ x ∈ [a, b, c, ⟨#[47]⟩], ∀ y ∈ [a, b, c, ⟨#[47]⟩], ∀ w', Ml w' → Calls Tryd.prog 11 #[.string x, .string y] w' (UnPost x y w') from fun x hx y hy w' hm' => paUnder x y w' hm' (HS.out x hx) (HS.out y hy))
  have HP := hid (paParse a w hm ha)
  have hroot : psOk a.data.toList = true → unV [47] a.data.toList = true := unV_root
  clear ha hb hc
  cases hoa : psOk a.data.toList with
  | false =>
    obtain ⟨p, k, hk, hk0⟩ := psOk_none hoa
    have u1 := (unV_no (b := b.data.toList) hoa).1
    have u2 := (unV_no (b := b.data.toList) hoa).2
    have k1 : ((k : Int) == 0) = false := by simp; omega
    have k2 : ((k : Int) != 0) = true := by simp; omega
    have HK := hid hk
    clear hk hk0 hroot hoa
    go_enter Tryd.func5, Tryd.ntmps5
    go_wp2_with (first
      | (go_at_call 14; refine HP.out.mono ?_; rintro e w' ⟨v, xs, rfl, -, -, hx⟩; simp only [HK.out]; replace hm := hm.below hx; replace hB := hB.trans (hx.mono hB.size); clear hx)
      | (go_at_call 11; refine (HU.out _ (by simp) _ (by simp) _ hm).mono ?_; rintro e w' ⟨rfl, hx⟩; replace hm := hm.below hx; replace hB := hB.trans (hx.mono hB.size); clear hx)
      | (go_at_call 13; refine (awake _ hm).mono ?_; rintro e w' ⟨rfl, hx⟩; replace hB := hB.trans (hx.mono hB.size); clear hx hm))
    go_ret
    exact ⟨rfl, hB⟩
  | true =>
    have u0 : unV (ByteArray.mk #[47]).data.toList a.data.toList = true := hroot hoa
    have u1 := unV_self hoa
    have HK := hid (psV_zero (psOk_zero hoa))
    have HAnti := hid (fun h1 h2 => ba_eq (unV_anti (a := a.data.toList) (b := b.data.toList) h1 h2))
    have HTr := hid (fun h1 h2 => unV_trans (a := a.data.toList) (b := b.data.toList) (c := c.data.toList) h1 h2)
    clear hroot hoa
    cases u2 : unV a.data.toList b.data.toList with
    | false =>
      go_enter Tryd.func5, Tryd.ntmps5
      go_wp2_with (first
        | (go_at_call 14; refine HP.out.mono ?_; rintro e w' ⟨v, xs, rfl, -, -, hx⟩; rw [HK.out]; replace hm := hm.below hx; replace hB := hB.trans (hx.mono hB.size); clear hx)
        | (go_at_call 11; refine (HU.out _ (by simp) _ (by simp) _ hm).mono ?_; rintro e w' ⟨rfl, hx⟩; replace hm := hm.below hx; replace hB := hB.trans (hx.mono hB.size); clear hx)
        | (go_at_call 13; refine (awake _ hm).mono ?_; rintro e w' ⟨rfl, hx⟩; replace hB := hB.trans (hx.mono hB.size); clear hx hm))
      go_ret
      exact ⟨rfl, hB⟩
    | true =>
      cases u3 : unV b.data.toList c.data.toList with
      | false =>
        cases u4 : unV b.data.toList a.data.toList with
        | false =>
          go_enter Tryd.func5, Tryd.ntmps5
          go_wp2_with (first
            | (go_at_call 14; refine HP.out.mono ?_; rintro e w' ⟨v, xs, rfl, -, -, hx⟩; rw [HK.out]; replace hm := hm.below hx; replace hB := hB.trans (hx.mono hB.size); clear hx)
            | (go_at_call 11; refine (HU.out _ (by simp) _ (by simp) _ hm).mono ?_; rintro e w' ⟨rfl, hx⟩; replace hm := hm.below hx; replace hB := hB.trans (hx.mono hB.size); clear hx)
            | (go_at_call 13; refine (awake _ hm).mono ?_; rintro e w' ⟨rfl, hx⟩; replace hB := hB.trans (hx.mono hB.size); clear hx hm))
          go_ret
          exact ⟨rfl, hB⟩
        | true =>
          obtain rfl := HAnti.out u2 u4
          go_enter Tryd.func5, Tryd.ntmps5
          go_wp2_with (first
            | (go_at_call 14; refine HP.out.mono ?_; rintro e w' ⟨v, xs, rfl, -, -, hx⟩; rw [HK.out]; replace hm := hm.below hx; replace hB := hB.trans (hx.mono hB.size); clear hx)
            | (go_at_call 11; refine (HU.out _ (by simp) _ (by simp) _ hm).mono ?_; rintro e w' ⟨rfl, hx⟩; replace hm := hm.below hx; replace hB := hB.trans (hx.mono hB.size); clear hx)
            | (go_at_call 13; refine (awake _ hm).mono ?_; rintro e w' ⟨rfl, hx⟩; replace hB := hB.trans (hx.mono hB.size); clear hx hm))
          go_ret
          exact ⟨rfl, hB⟩
      | true =>
        have u5 := HTr.out u2 u3
        cases u4 : unV b.data.toList a.data.toList with
        | false =>
          go_enter Tryd.func5, Tryd.ntmps5
          go_wp2_with (first
            | (go_at_call 14; refine HP.out.mono ?_; rintro e w' ⟨v, xs, rfl, -, -, hx⟩; rw [HK.out]; replace hm := hm.below hx; replace hB := hB.trans (hx.mono hB.size); clear hx)
            | (go_at_call 11; refine (HU.out _ (by simp) _ (by simp) _ hm).mono ?_; rintro e w' ⟨rfl, hx⟩; replace hm := hm.below hx; replace hB := hB.trans (hx.mono hB.size); clear hx)
            | (go_at_call 13; refine (awake _ hm).mono ?_; rintro e w' ⟨rfl, hx⟩; replace hB := hB.trans (hx.mono hB.size); clear hx hm))
          go_ret
          exact ⟨rfl, hB⟩
        | true =>
          obtain rfl := HAnti.out u2 u4
          go_enter Tryd.func5, Tryd.ntmps5
          go_wp2_with (first
            | (go_at_call 14; refine HP.out.mono ?_; rintro e w' ⟨v, xs, rfl, -, -, hx⟩; rw [HK.out]; replace hm := hm.below hx; replace hB := hB.trans (hx.mono hB.size); clear hx)
            | (go_at_call 11; refine (HU.out _ (by simp) _ (by simp) _ hm).mono ?_; rintro e w' ⟨rfl, hx⟩; replace hm := hm.below hx; replace hB := hB.trans (hx.mono hB.size); clear hx)
            | (go_at_call 13; refine (awake _ hm).mono ?_; rintro e w' ⟨rfl, hx⟩; replace hB := hB.trans (hx.mono hB.size); clear hx hm))
          go_ret
          exact ⟨rfl, hB⟩
theorem main {H : Type} {enc : TypeId × Value → H} (v0 v1 v2 : Value) (W : World) (hsh : W.ShapedOpen Tryd.prog) (c0 : Flat.Came enc Tryd.prog W 0 (fun _ => true) true 9 v0) (c1 : Flat.Came enc Tryd.prog W 0 (fun _ => true) true 9 v1) (c2 : Flat.Came enc Tryd.prog W 0 (fun _ => true) true 9 v2) :
    Calls Tryd.prog 5 #[v0, v1, v2] W fun e w' => e = .returned (.bool true) ∧ Below W.heap.size W w' := by
  obtain ⟨s0, rfl, z0⟩ := c0.string Tryd.underlying9
  obtain ⟨s1, rfl, z1⟩ := c1.string Tryd.underlying9
  obtain ⟨s2, rfl, z2⟩ := c2.string Tryd.underlying9
  exact walk s0 s1 s2 W (ml_of hsh) (by unfold maxLen at z0; exact z0) (by unfold maxLen at z1; exact z1) (by unfold maxLen at z2; exact z2)

theorem own : ownKnob Tryd.prog.godebug = none := by kernel_rfl
theorem laidOut : laidOutB Tryd.prog = true := by kernel_rfl
set_option maxRecDepth 100000 in
theorem contract (H : Type) (enc : TypeId × Value → H) (W : World) (base : Nat) (args : Array Value) (ds gs : List (DataW H)) (before : List MemPlace)
    (hval0 : ∀ (j : Nat) t v, Tryd.f5.params[j]? = some t → args[j]? = some v → Value.okWide Tryd.prog W .any base t v)
    (hW : DataW.Whole enc Tryd.prog Tryd.f5.params.toList Rows.pathLeadsSpec.vars false W args.toList ds gs before)
    (hsz0 : (DataW.weightsEach Tryd.prog (Tryd.f5.params.toList ++ Rows.pathLeadsSpec.plain.varTypes Tryd.prog) (ds ++ gs)).all (· ≤ reachBytes) = true) (hsh : W.ShapedOpen Tryd.prog) :
    Calls Tryd.prog 5 args W fun e W' => ∃ v, e = .returned v ∧ Rows.pathLeadsSpec.post enc Tryd.prog Tryd.f5 false true false false W args v W' := by
  have hsz := hsz0
  clear hsz0
  have hval : ∀ (j : Nat) t v, Tryd.f5.params[j]? = some t → args[j]? = some v → Value.okWide Tryd.prog W .any base t v := hval0
  have hW' := hW
  obtain ⟨p, q, hA0, hV, rfl, hfz, hnd⟩ := hW
  have hA : DataW.TrodAll enc Tryd.prog W 0 (fun _ => true) true Tryd.f5.params.toList args.toList ds p := hA0
  rw [Tryd.params5] at hA hval hsz
  obtain ⟨v0, vs0, d0, ds0, p0, q0, hargs, rfl, rfl, h0, r0⟩ := trodAll_cons hA
  obtain ⟨v1, vs1, d1, ds1, p1, q1, rfl, rfl, rfl, h1, r1⟩ := trodAll_cons r0
  obtain ⟨v2, vs2, d2, ds2, p2, q2, rfl, rfl, rfl, h2, r2⟩ := trodAll_cons r1
  obtain ⟨rfl, rfl, rfl⟩ := trodAll_nil r2
  obtain rfl : args = #[v0, v1, v2] := by cases args; simp_all
  obtain ⟨rfl, rfl⟩ := trodVars_none hV
  obtain ⟨a0, rfl, rfl, rfl, w0⟩ := open_string Tryd.underlying9 (hval 0 9 v0 rfl rfl) h0
  have k0 := h0
  have lt0 : ∀ x ∈ ([] : List MemPlace), x.block < W.heap.size := by obtain ⟨m, hm⟩ := k0; exact DataW.trod_lt m _ _ _ hm
  have c0 : Flat.Came enc Tryd.prog W 0 (fun _ => true) true 9 (.string a0) := by
    obtain ⟨fuel, hf⟩ := h0
    exact ⟨fuel, _, hf, fun n hn => by
      have := List.all_eq_true.1 hsz n (DataW.weights_mem_each (j := 0) rfl rfl n hn)
      simpa using this⟩
  obtain ⟨a1, rfl, rfl, rfl, w1⟩ := open_string Tryd.underlying9 (hval 1 9 v1 rfl rfl) h1
  have k1 := h1
  have lt1 : ∀ x ∈ ([] : List MemPlace), x.block < W.heap.size := by obtain ⟨m, hm⟩ := k1; exact DataW.trod_lt m _ _ _ hm
  have c1 : Flat.Came enc Tryd.prog W 0 (fun _ => true) true 9 (.string a1) := by
    obtain ⟨fuel, hf⟩ := h1
    exact ⟨fuel, _, hf, fun n hn => by
      have := List.all_eq_true.1 hsz n (DataW.weights_mem_each (j := 1) rfl rfl n hn)
      simpa using this⟩
  obtain ⟨a2, rfl, rfl, rfl, w2⟩ := open_string Tryd.underlying9 (hval 2 9 v2 rfl rfl) h2
  have k2 := h2
  have lt2 : ∀ x ∈ ([] : List MemPlace), x.block < W.heap.size := by obtain ⟨m, hm⟩ := k2; exact DataW.trod_lt m _ _ _ hm
  have c2 : Flat.Came enc Tryd.prog W 0 (fun _ => true) true 9 (.string a2) := by
    obtain ⟨fuel, hf⟩ := h2
    exact ⟨fuel, _, hf, fun n hn => by
      have := List.all_eq_true.1 hsz n (DataW.weights_mem_each (j := 2) rfl rfl n hn)
      simpa using this⟩
  clear hA0 hval0
  refine (main (.string a0) (.string a1) (.string a2) W hsh c0 c1 c2).mono fun e W' ⟨he, bel⟩ => ?_
  subst he
  simp only [List.append_nil, List.nil_append] at hW'
  exact ⟨_, rfl, _, _, _, [], _, [], hW', trodAll_mk1 (shut_bool Tryd.underlying4 _), (trodAll_cons_mk (Below.trod laidOut (by kernel_rfl) (of_decide_eq_true (by kernel_rfl)) k0 bel lt0) (trodAll_cons_mk (Below.trod laidOut (by kernel_rfl) (of_decide_eq_true (by kernel_rfl)) k1 bel lt1) (trodAll_cons_mk (Below.trod laidOut (by kernel_rfl) (of_decide_eq_true (by kernel_rfl)) k2 bel lt2) trodAll_mk0))), rfl, bel.frame _, fun h => by cases h⟩
theorem laid_met (os : Os) (args : Array Value) : laidMet Tryd.prog Rows.pathLeadsRow.laid ((World.laidAll Tryd.prog os Rows.pathLeadsRow.laid).forCall (fun _ _ => 0) ⟨#[], args, []⟩).memory :=
  laidMet_laidAll _ (by kernel_rfl) (by kernel_rfl)
theorem reads (os : Os) {H : Type} (enc : TypeId × Value → H) : ∃ places, DataW.whole enc Tryd.prog ((World.laidAll Tryd.prog os Rows.pathLeadsRow.laid).forCall (fun _ _ => 0) ⟨#[], #[.string ⟨#[]⟩, .string ⟨#[]⟩, .string ⟨#[]⟩], []⟩).memory Tryd.f5.params.toList Rows.pathLeadsSpec.vars false (#[.string ⟨#[]⟩, .string ⟨#[]⟩, .string ⟨#[]⟩] : Array Value).toList 8 = some ([.lit (.string []), .lit (.string []), .lit (.string [])], [], places) :=
  ⟨[], by kernel_rfl⟩
set_option maxRecDepth 100000 in
theorem lifted (os : Os) (started : os.Started) (H : Type) (enc : TypeId × Value → H) (F : Stop.Interp) :
    ReturnsInHanded {} Tryd.checked os 5 .any ((OpenSpec.ofChange Rows.pathLeadsSpec).preRow enc Tryd.prog Tryd.f5 Rows.pathLeadsRow.domain false Rows.pathLeadsRow.laid) (((OpenSpec.ofChange Rows.pathLeadsSpec).at F).post enc Tryd.prog Tryd.f5 false true false false) := by
  obtain ⟨places, hx⟩ := reads os enc
  refine returnsInHanded_of_row (C := Tryd.checked) (s := OpenSpec.ofChange Rows.pathLeadsSpec) own started (by kernel_rfl) Tryd.func5
    (witness_row_at (enc := enc) (C := Tryd.checked) false (World.laidAll Tryd.prog os Rows.pathLeadsRow.laid) #[.string ⟨#[]⟩, .string ⟨#[]⟩, .string ⟨#[]⟩] (World.laidAll_os _ _ _) (by kernel_rfl) (by kernel_rfl) (by kernel_rfl)
      (OpenSpec.preRow_of_cond 8 hx (by kernel_rfl) (fun k hk => by cases hk) (by kernel_rfl) (laid_met os _))) ?_
  intro W base args ds gs before hval hW _ _ hsz _ hsh _
  exact contract H enc W base args ds gs before hval hW hsz hsh
theorem said : Rows.PathLeadsSaid :=
  OpenClaim.holds_of_cond 5 Tryd.f5 rfl rfl rfl rfl rfl rfl rfl ⟨rfl, rfl, rfl, rfl, rfl⟩ rfl rfl rfl rfl rfl (by kernel_rfl) Tryd.func5 (by kernel_rfl)
    (of_decide_eq_true (by kernel_rfl)) (by unfold Func.isWrapper; first | (rw [if_pos (by decide +kernel)]; kernel_rfl) | (rw [if_neg (by decide +kernel)]; exact ⟨rfl, rfl⟩))
    (fun os started H enc _ F => by rw [OpenClaim.pre_eq_preRow]; exact lifted os started H enc F)
theorem plain (f : FuncId) (fn : Func) (hf : Tryd.pinned.checked.prog.funcNamed "tenement/tenementlaw09.PathLeads" = some f) (hfn : Tryd.pinned.checked.prog.funcs[f]? = some fn) :
    false = Tryd.pinned.checked.prog.looks [] ∧ ∀ (j : Nat) t, fn.params[j]? = some t → Tryd.pinned.checked.prog.wantsStandIn t = false := by
  obtain rfl : f = 5 := Option.some.inj ((show Tryd.prog.funcNamed "tenement/tenementlaw09.PathLeads" = some 5 by kernel_rfl).symm.trans hf) |>.symm
  obtain rfl : fn = Tryd.f5 := (Option.some.inj (Tryd.func5.symm.trans hfn)).symm
  refine ⟨by kernel_rfl, fun j t ht => ?_⟩
  rw [Tryd.params5] at ht
  have hm : t ∈ [9] := by have := Array.mem_of_getElem? ht; simp at this ⊢; omega
  have hall : ([9].all fun u => !Tryd.prog.wantsStandIn u) = true := by kernel_rfl
  exact (show Tryd.prog.wantsStandIn t = false by simpa using List.all_eq_true.1 hall t hm)
theorem card : Rows.PathLeadsCardSaid :=
  Claim7.holds_tied_plain_at .later [] _ _ _ _ said (fun _ h => by cases h) (by kernel_rfl) (fun _ h => by cases h) pathLeads_row_tie rfl ⟨rfl, rfl⟩ (by kernel_rfl) rfl plain (by kernel_rfl)
#print axioms card

end Go.Proofs.YtmnolfaejneomaaDoor.lawPaLeads
