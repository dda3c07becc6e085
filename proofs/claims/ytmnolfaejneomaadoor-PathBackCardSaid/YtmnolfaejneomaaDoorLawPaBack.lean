/-
  PathBack: for every two texts the law returns true, and the input reads as it did. No condition.
-/
import Derived.Test.YtmnolfaejneomaaDoorPaL
import Derived.Test.YtmnolfaejneomaaDoorPaF
import Derived.Test.YtmnolfaejneomaaDoorPaG
import Derived.Test.YtmnolfaejneomaaDoorPaPf
import Derived.Test.YtmnolfaejneomaaDoorCards
import Derived.Test.YtmnolfaejneomaaDoorTie
import Derived.ProofKit
import Derived.OpenShut
import Derived.Deep.DeepHandedRow
import Derived.Lay
set_option linter.unusedSimpArgs false
set_option linter.unusedVariables false
namespace Go.Proofs.YtmnolfaejneomaaDoor.lawPaBack
open Go.ChangeShapes Go.WideShapes Go.ChangeAt Go.RowKit
open Go.ChangeMaps (open_string shut_string)
set_option maxHeartbeats 4000000
theorem joined (xs : List ByteArray) (s : ByteArray) (b o c : Nat) (w : World) (hx : xs.map (·.data.toList) = (psV s.data.toList).1) (hcap : xs.length ≤ c) (h8 : xs.length ≤ 8) (hlt : b < w.heap.size) (hc : ∀ j x, xs[j]? = some x → w.cell? ⟨b, o + j, none⟩ = some (.string x)) (hj : jnV (psV s.data.toList).1 = (s.data.toList, 0)) :
    Calls Tryd.prog 15 #[.slice (some ⟨b, o, none⟩) xs.length c] w fun e w' => e = .returned (.tuple #[.string s, .int .i64 0]) ∧ Below w.heap.size w w' :=
  (paJoin xs (some ⟨b, o, none⟩) c w hcap (by omega) (fun j x h => ⟨b, o, rfl, hlt, hc j x h⟩)).mono fun e w' (h : JnPost xs w e w') => by
    obtain ⟨x, h1, h2, h3⟩ := h
    have e0 : jnV (dl xs) = (s.data.toList, 0) := by rw [← hj, ← hx]; rfl
    rw [e0] at h1 h2
    obtain rfl : x = s := ba_eq h1
    exact ⟨h2, h3⟩
theorem walk (s t : ByteArray) (w : World) (hm : Ml w) (hs : s.size ≤ 9223372036854775807) :
    Calls Tryd.prog 4 #[.string s, .string t] w fun e w' => e = .returned (.bool true) ∧ Below w.heap.size w w' := by
  have hB := Below.refl w.heap.size w
  cases hoa : psOk s.data.toList with
  | false =>
    obtain ⟨p, k, hk, hk0⟩ := psOk_none hoa
    have HA := hid (paParse_none s w p k hm hs hk)
    have k1 : ((k : Int) == 0) = false := by simp; omega
    clear hoa hk hk0
    go_enter Tryd.func4, Tryd.ntmps4
    go_wp2_with (first
      | (go_at_call 14; refine HA.out.mono ?_; rintro e w' ⟨rfl, hx⟩; replace hm := hm.below hx; replace hB := hB.trans (hx.mono hB.size); clear hx)
      | (go_at_call 15; fail))
    refine (paPerms t _).mono ?_
    rintro e w5 ⟨hb5, ⟨a5, k5, rfl, hk5⟩ | ⟨p5, c5, l5, rfl, hc5, hl5, hg5, hv5⟩⟩
    · replace hm := hm.below hb5
      replace hB := hB.trans (hb5.mono hB.size)
      have k1 : ((k5 : Int) == 0) = false := by simp; omega
      clear hb5 hk5
      go_wp2_with (go_at_call 13; refine (awake _ hm).mono ?_; rintro e w' ⟨rfl, hx⟩; replace hB := hB.trans (hx.mono hB.size); clear hx hm)
      go_ret
      exact ⟨rfl, hB⟩
    · replace hm := hm.below hb5
      replace hB := hB.trans (hb5.mono hB.size)
      have HT := hid ((paText l5 p5 c5 w5 (by omega) hc5 hg5).mono fun e w' (h : TxtPost l5 w5 e w') => (show e = .returned (.tuple #[.string t, .int .i64 0]) ∧ Below w5.heap.size w5 w' by
        obtain ⟨x, h1, h2, h3⟩ := h
        rw [hv5] at h1 h2
        obtain rfl : x = t := ba_eq h1
        exact ⟨h2, h3⟩))
      clear hb5 hv5 hg5 hc5 hl5
      go_wp2_with (first
        | (go_at_call 17; refine HT.out.mono ?_; rintro e w' ⟨rfl, hx⟩; replace hm := hm.below hx; replace hB := hB.trans (hx.mono hB.size); clear hx)
        | (go_at_call 13; refine (awake _ hm).mono ?_; rintro e w' ⟨rfl, hx⟩; replace hB := hB.trans (hx.mono hB.size); clear hx hm))
      go_ret
      exact ⟨rfl, hB⟩
  | true =>
    have h0 := psOk_zero hoa
    have HJ := hid (jnV_back h0)
    by_cases hn : (psV s.data.toList).1 = []
    · have HA := hid (paParse_none s w 0 0 hm hs (psOk_nil hoa hn))
      have HJN := hid fun w' => ((paJoin [] none 0 w' (by simp) (by simp) (fun j x h => by cases h)).mono fun e w'' (h : JnPost [] w' e w'') => (show e = .returned (.tuple #[.string s, .int .i64 0]) ∧ Below w'.heap.size w' w'' by
        obtain ⟨x, h1, h2, h3⟩ := h
        have e0 : jnV (dl []) = (s.data.toList, 0) := by rw [← HJ.out, hn]; rfl
        rw [e0] at h1 h2
        obtain rfl : x = s := ba_eq h1
        exact ⟨h2, h3⟩))
      clear hoa h0 hn
      go_enter Tryd.func4, Tryd.ntmps4
      go_wp2_with (first
        | (go_at_call 14; refine HA.out.mono ?_; rintro e w' ⟨rfl, hx⟩; replace hm := hm.below hx; replace hB := hB.trans (hx.mono hB.size); clear hx)
        | (go_at_call 15; refine (HJN.out _).mono ?_; rintro e w' ⟨rfl, hx⟩; replace hm := hm.below hx; replace hB := hB.trans (hx.mono hB.size); clear hx))
      refine (paPerms t _).mono ?_
      rintro e w5 ⟨hb5, ⟨a5, k5, rfl, hk5⟩ | ⟨p5, c5, l5, rfl, hc5, hl5, hg5, hv5⟩⟩
      · replace hm := hm.below hb5
        replace hB := hB.trans (hb5.mono hB.size)
        have k1 : ((k5 : Int) == 0) = false := by simp; omega
        clear hb5 hk5
        go_wp2_with (go_at_call 13; refine (awake _ hm).mono ?_; rintro e w' ⟨rfl, hx⟩; replace hB := hB.trans (hx.mono hB.size); clear hx hm)
        go_ret
        exact ⟨rfl, hB⟩
      · replace hm := hm.below hb5
        replace hB := hB.trans (hb5.mono hB.size)
        have HT := hid ((paText l5 p5 c5 w5 (by omega) hc5 hg5).mono fun e w' (h : TxtPost l5 w5 e w') => (show e = .returned (.tuple #[.string t, .int .i64 0]) ∧ Below w5.heap.size w5 w' by
          obtain ⟨x, h1, h2, h3⟩ := h
          rw [hv5] at h1 h2
          obtain rfl : x = t := ba_eq h1
          exact ⟨h2, h3⟩))
        clear hb5 hv5 hg5 hc5 hl5
        go_wp2_with (first
          | (go_at_call 17; refine HT.out.mono ?_; rintro e w' ⟨rfl, hx⟩; replace hm := hm.below hx; replace hB := hB.trans (hx.mono hB.size); clear hx)
          | (go_at_call 13; refine (awake _ hm).mono ?_; rintro e w' ⟨rfl, hx⟩; replace hB := hB.trans (hx.mono hB.size); clear hx hm))
        go_ret
        exact ⟨rfl, hB⟩
    · have HA := hid (paParse_cons s w hm hs h0 hn)
      clear hoa h0 hn
      go_enter Tryd.func4, Tryd.ntmps4
      go_wp2_with (first
        | (go_at_call 14; refine HA.out.mono ?_; rintro e w1 ⟨b1, o1, c1, xs, rfl, hx1, hne, hcap, h8, hlt, hc, hx⟩; replace hm := hm.below hx; replace hB := hB.trans (hx.mono hB.size); have HJN := hid (joined xs s b1 o1 c1 w1 hx1 hcap h8 hlt hc HJ.out); clear hx hx1 hne hcap hlt hc h8)
        | (go_at_call 15; refine HJN.out.mono ?_; rintro e w' ⟨rfl, hx⟩; replace hm := hm.below hx; replace hB := hB.trans (hx.mono hB.size); clear hx))
      refine (paPerms t _).mono ?_
      rintro e w5 ⟨hb5, ⟨a5, k5, rfl, hk5⟩ | ⟨p5, c5, l5, rfl, hc5, hl5, hg5, hv5⟩⟩
      · replace hm := hm.below hb5
        replace hB := hB.trans (hb5.mono hB.size)
        have k1 : ((k5 : Int) == 0) = false := by simp; omega
        clear hb5 hk5
        go_wp2_with (go_at_call 13; refine (awake _ hm).mono ?_; rintro e w' ⟨rfl, hx⟩; replace hB := hB.trans (hx.mono hB.size); clear hx hm)
        go_ret
        exact ⟨rfl, hB⟩
      · replace hm := hm.below hb5
        replace hB := hB.trans (hb5.mono hB.size)
        have HT := hid ((paText l5 p5 c5 w5 (by omega) hc5 hg5).mono fun e w' (h : TxtPost l5 w5 e w') => (show e = .returned (.tuple #[.string t, .int .i64 0]) ∧ Below w5.heap.size w5 w' by
          obtain ⟨x, h1, h2, h3⟩ := h
          rw [hv5] at h1 h2
          obtain rfl : x = t := ba_eq h1
          exact ⟨h2, h3⟩))
        clear hb5 hv5 hg5 hc5 hl5
        go_wp2_with (first
          | (go_at_call 17; refine HT.out.mono ?_; rintro e w' ⟨rfl, hx⟩; replace hm := hm.below hx; replace hB := hB.trans (hx.mono hB.size); clear hx)
          | (go_at_call 13; refine (awake _ hm).mono ?_; rintro e w' ⟨rfl, hx⟩; replace hB := hB.trans (hx.mono hB.size); clear hx hm))
        go_ret
        exact ⟨rfl, hB⟩
theorem main {H : Type} {enc : TypeId × Value → H} (v0 v1 : Value) (W : World) (hsh : W.ShapedOpen Tryd.prog) (c0 : Flat.Came enc Tryd.prog W 0 (fun _ => true) true 9 v0) (c1 : Flat.Came enc Tryd.prog W 0 (fun _ => true) true 9 v1) :
    Calls Tryd.prog 4 #[v0, v1] W fun e w' => e = .returned (.bool true) ∧ Below W.heap.size W w' := by
  obtain ⟨s0, rfl, z0⟩ := c0.string Tryd.underlying9
  obtain ⟨s1, rfl, _⟩ := c1.string Tryd.underlying9
  exact walk s0 s1 W (ml_of hsh) (by unfold maxLen at z0; exact z0)

theorem own : ownKnob Tryd.prog.godebug = none := by kernel_rfl
theorem laidOut : laidOutB Tryd.prog = true := by kernel_rfl
set_option maxRecDepth 100000 in
theorem contract (H : Type) (enc : TypeId × Value → H) (W : World) (base : Nat) (args : Array Value) (ds gs : List (DataW H)) (before : List MemPlace)
    (hval0 : ∀ (j : Nat) t v, Tryd.f4.params[j]? = some t → args[j]? = some v → Value.okWide Tryd.prog W .any base t v)
    (hW : DataW.Whole enc Tryd.prog Tryd.f4.params.toList Rows.pathBackSpec.vars false W args.toList ds gs before)
    (hsz0 : (DataW.weightsEach Tryd.prog (Tryd.f4.params.toList ++ Rows.pathBackSpec.plain.varTypes Tryd.prog) (ds ++ gs)).all (· ≤ reachBytes) = true) (hsh : W.ShapedOpen Tryd.prog) :
    Calls Tryd.prog 4 args W fun e W' => ∃ v, e = .returned v ∧ Rows.pathBackSpec.post enc Tryd.prog Tryd.f4 false true false false W args v W' := by
  have hsz := hsz0
  clear hsz0
  have hval : ∀ (j : Nat) t v, Tryd.f4.params[j]? = some t → args[j]? = some v → Value.okWide Tryd.prog W .any base t v := hval0
  have hW' := hW
  obtain ⟨p, q, hA0, hV, rfl, hfz, hnd⟩ := hW
  have hA : DataW.TrodAll enc Tryd.prog W 0 (fun _ => true) true Tryd.f4.params.toList args.toList ds p := hA0
  rw [Tryd.params4] at hA hval hsz
  obtain ⟨v0, vs0, d0, ds0, p0, q0, hargs, rfl, rfl, h0, r0⟩ := trodAll_cons hA
  obtain ⟨v1, vs1, d1, ds1, p1, q1, rfl, rfl, rfl, h1, r1⟩ := trodAll_cons r0
  obtain ⟨rfl, rfl, rfl⟩ := trodAll_nil r1
  obtain rfl : args = #[v0, v1] := by cases args; simp_all
  obtain ⟨rfl, rfl⟩ := trodVars_none hV
  obtain ⟨a0, rfl, rfl, rfl, w0⟩ := open_string Tryd.underlying9 (hval 0 9 v0 rfl rfl) h0
  have k0 := h0
  have lt0 : ∀ x ∈ ([] : List MemPlace), x.block < W.heap.size := by obtain ⟨m, hm⟩ := k0; exact DataW.trod_lt m _ _ _ hm
  have c0 : Flat.Came enc Tryd.prog W 0 (fun _ => true) true 9 (.string a0) := by
    obtain ⟨fuel, hf⟩ := h0
    exact ⟨fuel, _, hf, fun n hn => by
      have := List.all_eq_true.1 hsz n (DataW.weights_mem_each (j := 0) rfl rfl n hn)
      simpa using this⟩
  obtain ⟨a1, rfl, rfl, rfl, w1⟩ := open_string Tryd.underlying9 (hval 1 9 v1 rfl rfl) h1
  have k1 := h1
  have lt1 : ∀ x ∈ ([] : List MemPlace), x.block < W.heap.size := by obtain ⟨m, hm⟩ := k1; exact DataW.trod_lt m _ _ _ hm
  have c1 : Flat.Came enc Tryd.prog W 0 (fun _ => true) true 9 (.string a1) := by
    obtain ⟨fuel, hf⟩ := h1
    exact ⟨fuel, _, hf, fun n hn => by
      have := List.all_eq_true.1 hsz n (DataW.weights_mem_each (j := 1) rfl rfl n hn)
      simpa using this⟩
  clear hA0 hval0
  refine (main (.string a0) (.string a1) W hsh c0 c1).mono fun e W' ⟨he, bel⟩ => ?_
  subst he
  simp only [List.append_nil, List.nil_append] at hW'
  exact ⟨_, rfl, _, _, _, [], _, [], hW', trodAll_mk1 (shut_bool Tryd.underlying4 _), (trodAll_cons_mk (Below.trod laidOut (by kernel_rfl) (of_decide_eq_true (by kernel_rfl)) k0 bel lt0) (trodAll_cons_mk (Below.trod laidOut (by kernel_rfl) (of_decide_eq_true (by kernel_rfl)) k1 bel lt1) trodAll_mk0)), rfl, bel.frame _, fun h => by cases h⟩
theorem laid_met (os : Os) (args : Array Value) : laidMet Tryd.prog Rows.pathBackRow.laid ((World.laidAll Tryd.prog os Rows.pathBackRow.laid).forCall (fun _ _ => 0) ⟨#[], args, []⟩).memory :=
  laidMet_laidAll _ (by kernel_rfl) (by kernel_rfl)
theorem reads (os : Os) {H : Type} (enc : TypeId × Value → H) : ∃ places, DataW.whole enc Tryd.prog ((World.laidAll Tryd.prog os Rows.pathBackRow.laid).forCall (fun _ _ => 0) ⟨#[], #[.string ⟨#[]⟩, .string ⟨#[]⟩], []⟩).memory Tryd.f4.params.toList Rows.pathBackSpec.vars false (#[.string ⟨#[]⟩, .string ⟨#[]⟩] : Array Value).toList 8 = some ([.lit (.string []), .lit (.string [])], [], places) :=
  ⟨[], by kernel_rfl⟩
set_option maxRecDepth 100000 in
theorem lifted (os : Os) (started : os.Started) (H : Type) (enc : TypeId × Value → H) (F : Stop.Interp) :
    ReturnsInHanded {} Tryd.checked os 4 .any ((OpenSpec.ofChange Rows.pathBackSpec).preRow enc Tryd.prog Tryd.f4 Rows.pathBackRow.domain false Rows.pathBackRow.laid) (((OpenSpec.ofChange Rows.pathBackSpec).at F).post enc Tryd.prog Tryd.f4 false true false false) := by
  obtain ⟨places, hx⟩ := reads os enc
  refine returnsInHanded_of_row (C := Tryd.checked) (s := OpenSpec.ofChange Rows.pathBackSpec) own started (by kernel_rfl) Tryd.func4
    (witness_row_at (enc := enc) (C := Tryd.checked) false (World.laidAll Tryd.prog os Rows.pathBackRow.laid) #[.string ⟨#[]⟩, .string ⟨#[]⟩] (World.laidAll_os _ _ _) (by kernel_rfl) (by kernel_rfl) (by kernel_rfl)
      (OpenSpec.preRow_of_cond 8 hx (by kernel_rfl) (fun k hk => by cases hk) (by kernel_rfl) (laid_met os _))) ?_
  intro W base args ds gs before hval hW _ _ hsz _ hsh _
  exact contract H enc W base args ds gs before hval hW hsz hsh
theorem said : Rows.PathBackSaid :=
  OpenClaim.holds_of_cond 4 Tryd.f4 rfl rfl rfl rfl rfl rfl rfl ⟨rfl, rfl, rfl, rfl, rfl⟩ rfl rfl rfl rfl rfl (by kernel_rfl) Tryd.func4 (by kernel_rfl)
    (of_decide_eq_true (by kernel_rfl)) (by unfold Func.isWrapper; first | (rw [if_pos (by decide +kernel)]; kernel_rfl) | (rw [if_neg (by decide +kernel)]; exact ⟨rfl, rfl⟩))
    (fun os started H enc _ F => by rw [OpenClaim.pre_eq_preRow]; exact lifted os started H enc F)
theorem plain (f : FuncId) (fn : Func) (hf : Tryd.pinned.checked.prog.funcNamed "tenement/tenementlaw09.PathBack" = some f) (hfn : Tryd.pinned.checked.prog.funcs[f]? = some fn) :
    false = Tryd.pinned.checked.prog.looks [] ∧ ∀ (j : Nat) t, fn.params[j]? = some t → Tryd.pinned.checked.prog.wantsStandIn t = false := by
  obtain rfl : f = 4 := Option.some.inj ((show Tryd.prog.funcNamed "tenement/tenementlaw09.PathBack" = some 4 by kernel_rfl).symm.trans hf) |>.symm
  obtain rfl : fn = Tryd.f4 := (Option.some.inj (Tryd.func4.symm.trans hfn)).symm
  refine ⟨by kernel_rfl, fun j t ht => ?_⟩
  rw [Tryd.params4] at ht
  have hm : t ∈ [9] := by have := Array.mem_of_getElem? ht; simp at this ⊢; omega
  have hall : ([9].all fun u => !Tryd.prog.wantsStandIn u) = true := by kernel_rfl
  exact (show Tryd.prog.wantsStandIn t = false by simpa using List.all_eq_true.1 hall t hm)
theorem card : Rows.PathBackCardSaid :=
  Claim7.holds_tied_plain_at .later [] _ _ _ _ said (fun _ h => by cases h) (by kernel_rfl) (fun _ h => by cases h) pathBack_row_tie rfl ⟨rfl, rfl⟩ (by kernel_rfl) rfl plain (by kernel_rfl)
#print axioms card

end Go.Proofs.YtmnolfaejneomaaDoor.lawPaBack
