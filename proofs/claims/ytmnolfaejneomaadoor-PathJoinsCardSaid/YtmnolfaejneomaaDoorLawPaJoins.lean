/-
  PathJoins: for every list of texts the law returns true, and the input reads as it did. No condition.
-/
import Derived.Test.YtmnolfaejneomaaDoorPaL
import Derived.Test.YtmnolfaejneomaaDoorPaF
import Derived.Test.YtmnolfaejneomaaDoorPaN
import Derived.Test.YtmnolfaejneomaaDoorCards
import Derived.Test.YtmnolfaejneomaaDoorTie
import Derived.ProofKit
import Derived.OpenShut
import Derived.Deep.DeepHandedRow
import Derived.Lay
set_option linter.unusedSimpArgs false
set_option linter.unusedVariables false
namespace Go.Proofs.YtmnolfaejneomaaDoor.lawPaJoins
open Go.ChangeShapes Go.WideShapes Go.ChangeAt Go.RowKit
open Go.ChangeMaps (open_string shut_string)
set_option maxHeartbeats 4000000
theorem own0 (w : World) (e : TypeId) (sz : Nat) : (w.alloc (.cells #[] e)).ownsRow w.heap.size e sz (.slice (some ⟨w.heap.size, 0, none⟩) 0 0) 0 [] :=
  ⟨by simp, .inr ⟨w.heap.size, 0, #[], rfl, Nat.le_refl _, heap_alloc_new w _, Nat.le_refl _, by decide, by simp, by simp⟩⟩
theorem alloc_le (w : World) (o : Obj) : w.heap.size ≤ (w.alloc o).heap.size := ((Below.refl w.heap.size w).alloc (Nat.le_refl _) o).size
theorem below_copy {w w2 : World} {e : TypeId} (h : (w.alloc (.cells #[] e)).grownBy w2 (some w.heap.size)) : Below w.heap.size w w2 :=
  ((Below.refl w.heap.size w).alloc (Nat.le_refl _) _).trans ⟨h.os, h.tape, h.output, h.size, fun k hk => h.block k (by simp; omega) (fun e => by cases e; omega)⟩
theorem jn_e (l : List (List UInt8)) : (jnV l).2 = 0 ∨ (jnV l).2 = 2 ∨ (jnV l).2 = 90 := by
  unfold jnV
  split
  · exact .inr (.inl rfl)
  · split
    · split
      · exact .inr (.inl rfl)
      · exact .inl rfl
    · exact jnE_e l
theorem infoT : (Tryd.prog.info? 9).map (fun i => (i.zero, i.size, i.bytes)) = some (some (.string ByteArray.empty), 1, 16) := by kernel_rfl
theorem news_at {w : World} {a : Addr} {xs : List ByteArray} (h : SG w (some a) xs) : ∀ j u, (xs.map Value.string)[j]? = some u → (w.alloc (.cells #[] 9)).cell? (a.add j) = some u := by
  intro j u hu
  rw [List.getElem?_map] at hu
  cases hx : xs[j]? with
  | none => rw [hx] at hu; cases hu
  | some x =>
    rw [hx] at hu
    cases hu
    obtain ⟨b, o, e, hlt, hc⟩ := h j x hx
    cases e
    have e : (⟨b, o, none⟩ : Addr).add j = ⟨b, o + j, none⟩ := by unfold Addr.add; split <;> simp_all
    rw [e, ((Below.refl w.heap.size w).alloc (Nat.le_refl _) _).cell (p := ⟨b, o + j, none⟩) hlt]
    exact hc
theorem walk (xs : List ByteArray) (p : Option Addr) (c : Nat) (w : World) (hm : Ml w) (hl : xs.length * 16 ≤ 140737488355328) (hsz : ∀ x ∈ xs, x.size ≤ 9223372036854775807) (hg : SG w p xs) :
    Calls Tryd.prog 8 #[.slice p xs.length c] w fun e w' => e = .returned (.bool true) ∧ Below w.heap.size w w' := by
  have hB := Below.refl w.heap.size w
  have HG := hid hg
  obtain ⟨k, hv⟩ : ∃ k, (jnV (dl xs)).2 = k := ⟨_, rfl⟩
  have H1 := hid fun p' c' w' (hc : xs.length ≤ c') (h : SG w' p' xs) => ((paJoin xs p' c' w' hc (by omega) h).mono fun e w'' (h : JnPost xs w' e w'') => (show ∃ s : ByteArray, e = .returned (.tuple #[.string s, .int .i64 k]) ∧ s.data.toList = (jnV (dl xs)).1 ∧ Below w'.heap.size w' w'' by obtain ⟨s, h1, h2, h3⟩ := h; exact ⟨s, by rw [h2, hv], h1, h3⟩))
  have H2 := hid fun w' (h : SG w' p xs) => ((rfJoin xs p c w' (by omega) hsz h).mono fun e w'' (h : JnPost xs w' e w'') => (show ∃ s : ByteArray, e = .returned (.tuple #[.string s, .int .i64 k]) ∧ s.data.toList = (jnV (dl xs)).1 ∧ Below w'.heap.size w' w'' by obtain ⟨s, h1, h2, h3⟩ := h; exact ⟨s, by rw [h2, hv], h1, h3⟩))
  have hk := jn_e (dl xs)
  rw [hv] at hk
  obtain ⟨i0, hi, hz⟩ := Option.map_eq_some_iff.1 infoT
  simp only [Prod.mk.injEq] at hz
  obtain ⟨hz0, hz1, hz2⟩ := hz
  have Hi := hid hi
  have Hz0 := hid hz0
  have Hz1 := hid hz1
  have Hz2 := hid hz2
  clear hg hsz hv hi hz0 hz1 hz2
  cases p with
  | none =>
    have hx : xs = [] := by
      cases xs with
      | nil => rfl
      | cons x r => obtain ⟨_, _, e, _⟩ := HG.out 0 x rfl; cases e
    subst hx
    clear HG Hi Hz0 Hz1 Hz2
    rcases hk with rfl | rfl | rfl
    all_goals
      go_enter Tryd.func8, Tryd.ntmps8
      go_wp2_with (first
        | (go_at_call 15; refine (H1.out _ _ _ (by first | omega | simp) (fun j x h => by cases h)).mono ?_; rintro e w1 ⟨s, rfl, hs1, hx⟩; have HS1 := hid hs1; have HB1 := hid (((Below.refl w.heap.size w).alloc (Nat.le_refl _) _).trans (hx.mono (by simp))); replace hm := hm.below HB1.out; replace hB := HB1.out; clear hx hs1)
        | (go_at_call 22; refine (H2.out _ (fun j x h => by cases h)).mono ?_; rintro e w2 ⟨s2, rfl, hs2, hx⟩; obtain rfl := ba_eq (HS1.out.trans hs2.symm); replace hm := hm.below hx; replace hB := hB.trans (hx.mono hB.size); clear hx hs2)
        | (go_at_call 13; refine (awake _ hm).mono ?_; rintro e w' ⟨rfl, hx⟩; replace hB := hB.trans (hx.mono hB.size); clear hx hm))
      go_ret
      exact ⟨rfl, hB⟩
  | some a =>
    rcases hk with rfl | rfl | rfl
    all_goals
      go_enter Tryd.func8, Tryd.ntmps8
      go_wp2_with (first
        | (at_builtin; refine wpList_append_own _ rfl _ _ 24 rfl w.heap.size 9 i0 (.string ByteArray.empty) 1 16 Tryd.underlying24 Hi.out Hz0.out Hz1.out Hz2.out rfl (by decide) _ _ _ rfl (own0 w _ 1) a xs.length c (xs.map Value.string) rfl (show (xs.map Value.string).length = xs.length * 1 by rw [List.length_map, Nat.mul_one]) (fun j u hu => news_at HG.out j u hu) (fun u hu => by obtain ⟨_, _, rfl⟩ := List.mem_map.1 hu; rfl) (by unfold maxLen; omega) (by omega) (alloc_le w _) ?_; intro v' w3 hown' hgrow hnil; clear hnil; have HB1 := hid (below_copy hgrow); rw [Nat.zero_add, List.nil_append] at hown'; obtain ⟨p', c', rfl, hc', hg'⟩ := sg_own hown'; have HG' := hid hg'; replace hm := hm.below HB1.out; replace hB := HB1.out; clear hown' hgrow hg')
        | (go_at_call 15; refine (H1.out _ _ _ (by assumption) HG'.out).mono ?_; rintro e w1 ⟨s, rfl, hs1, hx⟩; have HS1 := hid hs1; replace hm := hm.below hx; replace hB := hB.trans (hx.mono hB.size); have HG2 := hid (HG.out.below hB); clear hx hs1)
        | (go_at_call 22; refine (H2.out _ HG2.out).mono ?_; rintro e w2 ⟨s2, rfl, hs2, hx⟩; obtain rfl := ba_eq (HS1.out.trans hs2.symm); replace hm := hm.below hx; replace hB := hB.trans (hx.mono hB.size); clear hx hs2)
        | (go_at_call 13; refine (awake _ hm).mono ?_; rintro e w' ⟨rfl, hx⟩; replace hB := hB.trans (hx.mono hB.size); clear hx hm))
      go_ret
      exact ⟨rfl, hB⟩
theorem main {H : Type} {enc : TypeId × Value → H} (v0 : Value) (W : World) (hsh : W.ShapedOpen Tryd.prog) (c0 : Flat.Came enc Tryd.prog W 0 (fun _ => true) true 24 v0) :
    Calls Tryd.prog 8 #[v0] W fun e w' => e = .returned (.bool true) ∧ Below W.heap.size W w' := by
  obtain ⟨p, len, cap, rfl, hl, hml, hc, hs⟩ := c0.strings Tryd.underlying24 Tryd.underlying9 (by kernel_rfl)
  obtain ⟨xs, rfl, hg, hx⟩ := sg_of hs
  rw [show Tryd.prog.bytesOf 9 = 16 by kernel_rfl] at hl
  exact walk xs p cap W (ml_of hsh) (by unfold reachBytes at hl; omega) (fun x h => by have := hx x h; unfold maxLen at this; omega) hg

theorem own : ownKnob Tryd.prog.godebug = none := by kernel_rfl
theorem laidOut : laidOutB Tryd.prog = true := by kernel_rfl
set_option maxRecDepth 100000 in
theorem contract (H : Type) (enc : TypeId × Value → H) (W : World) (base : Nat) (args : Array Value) (ds gs : List (DataW H)) (before : List MemPlace)
    (hval0 : ∀ (j : Nat) t v, Tryd.f8.params[j]? = some t → args[j]? = some v → Value.okWide Tryd.prog W .any base t v)
    (hW : DataW.Whole enc Tryd.prog Tryd.f8.params.toList Rows.pathJoinsSpec.vars false W args.toList ds gs before)
    (hsz0 : (DataW.weightsEach Tryd.prog (Tryd.f8.params.toList ++ Rows.pathJoinsSpec.plain.varTypes Tryd.prog) (ds ++ gs)).all (· ≤ reachBytes) = true) (hsh : W.ShapedOpen Tryd.prog) :
    Calls Tryd.prog 8 args W fun e W' => ∃ v, e = .returned v ∧ Rows.pathJoinsSpec.post enc Tryd.prog Tryd.f8 false true false false W args v W' := by
  have hsz := hsz0
  clear hsz0
  have hval : ∀ (j : Nat) t v, Tryd.f8.params[j]? = some t → args[j]? = some v → Value.okWide Tryd.prog W .any base t v := hval0
  have hW' := hW
  obtain ⟨p, q, hA0, hV, rfl, hfz, hnd⟩ := hW
  have hA : DataW.TrodAll enc Tryd.prog W 0 (fun _ => true) true Tryd.f8.params.toList args.toList ds p := hA0
  rw [Tryd.params8] at hA hval hsz
  obtain ⟨v0, vs0, d0, ds0, p0, q0, hargs, rfl, rfl, h0, r0⟩ := trodAll_cons hA
  obtain ⟨rfl, rfl, rfl⟩ := trodAll_nil r0
  obtain rfl : args = #[v0] := by cases args; simp_all
  obtain ⟨rfl, rfl⟩ := trodVars_none hV
  obtain ⟨ps0, ln0, cp0, rfl⟩ := okWide_slice Tryd.underlying24 (hval 0 24 v0 rfl rfl)
  have k0 := h0
  have lt0 : ∀ x ∈ p0, x.block < W.heap.size := by obtain ⟨m, hm⟩ := k0; exact DataW.trod_lt m _ _ _ hm
  have c0 : Flat.Came enc Tryd.prog W 0 (fun _ => true) true 24 (.slice ps0 ln0 cp0) := by
    obtain ⟨fuel, hf⟩ := h0
    exact ⟨fuel, _, hf, fun n hn => by
      have := List.all_eq_true.1 hsz n (DataW.weights_mem_each (j := 0) rfl rfl n hn)
      simpa using this⟩
  clear hA0 hval0
  refine (main (.slice ps0 ln0 cp0) W hsh c0).mono fun e W' ⟨he, bel⟩ => ?_
  subst he
  simp only [List.append_nil, List.nil_append] at hW'
  exact ⟨_, rfl, _, _, _, [], _, [], hW', trodAll_mk1 (shut_bool Tryd.underlying4 _), (trodAll_cons_mk (Below.trod laidOut (by kernel_rfl) (of_decide_eq_true (by kernel_rfl)) k0 bel lt0) trodAll_mk0), rfl, bel.frame _, fun h => by cases h⟩
theorem laid_met (os : Os) (args : Array Value) : laidMet Tryd.prog Rows.pathJoinsRow.laid ((World.laidAll Tryd.prog os Rows.pathJoinsRow.laid).forCall (fun _ _ => 0) ⟨#[], args, []⟩).memory :=
  laidMet_laidAll _ (by kernel_rfl) (by kernel_rfl)
theorem reads (os : Os) {H : Type} (enc : TypeId × Value → H) : ∃ places, DataW.whole enc Tryd.prog ((World.laidAll Tryd.prog os Rows.pathJoinsRow.laid).forCall (fun _ _ => 0) ⟨#[], #[.slice none 0 0], []⟩).memory Tryd.f8.params.toList Rows.pathJoinsSpec.vars false (#[.slice none 0 0] : Array Value).toList 8 = some ([.nil], [], places) :=
  ⟨[], by kernel_rfl⟩
set_option maxRecDepth 100000 in
theorem lifted (os : Os) (started : os.Started) (H : Type) (enc : TypeId × Value → H) (F : Stop.Interp) :
    ReturnsInHanded {} Tryd.checked os 8 .any ((OpenSpec.ofChange Rows.pathJoinsSpec).preRow enc Tryd.prog Tryd.f8 Rows.pathJoinsRow.domain false Rows.pathJoinsRow.laid) (((OpenSpec.ofChange Rows.pathJoinsSpec).at F).post enc Tryd.prog Tryd.f8 false true false false) := by
  obtain ⟨places, hx⟩ := reads os enc
  refine returnsInHanded_of_row (C := Tryd.checked) (s := OpenSpec.ofChange Rows.pathJoinsSpec) own started (by kernel_rfl) Tryd.func8
    (witness_row_at (enc := enc) (C := Tryd.checked) false (World.laidAll Tryd.prog os Rows.pathJoinsRow.laid) #[.slice none 0 0] (World.laidAll_os _ _ _) (by kernel_rfl) (by kernel_rfl) (by kernel_rfl)
      (OpenSpec.preRow_of_cond 8 hx (by kernel_rfl) (fun k hk => by cases hk) (by kernel_rfl) (laid_met os _))) ?_
  intro W base args ds gs before hval hW _ _ hsz _ hsh _
  exact contract H enc W base args ds gs before hval hW hsz hsh
theorem said : Rows.PathJoinsSaid :=
  OpenClaim.holds_of_cond 8 Tryd.f8 rfl rfl rfl rfl rfl rfl rfl ⟨rfl, rfl, rfl, rfl, rfl⟩ rfl rfl rfl rfl rfl (by kernel_rfl) Tryd.func8 (by kernel_rfl)
    (of_decide_eq_true (by kernel_rfl)) (by unfold Func.isWrapper; first | (rw [if_pos (by decide +kernel)]; kernel_rfl) | (rw [if_neg (by decide +kernel)]; exact ⟨rfl, rfl⟩))
    (fun os started H enc _ F => by rw [OpenClaim.pre_eq_preRow]; exact lifted os started H enc F)
theorem plain (f : FuncId) (fn : Func) (hf : Tryd.pinned.checked.prog.funcNamed "tenement/tenementlaw09.PathJoins" = some f) (hfn : Tryd.pinned.checked.prog.funcs[f]? = some fn) :
    false = Tryd.pinned.checked.prog.looks [] ∧ ∀ (j : Nat) t, fn.params[j]? = some t → Tryd.pinned.checked.prog.wantsStandIn t = false := by
  obtain rfl : f = 8 := Option.some.inj ((show Tryd.prog.funcNamed "tenement/tenementlaw09.PathJoins" = some 8 by kernel_rfl).symm.trans hf) |>.symm
  obtain rfl : fn = Tryd.f8 := (Option.some.inj (Tryd.func8.symm.trans hfn)).symm
  refine ⟨by kernel_rfl, fun j t ht => ?_⟩
  rw [Tryd.params8] at ht
  have hm : t ∈ [24] := by have := Array.mem_of_getElem? ht; simp at this ⊢; omega
  have hall : ([24].all fun u => !Tryd.prog.wantsStandIn u) = true := by kernel_rfl
  exact (show Tryd.prog.wantsStandIn t = false by simpa using List.all_eq_true.1 hall t hm)
theorem card : Rows.PathJoinsCardSaid :=
  Claim7.holds_tied_plain_at .later [] _ _ _ _ said (fun _ h => by cases h) (by kernel_rfl) (fun _ h => by cases h) pathJoins_row_tie rfl ⟨rfl, rfl⟩ (by kernel_rfl) rfl plain (by kernel_rfl)
#print axioms card

end Go.Proofs.YtmnolfaejneomaaDoor.lawPaJoins
