/-
  PathTexts: for every list of permissions the law returns true, and the input reads as it did. No condition.
-/
import Derived.Test.YtmnolfaejneomaaDoorPaL
import Derived.Test.YtmnolfaejneomaaDoorPaF
import Derived.Test.YtmnolfaejneomaaDoorPaV
import Derived.Test.YtmnolfaejneomaaDoorPaW
import Derived.Test.YtmnolfaejneomaaDoorCards
import Derived.Test.YtmnolfaejneomaaDoorTie
import Derived.ProofKit
import Derived.OpenShut
import Derived.Deep.DeepHandedRow
import Derived.Lay
set_option linter.unusedSimpArgs false
set_option linter.unusedVariables false
namespace Go.Proofs.YtmnolfaejneomaaDoor.lawPaTexts
open Go.ChangeShapes Go.WideShapes Go.ChangeAt Go.RowKit
open Go.ChangeMaps (open_string shut_string)
set_option maxHeartbeats 4000000
theorem own0 (w : World) (e : TypeId) (sz : Nat) : (w.alloc (.cells #[] e)).ownsRow w.heap.size e sz (.slice (some ⟨w.heap.size, 0, none⟩) 0 0) 0 [] :=
  ⟨by simp, .inr ⟨w.heap.size, 0, #[], rfl, Nat.le_refl _, heap_alloc_new w _, Nat.le_refl _, by decide, by simp, by simp⟩⟩
theorem alloc_le (w : World) (o : Obj) : w.heap.size ≤ (w.alloc o).heap.size := ((Below.refl w.heap.size w).alloc (Nat.le_refl _) o).size
theorem below_copy {w w2 : World} {e : TypeId} (h : (w.alloc (.cells #[] e)).grownBy w2 (some w.heap.size)) : Below w.heap.size w w2 :=
  ((Below.refl w.heap.size w).alloc (Nat.le_refl _) _).trans ⟨h.os, h.tape, h.output, h.size, fun k hk => h.block k (by simp; omega) (fun e => by cases e; omega)⟩
theorem tx_e (l : List PD) : (txV l).2 = 0 ∨ (txV l).2 = 1 := by
  unfold txV
  split
  · exact .inr rfl
  · split
    · exact .inl rfl
    · exact .inr rfl
theorem infoP : (Tryd.prog.info? 56).map (fun i => (i.zero, i.size, i.bytes)) = some (some (.agg #[.int .i64 0, .bool false, .bool false]), 3, 16) := by kernel_rfl
theorem walk (l : List PD) (p : Option Addr) (c : Nat) (w : World) (hm : Ml w) (hl : l.length * 16 ≤ 140737488355328) (hlc : l.length ≤ c) (hg : PG w p l) :
    Calls Tryd.prog 9 #[.slice p l.length c] w fun e w' => e = .returned (.bool true) ∧ Below w.heap.size w w' := by
  have hB := Below.refl w.heap.size w
  have HG := hid hg
  obtain ⟨k, hv⟩ : ∃ k, (txV l).2 = k := ⟨_, rfl⟩
  have H1 := hid fun p' c' w' (hc : l.length ≤ c') (h : PG w' p' l) => ((paText l p' c' w' (by omega) hc h).mono fun e w'' (h : TxtPost l w' e w'') => (show ∃ s : ByteArray, e = .returned (.tuple #[.string s, .int .i64 k]) ∧ s.data.toList = (txV l).1 ∧ Below w'.heap.size w' w'' by obtain ⟨s, h1, h2, h3⟩ := h; exact ⟨s, by rw [h2, hv], h1, h3⟩))
  have H2 := hid fun w' (h : PG w' p l) => ((rfText l p c w' (by omega) hlc h).mono fun e w'' (h : TxtPost l w' e w'') => (show ∃ s : ByteArray, e = .returned (.tuple #[.string s, .int .i64 k]) ∧ s.data.toList = (txV l).1 ∧ Below w'.heap.size w' w'' by obtain ⟨s, h1, h2, h3⟩ := h; exact ⟨s, by rw [h2, hv], h1, h3⟩))
  have hk := tx_e l
  rw [hv] at hk
  obtain ⟨i0, hi, hz⟩ := Option.map_eq_some_iff.1 infoP
  simp only [Prod.mk.injEq] at hz
  obtain ⟨hz0, hz1, hz2⟩ := hz
  have Hi := hid hi
  have Hz0 := hid hz0
  have Hz1 := hid hz1
  have Hz2 := hid hz2
  clear hg hv hi hz0 hz1 hz2
  cases p with
  | none =>
    have hx : l = [] := by
      cases l with
      | nil => rfl
      | cons x r => obtain ⟨_, _, e, _⟩ := HG.out 0 x rfl; cases e
    subst hx
    clear HG Hi Hz0 Hz1 Hz2
    rcases hk with rfl | rfl
    all_goals
      go_enter Tryd.func9, Tryd.ntmps9
      go_wp2_with (first
        | (go_at_call 17; refine (H1.out _ _ _ (by first | omega | simp) (fun j x h => by cases h)).mono ?_; rintro e w1 ⟨s, rfl, hs1, hx⟩; have HS1 := hid hs1; have HB1 := hid (((Below.refl w.heap.size w).alloc (Nat.le_refl _) _).trans (hx.mono (by simp))); replace hm := hm.below HB1.out; replace hB := HB1.out; clear hx hs1)
        | (go_at_call 23; refine (H2.out _ (fun j x h => by cases h)).mono ?_; rintro e w2 ⟨s2, rfl, hs2, hx⟩; obtain rfl := ba_eq (HS1.out.trans hs2.symm); replace hm := hm.below hx; replace hB := hB.trans (hx.mono hB.size); clear hx hs2)
        | (go_at_call 13; refine (awake _ hm).mono ?_; rintro e w' ⟨rfl, hx⟩; replace hB := hB.trans (hx.mono hB.size); clear hx hm))
      go_ret
      exact ⟨rfl, hB⟩
  | some a =>
    rcases hk with rfl | rfl
    all_goals
      go_enter Tryd.func9, Tryd.ntmps9
      go_wp2_with (first
        | (at_builtin; refine wpList_append_own _ rfl _ _ 30 rfl w.heap.size 56 i0 (.agg #[.int .i64 0, .bool false, .bool false]) 3 16 Tryd.underlying30 Hi.out Hz0.out Hz1.out Hz2.out rfl (by decide) _ _ _ rfl (own0 w _ 3) a l.length c (pcl l) rfl (pcl_len l) (fun j u hu => pnews_at HG.out j u hu) (pcl_one l) (by unfold maxLen; omega) (by omega) (alloc_le w _) ?_; intro v' w3 hown' hgrow hnil; clear hnil; have HB1 := hid (below_copy hgrow); rw [Nat.zero_add, List.nil_append] at hown'; obtain ⟨p', c', rfl, hc', hg'⟩ := pg_own hown'; have HG' := hid hg'; replace hm := hm.below HB1.out; replace hB := HB1.out; clear hown' hgrow hg')
        | (go_at_call 17; refine (H1.out _ _ _ (by assumption) HG'.out).mono ?_; rintro e w1 ⟨s, rfl, hs1, hx⟩; have HS1 := hid hs1; replace hm := hm.below hx; replace hB := hB.trans (hx.mono hB.size); have HG2 := hid (HG.out.below hB); clear hx hs1)
        | (go_at_call 23; refine (H2.out _ HG2.out).mono ?_; rintro e w2 ⟨s2, rfl, hs2, hx⟩; obtain rfl := ba_eq (HS1.out.trans hs2.symm); replace hm := hm.below hx; replace hB := hB.trans (hx.mono hB.size); clear hx hs2)
        | (go_at_call 13; refine (awake _ hm).mono ?_; rintro e w' ⟨rfl, hx⟩; replace hB := hB.trans (hx.mono hB.size); clear hx hm))
      go_ret
      exact ⟨rfl, hB⟩
theorem main {H : Type} {enc : TypeId × Value → H} (v0 : Value) (W : World) (hsh : W.ShapedOpen Tryd.prog) (c0 : Flat.Came enc Tryd.prog W 0 (fun _ => true) true 30 v0) :
    Calls Tryd.prog 9 #[v0] W fun e w' => e = .returned (.bool true) ∧ Below W.heap.size W w' := by
  obtain ⟨l, p, cap, rfl, hl, hc, hg, _⟩ := came_perms c0
  exact walk l p cap W (ml_of hsh) hl hc hg

theorem own : ownKnob Tryd.prog.godebug = none := by kernel_rfl
theorem laidOut : laidOutB Tryd.prog = true := by kernel_rfl
set_option maxRecDepth 100000 in
theorem contract (H : Type) (enc : TypeId × Value → H) (W : World) (base : Nat) (args : Array Value) (ds gs : List (DataW H)) (before : List MemPlace)
    (hval0 : ∀ (j : Nat) t v, Tryd.f9.params[j]? = some t → args[j]? = some v → Value.okWide Tryd.prog W .any base t v)
    (hW : DataW.Whole enc Tryd.prog Tryd.f9.params.toList Rows.pathTextsSpec.vars false W args.toList ds gs before)
    (hsz0 : (DataW.weightsEach Tryd.prog (Tryd.f9.params.toList ++ Rows.pathTextsSpec.plain.varTypes Tryd.prog) (ds ++ gs)).all (· ≤ reachBytes) = true) (hsh : W.ShapedOpen Tryd.prog) :
    Calls Tryd.prog 9 args W fun e W' => ∃ v, e = .returned v ∧ Rows.pathTextsSpec.post enc Tryd.prog Tryd.f9 false true false false W args v W' := by
  have hsz := hsz0
  clear hsz0
  have hval : ∀ (j : Nat) t v, Tryd.f9.params[j]? = some t → args[j]? = some v → Value.okWide Tryd.prog W .any base t v := hval0
  have hW' := hW
  obtain ⟨p, q, hA0, hV, rfl, hfz, hnd⟩ := hW
  have hA : DataW.TrodAll enc Tryd.prog W 0 (fun _ => true) true Tryd.f9.params.toList args.toList ds p := hA0
  rw [Tryd.params9] at hA hval hsz
  obtain ⟨v0, vs0, d0, ds0, p0, q0, hargs, rfl, rfl, h0, r0⟩ := trodAll_cons hA
  obtain ⟨rfl, rfl, rfl⟩ := trodAll_nil r0
  obtain rfl : args = #[v0] := by cases args; simp_all
  obtain ⟨rfl, rfl⟩ := trodVars_none hV
  obtain ⟨ps0, ln0, cp0, rfl⟩ := okWide_slice Tryd.underlying30 (hval 0 30 v0 rfl rfl)
  have k0 := h0
  have lt0 : ∀ x ∈ p0, x.block < W.heap.size := by obtain ⟨m, hm⟩ := k0; exact DataW.trod_lt m _ _ _ hm
  have c0 : Flat.Came enc Tryd.prog W 0 (fun _ => true) true 30 (.slice ps0 ln0 cp0) := by
    obtain ⟨fuel, hf⟩ := h0
    exact ⟨fuel, _, hf, fun n hn => by
      have := List.all_eq_true.1 hsz n (DataW.weights_mem_each (j := 0) rfl rfl n hn)
      simpa using this⟩
  clear hA0 hval0
  refine (main (.slice ps0 ln0 cp0) W hsh c0).mono fun e W' ⟨he, bel⟩ => ?_
  subst he
  simp only [List.append_nil, List.nil_append] at hW'
  exact ⟨_, rfl, _, _, _, [], _, [], hW', trodAll_mk1 (shut_bool Tryd.underlying4 _), (trodAll_cons_mk (Below.trod laidOut (by kernel_rfl) (of_decide_eq_true (by kernel_rfl)) k0 bel lt0) trodAll_mk0), rfl, bel.frame _, fun h => by cases h⟩
theorem laid_met (os : Os) (args : Array Value) : laidMet Tryd.prog Rows.pathTextsRow.laid ((World.laidAll Tryd.prog os Rows.pathTextsRow.laid).forCall (fun _ _ => 0) ⟨#[], args, []⟩).memory :=
  laidMet_laidAll _ (by kernel_rfl) (by kernel_rfl)
theorem reads (os : Os) {H : Type} (enc : TypeId × Value → H) : ∃ places, DataW.whole enc Tryd.prog ((World.laidAll Tryd.prog os Rows.pathTextsRow.laid).forCall (fun _ _ => 0) ⟨#[], #[.slice none 0 0], []⟩).memory Tryd.f9.params.toList Rows.pathTextsSpec.vars false (#[.slice none 0 0] : Array Value).toList 8 = some ([.nil], [], places) :=
  ⟨[], by kernel_rfl⟩
set_option maxRecDepth 100000 in
theorem lifted (os : Os) (started : os.Started) (H : Type) (enc : TypeId × Value → H) (F : Stop.Interp) :
    ReturnsInHanded {} Tryd.checked os 9 .any ((OpenSpec.ofChange Rows.pathTextsSpec).preRow enc Tryd.prog Tryd.f9 Rows.pathTextsRow.domain false Rows.pathTextsRow.laid) (((OpenSpec.ofChange Rows.pathTextsSpec).at F).post enc Tryd.prog Tryd.f9 false true false false) := by
  obtain ⟨places, hx⟩ := reads os enc
  refine returnsInHanded_of_row (C := Tryd.checked) (s := OpenSpec.ofChange Rows.pathTextsSpec) own started (by kernel_rfl) Tryd.func9
    (witness_row_at (enc := enc) (C := Tryd.checked) false (World.laidAll Tryd.prog os Rows.pathTextsRow.laid) #[.slice none 0 0] (World.laidAll_os _ _ _) (by kernel_rfl) (by kernel_rfl) (by kernel_rfl)
      (OpenSpec.preRow_of_cond 8 hx (by kernel_rfl) (fun k hk => by cases hk) (by kernel_rfl) (laid_met os _))) ?_
  intro W base args ds gs before hval hW _ _ hsz _ hsh _
  exact contract H enc W base args ds gs before hval hW hsz hsh
theorem said : Rows.PathTextsSaid :=
  OpenClaim.holds_of_cond 9 Tryd.f9 rfl rfl rfl rfl rfl rfl rfl ⟨rfl, rfl, rfl, rfl, rfl⟩ rfl rfl rfl rfl rfl (by kernel_rfl) Tryd.func9 (by kernel_rfl)
    (of_decide_eq_true (by kernel_rfl)) (by unfold Func.isWrapper; first | (rw [if_pos (by decide +kernel)]; kernel_rfl) | (rw [if_neg (by decide +kernel)]; exact ⟨rfl, rfl⟩))
    (fun os started H enc _ F => by rw [OpenClaim.pre_eq_preRow]; exact lifted os started H enc F)
theorem plain (f : FuncId) (fn : Func) (hf : Tryd.pinned.checked.prog.funcNamed "tenement/tenementlaw09.PathTexts" = some f) (hfn : Tryd.pinned.checked.prog.funcs[f]? = some fn) :
    false = Tryd.pinned.checked.prog.looks [] ∧ ∀ (j : Nat) t, fn.params[j]? = some t → Tryd.pinned.checked.prog.wantsStandIn t = false := by
  obtain rfl : f = 9 := Option.some.inj ((show Tryd.prog.funcNamed "tenement/tenementlaw09.PathTexts" = some 9 by kernel_rfl).symm.trans hf) |>.symm
  obtain rfl : fn = Tryd.f9 := (Option.some.inj (Tryd.func9.symm.trans hfn)).symm
  refine ⟨by kernel_rfl, fun j t ht => ?_⟩
  rw [Tryd.params9] at ht
  have hm : t ∈ [30] := by have := Array.mem_of_getElem? ht; simp at this ⊢; omega
  have hall : ([30].all fun u => !Tryd.prog.wantsStandIn u) = true := by kernel_rfl
  exact (show Tryd.prog.wantsStandIn t = false by simpa using List.all_eq_true.1 hall t hm)
theorem card : Rows.PathTextsCardSaid :=
  Claim7.holds_tied_plain_at .later [] _ _ _ _ said (fun _ h => by cases h) (by kernel_rfl) (fun _ h => by cases h) pathTexts_row_tie rfl ⟨rfl, rfl⟩ (by kernel_rfl) rfl plain (by kernel_rfl)
#print axioms card

end Go.Proofs.YtmnolfaejneomaaDoor.lawPaTexts
