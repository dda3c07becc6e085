/-
  EventMasks: for every three truth values the law returns true, and what was there stays. No condition.
-/
import Derived.Test.YtjgikapoohibnaaEvV
import Derived.Test.YtjgikapoohibnaaLift
import Derived.ProofKit
import Derived.OpenShut
import Derived.Deep.RegionWith
set_option linter.unusedSimpArgs false
set_option linter.unusedVariables false
namespace Go.Proofs.Ytjgikapoohibnaa.lawEvMasks
open Go.ChangeShapes Go.WideShapes Go.ChangeAt Go.RowKit Gen
set_option maxHeartbeats 4000000

/-- port 0 of domain 0 and port 0 of domain 1, bound; domain 0's bits -/
def two (pe ma up up1 : Bool) : Ev := ⟨fun d n => if n = 0 then (if d = 0 then ⟨2, 1, 0, 0, pe, ma⟩ else if d = 1 then ⟨2, 0, 0, 0, false, false⟩ else Prt.zero) else Prt.zero, fun d => if d = 0 then up else if d = 1 then up1 else false⟩
theorem two_bind : bindE (ev0.upd 0 0 ⟨1, 1, 0, 0, false, false⟩) 1 0 0 = (0, 0, two false false false false) := by
  have hl : least (isFree (ev0.upd 0 0 ⟨1, 1, 0, 0, false, false⟩) 1) = 0 := least_eq (by omega) (fun j hj => by omega) (fun _ => rfl)
  simp only [bindE, edOk, epOk, hl, Int.toNat_one, Int.toNat_zero]
  simp [Ev.upd]
  refine Ev.ext (fun a b => ?_) fun a => ?_
  · simp only [two, ev0]
    by_cases h0 : b = 0
    · by_cases ha : a = 0
      · simp [h0, ha]
      · by_cases h1 : a = 1
        · simp [h0, h1]
        · simp [h0, ha, h1]
    · simp [h0]
  · simp [two, ev0]
theorem two_ok (pe ma up u1 : Bool) : EOk (two pe ma up u1) := by
  intro d n hd hn
  by_cases h0 : n = 0
  · by_cases ha : d = 0
    · subst h0 ha
      exact ⟨by simp [two], fun e => by simp [two] at e, fun _ => ⟨1, 0, by omega, by omega, by simp [two], by simp [two], by simp [two], by simp [two], by simp [two], by omega⟩, fun e => by simp [two] at e⟩
    · by_cases h1 : d = 1
      · subst h0 h1
        exact ⟨by simp [two], fun e => by simp [two] at e, fun _ => ⟨0, 0, by omega, by omega, by simp [two], by simp [two], by simp [two], by simp [two], by simp [two], by omega⟩, fun e => by simp [two] at e⟩
      · exact ⟨by simp [two, h0, ha, h1, Prt.zero], fun _ => by simp [two, h0, ha, h1], fun e => by simp [two, h0, ha, h1, Prt.zero] at e, fun e => by simp [two, h0, ha, h1, Prt.zero] at e⟩
  · exact ⟨by simp [two, h0, Prt.zero], fun _ => by simp [two, h0], fun e => by simp [two, h0, Prt.zero] at e, fun e => by simp [two, h0, Prt.zero] at e⟩
theorem two_upd (pe ma up u1 pe' ma' : Bool) : (two pe ma up u1).upd 0 0 ⟨2, 1, 0, 0, pe', ma'⟩ = two pe' ma' up u1 := by
  refine Ev.ext (fun a b => ?_) fun a => rfl
  simp only [Ev.upd, two]
  by_cases h0 : b = 0
  · by_cases ha : a = 0
    · simp [h0, ha]
    · simp [h0, ha]
  · simp [h0]
theorem two_up (pe ma up u1 up' : Bool) : (two pe ma up u1).setUp 0 up' = two pe ma up' u1 := by
  refine Ev.ext (fun a b => rfl) fun a => ?_
  simp only [Ev.setUp, two]
  by_cases ha : a = 0
  · simp [ha]
  · simp [ha]
theorem two_pt (pe ma up u1 : Bool) : (two pe ma up u1).pt 0 0 = ⟨2, 1, 0, 0, pe, ma⟩ := rfl
theorem two_pt1 (pe ma up u1 : Bool) : (two pe ma up u1).pt 1 0 = ⟨2, 0, 0, 0, false, false⟩ := rfl
theorem two_send (pe ma up u1 : Bool) : sendE (two pe ma up u1) 1 0 = (0, two true ma (up || !ma) u1) := by
  have e1 : sendE (two pe ma up u1) 1 0 = (0, pendE (two pe ma up u1) 0 0) := rfl
  rw [e1]
  unfold pendE
  simp only [two_pt, two_upd, two_up]
  cases ma <;> cases up <;> rfl
theorem two_take (pe ma up u1 : Bool) : takeUpE (two pe ma up u1) 0 = (up, 0, two pe ma false u1) := by
  have e1 : takeUpE (two pe ma up u1) 0 = (up, 0, (two pe ma up u1).setUp 0 false) := rfl
  rw [e1, two_up]
theorem two_mask (pe ma up u1 on : Bool) : maskE (two pe ma up u1) 0 0 on = (0, two pe on (up || (ma && !on && pe)) u1) := by
  have e1 : maskE (two pe ma up u1) 0 0 on = (0, if (ma && !on && pe) = true then ((two pe ma up u1).upd 0 0 ⟨2, 1, 0, 0, pe, on⟩).setUp 0 true else (two pe ma up u1).upd 0 0 ⟨2, 1, 0, 0, pe, on⟩) := rfl
  rw [e1]
  simp only [two_upd, two_up]
  cases ma <;> cases on <;> cases pe <;> cases up <;> rfl
theorem two_clear (pe ma up u1 : Bool) : clearE (two pe ma up u1) 0 0 = (0, two false ma up u1) := by
  have e1 : clearE (two pe ma up u1) 0 0 = (0, (two pe ma up u1).upd 0 0 ⟨2, 1, 0, 0, false, ma⟩) := rfl
  rw [e1, two_upd]
theorem two_upR (pe ma up u1 : Bool) : upR (two pe ma up u1) 0 = up := by simp [upR, edOk, two]
theorem two_pendL (pe ma up u1 : Bool) : ∀ k, pendL (two pe ma up u1) 0 (k + 1) = if pe = true then [0] else []
  | 0 => by simp [pendL, two]
  | k + 1 => by
    have ih := two_pendL pe ma up u1 k
    unfold pendL
    rw [ih]
    simp [two, Prt.zero]
theorem two_pend (pe ma up u1 : Bool) : pendR (two pe ma up u1) 0 = if pe = true then [0] else [] := by
  have e1 : pendR (two pe ma up u1) 0 = pendL (two pe ma up u1) 0 (31 + 1) := by simp [pendR, edOk]
  rw [e1, two_pendL]
set_option maxRecDepth 100000 in
theorem walk (clear sends before : Bool) (w : World) :
    Calls Try.prog 7 #[.bool clear, .bool sends, .bool before] w fun e w' => e = .returned (.bool true) ∧ w.grownBy w' none := by
  cases clear <;> cases sends <;> cases before
  all_goals
    go_enter Try.func7, Try.ntmps7
    go_wp2_with (first
      | (go_at_call 9; refine (eNew _).mono ?_; rintro e w1 ⟨X, rfl, h1, g1, f1⟩; have HX := hid (ELeft.same h1); have G1 := hid g1; have F1 := hid f1; clear h1 g1 f1)
      | (go_at_call 18; have hS := eAlloc X 0 1 _ _ HX.out.1; rw [alloc0] at hS; simp only [Bool.not_true, Bool.not_false, Bool.or_true, Bool.or_false, Bool.true_or, Bool.false_or, Bool.and_true, Bool.and_false, Bool.true_and, Bool.false_and] at hS; refine hS.mono ?_; rintro e w2 ⟨rfl, h2⟩; replace HX := hid (HX.out.trans h2); clear h2 hS)
      | (go_at_call 19; have hS := eBind X 1 0 0 _ _ HX.out.1; rw [two_bind] at hS; simp only [Bool.not_true, Bool.not_false, Bool.or_true, Bool.or_false, Bool.true_or, Bool.false_or, Bool.and_true, Bool.and_false, Bool.true_and, Bool.false_and] at hS; refine hS.mono ?_; rintro e w2 ⟨rfl, h2⟩; replace HX := hid (HX.out.trans h2); clear h2 hS)
      | (go_at_call 16; have hS := eSend X 1 0 _ _ (two_ok _ _ _ _) HX.out.1; rw [two_send] at hS; simp only [Bool.not_true, Bool.not_false, Bool.or_true, Bool.or_false, Bool.true_or, Bool.false_or, Bool.and_true, Bool.and_false, Bool.true_and, Bool.false_and] at hS; refine hS.mono ?_; rintro e w2 ⟨rfl, h2⟩; replace HX := hid (HX.out.trans h2); clear h2 hS)
      | (go_at_call 21; have hS := eTakeUp X 0 _ _ HX.out.1; rw [two_take] at hS; simp only [Bool.not_true, Bool.not_false, Bool.or_true, Bool.or_false, Bool.true_or, Bool.false_or, Bool.and_true, Bool.and_false, Bool.true_and, Bool.false_and] at hS; refine hS.mono ?_; rintro e w2 ⟨rfl, h2⟩; replace HX := hid (HX.out.trans h2); clear h2 hS)
      | (go_at_call 24; first | (have hS := eMask X 0 0 true _ _ HX.out.1; rw [two_mask] at hS; simp only [Bool.not_true, Bool.not_false, Bool.or_true, Bool.or_false, Bool.true_or, Bool.false_or, Bool.and_true, Bool.and_false, Bool.true_and, Bool.false_and] at hS; with_reducible refine hS.mono ?_; rintro e w2 ⟨rfl, h2⟩; replace HX := hid (HX.out.trans h2); clear h2 hS) | (have hS := eMask X 0 0 false _ _ HX.out.1; rw [two_mask] at hS; simp only [Bool.not_true, Bool.not_false, Bool.or_true, Bool.or_false, Bool.true_or, Bool.false_or, Bool.and_true, Bool.and_false, Bool.true_and, Bool.false_and] at hS; with_reducible refine hS.mono ?_; rintro e w2 ⟨rfl, h2⟩; replace HX := hid (HX.out.trans h2); clear h2 hS))
      | (go_at_call 25; have hS := eClear X 0 0 _ _ HX.out.1; rw [two_clear] at hS; simp only [Bool.not_true, Bool.not_false, Bool.or_true, Bool.or_false, Bool.true_or, Bool.false_or, Bool.and_true, Bool.and_false, Bool.true_and, Bool.false_and] at hS; refine hS.mono ?_; rintro e w2 ⟨rfl, h2⟩; replace HX := hid (HX.out.trans h2); clear h2 hS)
      | (go_at_call 17; have hS := eUpcall X 0 _ _ HX.out.1; rw [two_upR] at hS; refine hS.mono ?_; rintro e w2 ⟨rfl, rfl⟩; clear hS)
      | (go_at_call 27; have hS := ePending X 0 _ _ HX.out.1; rw [two_pend] at hS; simp only [if_true, if_false, Bool.false_eq_true] at hS; refine hS.mono ?_; rintro e w2 ⟨v, rfl, h2⟩; obtain ⟨pv, cv, rfl⟩ := newInts_slice h2; replace HX := hid (HX.out.trans (ELeft.of HX.out.1 h2.2)); clear h2 hS)
      | (go_at_call 13; refine (eAwake _).mono ?_; rintro e w4 ⟨rfl, g4⟩; have HG := hid ((G1.out.andThen HX.out.2 fun j e => .inl (by cases e; exact F1.out)).trans g4); clear g4))
  all_goals
    go_ret
    exact ⟨rfl, HG.out⟩
theorem main {H : Type} {enc : TypeId × Value → H} (v0 v1 v2 : Value) (W : World) (c0 : Flat.Came enc Try.prog W 0 (fun _ => true) true 4 v0) (c1 : Flat.Came enc Try.prog W 0 (fun _ => true) true 4 v1) (c2 : Flat.Came enc Try.prog W 0 (fun _ => true) true 4 v2) :
    Calls Try.prog 7 #[v0, v1, v2] W fun e w' => e = .returned (.bool true) ∧ W.grownBy w' none := by
  obtain ⟨a, rfl⟩ := c0.bool Try.underlying4
  obtain ⟨b, rfl⟩ := c1.bool Try.underlying4
  obtain ⟨c, rfl⟩ := c2.bool Try.underlying4
  exact walk a b c W
theorem own : ownKnob Try.prog.godebug = none := by kernel_rfl
theorem laidOut : laidOutB Try.prog = true := by kernel_rfl

set_option maxRecDepth 100000 in
theorem lifted (os : Os) (started : os.Started) (H : Type) (enc : TypeId × Value → H) :
    ReturnsInHanded {} Try.checked os 7 .any (Rows.eventMasksSpec.pre6 enc Try.prog Try.f7 Rows.eventMasksRow.domain false) (Rows.eventMasksSpec.post enc Try.prog Try.f7 false true false false) := by
  refine returnsInHanded_of_change_sized (C := Try.checked) own started (by kernel_rfl) Try.func7
    (ChangeSpec.witness6 (enc := enc) (C := Try.checked) false ⟨#[], #[.bool false, .bool false, .bool false], []⟩ 8 (by kernel_rfl) (by kernel_rfl) (by kernel_rfl) (by kernel_rfl)) ?_
  intro W base args ds gs before hval0 hW _ hsz0 _
  have hsz : (DataW.weightsEach Try.prog (Try.f7.params.toList ++ Rows.eventMasksSpec.plain.varTypes Try.prog) (ds ++ gs)).all (· ≤ reachBytes) = true := hsz0
  clear hsz0
  have hval : ∀ (j : Nat) t v, Try.f7.params[j]? = some t → args[j]? = some v → Value.okWide Try.prog W .any base t v := hval0
  have hW' := hW
  obtain ⟨p, q, hA0, hV, rfl, hfz, hnd⟩ := hW
  have hA : DataW.TrodAll enc Try.prog W 0 (fun _ => true) true Try.f7.params.toList args.toList ds p := hA0
  rw [Try.params7] at hA hval hsz
  obtain ⟨v0, vs0, d0, ds0, p0, q0, hargs, rfl, rfl, h0, r0⟩ := trodAll_cons hA
  obtain ⟨v1, vs1, d1, ds1, p1, q1, rfl, rfl, rfl, h1, r1⟩ := trodAll_cons r0
  obtain ⟨v2, vs2, d2, ds2, p2, q2, rfl, rfl, rfl, h2, r2⟩ := trodAll_cons r1
  obtain ⟨rfl, rfl, rfl⟩ := trodAll_nil r2
  obtain rfl : args = #[v0, v1, v2] := by cases args; simp_all
  obtain ⟨rfl, rfl⟩ := trodVars_none hV
  obtain ⟨a0, rfl, rfl, rfl⟩ := open_bool Try.underlying4 (hval 0 4 v0 rfl rfl) h0
  have k0 := h0
  have lt0 : ∀ x ∈ ([] : List MemPlace), x.block < W.heap.size := by obtain ⟨m, hm⟩ := k0; exact DataW.trod_lt m _ _ _ hm
  have c0 : Flat.Came enc Try.prog W 0 (fun _ => true) true 4 (.bool a0) := by
    obtain ⟨fuel, hf⟩ := h0
    exact ⟨fuel, _, hf, fun n hn => by
      have := List.all_eq_true.1 hsz n (DataW.weights_mem_each (j := 0) rfl rfl n hn)
      simpa using this⟩
  obtain ⟨a1, rfl, rfl, rfl⟩ := open_bool Try.underlying4 (hval 1 4 v1 rfl rfl) h1
  have k1 := h1
  have lt1 : ∀ x ∈ ([] : List MemPlace), x.block < W.heap.size := by obtain ⟨m, hm⟩ := k1; exact DataW.trod_lt m _ _ _ hm
  have c1 : Flat.Came enc Try.prog W 0 (fun _ => true) true 4 (.bool a1) := by
    obtain ⟨fuel, hf⟩ := h1
    exact ⟨fuel, _, hf, fun n hn => by
      have := List.all_eq_true.1 hsz n (DataW.weights_mem_each (j := 1) rfl rfl n hn)
      simpa using this⟩
  obtain ⟨a2, rfl, rfl, rfl⟩ := open_bool Try.underlying4 (hval 2 4 v2 rfl rfl) h2
  have k2 := h2
  have lt2 : ∀ x ∈ ([] : List MemPlace), x.block < W.heap.size := by obtain ⟨m, hm⟩ := k2; exact DataW.trod_lt m _ _ _ hm
  have c2 : Flat.Came enc Try.prog W 0 (fun _ => true) true 4 (.bool a2) := by
    obtain ⟨fuel, hf⟩ := h2
    exact ⟨fuel, _, hf, fun n hn => by
      have := List.all_eq_true.1 hsz n (DataW.weights_mem_each (j := 2) rfl rfl n hn)
      simpa using this⟩
  clear hA0 hval0
  refine (main (.bool a0) (.bool a1) (.bool a2) W c0 c1 c2).mono fun e W' ⟨he, hg⟩ => ?_
  subst he
  have bel := below_grown' hg
  simp only [List.append_nil, List.nil_append] at hW'
  exact ⟨_, rfl, _, _, _, [], _, [], hW', trodAll_mk1 (shut_bool Try.underlying4 _), (trodAll_cons_mk (Below.trod laidOut (by kernel_rfl) (of_decide_eq_true (by kernel_rfl)) k0 bel lt0) (trodAll_cons_mk (Below.trod laidOut (by kernel_rfl) (of_decide_eq_true (by kernel_rfl)) k1 bel lt1) (trodAll_cons_mk (Below.trod laidOut (by kernel_rfl) (of_decide_eq_true (by kernel_rfl)) k2 bel lt2) trodAll_mk0))), rfl, bel.frame _, fun h => by cases h⟩

theorem proved : Rows.EventMasksSaid :=
  OpenClaim.holds_of_wide 7 Try.f7 rfl rfl rfl rfl rfl rfl rfl ⟨rfl, rfl, rfl, rfl, rfl⟩ rfl rfl rfl rfl rfl (by kernel_rfl) Try.func7 (by kernel_rfl)
    (of_decide_eq_true (by kernel_rfl)) (by unfold Func.isWrapper; first | (rw [if_pos (by decide +kernel)]; kernel_rfl) | (rw [if_neg (by decide +kernel)]; exact ⟨rfl, rfl⟩))
    (fun os started H enc _ => lifted os started H enc)
#print axioms proved
end Go.Proofs.Ytjgikapoohibnaa.lawEvMasks
