/-
  PteWalks: for every input the law returns true, and what was there stays. No condition.
-/
import Derived.Test.YtdjhkacjgdnglaaPteH
import Derived.Test.YtdjhkacjgdnglaaPteJ
import Derived.Test.YtdjhkacjgdnglaaPteC
import Derived.ProofKit
import Derived.OpenShut
namespace Go.Proofs.Ytdjhkacjgdnglaa.lawPteWalks
open Go.ChangeShapes Go.WideShapes Go.ChangeAt Go.RowKit
set_option maxHeartbeats 2000000

set_option maxRecDepth 100000 in
theorem main {H : Type} {enc : TypeId × Value → H} (v0 v1 v2 v3 v4 v5 : Value) (w : World) (c0 : Flat.Came enc Try.prog w 0 (fun _ => true) true 5 v0) (c1 : Flat.Came enc Try.prog w 0 (fun _ => true) true 43 v1) (c2 : Flat.Came enc Try.prog w 0 (fun _ => true) true 3 v2) (c3 : Flat.Came enc Try.prog w 0 (fun _ => true) true 44 v3) (c4 : Flat.Came enc Try.prog w 0 (fun _ => true) true 4 v4) (c5 : Flat.Came enc Try.prog w 0 (fun _ => true) true 3 v5) :
    Calls Try.prog 5 #[v0, v1, v2, v3, v4, v5] w fun e w' => e = .returned (.bool true) ∧ w.grownBy w' none := by
  obtain ⟨a', rfl, wf⟩ := c0.int Try.underlying5
  obtain ⟨a, rfl, ha⟩ := u8_nat wf
  obtain ⟨pa, ps, cap, rfl, hps, hin⟩ := open_puts c1
  obtain ⟨r, rfl, _⟩ := c2.int Try.underlying3
  obtain ⟨va', rfl, wf3⟩ := c3.int Try.underlying44
  obtain ⟨va, rfl, hva⟩ := u32_nat wf3
  obtain ⟨x, rfl⟩ := c4.bool Try.underlying4
  obtain ⟨i, rfl, _⟩ := c5.int Try.underlying3
  clear c0 c1 c2 c3 c4 c5 wf wf3
  have e1 : ((1 + a % 8 : Nat) : Int) = 1 + (a : Int) % 8 := by omega
  have HBg := hid (pBegin (1 + a % 8) pa cap ps w hin (by omega) (by omega) hps)
  rw [e1] at HBg
  obtain ⟨M, hM⟩ : ∃ M, pC (1 + a % 8) ps ps.length = M := ⟨_, rfl⟩
  rw [hM] at HBg
  have HV := hid hva
  clear e1 hM hin hps hva
  obtain ⟨⟨x1, x2⟩, h1⟩ : ∃ y, M.pat r i = y := ⟨_, rfl⟩
  obtain ⟨⟨y1, y2, y3⟩, h2⟩ : ∃ y, M.walkV r va x = y := ⟨_, rfl⟩
  have HA := hid (fun B w T (hM : PM w B M) hok => h1 ▸ ptAt B r i w M T hM hok)
  have HRA := hid (fun b w L (hM : RM w b M L) => h1 ▸ rAt b r i w M L hM)
  have HW := hid (fun B w T (hM : PM w B M) hok => h2 ▸ ptWalk B r va x w M T hM hok HV.out)
  have HRW := hid (fun b w L (hM : RM w b M L) => h2 ▸ rWalk b r va x w M L hM HV.out)
  clear h1 h2
  go_enter Try.func5, Try.ntmps5
  go_wp2_with (first
    | (go_at_call 23; refine HBg.out.mono ?_; rintro e w1 ⟨B, b, L, rfl, hbg⟩; have HO := hid hbg; clear hbg)
    | (go_at_call 24; refine (HA.out _ _ _ HO.out.m HO.out.ok).mono ?_; rintro e w2 ⟨rfl, hg⟩; have HO2 := hid (HO.out.more hg); clear hg)
    | (go_at_call 25; refine (HRA.out _ _ _ HO2.out.r).mono ?_; rintro e w3 ⟨rfl, rfl⟩)
    | (go_at_call 26; refine (HW.out _ _ _ HO2.out.m HO2.out.ok).mono ?_; rintro e w4 ⟨rfl, hg⟩; have HO4 := hid (HO2.out.more hg); clear hg; simp only [walk3])
    | (go_at_call 27; refine (HRW.out _ _ _ HO4.out.r).mono ?_; rintro e w5 ⟨rfl, hg⟩; have HO5 := hid (HO4.out.more hg); clear hg; simp only [walk3])
    | (go_at_call 28; refine (pAwake _).mono ?_; rintro e w6 ⟨rfl, hg⟩; have HO6 := hid (HO5.out.more hg); clear hg))
  go_ret
  exact ⟨rfl, HO6.out.grown⟩

theorem own : ownKnob Try.prog.godebug = none := by kernel_rfl
theorem laidOut : laidOutB Try.prog = true := by kernel_rfl

set_option maxRecDepth 100000 in
theorem lifted (os : Os) (started : os.Started) (H : Type) (enc : TypeId × Value → H) :
    ReturnsInHanded {} Try.checked os 5 .any (Rows.pteWalksSpec.pre6 enc Try.prog Try.f5 Rows.pteWalksRow.domain false) (Rows.pteWalksSpec.post enc Try.prog Try.f5 false true false false) := by
  refine returnsInHanded_of_change_sized (C := Try.checked) own started (by kernel_rfl) Try.func5
    (ChangeSpec.witness6 (enc := enc) (C := Try.checked) false ⟨#[], #[.int .u8 0, .slice none 0 0, .int .i64 0, .int .u32 0, .bool false, .int .i64 0], []⟩ 8 (by kernel_rfl) (by kernel_rfl) (by kernel_rfl) (by kernel_rfl)) ?_
  intro W base args ds gs before hval0 hW _ hsz0 _
  have hsz : (DataW.weightsEach Try.prog (Try.f5.params.toList ++ Rows.pteWalksSpec.plain.varTypes Try.prog) (ds ++ gs)).all (· ≤ reachBytes) = true := hsz0
  clear hsz0
  have hval : ∀ (j : Nat) t v, Try.f5.params[j]? = some t → args[j]? = some v → Value.okWide Try.prog W .any base t v := hval0
  have hW' := hW
  obtain ⟨p, q, hA0, hV, rfl, hfz, hnd⟩ := hW
  have hA : DataW.TrodAll enc Try.prog W 0 (fun _ => true) true Try.f5.params.toList args.toList ds p := hA0
  rw [Try.params5] at hA hval hsz
  obtain ⟨v0, vs0, d0, ds0, p0, q0, hargs, rfl, rfl, h0, r0⟩ := trodAll_cons hA
  obtain ⟨v1, vs1, d1, ds1, p1, q1, rfl, rfl, rfl, h1, r1⟩ := trodAll_cons r0
  obtain ⟨v2, vs2, d2, ds2, p2, q2, rfl, rfl, rfl, h2, r2⟩ := trodAll_cons r1
  obtain ⟨v3, vs3, d3, ds3, p3, q3, rfl, rfl, rfl, h3, r3⟩ := trodAll_cons r2
  obtain ⟨v4, vs4, d4, ds4, p4, q4, rfl, rfl, rfl, h4, r4⟩ := trodAll_cons r3
  obtain ⟨v5, vs5, d5, ds5, p5, q5, rfl, rfl, rfl, h5, r5⟩ := trodAll_cons r4
  obtain ⟨rfl, rfl, rfl⟩ := trodAll_nil r5
  obtain rfl : args = #[v0, v1, v2, v3, v4, v5] := by cases args; simp_all
  obtain ⟨rfl, rfl⟩ := trodVars_none hV
  obtain ⟨a0, rfl, rfl, rfl, w0⟩ := open_int Try.underlying5 (hval 0 5 v0 rfl rfl) h0
  have k0 := h0
  have lt0 : ∀ x ∈ ([] : List MemPlace), x.block < W.heap.size := by obtain ⟨m, hm⟩ := k0; exact DataW.trod_lt m _ _ _ hm
  have c0 : Flat.Came enc Try.prog W 0 (fun _ => true) true 5 (.int .u8 a0) := by
    obtain ⟨fuel, hf⟩ := h0
    exact ⟨fuel, _, hf, fun n hn => by
      have := List.all_eq_true.1 hsz n (DataW.weights_mem_each (j := 0) rfl rfl n hn)
      simpa using this⟩
  obtain ⟨ps1, ln1, cp1, rfl⟩ := okWide_slice Try.underlying43 (hval 1 43 v1 rfl rfl)
  have k1 := h1
  have lt1 : ∀ x ∈ p1, x.block < W.heap.size := by obtain ⟨m, hm⟩ := k1; exact DataW.trod_lt m _ _ _ hm
  have c1 : Flat.Came enc Try.prog W 0 (fun _ => true) true 43 (.slice ps1 ln1 cp1) := by
    obtain ⟨fuel, hf⟩ := h1
    exact ⟨fuel, _, hf, fun n hn => by
      have := List.all_eq_true.1 hsz n (DataW.weights_mem_each (j := 1) rfl rfl n hn)
      simpa using this⟩
  obtain ⟨a2, rfl, rfl, rfl, w2⟩ := open_int Try.underlying3 (hval 2 3 v2 rfl rfl) h2
  have k2 := h2
  have lt2 : ∀ x ∈ ([] : List MemPlace), x.block < W.heap.size := by obtain ⟨m, hm⟩ := k2; exact DataW.trod_lt m _ _ _ hm
  have c2 : Flat.Came enc Try.prog W 0 (fun _ => true) true 3 (.int .i64 a2) := by
    obtain ⟨fuel, hf⟩ := h2
    exact ⟨fuel, _, hf, fun n hn => by
      have := List.all_eq_true.1 hsz n (DataW.weights_mem_each (j := 2) rfl rfl n hn)
      simpa using this⟩
  obtain ⟨a3, rfl, rfl, rfl, w3⟩ := open_int Try.underlying44 (hval 3 44 v3 rfl rfl) h3
  have k3 := h3
  have lt3 : ∀ x ∈ ([] : List MemPlace), x.block < W.heap.size := by obtain ⟨m, hm⟩ := k3; exact DataW.trod_lt m _ _ _ hm
  have c3 : Flat.Came enc Try.prog W 0 (fun _ => true) true 44 (.int .u32 a3) := by
    obtain ⟨fuel, hf⟩ := h3
    exact ⟨fuel, _, hf, fun n hn => by
      have := List.all_eq_true.1 hsz n (DataW.weights_mem_each (j := 3) rfl rfl n hn)
      simpa using this⟩
  obtain ⟨a4, rfl, rfl, rfl⟩ := open_bool Try.underlying4 (hval 4 4 v4 rfl rfl) h4
  have k4 := h4
  have lt4 : ∀ x ∈ ([] : List MemPlace), x.block < W.heap.size := by obtain ⟨m, hm⟩ := k4; exact DataW.trod_lt m _ _ _ hm
  have c4 : Flat.Came enc Try.prog W 0 (fun _ => true) true 4 (.bool a4) := by
    obtain ⟨fuel, hf⟩ := h4
    exact ⟨fuel, _, hf, fun n hn => by
      have := List.all_eq_true.1 hsz n (DataW.weights_mem_each (j := 4) rfl rfl n hn)
      simpa using this⟩
  obtain ⟨a5, rfl, rfl, rfl, w5⟩ := open_int Try.underlying3 (hval 5 3 v5 rfl rfl) h5
  have k5 := h5
  have lt5 : ∀ x ∈ ([] : List MemPlace), x.block < W.heap.size := by obtain ⟨m, hm⟩ := k5; exact DataW.trod_lt m _ _ _ hm
  have c5 : Flat.Came enc Try.prog W 0 (fun _ => true) true 3 (.int .i64 a5) := by
    obtain ⟨fuel, hf⟩ := h5
    exact ⟨fuel, _, hf, fun n hn => by
      have := List.all_eq_true.1 hsz n (DataW.weights_mem_each (j := 5) rfl rfl n hn)
      simpa using this⟩
  clear hA0 hval0
  refine (main (.int .u8 a0) (.slice ps1 ln1 cp1) (.int .i64 a2) (.int .u32 a3) (.bool a4) (.int .i64 a5) W c0 c1 c2 c3 c4 c5).mono fun e W' ⟨he, hg⟩ => ?_
  subst he
  have bel := below_grown hg
  simp only [List.append_nil, List.nil_append] at hW'
  exact ⟨_, rfl, _, _, _, [], _, [], hW', trodAll_mk1 (shut_bool Try.underlying4 _), (trodAll_cons_mk (Below.trod laidOut (by kernel_rfl) (of_decide_eq_true (by kernel_rfl)) k0 bel lt0) (trodAll_cons_mk (Below.trod laidOut (by kernel_rfl) (of_decide_eq_true (by kernel_rfl)) k1 bel lt1) (trodAll_cons_mk (Below.trod laidOut (by kernel_rfl) (of_decide_eq_true (by kernel_rfl)) k2 bel lt2) (trodAll_cons_mk (Below.trod laidOut (by kernel_rfl) (of_decide_eq_true (by kernel_rfl)) k3 bel lt3) (trodAll_cons_mk (Below.trod laidOut (by kernel_rfl) (of_decide_eq_true (by kernel_rfl)) k4 bel lt4) (trodAll_cons_mk (Below.trod laidOut (by kernel_rfl) (of_decide_eq_true (by kernel_rfl)) k5 bel lt5) trodAll_mk0)))))), rfl, bel.frame _, fun h => by cases h⟩

theorem proved : Rows.PteWalksSaid :=
  OpenClaim.holds_of_wide 5 Try.f5 rfl rfl rfl rfl rfl rfl rfl ⟨rfl, rfl, rfl, rfl, rfl⟩ rfl rfl rfl rfl rfl (by kernel_rfl) Try.func5 (by kernel_rfl)
    (of_decide_eq_true (by kernel_rfl)) (by unfold Func.isWrapper; first | (rw [if_pos (by decide +kernel)]; kernel_rfl) | (rw [if_neg (by decide +kernel)]; exact ⟨rfl, rfl⟩))
    (fun os started H enc _ => lifted os started H enc)
#print axioms proved

end Go.Proofs.Ytdjhkacjgdnglaa.lawPteWalks
