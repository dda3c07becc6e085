/-
  NetPackets: for every four numbers the law returns true, and what was there stays. No condition.
-/
import Derived.Test.YtoeohbiofmcdeaaNtB
import Derived.Test.YtoeohbiofmcdeaaOpen
import Derived.Test.YtoeohbiofmcdeaaLift
import Derived.Test.YtoeohbiofmcdeaaOpenS
import Derived.ProofKit
import Derived.OpenShut
import Derived.Lib.SmallJoins
set_option linter.unusedSimpArgs false
set_option linter.unusedVariables false
namespace Go.Proofs.Ytoeohbiofmcdeaa.lawNetPackets
open Go.ChangeShapes Go.WideShapes Go.ChangeAt Go.RowKit Gen Bk Nt
set_option maxHeartbeats 4000000

/-- bytes and an error -/
def Bs (w : World) (L : List UInt8) (k : Int) (e : Ending) (w' : World) : Prop := ∃ p c, e = .returned (.tuple #[.slice p L.length c, .int .i64 k]) ∧ BA w' p L ∧ w.grownBy w' none
theorem Bs.no {w w' : World} {e : Ending} (h : NoB w e w') : Bs w [] 1 e w' := by
  obtain ⟨rfl, hg⟩ := h
  exact ⟨none, 0, rfl, BA.nil _ _, hg⟩
theorem Bs.yes {w w' : World} {e : Ending} {L : List UInt8} (h : YesB w L e w') : Bs w L 0 e w' := by
  obtain ⟨b, c, rfl, ha, _, _, hg⟩ := h
  exact ⟨_, _, rfl, ha, hg⟩
theorem packs (r o n i : Int) : ∃ (L : List UInt8) (k : Int), (∀ w, Calls Try.prog 15 #[.int .i64 r, .int .i64 o, .int .i64 n, .int .i64 i] w (Bs w L k)) ∧ (∀ w, Calls Try.prog 16 #[.int .i64 r, .int .i64 o, .int .i64 n, .int .i64 i] w (Bs w L k)) := by
  cases h : pkOk r o n i with
  | true => exact ⟨pkB r o n i, 0, fun w => (nPack_yes r o n i w h).mono fun e w' h => .yes h, fun w => (rPack_yes r o n i w h).mono fun e w' h => .yes h⟩
  | false => exact ⟨[], 1, fun w => (nPack_no r o n i w h).mono fun e w' h => .no h, fun w => (rPack_no r o n i w h).mono fun e w' h => .no h⟩
theorem bufs (r i : Int) : ∃ (L : List UInt8) (k : Int), (∀ w, Calls Try.prog 17 #[.int .i64 r, .int .i64 i] w (Bs w L k)) ∧ (∀ w, Calls Try.prog 18 #[.int .i64 r, .int .i64 i] w (Bs w L k)) := by
  cases h : pkOk r 0 0 i with
  | true => exact ⟨pkB r 0 0 i, 0, fun w => (nBuf_yes r i w h).mono fun e w' h => .yes h, fun w => (rBuf_yes r i w h).mono fun e w' h => .yes h⟩
  | false => exact ⟨[], 1, fun w => (nBuf_no r i w h).mono fun e w' h => .no h, fun w => (rBuf_no r i w h).mono fun e w' h => .no h⟩
theorem walk (r o n i : Int) (w : World) : Calls Try.prog 6 #[.int .i64 r, .int .i64 o, .int .i64 n, .int .i64 i] w fun e w' => e = .returned (.bool true) ∧ w.grownBy w' none := by
  obtain ⟨L1, k1, h1, h2⟩ := packs r o n i
  obtain ⟨L2, k2, h3, h4⟩ := bufs r i
  have H1 := hid h1; have H2 := hid h2; have H3 := hid h3; have H4 := hid h4
  have HAW := hid nAwake
  clear h1 h2 h3 h4
  unfold Bs at *
  go_enter Try.func6, Try.ntmps6
  go_wp2_with (first
    | (go_at_call 15; refine (H1.out _).mono ?_; rintro e w1 ⟨p1, c1, rfl, ha, hg⟩; have HA1 := hid ha; have HG1 := hid hg; clear ha hg)
    | (go_at_call 16; refine (H2.out _).mono ?_; rintro e w2 ⟨p2, c2, rfl, ha, hg⟩; have s1 := (HA1.out.grown hg).string c1; have s2 := ha.string c2; have HG2 := hid (HG1.out.trans hg); clear ha hg)
    | (go_at_call 17; refine (H3.out _).mono ?_; rintro e w3 ⟨p3, c3, rfl, ha, hg⟩; have HA3 := hid ha; have HG3 := hid (HG2.out.trans hg); clear ha hg)
    | (go_at_call 18; refine (H4.out _).mono ?_; rintro e w4 ⟨p4, c4, rfl, ha, hg⟩; have s3 := (HA3.out.grown hg).string c3; have s4 := ha.string c4; have HG4 := hid (HG3.out.trans hg); clear ha hg)
    | (go_at_call 19; refine (HAW.out _).mono ?_; rintro e w5 ⟨rfl, hg⟩; have HG5 := hid (HG4.out.trans hg); clear hg))
  go_ret
  exact ⟨rfl, HG5.out⟩
theorem main {H : Type} {enc : TypeId × Value → H} (v0 v1 v2 v3 : Value) (W : World) (c0 : Flat.Came enc Try.prog W 0 (fun _ => true) true 3 v0) (c1 : Flat.Came enc Try.prog W 0 (fun _ => true) true 3 v1) (c2 : Flat.Came enc Try.prog W 0 (fun _ => true) true 3 v2) (c3 : Flat.Came enc Try.prog W 0 (fun _ => true) true 3 v3) :
    Calls Try.prog 6 #[v0, v1, v2, v3] W fun e W' => e = .returned (.bool true) ∧ W.grownBy W' none := by
  obtain ⟨a, rfl, _⟩ := c0.int Try.underlying3
  obtain ⟨b, rfl, _⟩ := c1.int Try.underlying3
  obtain ⟨c, rfl, _⟩ := c2.int Try.underlying3
  obtain ⟨d, rfl, _⟩ := c3.int Try.underlying3
  exact walk a b c d W
theorem own : ownKnob Try.prog.godebug = none := by kernel_rfl
theorem laidOut : laidOutB Try.prog = true := by kernel_rfl

set_option maxRecDepth 100000 in
theorem lifted (os : Os) (started : os.Started) (H : Type) (enc : TypeId × Value → H) :
    ReturnsInHanded {} Try.checked os 6 .any (Rows.netPacketsSpec.pre6 enc Try.prog Try.f6 Rows.netPacketsRow.domain false) (Rows.netPacketsSpec.post enc Try.prog Try.f6 false true false false) := by
  refine returnsInHanded_of_change_sized (C := Try.checked) own started (by kernel_rfl) Try.func6
    (ChangeSpec.witness6 (enc := enc) (C := Try.checked) false ⟨#[], #[.int .i64 0, .int .i64 0, .int .i64 0, .int .i64 0], []⟩ 8 (by kernel_rfl) (by kernel_rfl) (by kernel_rfl) (by kernel_rfl)) ?_
  intro W base args ds gs before hval0 hW _ hsz0 _
  have hsz : (DataW.weightsEach Try.prog (Try.f6.params.toList ++ Rows.netPacketsSpec.plain.varTypes Try.prog) (ds ++ gs)).all (· ≤ reachBytes) = true := hsz0
  clear hsz0
  have hval : ∀ (j : Nat) t v, Try.f6.params[j]? = some t → args[j]? = some v → Value.okWide Try.prog W .any base t v := hval0
  have hW' := hW
  obtain ⟨p, q, hA0, hV, rfl, hfz, hnd⟩ := hW
  have hA : DataW.TrodAll enc Try.prog W 0 (fun _ => true) true Try.f6.params.toList args.toList ds p := hA0
  rw [Try.params6] at hA hval hsz
  obtain ⟨v0, vs0, d0, ds0, p0, q0, hargs, rfl, rfl, h0, r0⟩ := trodAll_cons hA
  obtain ⟨v1, vs1, d1, ds1, p1, q1, rfl, rfl, rfl, h1, r1⟩ := trodAll_cons r0
  obtain ⟨v2, vs2, d2, ds2, p2, q2, rfl, rfl, rfl, h2, r2⟩ := trodAll_cons r1
  obtain ⟨v3, vs3, d3, ds3, p3, q3, rfl, rfl, rfl, h3, r3⟩ := trodAll_cons r2
  obtain ⟨rfl, rfl, rfl⟩ := trodAll_nil r3
  obtain rfl : args = #[v0, v1, v2, v3] := by cases args; simp_all
  obtain ⟨rfl, rfl⟩ := trodVars_none hV
  obtain ⟨a0, rfl, rfl, rfl, w0⟩ := open_int Try.underlying3 (hval 0 3 v0 rfl rfl) h0
  have k0 := h0
  have lt0 : ∀ x ∈ ([] : List MemPlace), x.block < W.heap.size := by obtain ⟨m, hm⟩ := k0; exact DataW.trod_lt m _ _ _ hm
  have c0 : Flat.Came enc Try.prog W 0 (fun _ => true) true 3 (.int .i64 a0) := by
    obtain ⟨fuel, hf⟩ := h0
    exact ⟨fuel, _, hf, fun n hn => by
      have := List.all_eq_true.1 hsz n (DataW.weights_mem_each (j := 0) rfl rfl n hn)
      simpa using this⟩
  obtain ⟨a1, rfl, rfl, rfl, w1⟩ := open_int Try.underlying3 (hval 1 3 v1 rfl rfl) h1
  have k1 := h1
  have lt1 : ∀ x ∈ ([] : List MemPlace), x.block < W.heap.size := by obtain ⟨m, hm⟩ := k1; exact DataW.trod_lt m _ _ _ hm
  have c1 : Flat.Came enc Try.prog W 0 (fun _ => true) true 3 (.int .i64 a1) := by
    obtain ⟨fuel, hf⟩ := h1
    exact ⟨fuel, _, hf, fun n hn => by
      have := List.all_eq_true.1 hsz n (DataW.weights_mem_each (j := 1) rfl rfl n hn)
      simpa using this⟩
  obtain ⟨a2, rfl, rfl, rfl, w2⟩ := open_int Try.underlying3 (hval 2 3 v2 rfl rfl) h2
  have k2 := h2
  have lt2 : ∀ x ∈ ([] : List MemPlace), x.block < W.heap.size := by obtain ⟨m, hm⟩ := k2; exact DataW.trod_lt m _ _ _ hm
  have c2 : Flat.Came enc Try.prog W 0 (fun _ => true) true 3 (.int .i64 a2) := by
    obtain ⟨fuel, hf⟩ := h2
    exact ⟨fuel, _, hf, fun n hn => by
      have := List.all_eq_true.1 hsz n (DataW.weights_mem_each (j := 2) rfl rfl n hn)
      simpa using this⟩
  obtain ⟨a3, rfl, rfl, rfl, w3⟩ := open_int Try.underlying3 (hval 3 3 v3 rfl rfl) h3
  have k3 := h3
  have lt3 : ∀ x ∈ ([] : List MemPlace), x.block < W.heap.size := by obtain ⟨m, hm⟩ := k3; exact DataW.trod_lt m _ _ _ hm
  have c3 : Flat.Came enc Try.prog W 0 (fun _ => true) true 3 (.int .i64 a3) := by
    obtain ⟨fuel, hf⟩ := h3
    exact ⟨fuel, _, hf, fun n hn => by
      have := List.all_eq_true.1 hsz n (DataW.weights_mem_each (j := 3) rfl rfl n hn)
      simpa using this⟩
  clear hA0 hval0
  refine (main (.int .i64 a0) (.int .i64 a1) (.int .i64 a2) (.int .i64 a3) W c0 c1 c2 c3).mono fun e W' ⟨he, hg⟩ => ?_
  subst he
  have bel := below_grown' hg
  simp only [List.append_nil, List.nil_append] at hW'
  exact ⟨_, rfl, _, _, _, [], _, [], hW', trodAll_mk1 (shut_bool Try.underlying4 _), (trodAll_cons_mk (Below.trod laidOut (by kernel_rfl) (of_decide_eq_true (by kernel_rfl)) k0 bel lt0) (trodAll_cons_mk (Below.trod laidOut (by kernel_rfl) (of_decide_eq_true (by kernel_rfl)) k1 bel lt1) (trodAll_cons_mk (Below.trod laidOut (by kernel_rfl) (of_decide_eq_true (by kernel_rfl)) k2 bel lt2) (trodAll_cons_mk (Below.trod laidOut (by kernel_rfl) (of_decide_eq_true (by kernel_rfl)) k3 bel lt3) trodAll_mk0)))), rfl, bel.frame _, fun h => by cases h⟩

theorem proved : Rows.NetPacketsSaid :=
  OpenClaim.holds_of_wide 6 Try.f6 rfl rfl rfl rfl rfl rfl rfl ⟨rfl, rfl, rfl, rfl, rfl⟩ rfl rfl rfl rfl rfl (by kernel_rfl) Try.func6 (by kernel_rfl)
    (of_decide_eq_true (by kernel_rfl)) (by unfold Func.isWrapper; first | (rw [if_pos (by decide +kernel)]; kernel_rfl) | (rw [if_neg (by decide +kernel)]; exact ⟨rfl, rfl⟩))
    (fun os started H enc _ => lifted os started H enc)
#print axioms proved
end Go.Proofs.Ytoeohbiofmcdeaa.lawNetPackets
