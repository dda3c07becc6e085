/-
  BusStates: for every row of bytes the law returns true, and what was there stays. No condition.
-/
import Derived.Test.YtbocbokkphlcbaaBsL
import Derived.Test.YtbocbokkphlcbaaLift
import Derived.Test.YtbocbokkphlcbaaOpen
import Derived.Test.YtbocbokkphlcbaaRows
import Derived.ProofKit
import Derived.OpenShut
import Derived.Lib.SmallJoins
set_option linter.unusedSimpArgs false
set_option linter.unusedVariables false
namespace Go.Proofs.Ytbocbokkphlcbaa.lawBsStates
open Go.ChangeShapes Go.WideShapes Go.ChangeAt Go.RowKit Go.Lib
set_option maxHeartbeats 1000000
set_option maxRecDepth 100000
theorem walk (l : List UInt8) (p : Option Addr) (c : Nat) (w : World) (hlen : l.length ≤ 140737488351232) (hg : BA w p l) :
    Calls Try.prog 3 #[.slice p l.length c] w fun e w' => e = .returned (.bool true) ∧ w.grownBy w' none := by
  have HG := Lib.hid hg
  have H1 := Lib.hid fun p' c' w' (h : BA w' p' l) => bState l p' c' w' h
  have H2 := Lib.hid fun w' (h : BA w' p l) => rState l p c w' h
  generalize stV l = k at *
  obtain ⟨i0, hi, hz⟩ := Option.map_eq_some_iff.1 info_u8
  simp only [Prod.mk.injEq] at hz
  have Hi := Lib.hid hi
  have Hz0 := Lib.hid hz.1
  have Hz1 := Lib.hid hz.2.1
  have Hz2 := Lib.hid hz.2.2
  clear hg hi hz
  cases p with
  | none =>
    have hx : l = [] := by
      cases l with
      | nil => rfl
      | cons x r => obtain ⟨_, _, e, _⟩ := HG.out 0 (by simp); cases e
    subst hx
    simp only [List.length_nil] at H1 H2
    have HE := Lib.hid (show ∀ (p : Option Addr) (w' : World), BA w' p [] from fun p w' k hk => by cases hk)
    clear HG Hi Hz0 Hz1 Hz2
    go_enter Try.func3, Try.ntmps3
    go_wp2_with (first
      | (go_at_call 6; (with_reducible refine (H1.out (some ⟨w.heap.size, 0, none⟩) 0 _ (HE.out _ _)).mono ?_); rintro e w1 ⟨rfl, rfl⟩)
      | (go_at_call 7; (with_reducible refine (H2.out _ (HE.out _ _)).mono ?_); rintro e w2 ⟨rfl, rfl⟩)
      | (go_at_call 8; (with_reducible refine (bAwake _).mono ?_); rintro e w4 ⟨rfl, hg⟩; have HG3 := Lib.hid hg; clear hg))
    go_ret
    exact ⟨rfl, (World.grownBy_alloc w _ none).trans HG3.out⟩
  | some a =>
    go_enter Try.func3, Try.ntmps3
    go_wp2_with (first
      | (at_builtin; refine wpList_append_own _ rfl _ _ 22 rfl w.heap.size 5 i0 (.int .u8 0) 1 1 Try.underlying22 Hi.out Hz0.out Hz1.out Hz2.out rfl (by decide) _ _ _ rfl (own0 w _ 1) a l.length c (bcellsB l) rfl (show (bcellsB l).length = l.length * 1 by rw [bcellsB_len, Nat.mul_one]) (fun j u hu => news_at HG.out j u hu) (bcellsB_one l) (by unfold maxLen; omega) (by omega) (alloc_le w _) ?_; intro v' w0 hown' hgrow hnil; clear hnil; have HB0 := Lib.hid ((World.grownBy_alloc w _ none).andThen hgrow (fun j hj => .inl (by cases hj; exact Nat.le_refl _))); rw [Nat.zero_add, List.nil_append] at hown'; obtain ⟨p', c', rfl, hc', hg'⟩ := BA.of_own hown'; have HG' := Lib.hid hg'; clear hown' hgrow hg' hc')
      | (go_at_call 6; (with_reducible refine (H1.out _ _ _ HG'.out).mono ?_); rintro e w1 ⟨rfl, rfl⟩)
      | (go_at_call 7; (with_reducible refine (H2.out _ (HG.out.grown HB0.out)).mono ?_); rintro e w2 ⟨rfl, rfl⟩)
      | (go_at_call 8; (with_reducible refine (bAwake _).mono ?_); rintro e w4 ⟨rfl, hg⟩; have HG3 := Lib.hid hg; clear hg))
    go_ret
    exact ⟨rfl, HB0.out.trans HG3.out⟩
theorem main {H : Type} {enc : TypeId × Value → H} (v0 : Value) (W : World) (c0 : Flat.Came enc Try.prog W 0 (fun _ => true) true 22 v0) :
    Calls Try.prog 3 #[v0] W fun e w' => e = .returned (.bool true) ∧ W.grownBy w' none := by
  obtain ⟨pa, l, cap, rfl, hin, hl⟩ := came_bytes c0
  exact walk l pa cap W hl hin
theorem own : ownKnob Try.prog.godebug = none := by kernel_rfl
theorem laidOut : laidOutB Try.prog = true := by kernel_rfl

set_option maxRecDepth 100000 in
theorem lifted (os : Os) (started : os.Started) (H : Type) (enc : TypeId × Value → H) :
    ReturnsInHanded {} Try.checked os 3 .any (Rows.busStatesSpec.pre6 enc Try.prog Try.f3 Rows.busStatesRow.domain false) (Rows.busStatesSpec.post enc Try.prog Try.f3 false true false false) := by
  refine returnsInHanded_of_change_sized (C := Try.checked) own started (by kernel_rfl) Try.func3
    (ChangeSpec.witness6 (enc := enc) (C := Try.checked) false ⟨#[], #[.slice none 0 0], []⟩ 8 (by kernel_rfl) (by kernel_rfl) (by kernel_rfl) (by kernel_rfl)) ?_
  intro W base args ds gs before hval0 hW _ hsz0 _
  have hsz : (DataW.weightsEach Try.prog (Try.f3.params.toList ++ Rows.busStatesSpec.plain.varTypes Try.prog) (ds ++ gs)).all (· ≤ reachBytes) = true := hsz0
  clear hsz0
  have hval : ∀ (j : Nat) t v, Try.f3.params[j]? = some t → args[j]? = some v → Value.okWide Try.prog W .any base t v := hval0
  have hW' := hW
  obtain ⟨p, q, hA0, hV, rfl, hfz, hnd⟩ := hW
  have hA : DataW.TrodAll enc Try.prog W 0 (fun _ => true) true Try.f3.params.toList args.toList ds p := hA0
  rw [Try.params3] at hA hval hsz
  obtain ⟨v0, vs0, d0, ds0, p0, q0, hargs, rfl, rfl, h0, r0⟩ := trodAll_cons hA
  obtain ⟨rfl, rfl, rfl⟩ := trodAll_nil r0
  obtain rfl : args = #[v0] := by cases args; simp_all
  obtain ⟨rfl, rfl⟩ := trodVars_none hV
  obtain ⟨ps0, ln0, cp0, rfl⟩ := okWide_slice Try.underlying22 (hval 0 22 v0 rfl rfl)
  have k0 := h0
  have lt0 : ∀ x ∈ p0, x.block < W.heap.size := by obtain ⟨m, hm⟩ := k0; exact DataW.trod_lt m _ _ _ hm
  have c0 : Flat.Came enc Try.prog W 0 (fun _ => true) true 22 (.slice ps0 ln0 cp0) := by
    obtain ⟨fuel, hf⟩ := h0
    exact ⟨fuel, _, hf, fun n hn => by
      have := List.all_eq_true.1 hsz n (DataW.weights_mem_each (j := 0) rfl rfl n hn)
      simpa using this⟩
  clear hA0 hval0
  refine (main (.slice ps0 ln0 cp0) W c0).mono fun e W' ⟨he, hg⟩ => ?_
  subst he
  have bel := below_grown' hg
  simp only [List.append_nil, List.nil_append] at hW'
  exact ⟨_, rfl, _, _, _, [], _, [], hW', trodAll_mk1 (shut_bool Try.underlying4 _), (trodAll_cons_mk (Below.trod laidOut (by kernel_rfl) (of_decide_eq_true (by kernel_rfl)) k0 bel lt0) trodAll_mk0), rfl, bel.frame _, fun h => by cases h⟩

theorem proved : Rows.BusStatesSaid :=
  OpenClaim.holds_of_wide 3 Try.f3 rfl rfl rfl rfl rfl rfl rfl ⟨rfl, rfl, rfl, rfl, rfl⟩ rfl rfl rfl rfl rfl (by kernel_rfl) Try.func3 (by kernel_rfl)
    (of_decide_eq_true (by kernel_rfl)) (by unfold Func.isWrapper; first | (rw [if_pos (by decide +kernel)]; kernel_rfl) | (rw [if_neg (by decide +kernel)]; exact ⟨rfl, rfl⟩))
    (fun os started H enc _ => lifted os started H enc)
#print axioms proved

end Go.Proofs.Ytbocbokkphlcbaa.lawBsStates
