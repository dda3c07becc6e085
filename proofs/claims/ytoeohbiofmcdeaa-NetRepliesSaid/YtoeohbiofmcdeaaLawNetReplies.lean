/-
  NetReplies: for every row of bytes the law returns true, and what was there stays. No condition.
-/
import Derived.Test.YtoeohbiofmcdeaaNtB
import Derived.Test.YtoeohbiofmcdeaaOpen
import Derived.Test.YtoeohbiofmcdeaaLift
import Derived.Test.YtoeohbiofmcdeaaOpenS
import Derived.ProofKit
import Derived.OpenShut
import Derived.Lib.SmallJoins
set_option linter.unusedSimpArgs false
set_option linter.unusedVariables false
namespace Go.Proofs.Ytoeohbiofmcdeaa.lawNetReplies
open Go.ChangeShapes Go.WideShapes Go.ChangeAt Go.RowKit Gen Bk Nt
set_option maxHeartbeats 4000000

theorem reps (l : List UInt8) (hl : l.length ≤ 140737488351232) : ∃ x y z k : Int, (∀ p c w, BA w p l → Calls Try.prog 20 #[.slice p l.length c] w fun e w' => e = .returned (.tuple #[.int .i64 x, .int .i64 y, .int .i64 z, .int .i64 k]) ∧ w.grownBy w' none) ∧
    (∀ p c w, BA w p l → Calls Try.prog 21 #[.slice p l.length c] w fun e w' => e = .returned (.tuple #[.int .i64 x, .int .i64 y, .int .i64 z, .int .i64 k]) ∧ w.grownBy w' none) := by
  by_cases h : l.length = 8
  · have e : rp4 l = .tuple #[.int .i64 (((l.getD 0 0).toNat + 256 * (l.getD 1 0).toNat : Nat) : Int), .int .i64 ((l.getD 2 0).toNat : Int), .int .i64 ((l.getD 3 0).toNat : Int), .int .i64 0] := if_pos h
    exact ⟨_, _, _, _, fun p c w hb => e ▸ nReply l p c w hb hl, fun p c w hb => e ▸ rReply l p c w hb hl⟩
  · have e : rp4 l = .tuple #[.int .i64 0, .int .i64 0, .int .i64 0, .int .i64 1] := if_neg h
    exact ⟨_, _, _, _, fun p c w hb => e ▸ nReply l p c w hb hl, fun p c w hb => e ▸ rReply l p c w hb hl⟩
theorem walk (l : List UInt8) (p : Option Addr) (c : Nat) (w : World) (hl : l.length ≤ 140737488351232) (h : BA w p l) (hp : p = none → c = 0) (hc : l.length ≤ c) :
    Calls Try.prog 7 #[.slice p l.length c] w fun e w' => e = .returned (.bool true) ∧ w.grownBy w' none := by
  obtain ⟨i0, hi, hz0, hz1, hz2⟩ := info_parts info_u8
  have Hi := hid hi; have Hz0 := hid hz0; have Hz1 := hid hz1; have Hz2 := hid hz2
  obtain ⟨x, y, z, k, h1, h2⟩ := reps l hl
  have H1 := hid h1; have H2 := hid h2
  have HAW := hid nAwake
  have HB := hid h
  have HLEN := hid hl
  clear h1 h2 hi hz0 hz1 hz2 h
  cases p with
  | none =>
    obtain rfl := HB.out.of_none
    obtain rfl := hp rfl
    go_enter Try.func7, Try.ntmps7
    go_wp2_with (first
      | (go_at_call 20; refine (H1.out (some ⟨w.heap.size, 0, none⟩) 0 _ (BA.nil _ _)).mono ?_; rintro e w1 ⟨rfl, hg⟩; have HG1 := hid ((World.grownBy_alloc w (.cells #[] 5) none).trans hg); clear hg)
      | (go_at_call 21; refine (H2.out _ _ _ (BA.nil _ _)).mono ?_; rintro e w2 ⟨rfl, hg⟩; have HG2 := hid (HG1.out.trans hg); clear hg)
      | (go_at_call 19; refine (HAW.out _).mono ?_; rintro e w3 ⟨rfl, hg⟩; have HG3 := hid (HG2.out.trans hg); clear hg))
    go_ret
    exact ⟨rfl, HG3.out⟩
  | some a =>
    clear hp
    go_enter Try.func7, Try.ntmps7
    go_wp2_with (first
      | (at_builtin; refine wpList_append_own _ rfl _ _ 25 rfl w.heap.size 5 i0 (.int .u8 0) 1 1 Try.underlying25 Hi.out Hz0.out Hz1.out Hz2.out rfl (by decide) _ _ _ rfl (own_made0 w) a l.length c (bcells l) rfl (by rw [bcells_len, Nat.mul_one]) (fun j u hu => news_ba (HB.out.grown (World.grownBy_alloc w _ none)) j u hu) (bcells_one l) (by have := HLEN.out; unfold maxLen; omega) (by have := HLEN.out; omega) (alloc_le w _) ?_; intro v' w0 hown' hgrow hnil; clear hnil; have G0 := hid (own_then (World.grownBy_alloc w (.cells #[] 5) none) (own_made0 w) (Nat.le_refl _) hgrow); rw [Nat.zero_add, bcells_nil, List.nil_append] at hown'; obtain ⟨p', c', rfl, hb', _, _⟩ := own_ba hown'; have HB' := hid hb'; clear hown' hgrow hb')
      | (go_at_call 20; refine (H1.out _ _ _ HB'.out).mono ?_; rintro e w1 ⟨rfl, hg⟩; have HG1 := hid (G0.out.trans hg); clear hg)
      | (go_at_call 21; refine (H2.out _ _ _ (HB.out.grown HG1.out)).mono ?_; rintro e w2 ⟨rfl, hg⟩; have HG2 := hid (HG1.out.trans hg); clear hg)
      | (go_at_call 19; refine (HAW.out _).mono ?_; rintro e w3 ⟨rfl, hg⟩; have HG3 := hid (HG2.out.trans hg); clear hg))
    go_ret
    exact ⟨rfl, HG3.out⟩
theorem main {H : Type} {enc : TypeId × Value → H} (v0 : Value) (W : World) (c0 : Flat.Came enc Try.prog W 0 (fun _ => true) true 25 v0) :
    Calls Try.prog 7 #[v0] W fun e W' => e = .returned (.bool true) ∧ W.grownBy W' none := by
  obtain ⟨pa, l, cap, rfl, hin, hl, hn, hc⟩ := came_bytes c0
  exact walk l pa cap W hl hin hn hc
theorem own : ownKnob Try.prog.godebug = none := by kernel_rfl
theorem laidOut : laidOutB Try.prog = true := by kernel_rfl

set_option maxRecDepth 100000 in
theorem lifted (os : Os) (started : os.Started) (H : Type) (enc : TypeId × Value → H) :
    ReturnsInHanded {} Try.checked os 7 .any (Rows.netRepliesSpec.pre6 enc Try.prog Try.f7 Rows.netRepliesRow.domain false) (Rows.netRepliesSpec.post enc Try.prog Try.f7 false true false false) := by
  refine returnsInHanded_of_change_sized (C := Try.checked) own started (by kernel_rfl) Try.func7
    (ChangeSpec.witness6 (enc := enc) (C := Try.checked) false ⟨#[], #[.slice none 0 0], []⟩ 8 (by kernel_rfl) (by kernel_rfl) (by kernel_rfl) (by kernel_rfl)) ?_
  intro W base args ds gs before hval0 hW _ hsz0 _
  have hsz : (DataW.weightsEach Try.prog (Try.f7.params.toList ++ Rows.netRepliesSpec.plain.varTypes Try.prog) (ds ++ gs)).all (· ≤ reachBytes) = true := hsz0
  clear hsz0
  have hval : ∀ (j : Nat) t v, Try.f7.params[j]? = some t → args[j]? = some v → Value.okWide Try.prog W .any base t v := hval0
  have hW' := hW
  obtain ⟨p, q, hA0, hV, rfl, hfz, hnd⟩ := hW
  have hA : DataW.TrodAll enc Try.prog W 0 (fun _ => true) true Try.f7.params.toList args.toList ds p := hA0
  rw [Try.params7] at hA hval hsz
  obtain ⟨v0, vs0, d0, ds0, p0, q0, hargs, rfl, rfl, h0, r0⟩ := trodAll_cons hA
  obtain ⟨rfl, rfl, rfl⟩ := trodAll_nil r0
  obtain rfl : args = #[v0] := by cases args; simp_all
  obtain ⟨rfl, rfl⟩ := trodVars_none hV
  obtain ⟨ps0, ln0, cp0, rfl⟩ := okWide_slice Try.underlying25 (hval 0 25 v0 rfl rfl)
  have k0 := h0
  have lt0 : ∀ x ∈ p0, x.block < W.heap.size := by obtain ⟨m, hm⟩ := k0; exact DataW.trod_lt m _ _ _ hm
  have c0 : Flat.Came enc Try.prog W 0 (fun _ => true) true 25 (.slice ps0 ln0 cp0) := by
    obtain ⟨fuel, hf⟩ := h0
    exact ⟨fuel, _, hf, fun n hn => by
      have := List.all_eq_true.1 hsz n (DataW.weights_mem_each (j := 0) rfl rfl n hn)
      simpa using this⟩
  clear hA0 hval0
  refine (main (.slice ps0 ln0 cp0) W c0).mono fun e W' ⟨he, hg⟩ => ?_
  subst he
  have bel := below_grown' hg
  simp only [List.append_nil, List.nil_append] at hW'
  exact ⟨_, rfl, _, _, _, [], _, [], hW', trodAll_mk1 (shut_bool Try.underlying4 _), (trodAll_cons_mk (Below.trod laidOut (by kernel_rfl) (of_decide_eq_true (by kernel_rfl)) k0 bel lt0) trodAll_mk0), rfl, bel.frame _, fun h => by cases h⟩

theorem proved : Rows.NetRepliesSaid :=
  OpenClaim.holds_of_wide 7 Try.f7 rfl rfl rfl rfl rfl rfl rfl ⟨rfl, rfl, rfl, rfl, rfl⟩ rfl rfl rfl rfl rfl (by kernel_rfl) Try.func7 (by kernel_rfl)
    (of_decide_eq_true (by kernel_rfl)) (by unfold Func.isWrapper; first | (rw [if_pos (by decide +kernel)]; kernel_rfl) | (rw [if_neg (by decide +kernel)]; exact ⟨rfl, rfl⟩))
    (fun os started H enc _ => lifted os started H enc)
#print axioms proved
end Go.Proofs.Ytoeohbiofmcdeaa.lawNetReplies
