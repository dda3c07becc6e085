/-
  BridgePlays: for every number and every script the law returns true, and what was there stays. No condition.
-/
import Derived.Test.YtakofhhfdgankaaBrSa
import Derived.Test.YtakofhhfdgankaaBrOp
import Derived.Test.YtakofhhfdgankaaBrO
import Derived.Test.YtakofhhfdgankaaOpen
import Derived.Test.YtakofhhfdgankaaLift
import Derived.OpenShut
import Derived.Deep.Cut
set_option linter.unusedSimpArgs false
set_option linter.unusedVariables false
namespace Go.Proofs.Ytakofhhfdgankaa.lawBrPlays
open Go.ChangeShapes Go.WideShapes Go.ChangeAt Go.RowKit Gen Br Bk
set_option maxHeartbeats 4000000

set_option maxRecDepth 100000 in
theorem walk_no (x : Int) (hx : ¬ (1 ≤ x ∧ x ≤ 8)) (pa : Option Addr) (n cap : Nat) (w : World) :
    Calls Try.prog 3 #[.int .i64 x, .slice pa n cap] w fun e w' => e = .returned (.bool true) ∧ w.grownBy w' none := by
  have HA := hid (bNew_no x hx)
  have HB := hid (yNew_no x hx)
  have HW := hid cAwake
  clear hx
  go_enter Try.func3, Try.ntmps3
  go_wp2_with (first
    | (go_at_call 9; (with_reducible refine (HA.out _).mono ?_); rintro e w1 ⟨rfl, rfl⟩)
    | (go_at_call 10; (with_reducible refine (HB.out _).mono ?_); rintro e w2 ⟨rfl, rfl⟩))
  go_loopw [9] (fun i wr => i = .int .i64 0 ∧ wr = w) (fun _ _ => 0)
  case atStart => exact ⟨rfl, rfl⟩
  case round =>
    obtain ⟨rfl, rfl⟩ := hrel
    go_wp2_with (go_at_call 13; (with_reducible refine (HW.out _).mono ?_); rintro e w3 ⟨rfl, g3⟩; have G3 := hid g3; clear g3)
    go_ret
    exact ⟨rfl, G3.out⟩
set_option maxRecDepth 100000 in
theorem walk_yes (N : Nat) (h1 : 1 ≤ N) (h8 : N ≤ 8) (pa : Option Addr) (ops : List OpV) (cap : Nat) (w : World) (ho : OpsIn w pa ops) (hol : ops.length ≤ 140737488351232) :
    Calls Try.prog 3 #[.int .i64 (N : Int), .slice pa ops.length cap] w fun e w' => e = .returned (.bool true) ∧ w.grownBy w' none := by
  have HN := hid (cNew N h1 h8 w)
  have HNN := hid (And.intro h1 h8)
  have HO := hid ho
  have HOL := hid hol
  have HW := hid cAwake
  clear h1 h8 ho hol
  go_enter Try.func3, Try.ntmps3
  go_wp2_with (first
    | (go_at_call 9; (with_reducible refine HN.out.mono ?_); rintro e w1 ⟨b, lab, rfl, h1⟩; have HQ := hid (qNew h1 HNN.out.1 HNN.out.2); clear h1)
    | (go_at_call 10; (with_reducible refine HQ.out.mono ?_); rintro e w2 ⟨y, lab2, rfl, h2⟩; have H2 := hid h2; clear h2))
  go_loopw [9] (fun i wr => ∃ (k : Nat) (lab : Nat → Nat) (S : Sw), i = .int .i64 k ∧ k ≤ ops.length ∧ BX w lab wr b y S S k) (fun i _ => ops.length - (intOf i).toNat)
  case atStart => exact ⟨0, lab2, _, rfl, by omega, H2.out⟩
  case round =>
    clear H2 HQ HN
    obtain ⟨k, lab, S, rfl, hk, hb⟩ := hrel
    have H := hid hb
    have hm := HOL.out
    clear hb
    have hk0 : (0 : Int) ≤ k := by omega
    by_cases hlt : k < ops.length
    · have hlt' : (k : Int) < ops.length := by omega
      obtain ⟨pb, off, rfl, o0, o1, o2, o3, o4, o5, hfit⟩ := HO.out k hlt
      obtain ⟨o, hoq⟩ : ∃ o, ops[k] = o := ⟨_, rfl⟩
      rw [hoq] at o0 o1 o2 o3 o4 o5 hfit
      have HPl := hid (lPlay H.out (by omega) o hfit)
      obtain ⟨S1, hS1⟩ : ∃ S1, o.go S = S1 := ⟨_, rfl⟩
      rw [hS1] at HPl
      obtain ⟨what, xa, xb, xc, on, bp, bl, bc⟩ := o
      simp only [OpV.val] at o0 o1 o2 o3 o4 o5 HPl
      have g := H.out.g0
      have c0 := g.cell o0 (by simp)
      have c1 := g.cell o1 (by simp)
      have c2 := g.cell o2 (by simp)
      have c3 := g.cell o3 (by simp)
      have c4 := g.cell o4 (by simp)
      have c5 := g.cell o5 (by simp)
      clear hoq o0 o1 o2 o3 o4 o5 hfit g hS1
      go_wp2_with (first
        | (go_at_call 11; (with_reducible refine HPl.out.mono ?_); rintro e w4 ⟨rfl, lab4, h4, -⟩; have H4 := hid h4; clear h4)
        | (go_at_call 12; (with_reducible refine (lSame H4.out).mono ?_); rintro e w5 ⟨rfl, g5⟩; have H5 := hid (H4.out.more g5); clear g5))
      go_roundw
      case rel => exact ⟨k + 1, lab4, S1, by go_num, hlt, H5.out⟩
      case measure => simp [intOf]; omega
    · obtain rfl : k = ops.length := by omega
      have hge : ¬ (ops.length : Int) < ops.length := by omega
      go_wp2_with (go_at_call 13; (with_reducible refine (HW.out _).mono ?_); rintro e w3 ⟨rfl, g3⟩; have G3 := hid g3; clear g3)
      go_ret
      exact ⟨rfl, H.out.g0.trans G3.out⟩
theorem main {H : Type} {enc : TypeId × Value → H} (v0 v1 : Value) (W : World) (c0 : Flat.Came enc Try.prog W 0 (fun _ => true) true 3 v0) (c1 : Flat.Came enc Try.prog W 0 (fun _ => true) true 22 v1) :
    Calls Try.prog 3 #[v0, v1] W fun e w' => e = .returned (.bool true) ∧ W.grownBy w' none := by
  obtain ⟨a, rfl, ha⟩ := c0.int Try.underlying3
  obtain ⟨p, ops, c, rfl, ho, hol⟩ := open_ops c1
  by_cases h : 1 ≤ a ∧ a ≤ 8
  · have := walk_yes a.toNat (by omega) (by omega) p ops c W ho hol
    rw [Int.toNat_of_nonneg (by omega)] at this
    exact this
  · exact walk_no a h p _ c W

theorem own : ownKnob Try.prog.godebug = none := by kernel_rfl
theorem laidOut : laidOutB Try.prog = true := by kernel_rfl

set_option maxRecDepth 100000 in
theorem lifted (os : Os) (started : os.Started) (H : Type) (enc : TypeId × Value → H) :
    ReturnsInHanded {} Try.checked os 3 .any (Rows.bridgePlaysSpec.pre6 enc Try.prog Try.f3 Rows.bridgePlaysRow.domain false) (Rows.bridgePlaysSpec.post enc Try.prog Try.f3 false true false false) := by
  refine returnsInHanded_of_change_sized (C := Try.checked) own started (by kernel_rfl) Try.func3
    (ChangeSpec.witness6 (enc := enc) (C := Try.checked) false ⟨#[], #[.int .i64 0, .slice none 0 0], []⟩ 8 (by kernel_rfl) (by kernel_rfl) (by kernel_rfl) (by kernel_rfl)) ?_
  intro W base args ds gs before hval0 hW _ hsz0 _
  have hsz : (DataW.weightsEach Try.prog (Try.f3.params.toList ++ Rows.bridgePlaysSpec.plain.varTypes Try.prog) (ds ++ gs)).all (· ≤ reachBytes) = true := hsz0
  clear hsz0
  have hval : ∀ (j : Nat) t v, Try.f3.params[j]? = some t → args[j]? = some v → Value.okWide Try.prog W .any base t v := hval0
  have hW' := hW
  obtain ⟨p, q, hA0, hV, rfl, hfz, hnd⟩ := hW
  have hA : DataW.TrodAll enc Try.prog W 0 (fun _ => true) true Try.f3.params.toList args.toList ds p := hA0
  rw [Try.params3] at hA hval hsz
  obtain ⟨v0, vs0, d0, ds0, p0, q0, hargs, rfl, rfl, h0, r0⟩ := trodAll_cons hA
  obtain ⟨v1, vs1, d1, ds1, p1, q1, rfl, rfl, rfl, h1, r1⟩ := trodAll_cons r0
  obtain ⟨rfl, rfl, rfl⟩ := trodAll_nil r1
  obtain rfl : args = #[v0, v1] := by cases args; simp_all
  obtain ⟨rfl, rfl⟩ := trodVars_none hV
  obtain ⟨a0, rfl, rfl, rfl, w0⟩ := open_int Try.underlying3 (hval 0 3 v0 rfl rfl) h0
  have k0 := h0
  have lt0 : ∀ x ∈ ([] : List MemPlace), x.block < W.heap.size := by obtain ⟨m, hm⟩ := k0; exact DataW.trod_lt m _ _ _ hm
  have c0 : Flat.Came enc Try.prog W 0 (fun _ => true) true 3 (.int .i64 a0) := by
    obtain ⟨fuel, hf⟩ := h0
    exact ⟨fuel, _, hf, fun n hn => by
      have := List.all_eq_true.1 hsz n (DataW.weights_mem_each (j := 0) rfl rfl n hn)
      simpa using this⟩
  obtain ⟨ps1, ln1, cp1, rfl⟩ := okWide_slice Try.underlying22 (hval 1 22 v1 rfl rfl)
  have k1 := h1
  have lt1 : ∀ x ∈ p1, x.block < W.heap.size := by obtain ⟨m, hm⟩ := k1; exact DataW.trod_lt m _ _ _ hm
  have c1 : Flat.Came enc Try.prog W 0 (fun _ => true) true 22 (.slice ps1 ln1 cp1) := by
    obtain ⟨fuel, hf⟩ := h1
    exact ⟨fuel, _, hf, fun n hn => by
      have := List.all_eq_true.1 hsz n (DataW.weights_mem_each (j := 1) rfl rfl n hn)
      simpa using this⟩
  clear hA0 hval0
  refine (main (.int .i64 a0) (.slice ps1 ln1 cp1) W c0 c1).mono fun e W' ⟨he, hg⟩ => ?_
  subst he
  have bel := below_grown' hg
  simp only [List.append_nil, List.nil_append] at hW'
  exact ⟨_, rfl, _, _, _, [], _, [], hW', trodAll_mk1 (shut_bool Try.underlying4 _), (trodAll_cons_mk (Below.trod laidOut (by kernel_rfl) (of_decide_eq_true (by kernel_rfl)) k0 bel lt0) (trodAll_cons_mk (Below.trod laidOut (by kernel_rfl) (of_decide_eq_true (by kernel_rfl)) k1 bel lt1) trodAll_mk0)), rfl, bel.frame _, fun h => by cases h⟩

theorem proved : Rows.BridgePlaysSaid :=
  OpenClaim.holds_of_wide 3 Try.f3 rfl rfl rfl rfl rfl rfl rfl ⟨rfl, rfl, rfl, rfl, rfl⟩ rfl rfl rfl rfl rfl (by kernel_rfl) Try.func3 (by kernel_rfl)
    (of_decide_eq_true (by kernel_rfl)) (by unfold Func.isWrapper; first | (rw [if_pos (by decide +kernel)]; kernel_rfl) | (rw [if_neg (by decide +kernel)]; exact ⟨rfl, rfl⟩))
    (fun os started H enc _ => lifted os started H enc)
#print axioms proved
end Go.Proofs.Ytakofhhfdgankaa.lawBrPlays
