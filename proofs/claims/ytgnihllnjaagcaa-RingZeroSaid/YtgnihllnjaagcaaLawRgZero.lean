/-
  RingZero: for every number and every row of bytes the law returns true, and what was there stays. No condition.
-/
import Derived.Test.YtgnihllnjaagcaaRgZ
import Derived.Test.YtgnihllnjaagcaaLift
import Derived.ProofKit
import Derived.OpenShut
set_option linter.unusedSimpArgs false
set_option linter.unusedVariables false
namespace Go.Proofs.Ytgnihllnjaagcaa.lawRgZero
open Go.ChangeShapes Go.WideShapes Go.ChangeAt Go.RowKit
set_option maxHeartbeats 4000000

theorem upTo1 : (upTo 1 1).ok 0 := upTo_ok' 1 (by omega) (by omega)
theorem zeroBack (w : World) : ∃ W, w.alloc (.cells #[.int .i64 0, .int .u16 0, .int .u16 0, .bool false, .int .u16 0] 99) = W ∧ w.grownBy W none ∧ W.heap.size = w.heap.size + 1 ∧ W.cell? ⟨w.heap.size, 3, none⟩ = some (.bool false) :=
  ⟨_, rfl, World.grownBy_alloc _ _ none, by simp, by simp [go_sem]⟩
theorem zeroFront (w : World) : ∃ W, w.alloc (.cells #[.int .i64 0, .int .u16 0, .int .u16 0, .pointer none] 101) = W ∧ w.grownBy W none ∧ W.heap.size = w.heap.size + 1 ∧ W.cell? ⟨w.heap.size, 3, none⟩ = some (.pointer none) :=
  ⟨_, rfl, World.grownBy_alloc _ _ none, by simp, by simp [go_sem]⟩
theorem zeroView (w : World) : ∃ W, w.alloc (.cells #[.pointer none, .map none, .int .i64 0] 104) = W ∧ w.grownBy W none ∧ W.cell? ⟨w.heap.size, 0, none⟩ = some (.pointer none) :=
  ⟨_, rfl, World.grownBy_alloc _ _ none, by simp [go_sem]⟩
set_option maxRecDepth 100000 in
theorem walk (a : Int) (pa : Option Addr) (n c : Nat) (w : World) :
    Calls Try.prog 9 #[.int .i64 a, .slice pa n c] w fun e w' => e = .returned (.bool true) ∧ w.grownBy w' none := by
  obtain ⟨W1, hW1, g1, s1, k1⟩ := zeroBack w
  obtain ⟨W2, hW2, g2, s2, k2⟩ := zeroFront W1
  have HN := hid (New_yes 1 W2 (by omega) (by omega))
  have K1 := hid (g2.cell k1 (by simp))
  have K2 := hid k2
  have G2 := hid (g1.trans g2)
  clear g1 g2 s1 s2 k1 k2
  go_enter Try.func9, Try.ntmps9
  go_wp2_with (first
    | (go_at_call 11; refine HN.out.mono ?_; rintro e w3 ⟨v, rfl, B, rfl, hB, hM3, g3⟩; have HM3 := hid hM3; have G3 := hid (G2.out.trans g3); have c1 := g3.cell K1.out (by simp); have c2 := g3.cell K2.out (by simp); clear hM3 g3)
    | (go_at_call 29; refine (rgNew_yes 0 _ (by omega) (by omega)).mono ?_; rintro e w4 ⟨rfl, hk4, g4⟩; have HK4 := hid hk4; have HM4 := hid (HM3.out.grown g4 (by simp)); have G4 := hid (G3.out.trans g4); replace c1 := g4.cell c1 (by simp); replace c2 := g4.cell c2 (by simp); clear hk4 g4)
    | (go_at_call 20; refine (vNew0 B _ _ HM4.out upTo1.n1).mono ?_; rintro e w5 ⟨rfl, ⟨f5, hv5⟩, g5⟩; have HV5 := hid hv5; have HK5 := hid (HK4.out.grown g5 (by simp)); have HM5 := hid (HM4.out.grown g5 (by simp)); have G5 := hid (G4.out.trans g5); replace c1 := g5.cell c1 (by simp); replace c2 := g5.cell c2 (by simp); obtain ⟨W6, hW6, g6, k6⟩ := zeroView w5; have HK6 := hid (HK5.out.grown g6 (by simp)); have HM6 := hid (HM5.out.grown g6 (by simp)); have G6 := hid (G5.out.trans g6); have C1 := hid (g6.cell c1 (by simp)); have C2 := hid (g6.cell c2 (by simp)); have HV6 := hid k6; clear hv5 g5 g6 k6)
    | (go_at_call 44; first
        | (with_reducible refine (zLook none _ _ (zSees_nil _ _)).mono ?_; rintro e w6 ⟨rfl, rfl⟩)
        | (refine (zLook _ none _ (zSees_vnil _ _ _ HK5.out)).mono ?_; rintro e w6 ⟨rfl, rfl⟩))
    | (go_at_call 45; first
        | (with_reducible refine (zTake _ _ _ (zSees_zero _ _ _ c1)).mono ?_; rintro e w6 ⟨rfl, rfl⟩)
        | (refine (zTake _ _ _ (zSees_vzero _ _ _ _ HK6.out HV6.out)).mono ?_; rintro e w7 ⟨rfl, rfl⟩))
    | (go_at_call 47; refine (zGet _ _ (zfExists_nil _)).mono ?_; rintro e w7 ⟨rfl, rfl⟩)
    | (go_at_call 41; first
        | (with_reducible refine (zOpen_nil _ _).mono ?_; rintro e w8 ⟨rfl, g8⟩; have HK8 := hid (HK6.out.grown g8 (by simp)); have HM8 := hid (HM6.out.grown g8 (by simp)); have G8 := hid (G6.out.trans g8); have C18 := hid (g8.cell C1.out (by simp)); have C28 := hid (g8.cell C2.out (by simp)); clear g8)
        | (refine (zOpen_no B 1 _ _ 0 HM8.out upTo1 (.inr (by show (1 : Int) ≤ 1; omega))).mono ?_; rintro e w9 ⟨rfl, g9⟩; have HK9 := hid (HK8.out.grown g9 (by simp)); have G9 := hid (G8.out.trans g9); have c19 := g9.cell C18.out (by simp); have c29 := g9.cell C28.out (by simp); clear g9))
    | (go_at_call 46; first
        | (with_reducible refine (zAnswer none _ _ _ (zSees_nil _ _)).mono ?_; rintro e w7 ⟨rfl, rfl⟩)
        | (refine (zAnswer _ none _ _ (zSees_vnil _ _ _ HK9.out)).mono ?_; rintro e w7 ⟨rfl, rfl⟩))
    | (go_at_call 42; refine (zPut _ _ (zfExists_zero _ _ c29) _).mono ?_; rintro e w7 ⟨rfl, rfl⟩)
    | (go_at_call 33; refine (zTaken _ _ (zExists_nil _)).mono ?_; rintro e w7 ⟨rfl, rfl⟩)
    | (go_at_call 34; refine (zLaid _ _ (zExists_zero _ _ c19)).mono ?_; rintro e w7 ⟨rfl, rfl⟩)
    | (go_at_call 35; refine (zWaiting _ _ (zExists_nil _)).mono ?_; rintro e w7 ⟨rfl, rfl⟩)
    | (go_at_call 37; refine (zMfn _ _ (zExists_zero _ _ c19)).mono ?_; rintro e w7 ⟨rfl, rfl⟩)
    | (go_at_call 48; first
        | (with_reducible refine (zRoom none _ (zfExists_nil _)).mono ?_; rintro e w7 ⟨rfl, rfl⟩)
        | (refine (zRoom _ _ (zfExists_zero _ _ c29)).mono ?_; rintro e w7 ⟨rfl, rfl⟩)))
  go_ret
  exact ⟨rfl, G9.out⟩
theorem main {H : Type} {enc : TypeId × Value → H} (v0 v1 : Value) (W : World) (c0 : Flat.Came enc Try.prog W 0 (fun _ => true) true 3 v0) (c1 : Flat.Came enc Try.prog W 0 (fun _ => true) true 31 v1) :
    Calls Try.prog 9 #[v0, v1] W fun e w' => e = .returned (.bool true) ∧ W.grownBy w' none := by
  obtain ⟨a, rfl, _⟩ := c0.int Try.underlying3
  obtain ⟨pa, l, cap, rfl, hin, hl⟩ := came_bytes c1
  exact walk a pa l.length cap W

theorem own : ownKnob Try.prog.godebug = none := by kernel_rfl
theorem laidOut : laidOutB Try.prog = true := by kernel_rfl

set_option maxRecDepth 100000 in
theorem lifted (os : Os) (started : os.Started) (H : Type) (enc : TypeId × Value → H) :
    ReturnsInHanded {} Try.checked os 9 .any (Rows.ringZeroSpec.pre6 enc Try.prog Try.f9 Rows.ringZeroRow.domain false) (Rows.ringZeroSpec.post enc Try.prog Try.f9 false true false false) := by
  refine returnsInHanded_of_change_sized (C := Try.checked) own started (by kernel_rfl) Try.func9
    (ChangeSpec.witness6 (enc := enc) (C := Try.checked) false ⟨#[], #[.int .i64 0, .slice none 0 0], []⟩ 8 (by kernel_rfl) (by kernel_rfl) (by kernel_rfl) (by kernel_rfl)) ?_
  intro W base args ds gs before hval0 hW _ hsz0 _
  have hsz : (DataW.weightsEach Try.prog (Try.f9.params.toList ++ Rows.ringZeroSpec.plain.varTypes Try.prog) (ds ++ gs)).all (· ≤ reachBytes) = true := hsz0
  clear hsz0
  have hval : ∀ (j : Nat) t v, Try.f9.params[j]? = some t → args[j]? = some v → Value.okWide Try.prog W .any base t v := hval0
  have hW' := hW
  obtain ⟨p, q, hA0, hV, rfl, hfz, hnd⟩ := hW
  have hA : DataW.TrodAll enc Try.prog W 0 (fun _ => true) true Try.f9.params.toList args.toList ds p := hA0
  rw [Try.params9] at hA hval hsz
  obtain ⟨v0, vs0, d0, ds0, p0, q0, hargs, rfl, rfl, h0, r0⟩ := trodAll_cons hA
  obtain ⟨v1, vs1, d1, ds1, p1, q1, rfl, rfl, rfl, h1, r1⟩ := trodAll_cons r0
  obtain ⟨rfl, rfl, rfl⟩ := trodAll_nil r1
  obtain rfl : args = #[v0, v1] := by cases args; simp_all
  obtain ⟨rfl, rfl⟩ := trodVars_none hV
  obtain ⟨a0, rfl, rfl, rfl, w0⟩ := open_int Try.underlying3 (hval 0 3 v0 rfl rfl) h0
  have k0 := h0
  have lt0 : ∀ x ∈ ([] : List MemPlace), x.block < W.heap.size := by obtain ⟨m, hm⟩ := k0; exact DataW.trod_lt m _ _ _ hm
  have c0 : Flat.Came enc Try.prog W 0 (fun _ => true) true 3 (.int .i64 a0) := by
    obtain ⟨fuel, hf⟩ := h0
    exact ⟨fuel, _, hf, fun n hn => by
      have := List.all_eq_true.1 hsz n (DataW.weights_mem_each (j := 0) rfl rfl n hn)
      simpa using this⟩
  obtain ⟨ps1, ln1, cp1, rfl⟩ := okWide_slice Try.underlying31 (hval 1 31 v1 rfl rfl)
  have k1 := h1
  have lt1 : ∀ x ∈ p1, x.block < W.heap.size := by obtain ⟨m, hm⟩ := k1; exact DataW.trod_lt m _ _ _ hm
  have c1 : Flat.Came enc Try.prog W 0 (fun _ => true) true 31 (.slice ps1 ln1 cp1) := by
    obtain ⟨fuel, hf⟩ := h1
    exact ⟨fuel, _, hf, fun n hn => by
      have := List.all_eq_true.1 hsz n (DataW.weights_mem_each (j := 1) rfl rfl n hn)
      simpa using this⟩
  clear hA0 hval0
  refine (main (.int .i64 a0) (.slice ps1 ln1 cp1) W c0 c1).mono fun e W' ⟨he, hg⟩ => ?_
  subst he
  have bel := below_grown' hg
  simp only [List.append_nil, List.nil_append] at hW'
  exact ⟨_, rfl, _, _, _, [], _, [], hW', trodAll_mk1 (shut_bool Try.underlying4 _), (trodAll_cons_mk (Below.trod laidOut (by kernel_rfl) (of_decide_eq_true (by kernel_rfl)) k0 bel lt0) (trodAll_cons_mk (Below.trod laidOut (by kernel_rfl) (of_decide_eq_true (by kernel_rfl)) k1 bel lt1) trodAll_mk0)), rfl, bel.frame _, fun h => by cases h⟩

theorem proved : Rows.RingZeroSaid :=
  OpenClaim.holds_of_wide 9 Try.f9 rfl rfl rfl rfl rfl rfl rfl ⟨rfl, rfl, rfl, rfl, rfl⟩ rfl rfl rfl rfl rfl (by kernel_rfl) Try.func9 (by kernel_rfl)
    (of_decide_eq_true (by kernel_rfl)) (by unfold Func.isWrapper; first | (rw [if_pos (by decide +kernel)]; kernel_rfl) | (rw [if_neg (by decide +kernel)]; exact ⟨rfl, rfl⟩))
    (fun os started H enc _ => lifted os started H enc)
#print axioms proved
end Go.Proofs.Ytgnihllnjaagcaa.lawRgZero
