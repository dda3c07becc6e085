/-
  NetZero: for every number the law returns true, and what was there stays. No condition.
-/
import Derived.Test.YtolfjbodgdjbjaaGreatNtZ
import Derived.Test.YtolfjbodgdjbjaaGreatRows
import Derived.Deep.Cut
set_option linter.unusedSimpArgs false
set_option linter.unusedVariables false
namespace Go.Proofs.YtolfjbodgdjbjaaGreat.lawNetZero
open Go.ChangeShapes Go.WideShapes Go.ChangeAt Go.RowKit Nt
set_option maxHeartbeats 4000000
theorem upTo1 : 1 ≤ (upTo ((1 : Nat) : Int) 1).n := by show (1 : Int) ≤ ((1 : Nat) : Int); omega
theorem vNew0 (B : Nat) (w : World) (M : Mach) (hM : PM w B M) (hn1 : 1 ≤ M.n) : Calls Tryz.prog 5 #[.pointer (some ⟨B, 0, none⟩), .slice none 0 0] w fun e w' => e = .returned (.tuple #[.pointer (some ⟨w.heap.size + 1, 0, none⟩), .int .i64 0]) ∧
    (∃ f, VV w' (w.heap.size + 1) w.heap.size B (fun k => w.heap.size + 2 ≤ k ∧ k < w'.heap.size) [] 0 0 f) ∧ w.grownBy w' none :=
  vNew B none 0 [] w M hM hn1 (by simp) (fun j hj => by simp at hj)
theorem zeroNt (w : World) : ∃ W, w.alloc (.cells #[.pointer none, .int .i64 0, .int .i64 0, .pointer none, .pointer none, .pointer none, .int .i64 0] 27) = W ∧ w.grownBy W none ∧ NoNt W (some ⟨w.heap.size, 0, none⟩) :=
  ⟨_, rfl, World.grownBy_alloc _ _ none, .inr ⟨_, rfl, by simp [go_sem]⟩⟩
theorem gNew_c0 (B : Nat) (w : World) (M : Mach) (hM : PM w B M) (hn : 1 ≤ M.n) : Calls Tryz.prog 10 #[.pointer (some ⟨B, 0, none⟩)] w fun e w' =>
    e = .returned (.pointer (some ⟨w.heap.size + 1, 0, none⟩)) ∧ w'.cell? ⟨w.heap.size + 1, 0, none⟩ = some (.pointer (some ⟨B, 0, none⟩)) ∧ w.grownBy w' none := by
  have H := hid (Size_yes B M.n w hn hM.size)
  have hb : (M.n == 0) = false := by simp; omega
  have hmm := @run_makeMap Tryz.prog
  clear hM
  go_enter Tryz.func10, Tryz.ntmps10
  go_wp2_with (go_at_call 14; refine H.out.mono ?_; rintro e w' ⟨rfl, rfl⟩)
  go_ret
  have hs : (w.alloc (.map #[] 0)).heap.size = w.heap.size + 1 := by simp
  refine ⟨by simp, ?_, (World.grownBy_alloc w _ none).trans (World.grownBy_alloc _ _ none)⟩
  rw [← hs]
  exact cell_of_row _ _ 0 _ _ _ (MapKept.heap_alloc (w.alloc (.map #[] 0)) _).1
set_option maxRecDepth 100000 in
theorem walk (a : Int) (w : World) : Calls Tryz.prog 3 #[.int .i64 a] w fun e w' => e = .returned (.bool true) ∧ w.grownBy w' none := by
  obtain ⟨W1, hW1, g1, n1⟩ := zeroNt w
  have HN := hid (New_yes 1 W1 (by omega) (by omega))
  have G := hid g1
  have N := hid n1
  clear g1 n1
  go_enter Tryz.func3, Tryz.ntmps3
  go_wp2_with (first
    | (go_at_call 4; refine HN.out.mono ?_; rintro e w3 ⟨v, rfl, B, rfl, hB, hM3, g2⟩; have HM := hid hM3; replace G := hid (G.out.trans g2); replace N := hid (N.out.grown g2); clear g2; clear hM3)
    | (go_at_call 5; refine (vNew0 B _ _ HM.out upTo1).mono ?_; rintro e w4 ⟨rfl, -, g2⟩; replace HM := hid (HM.out.grown g2 (by simp)); replace G := hid (G.out.trans g2); replace N := hid (N.out.grown g2); clear g2)
    | (go_at_call 6; refine (nbNew _).mono ?_; rintro e w5 ⟨p, rfl, hpi, g2⟩; have HI := hid hpi; replace HM := hid (HM.out.grown g2 (by simp)); replace G := hid (G.out.trans g2); replace N := hid (N.out.grown g2); clear g2; clear hpi)
    | (go_at_call 7; first
        | (with_reducible refine (nSend_no none _ _ _ (NoNt.nil _)).mono ?_; rintro e wn ⟨rfl, rfl⟩)
        | (with_reducible refine (nSend_view _ _ _ _ CK.out).mono ?_; rintro e wn ⟨rfl, rfl⟩)
        | fail)
    | (go_at_call 8; refine (nDeliver_no _ _ _ _ N.out).mono ?_; rintro e wn ⟨rfl, rfl⟩)
    | (go_at_call 10; refine (gNew_c0 _ _ _ HM.out upTo1).mono ?_; rintro e w6 ⟨rfl, ht5, g2⟩; have C := hid ht5; replace HM := hid (HM.out.grown g2 (by simp)); replace HI := hid (fun w' h => HI.out w' (g2.trans h)); replace G := hid (G.out.trans g2); replace N := hid (N.out.grown g2); clear g2; clear ht5)
    | (go_at_call 9; first
        | (with_reducible refine (nNew_nil _ _).mono ?_; rintro e wn ⟨rfl, rfl⟩)
        | (with_reducible refine (nNew_nobr _ _ _ C.out).mono ?_; rintro e wn ⟨rfl, rfl⟩)
        | (with_reducible refine (nNew_yes _ _ _ _ C.out HI.out).mono ?_; rintro e w8 ⟨k, vk, rfl, ck, g2⟩; have CK := hid ck; replace G := hid (G.out.trans g2); replace N := hid (N.out.grown g2); clear g2; clear ck)
        | fail)
    | (go_at_call 11; refine (nRings_no none _ (NoNt.nil _)).mono ?_; rintro e wn ⟨rfl, rfl⟩)
    | (go_at_call 12; refine (nPort_no _ _ N.out).mono ?_; rintro e wn ⟨rfl, rfl⟩))
  go_ret
  exact ⟨rfl, G.out⟩
theorem main {H : Type} {enc : TypeId × Value → H} (v0 : Value) (W : World) (c0 : Flat.Came enc Tryz.prog W 0 (fun _ => true) true 3 v0) :
    Calls Tryz.prog 3 #[v0] W fun e w' => e = .returned (.bool true) ∧ W.grownBy w' none := by
  obtain ⟨a, rfl, _⟩ := c0.int Tryz.underlying3
  exact walk a W
theorem own : ownKnob Tryz.prog.godebug = none := by kernel_rfl
theorem laidOut : laidOutB Tryz.prog = true := by kernel_rfl

set_option maxRecDepth 100000 in
theorem lifted (os : Os) (started : os.Started) (H : Type) (enc : TypeId × Value → H) :
    ReturnsInHanded {} Tryz.checked os 3 .any (Rows.netZeroSpec.pre6 enc Tryz.prog Tryz.f3 Rows.netZeroRow.domain false) (Rows.netZeroSpec.post enc Tryz.prog Tryz.f3 false true false false) := by
  refine returnsInHanded_of_change_sized (C := Tryz.checked) own started (by kernel_rfl) Tryz.func3
    (ChangeSpec.witness6 (enc := enc) (C := Tryz.checked) false ⟨#[], #[.int .i64 0], []⟩ 8 (by kernel_rfl) (by kernel_rfl) (by kernel_rfl) (by kernel_rfl)) ?_
  intro W base args ds gs before hval0 hW _ hsz0 _
  have hsz : (DataW.weightsEach Tryz.prog (Tryz.f3.params.toList ++ Rows.netZeroSpec.plain.varTypes Tryz.prog) (ds ++ gs)).all (· ≤ reachBytes) = true := hsz0
  clear hsz0
  have hval : ∀ (j : Nat) t v, Tryz.f3.params[j]? = some t → args[j]? = some v → Value.okWide Tryz.prog W .any base t v := hval0
  have hW' := hW
  obtain ⟨p, q, hA0, hV, rfl, hfz, hnd⟩ := hW
  have hA : DataW.TrodAll enc Tryz.prog W 0 (fun _ => true) true Tryz.f3.params.toList args.toList ds p := hA0
  rw [Tryz.params3] at hA hval hsz
  obtain ⟨v0, vs0, d0, ds0, p0, q0, hargs, rfl, rfl, h0, r0⟩ := trodAll_cons hA
  obtain ⟨rfl, rfl, rfl⟩ := trodAll_nil r0
  obtain rfl : args = #[v0] := by cases args; simp_all
  obtain ⟨rfl, rfl⟩ := trodVars_none hV
  obtain ⟨a0, rfl, rfl, rfl, w0⟩ := open_int Tryz.underlying3 (hval 0 3 v0 rfl rfl) h0
  have k0 := h0
  have lt0 : ∀ x ∈ ([] : List MemPlace), x.block < W.heap.size := by obtain ⟨m, hm⟩ := k0; exact DataW.trod_lt m _ _ _ hm
  have c0 : Flat.Came enc Tryz.prog W 0 (fun _ => true) true 3 (.int .i64 a0) := by
    obtain ⟨fuel, hf⟩ := h0
    exact ⟨fuel, _, hf, fun n hn => by
      have := List.all_eq_true.1 hsz n (DataW.weights_mem_each (j := 0) rfl rfl n hn)
      simpa using this⟩
  clear hA0 hval0
  refine (main (.int .i64 a0) W c0).mono fun e W' ⟨he, hg⟩ => ?_
  subst he
  have bel := below_grown' hg
  simp only [List.append_nil, List.nil_append] at hW'
  exact ⟨_, rfl, _, _, _, [], _, [], hW', trodAll_mk1 (shut_bool Tryz.underlying4 _), (trodAll_cons_mk (Below.trod laidOut (by kernel_rfl) (of_decide_eq_true (by kernel_rfl)) k0 bel lt0) trodAll_mk0), rfl, bel.frame _, fun h => by cases h⟩

theorem proved : Rows.NetZeroSaid :=
  OpenClaim.holds_of_wide 3 Tryz.f3 rfl rfl rfl rfl rfl rfl rfl ⟨rfl, rfl, rfl, rfl, rfl⟩ rfl rfl rfl rfl rfl (by kernel_rfl) Tryz.func3 (by kernel_rfl)
    (of_decide_eq_true (by kernel_rfl)) (by unfold Func.isWrapper; first | (rw [if_pos (by decide +kernel)]; kernel_rfl) | (rw [if_neg (by decide +kernel)]; exact ⟨rfl, rfl⟩))
    (fun os started H enc _ => lifted os started H enc)
#print axioms proved
end Go.Proofs.YtolfjbodgdjbjaaGreat.lawNetZero
