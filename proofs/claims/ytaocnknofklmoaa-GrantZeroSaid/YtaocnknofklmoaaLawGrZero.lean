/-
  GrantZero: for every three numbers the law returns true, and what was there stays. No condition.
-/
import Derived.Test.YtaocnknofklmoaaGmZ
import Derived.Test.YtaocnknofklmoaaPmapB
import Derived.Test.YtaocnknofklmoaaLift
import Derived.Test.YtaocnknofklmoaaOpen
import Derived.Test.YtaocnknofklmoaaViewZ
import Derived.Test.YtaocnknofklmoaaViewD
import Derived.Test.YtaocnknofklmoaaBg
import Derived.ProofKit
import Derived.OpenShut
set_option linter.unusedSimpArgs false
set_option linter.unusedVariables false
namespace Go.Proofs.Ytaocnknofklmoaa.lawGrZero
open Go.ChangeShapes Go.WideShapes Go.ChangeAt Go.RowKit
set_option maxHeartbeats 4000000

theorem upTo1 : (upTo ((1 : Nat) : Int) 1).ok 0 := upTo_ok' 1 (by omega) (by omega)
theorem vNew0 (B : Nat) (w : World) (M : Mach) (hM : PM w B M) (hn1 : 1 ≤ M.n) : Calls Try.prog 23 #[.pointer (some ⟨B, 0, none⟩), .slice none 0 0] w fun e w' => e = .returned (.tuple #[.pointer (some ⟨w.heap.size + 1, 0, none⟩), .int .i64 0]) ∧
    (∃ f, VV w' (w.heap.size + 1) w.heap.size B (fun k => w.heap.size + 2 ≤ k ∧ k < w'.heap.size) [] 0 0 f) ∧ w.grownBy w' none :=
  vNew B none 0 [] w M hM hn1 (by simp) (fun j hj => by simp at hj)
theorem wpList_exec_g {P : Program} {ops : Array Oper} {rest : List Oper} {o : Oper} {a : Act} {w w' : World} {Q : Exit → Act → World → Prop} {v : Value} (hw : Region.wanted o (yielded ops a.tmps) = true)
    (hrun : (execOp a.eval o).run P w = .ok (.value v) w') (h : wpList P ops Q rest (a.put o.dst v) w') : wpList P ops Q (o :: rest) a w :=
  wpList_step fun K hK => by
    rw [if_pos hw]
    unfold Oper.wp
    rw [hrun]
    exact hK _ _ h
theorem gbuild_mach0 {ops : Array Oper} {rest : List Oper} {o : Oper} {a : Act} {w : World} {Q : Exit → Act → World → Prop} (hw : Region.wanted o (yielded ops a.tmps) = true) (ho : o.op = .build 129 #[])
    (h : wpList Try.prog ops Q rest (a.put o.dst (.agg (flatMach 0 zeroFr).cells)) w) : wpList Try.prog ops Q (o :: rest) a w :=
  wpList_exec_g hw (by unfold execOp; simp [ho, build_mach0]) h
theorem gbox_mach0 {ops : Array Oper} {rest : List Oper} {o : Oper} {a : Act} {w : World} {Q : Exit → Act → World → Prop} (hw : Region.wanted o (yielded ops a.tmps) = true) (x : Operand) (ho : o.op = .box 129 x)
    (M : Mach) (hx : a.eval x = .agg M.cells) (h : ∀ w', PM w' w.heap.size M → w.grownBy w' none → wpList Try.prog ops Q rest (a.put o.dst (.pointer (some ⟨w.heap.size, 0, none⟩))) w') : wpList Try.prog ops Q (o :: rest) a w :=
  wpList_exec_g hw (v := .pointer (some ⟨w.heap.size, 0, none⟩)) (w' := w.alloc (.cells M.cells 129)) (by unfold execOp; simp [ho, hx, Instr.box, newVar, newRow, Value.cells, run_newObj_alloc]) (h _ (MapKept.heap_alloc w _).1 (World.grownBy_alloc w _ none))
theorem gNew_c0 (B : Nat) (w : World) (M : Mach) (hM : PM w B M) (hn : 1 ≤ M.n) : Calls Try.prog 57 #[.pointer (some ⟨B, 0, none⟩)] w fun e w' =>
    e = .returned (.pointer (some ⟨w.heap.size + 1, 0, none⟩)) ∧ w'.cell? ⟨w.heap.size + 1, 0, none⟩ = some (.pointer (some ⟨B, 0, none⟩)) ∧ w.grownBy w' none := by
  have H := hid (Size_yes B M.n w hn hM.size)
  have hb : (M.n == 0) = false := by simp; omega
  have hmm := @run_makeMap Try.prog
  clear hM
  go_enter Try.func57, Try.ntmps57
  go_wp2_with (go_at_call 56; refine H.out.mono ?_; rintro e w' ⟨rfl, rfl⟩)
  go_ret
  have hs : (w.alloc (.map #[] 0)).heap.size = w.heap.size + 1 := by simp
  refine ⟨by simp, ?_, (World.grownBy_alloc w _ none).trans (World.grownBy_alloc _ _ none)⟩
  rw [← hs]
  exact cell_of_row _ _ 0 _ _ _ (MapKept.heap_alloc (w.alloc (.map #[] 0)) _).1
theorem zeroGrants (w : World) : ∃ W, w.alloc (.cells #[.pointer none, .int .i64 0, .pointer none, .int .i64 0, .pointer none, .int .i64 0, .pointer none, .int .i64 0, .pointer none, .int .i64 0, .pointer none, .int .i64 0, .pointer none, .int .i64 0, .pointer none, .int .i64 0, .pointer none, .map none] 118) = W ∧ w.grownBy W none ∧ NoGr W (some ⟨w.heap.size, 0, none⟩) :=
  ⟨_, rfl, World.grownBy_alloc _ _ none, .inr ⟨_, rfl, by simp [go_sem]⟩⟩
theorem zeroView (w : World) : ∃ W, w.alloc (.cells #[.pointer none, .map none, .int .i64 0] 123) = W ∧ w.grownBy W none ∧ NoVw W (some ⟨w.heap.size, 0, none⟩) :=
  ⟨_, rfl, World.grownBy_alloc _ _ none, .inr ⟨_, rfl, by simp [go_sem]⟩⟩
set_option maxRecDepth 100000 in
theorem walk (a b c : Int) (w : World) :
    Calls Try.prog 9 #[.int .i64 a, .int .i64 b, .int .i64 c] w fun e w' => e = .returned (.bool true) ∧ w.grownBy w' none := by
  obtain ⟨W1, hW1, g1, n1⟩ := zeroGrants w
  have HN := hid (New_yes 1 W1 (by omega) (by omega))
  have G := hid g1
  have N := hid n1
  clear g1 n1
  go_enter Try.func9, Try.ntmps9
  go_wp2_with (first
    | (go_at_call 14; refine HN.out.mono ?_; rintro e w3 ⟨v, rfl, B, rfl, hB, hM3, g2⟩; have HM := hid hM3; replace G := hid (G.out.trans g2); replace N := hid (N.out.grown g2); clear g2; clear hM3)
    | (go_at_call 23; refine (vNew0 B _ _ HM.out upTo1.n1).mono ?_; rintro e w4 ⟨rfl, ⟨f4, hv4⟩, g2⟩; have HV := hid hv4; replace HM := hid (HM.out.grown g2 (by simp)); replace G := hid (G.out.trans g2); replace N := hid (N.out.grown g2); clear g2; clear hv4)
    | (go_at_call 57; first
        | (with_reducible refine (gNew_nil _).mono ?_; rintro e wn ⟨rfl, rfl⟩)
        | (with_reducible refine (gNew_zero _ _ HZ.out).mono ?_; rintro e wn ⟨rfl, rfl⟩)
        | (with_reducible refine (gNew_c0 _ _ _ HM.out upTo1.n1).mono ?_; rintro e w5 ⟨rfl, ht5, g2⟩; have C := hid ht5; replace HV := hid (HV.out.grown g2); replace G := hid (G.out.trans g2); replace N := hid (N.out.grown g2); clear g2; clear ht5)
        | fail)
    | (go_at_call 44; first
        | (with_reducible refine (gzMap none _ (NoGr.nil _) _ _ _ _ _).mono ?_; rintro e w6 ⟨rfl, rfl⟩)
        | (with_reducible refine (gzMapV _ _ _ _ _ _ _ _ C.out (NoVw.nil _)).mono ?_; rintro e w6 ⟨rfl, rfl⟩)
        | fail)
    | (go_at_call 47; refine (gzRead _ _ _ _ _ _ _ _ _ _ _ _ _ _ N.out HV.out).mono ?_; rintro e w6 ⟨rfl, g2⟩; replace C := hid (g2.cell C.out (by simp)); replace G := hid (G.out.trans g2); replace N := hid (N.out.grown g2); clear g2)
    | (go_at_call 58; first
        | (with_reducible refine (gzPull none _ _ _ _ _ _ _ _ _ (NoGV.noG (NoGr.nil _))).mono ?_; rintro e w7 ⟨rfl, g2⟩; replace C := hid (g2.cell C.out (by simp)); replace G := hid (G.out.trans g2); replace N := hid (N.out.grown g2); clear g2; obtain ⟨W8, hW8, g2, n8⟩ := zeroView w7; have C8 := hid (g2.cell C.out (by simp)); have N8 := hid n8; replace G := hid (G.out.trans g2); replace N := hid (N.out.grown g2); clear g2; clear n8)
        | (with_reducible refine (gzPull _ _ _ _ _ _ _ _ _ _ (NoGV.noV C8.out N8.out)).mono ?_; rintro e w9 ⟨rfl, g2⟩; replace G := hid (G.out.trans g2); replace N := hid (N.out.grown g2); clear g2)
        | fail)
    | (go_at_call 31; refine (pNew_yes 1 _ (by omega)).mono ?_; rintro e w10 ⟨v, rfl, b1, f1, p1, rfl, -, g2, -⟩; replace G := hid (G.out.trans g2); replace N := hid (N.out.grown g2); clear g2)
    | refine gbuild_mach0 rfl rfl ?_
    | (refine gbox_mach0 rfl (.tmp 86) rfl (flatMach 0 zeroFr) rfl ?_; intro w11 hM11 g2; have HZ := hid hM11.size; replace G := hid (G.out.trans g2); replace N := hid (N.out.grown g2); clear g2; clear hM11)
    | (go_at_call 59; refine (gzJoin _ _ N.out _ _ _).mono ?_; rintro e w7 ⟨rfl, rfl⟩)
    | (go_at_call 46; refine (gzLeave _ _ (NoGr.nil _) _).mono ?_; rintro e w7 ⟨rfl, rfl⟩)
    | (go_at_call 51; refine (gzUnmap _ _ N.out _ _).mono ?_; rintro e w7 ⟨rfl, g2⟩; replace G := hid (G.out.trans g2); replace N := hid (N.out.grown g2); clear g2)
    | (go_at_call 48; refine (gzWrite _ _ (NoGr.nil _) _ _ _ _ _ _).mono ?_; rintro e w7 ⟨rfl, g2⟩; replace G := hid (G.out.trans g2); replace N := hid (N.out.grown g2); clear g2)
    | (go_at_call 60; refine (gzPush _ _ _ _ _ _ _ _ _ _ _ _ (NoGV.noG N.out)).mono ?_; rintro e w7 ⟨rfl, g2⟩; replace G := hid (G.out.trans g2); replace N := hid (N.out.grown g2); clear g2)
    | (go_at_call 52; refine (gzCopy _ _ _ _ _ _ _ _ _ _ _ _ _ _ _ (NoGV.noG (NoGr.nil _))).mono ?_; rintro e w7 ⟨rfl, g2⟩; replace G := hid (G.out.trans g2); replace N := hid (N.out.grown g2); clear g2)
    | (go_at_call 61; refine (gzTransfer _ _ N.out _ _ _ _ _).mono ?_; rintro e w7 ⟨rfl, rfl⟩)
    | (go_at_call 45; refine (gzRevoke _ _ (NoGr.nil _) _ _).mono ?_; rintro e w7 ⟨rfl, rfl⟩)
    | (go_at_call 62; refine (gzMaps _ _ N.out _).mono ?_; rintro e w7 ⟨rfl, rfl⟩)
    | (go_at_call 50; refine (gzForeign _ _ (NoGr.nil _) _).mono ?_; rintro e w7 ⟨rfl, rfl⟩))
  go_ret
  exact ⟨rfl, G.out⟩
theorem main {H : Type} {enc : TypeId × Value → H} (v0 v1 v2 : Value) (W : World) (c0 : Flat.Came enc Try.prog W 0 (fun _ => true) true 3 v0) (c1 : Flat.Came enc Try.prog W 0 (fun _ => true) true 3 v1) (c2 : Flat.Came enc Try.prog W 0 (fun _ => true) true 3 v2) :
    Calls Try.prog 9 #[v0, v1, v2] W fun e w' => e = .returned (.bool true) ∧ W.grownBy w' none := by
  obtain ⟨a, rfl, _⟩ := c0.int Try.underlying3
  obtain ⟨b, rfl, _⟩ := c1.int Try.underlying3
  obtain ⟨c, rfl, _⟩ := c2.int Try.underlying3
  exact walk a b c W

theorem own : ownKnob Try.prog.godebug = none := by kernel_rfl
theorem laidOut : laidOutB Try.prog = true := by kernel_rfl

set_option maxRecDepth 100000 in
theorem lifted (os : Os) (started : os.Started) (H : Type) (enc : TypeId × Value → H) :
    ReturnsInHanded {} Try.checked os 9 .any (Rows.grantZeroSpec.pre6 enc Try.prog Try.f9 Rows.grantZeroRow.domain false) (Rows.grantZeroSpec.post enc Try.prog Try.f9 false true false false) := by
  refine returnsInHanded_of_change_sized (C := Try.checked) own started (by kernel_rfl) Try.func9
    (ChangeSpec.witness6 (enc := enc) (C := Try.checked) false ⟨#[], #[.int .i64 0, .int .i64 0, .int .i64 0], []⟩ 8 (by kernel_rfl) (by kernel_rfl) (by kernel_rfl) (by kernel_rfl)) ?_
  intro W base args ds gs before hval0 hW _ hsz0 _
  have hsz : (DataW.weightsEach Try.prog (Try.f9.params.toList ++ Rows.grantZeroSpec.plain.varTypes Try.prog) (ds ++ gs)).all (· ≤ reachBytes) = true := hsz0
  clear hsz0
  have hval : ∀ (j : Nat) t v, Try.f9.params[j]? = some t → args[j]? = some v → Value.okWide Try.prog W .any base t v := hval0
  have hW' := hW
  obtain ⟨p, q, hA0, hV, rfl, hfz, hnd⟩ := hW
  have hA : DataW.TrodAll enc Try.prog W 0 (fun _ => true) true Try.f9.params.toList args.toList ds p := hA0
  rw [Try.params9] at hA hval hsz
  obtain ⟨v0, vs0, d0, ds0, p0, q0, hargs, rfl, rfl, h0, r0⟩ := trodAll_cons hA
  obtain ⟨v1, vs1, d1, ds1, p1, q1, rfl, rfl, rfl, h1, r1⟩ := trodAll_cons r0
  obtain ⟨v2, vs2, d2, ds2, p2, q2, rfl, rfl, rfl, h2, r2⟩ := trodAll_cons r1
  obtain ⟨rfl, rfl, rfl⟩ := trodAll_nil r2
  obtain rfl : args = #[v0, v1, v2] := by cases args; simp_all
  obtain ⟨rfl, rfl⟩ := trodVars_none hV
  obtain ⟨a0, rfl, rfl, rfl, w0⟩ := open_int Try.underlying3 (hval 0 3 v0 rfl rfl) h0
  have k0 := h0
  have lt0 : ∀ x ∈ ([] : List MemPlace), x.block < W.heap.size := by obtain ⟨m, hm⟩ := k0; exact DataW.trod_lt m _ _ _ hm
  have c0 : Flat.Came enc Try.prog W 0 (fun _ => true) true 3 (.int .i64 a0) := by
    obtain ⟨fuel, hf⟩ := h0
    exact ⟨fuel, _, hf, fun n hn => by
      have := List.all_eq_true.1 hsz n (DataW.weights_mem_each (j := 0) rfl rfl n hn)
      simpa using this⟩
  obtain ⟨a1, rfl, rfl, rfl, w1⟩ := open_int Try.underlying3 (hval 1 3 v1 rfl rfl) h1
  have k1 := h1
  have lt1 : ∀ x ∈ ([] : List MemPlace), x.block < W.heap.size := by obtain ⟨m, hm⟩ := k1; exact DataW.trod_lt m _ _ _ hm
  have c1 : Flat.Came enc Try.prog W 0 (fun _ => true) true 3 (.int .i64 a1) := by
    obtain ⟨fuel, hf⟩ := h1
    exact ⟨fuel, _, hf, fun n hn => by
      have := List.all_eq_true.1 hsz n (DataW.weights_mem_each (j := 1) rfl rfl n hn)
      simpa using this⟩
  obtain ⟨a2, rfl, rfl, rfl, w2⟩ := open_int Try.underlying3 (hval 2 3 v2 rfl rfl) h2
  have k2 := h2
  have lt2 : ∀ x ∈ ([] : List MemPlace), x.block < W.heap.size := by obtain ⟨m, hm⟩ := k2; exact DataW.trod_lt m _ _ _ hm
  have c2 : Flat.Came enc Try.prog W 0 (fun _ => true) true 3 (.int .i64 a2) := by
    obtain ⟨fuel, hf⟩ := h2
    exact ⟨fuel, _, hf, fun n hn => by
      have := List.all_eq_true.1 hsz n (DataW.weights_mem_each (j := 2) rfl rfl n hn)
      simpa using this⟩
  clear hA0 hval0
  refine (main (.int .i64 a0) (.int .i64 a1) (.int .i64 a2) W c0 c1 c2).mono fun e W' ⟨he, hg⟩ => ?_
  subst he
  have bel := below_grown' hg
  simp only [List.append_nil, List.nil_append] at hW'
  exact ⟨_, rfl, _, _, _, [], _, [], hW', trodAll_mk1 (shut_bool Try.underlying4 _), (trodAll_cons_mk (Below.trod laidOut (by kernel_rfl) (of_decide_eq_true (by kernel_rfl)) k0 bel lt0) (trodAll_cons_mk (Below.trod laidOut (by kernel_rfl) (of_decide_eq_true (by kernel_rfl)) k1 bel lt1) (trodAll_cons_mk (Below.trod laidOut (by kernel_rfl) (of_decide_eq_true (by kernel_rfl)) k2 bel lt2) trodAll_mk0))), rfl, bel.frame _, fun h => by cases h⟩

theorem proved : Rows.GrantZeroSaid :=
  OpenClaim.holds_of_wide 9 Try.f9 rfl rfl rfl rfl rfl rfl rfl ⟨rfl, rfl, rfl, rfl, rfl⟩ rfl rfl rfl rfl rfl (by kernel_rfl) Try.func9 (by kernel_rfl)
    (of_decide_eq_true (by kernel_rfl)) (by unfold Func.isWrapper; first | (rw [if_pos (by decide +kernel)]; kernel_rfl) | (rw [if_neg (by decide +kernel)]; exact ⟨rfl, rfl⟩))
    (fun os started H enc _ => lifted os started H enc)
#print axioms proved
end Go.Proofs.Ytaocnknofklmoaa.lawGrZero
