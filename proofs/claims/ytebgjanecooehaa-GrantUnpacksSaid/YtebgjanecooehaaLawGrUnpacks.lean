/-
  GrantUnpacks: for every row of bytes the law returns true, and what was there stays. No condition.
-/
import Derived.Test.YtebgjanecooehaaGrF
import Derived.Test.YtebgjanecooehaaLift
import Derived.Test.YtebgjanecooehaaRows
import Derived.ProofKit
import Derived.OpenShut
import Derived.Deep.Cut
set_option linter.unusedSimpArgs false
set_option linter.unusedVariables false

namespace Go.Proofs.Ytebgjanecooehaa.lawGrUnpacks
open Go.ChangeShapes Go.WideShapes Go.ChangeAt Go.RowKit
set_option maxHeartbeats 4000000
theorem own0 (w : World) (e : TypeId) (sz : Nat) : (w.alloc (.cells #[] e)).ownsRow w.heap.size e sz (.slice (some ⟨w.heap.size, 0, none⟩) 0 0) 0 [] :=
  ⟨by simp, .inr ⟨w.heap.size, 0, #[], rfl, Nat.le_refl _, heap_alloc_new w _, Nat.le_refl _, by decide, by simp, by simp⟩⟩
theorem alloc_le (w : World) (o : Obj) : w.heap.size ≤ (w.alloc o).heap.size := (World.grownBy_alloc w o none).size
theorem info_u8 : (Try.prog.info? 5).map (fun i => (i.zero, i.size, i.bytes)) = some (some (.int .u8 0), 1, 1) := by kernel_rfl
theorem news_at {w : World} {a : Addr} {l : List UInt8} (h : BG w (some a) l) : ∀ j u, (bcells l)[j]? = some u → (w.alloc (.cells #[] 5)).cell? (a.add j) = some u := by
  intro j u hu
  have hj := (List.getElem?_eq_some_iff.1 hu).1
  rw [bcells_len] at hj
  obtain ⟨g, o, e, hc⟩ := h j hj
  cases e
  have e : (⟨g, o, none⟩ : Addr).add j = ⟨g, o + j, none⟩ := by unfold Addr.add; split <;> simp_all
  rw [e, (World.grownBy_alloc w _ none).cell hc (by simp)]
  rw [bcells_get] at hu
  simpa [List.getD, List.getElem?_eq_getElem hj] using hu
set_option maxRecDepth 100000 in
theorem walk (l : List UInt8) (p : Option Addr) (c : Nat) (w : World) (hlen : l.length ≤ 140737488351232) (hg : BG w p l) :
    Calls Try.prog 10 #[.slice p l.length c] w fun e w' => e = .returned (.bool true) ∧ w.grownBy w' none := by
  have hB := World.grownBy.refl w none
  have HG := hid hg
  obtain ⟨gv, k, hv⟩ : ∃ gv k, unpG l = (gv, k) := ⟨_, _, rfl⟩
  have H1 := hid fun p' c' w' (h : BG w' p' l) => gPn l p' c' w' h
  have H2 := hid fun w' (h : BG w' p l) => gUn l p c w' h
  have H3 := hid fun w' => gPn_len none 0 0 w' (by decide)
  have hk := unpG_e l
  rw [hv] at hk H1 H2
  simp only [g0, GV.val] at H1 H2 H3 hk
  obtain ⟨a0, a1, a2, a3, a4, a5, a6⟩ := gv
  simp only at H1 H2
  obtain ⟨i0, hi, hz⟩ := Option.map_eq_some_iff.1 info_u8
  simp only [Prod.mk.injEq] at hz
  have Hi := hid hi
  have Hz0 := hid hz.1
  have Hz1 := hid hz.2.1
  have Hz2 := hid hz.2.2
  clear hg hv hi hz
  cases p with
  | none =>
    have hx : l = [] := by
      cases l with
      | nil => rfl
      | cons x r => obtain ⟨_, _, e, _⟩ := HG.out 0 (by simp); cases e
    subst hx
    simp only [List.length_nil] at H1 H2
    have HE := hid (show ∀ (p : Option Addr) (w' : World), BG w' p [] from fun p w' k hk => by cases hk)
    clear HG Hi Hz0 Hz1 Hz2
    rcases hk with rfl | rfl | rfl
    all_goals
      go_enter Try.func10, Try.ntmps10
      go_wp2_with (first
        | (go_at_call 40; first
          | ((with_reducible refine (H1.out (some ⟨w.heap.size, 0, none⟩) 0 _ (HE.out _ _)).mono ?_); rintro e w1 ⟨rfl, g1⟩; have HB1 := hid ((World.grownBy_alloc w _ none).trans g1); clear g1)
          | ((with_reducible refine (H3.out _).mono ?_); rintro e w3 ⟨rfl, g3⟩; have HB3 := hid (HB2.out.trans ((World.grownBy_alloc w2 _ none).trans g3)); have p0 := fun ob => (World.grownBy_alloc w3 ob none).cell (g3.cell ((World.grownBy_alloc w2 _ none).cell P0.out (by simp)) (by simp)) (by simp); have q0 := fun ob => (World.grownBy_alloc w3 ob none).cell (g3.cell (a := ⟨w2.heap.size, 0, none⟩) (v := .int .i64 a0) (by simp [go_sem]) (by simp)) (by simp); have p1 := fun ob => (World.grownBy_alloc w3 ob none).cell (g3.cell ((World.grownBy_alloc w2 _ none).cell P1.out (by simp)) (by simp)) (by simp); have q1 := fun ob => (World.grownBy_alloc w3 ob none).cell (g3.cell (a := ⟨w2.heap.size, 1, none⟩) (v := .bool a1) (by simp [go_sem]) (by simp)) (by simp); have p2 := fun ob => (World.grownBy_alloc w3 ob none).cell (g3.cell ((World.grownBy_alloc w2 _ none).cell P2.out (by simp)) (by simp)) (by simp); have q2 := fun ob => (World.grownBy_alloc w3 ob none).cell (g3.cell (a := ⟨w2.heap.size, 2, none⟩) (v := .bool a2) (by simp [go_sem]) (by simp)) (by simp); have p3 := fun ob => (World.grownBy_alloc w3 ob none).cell (g3.cell ((World.grownBy_alloc w2 _ none).cell P3.out (by simp)) (by simp)) (by simp); have q3 := fun ob => (World.grownBy_alloc w3 ob none).cell (g3.cell (a := ⟨w2.heap.size, 3, none⟩) (v := .int .i64 a3) (by simp [go_sem]) (by simp)) (by simp); have p4 := fun ob => (World.grownBy_alloc w3 ob none).cell (g3.cell ((World.grownBy_alloc w2 _ none).cell P4.out (by simp)) (by simp)) (by simp); have q4 := fun ob => (World.grownBy_alloc w3 ob none).cell (g3.cell (a := ⟨w2.heap.size, 4, none⟩) (v := .int .i64 a4) (by simp [go_sem]) (by simp)) (by simp); have p5 := fun ob => (World.grownBy_alloc w3 ob none).cell (g3.cell ((World.grownBy_alloc w2 _ none).cell P5.out (by simp)) (by simp)) (by simp); have q5 := fun ob => (World.grownBy_alloc w3 ob none).cell (g3.cell (a := ⟨w2.heap.size, 5, none⟩) (v := .int .i64 a5) (by simp [go_sem]) (by simp)) (by simp); have p6 := fun ob => (World.grownBy_alloc w3 ob none).cell (g3.cell ((World.grownBy_alloc w2 _ none).cell P6.out (by simp)) (by simp)) (by simp); have q6 := fun ob => (World.grownBy_alloc w3 ob none).cell (g3.cell (a := ⟨w2.heap.size, 6, none⟩) (v := .int .i64 a6) (by simp [go_sem]) (by simp)) (by simp); clear g3))
        | (go_at_call 41; refine (H2.out _ (HE.out _ _)).mono ?_; rintro e w2 ⟨rfl, g2⟩; have HB2 := hid (HB1.out.trans ((World.grownBy_alloc w1 _ none).trans g2)); have P0 := hid (g2.cell (a := ⟨w1.heap.size, 0, none⟩) (v := .int .i64 a0) (by simp [go_sem]) (by simp)); have P1 := hid (g2.cell (a := ⟨w1.heap.size, 1, none⟩) (v := .bool a1) (by simp [go_sem]) (by simp)); have P2 := hid (g2.cell (a := ⟨w1.heap.size, 2, none⟩) (v := .bool a2) (by simp [go_sem]) (by simp)); have P3 := hid (g2.cell (a := ⟨w1.heap.size, 3, none⟩) (v := .int .i64 a3) (by simp [go_sem]) (by simp)); have P4 := hid (g2.cell (a := ⟨w1.heap.size, 4, none⟩) (v := .int .i64 a4) (by simp [go_sem]) (by simp)); have P5 := hid (g2.cell (a := ⟨w1.heap.size, 5, none⟩) (v := .int .i64 a5) (by simp [go_sem]) (by simp)); have P6 := hid (g2.cell (a := ⟨w1.heap.size, 6, none⟩) (v := .int .i64 a6) (by simp [go_sem]) (by simp)); clear g2))
      go_ret
      exact ⟨rfl, HB3.out.trans (World.grownBy_alloc _ _ none)⟩
  | some a =>
    rcases hk with rfl | rfl | rfl
    all_goals
      go_enter Try.func10, Try.ntmps10
      go_wp2_with (first
        | (at_builtin; refine wpList_append_own _ rfl _ _ 31 rfl w.heap.size 5 i0 (.int .u8 0) 1 1 Try.underlying31 Hi.out Hz0.out Hz1.out Hz2.out rfl (by decide) _ _ _ rfl (own0 w _ 1) a l.length c (bcells l) rfl (show (bcells l).length = l.length * 1 by rw [bcells_len, Nat.mul_one]) (fun j u hu => news_at HG.out j u hu) (bcells_one l) (by unfold maxLen; omega) (by omega) (alloc_le w _) ?_; intro v' w0 hown' hgrow hnil; clear hnil; have HB0 := hid ((World.grownBy_alloc w _ none).andThen hgrow (fun j hj => .inl (by cases hj; exact Nat.le_refl _))); rw [Nat.zero_add, List.nil_append] at hown'; obtain ⟨p', c', rfl, hc', hg'⟩ := BG.of_own hown'; have HG' := hid hg'; clear hown' hgrow hg' hc')
        | (go_at_call 40; first
          | ((with_reducible refine (H1.out _ _ _ HG'.out).mono ?_); rintro e w1 ⟨rfl, g1⟩; have HB1 := hid (HB0.out.trans g1); clear g1)
          | ((with_reducible refine (H3.out _).mono ?_); rintro e w3 ⟨rfl, g3⟩; have HB3 := hid (HB2.out.trans ((World.grownBy_alloc w2 _ none).trans g3)); have p0 := fun ob => (World.grownBy_alloc w3 ob none).cell (g3.cell ((World.grownBy_alloc w2 _ none).cell P0.out (by simp)) (by simp)) (by simp); have q0 := fun ob => (World.grownBy_alloc w3 ob none).cell (g3.cell (a := ⟨w2.heap.size, 0, none⟩) (v := .int .i64 a0) (by simp [go_sem]) (by simp)) (by simp); have p1 := fun ob => (World.grownBy_alloc w3 ob none).cell (g3.cell ((World.grownBy_alloc w2 _ none).cell P1.out (by simp)) (by simp)) (by simp); have q1 := fun ob => (World.grownBy_alloc w3 ob none).cell (g3.cell (a := ⟨w2.heap.size, 1, none⟩) (v := .bool a1) (by simp [go_sem]) (by simp)) (by simp); have p2 := fun ob => (World.grownBy_alloc w3 ob none).cell (g3.cell ((World.grownBy_alloc w2 _ none).cell P2.out (by simp)) (by simp)) (by simp); have q2 := fun ob => (World.grownBy_alloc w3 ob none).cell (g3.cell (a := ⟨w2.heap.size, 2, none⟩) (v := .bool a2) (by simp [go_sem]) (by simp)) (by simp); have p3 := fun ob => (World.grownBy_alloc w3 ob none).cell (g3.cell ((World.grownBy_alloc w2 _ none).cell P3.out (by simp)) (by simp)) (by simp); have q3 := fun ob => (World.grownBy_alloc w3 ob none).cell (g3.cell (a := ⟨w2.heap.size, 3, none⟩) (v := .int .i64 a3) (by simp [go_sem]) (by simp)) (by simp); have p4 := fun ob => (World.grownBy_alloc w3 ob none).cell (g3.cell ((World.grownBy_alloc w2 _ none).cell P4.out (by simp)) (by simp)) (by simp); have q4 := fun ob => (World.grownBy_alloc w3 ob none).cell (g3.cell (a := ⟨w2.heap.size, 4, none⟩) (v := .int .i64 a4) (by simp [go_sem]) (by simp)) (by simp); have p5 := fun ob => (World.grownBy_alloc w3 ob none).cell (g3.cell ((World.grownBy_alloc w2 _ none).cell P5.out (by simp)) (by simp)) (by simp); have q5 := fun ob => (World.grownBy_alloc w3 ob none).cell (g3.cell (a := ⟨w2.heap.size, 5, none⟩) (v := .int .i64 a5) (by simp [go_sem]) (by simp)) (by simp); have p6 := fun ob => (World.grownBy_alloc w3 ob none).cell (g3.cell ((World.grownBy_alloc w2 _ none).cell P6.out (by simp)) (by simp)) (by simp); have q6 := fun ob => (World.grownBy_alloc w3 ob none).cell (g3.cell (a := ⟨w2.heap.size, 6, none⟩) (v := .int .i64 a6) (by simp [go_sem]) (by simp)) (by simp); clear g3))
        | (go_at_call 41; refine (H2.out _ (HG.out.grown (HB1.out.trans (World.grownBy_alloc w1 _ none)))).mono ?_; rintro e w2 ⟨rfl, g2⟩; have HB2 := hid (HB1.out.trans ((World.grownBy_alloc w1 _ none).trans g2)); have P0 := hid (g2.cell (a := ⟨w1.heap.size, 0, none⟩) (v := .int .i64 a0) (by simp [go_sem]) (by simp)); have P1 := hid (g2.cell (a := ⟨w1.heap.size, 1, none⟩) (v := .bool a1) (by simp [go_sem]) (by simp)); have P2 := hid (g2.cell (a := ⟨w1.heap.size, 2, none⟩) (v := .bool a2) (by simp [go_sem]) (by simp)); have P3 := hid (g2.cell (a := ⟨w1.heap.size, 3, none⟩) (v := .int .i64 a3) (by simp [go_sem]) (by simp)); have P4 := hid (g2.cell (a := ⟨w1.heap.size, 4, none⟩) (v := .int .i64 a4) (by simp [go_sem]) (by simp)); have P5 := hid (g2.cell (a := ⟨w1.heap.size, 5, none⟩) (v := .int .i64 a5) (by simp [go_sem]) (by simp)); have P6 := hid (g2.cell (a := ⟨w1.heap.size, 6, none⟩) (v := .int .i64 a6) (by simp [go_sem]) (by simp)); clear g2))
      go_ret
      exact ⟨rfl, HB3.out.trans (World.grownBy_alloc _ _ none)⟩
theorem main {H : Type} {enc : TypeId × Value → H} (v0 : Value) (W : World) (c0 : Flat.Came enc Try.prog W 0 (fun _ => true) true 31 v0) :
    Calls Try.prog 10 #[v0] W fun e w' => e = .returned (.bool true) ∧ W.grownBy w' none := by
  obtain ⟨pa, l, cap, rfl, hin, hl⟩ := came_bytes c0
  exact walk l pa cap W hl (BG.of_in hin)

theorem own : ownKnob Try.prog.godebug = none := by kernel_rfl
theorem laidOut : laidOutB Try.prog = true := by kernel_rfl

set_option maxRecDepth 100000 in
theorem lifted (os : Os) (started : os.Started) (H : Type) (enc : TypeId × Value → H) :
    ReturnsInHanded {} Try.checked os 10 .any (Rows.grantUnpacksSpec.pre6 enc Try.prog Try.f10 Rows.grantUnpacksRow.domain false) (Rows.grantUnpacksSpec.post enc Try.prog Try.f10 false true false false) := by
  refine returnsInHanded_of_change_sized (C := Try.checked) own started (by kernel_rfl) Try.func10
    (ChangeSpec.witness6 (enc := enc) (C := Try.checked) false ⟨#[], #[.slice none 0 0], []⟩ 8 (by kernel_rfl) (by kernel_rfl) (by kernel_rfl) (by kernel_rfl)) ?_
  intro W base args ds gs before hval0 hW _ hsz0 _
  have hsz : (DataW.weightsEach Try.prog (Try.f10.params.toList ++ Rows.grantUnpacksSpec.plain.varTypes Try.prog) (ds ++ gs)).all (· ≤ reachBytes) = true := hsz0
  clear hsz0
  have hval : ∀ (j : Nat) t v, Try.f10.params[j]? = some t → args[j]? = some v → Value.okWide Try.prog W .any base t v := hval0
  have hW' := hW
  obtain ⟨p, q, hA0, hV, rfl, hfz, hnd⟩ := hW
  have hA : DataW.TrodAll enc Try.prog W 0 (fun _ => true) true Try.f10.params.toList args.toList ds p := hA0
  rw [Try.params10] at hA hval hsz
  obtain ⟨v0, vs0, d0, ds0, p0, q0, hargs, rfl, rfl, h0, r0⟩ := trodAll_cons hA
  obtain ⟨rfl, rfl, rfl⟩ := trodAll_nil r0
  obtain rfl : args = #[v0] := by cases args; simp_all
  obtain ⟨rfl, rfl⟩ := trodVars_none hV
  obtain ⟨ps0, ln0, cp0, rfl⟩ := okWide_slice Try.underlying31 (hval 0 31 v0 rfl rfl)
  have k0 := h0
  have lt0 : ∀ x ∈ p0, x.block < W.heap.size := by obtain ⟨m, hm⟩ := k0; exact DataW.trod_lt m _ _ _ hm
  have c0 : Flat.Came enc Try.prog W 0 (fun _ => true) true 31 (.slice ps0 ln0 cp0) := by
    obtain ⟨fuel, hf⟩ := h0
    exact ⟨fuel, _, hf, fun n hn => by
      have := List.all_eq_true.1 hsz n (DataW.weights_mem_each (j := 0) rfl rfl n hn)
      simpa using this⟩
  clear hA0 hval0
  refine (main (.slice ps0 ln0 cp0) W c0).mono fun e W' ⟨he, hg⟩ => ?_
  subst he
  have bel := below_grown' hg
  simp only [List.append_nil, List.nil_append] at hW'
  exact ⟨_, rfl, _, _, _, [], _, [], hW', trodAll_mk1 (shut_bool Try.underlying4 _), (trodAll_cons_mk (Below.trod laidOut (by kernel_rfl) (of_decide_eq_true (by kernel_rfl)) k0 bel lt0) trodAll_mk0), rfl, bel.frame _, fun h => by cases h⟩

theorem proved : Rows.GrantUnpacksSaid :=
  OpenClaim.holds_of_wide 10 Try.f10 rfl rfl rfl rfl rfl rfl rfl ⟨rfl, rfl, rfl, rfl, rfl⟩ rfl rfl rfl rfl rfl (by kernel_rfl) Try.func10 (by kernel_rfl)
    (of_decide_eq_true (by kernel_rfl)) (by unfold Func.isWrapper; first | (rw [if_pos (by decide +kernel)]; kernel_rfl) | (rw [if_neg (by decide +kernel)]; exact ⟨rfl, rfl⟩))
    (fun os started H enc _ => lifted os started H enc)
#print axioms proved
end Go.Proofs.Ytebgjanecooehaa.lawGrUnpacks
