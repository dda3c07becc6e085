/-
  BlkUnpacks: for every row of bytes the law returns true, and what was there stays. No condition.
-/
import Derived.Test.YtoeohbiofmcdeaaBkR
import Derived.Test.YtoeohbiofmcdeaaBkD
import Derived.Test.YtoeohbiofmcdeaaBkI
import Derived.Test.YtoeohbiofmcdeaaOpenS
import Derived.Deep.Cut
set_option linter.unusedSimpArgs false
set_option linter.unusedVariables false
namespace Go.Proofs.Ytoeohbiofmcdeaa.lawBkUnpacks
open Go.ChangeShapes Go.WideShapes Go.ChangeAt Go.RowKit Gen Bk
set_option maxHeartbeats 4000000

theorem unpV_small (l : List UInt8) : (unpV l).1.segs.length ≤ 16777216 := by
  have hs : ∀ k : List UInt8, (segsR k).1.length ≤ k.length := fun k => by
    unfold segsR
    split
    · simp
    · split
      · rw [segsV_len]; omega
      · simp
  have hr : ∀ op pg : Int, (unpR l op pg).1.segs.length ≤ 510 := fun op pg => by
    unfold unpR
    have := UInt8.toNat_lt (l.getD 1 0)
    have h2 := hs ((l.drop 8).take (2 * (l.getD 1 0).toNat))
    rw [List.length_take] at h2
    simp only
    split
    · split
      · split
        · simp only; omega
        · simp
      · simp
    · simp
  unfold unpV
  split
  · split
    · exact Nat.le_trans (hr _ _) (by omega)
    · exact Nat.le_trans (hr _ _) (by omega)
  · simp
set_option maxRecDepth 100000 in
theorem lReqs (a b c : Int) (s : List Seg) (p q : Option Addr) (cp cq : Nat) (w : World) (hl : s.length ≤ 16777216) (hp : SA w p s) (hq : SA w q s) :
    Calls Try.prog 12 #[.agg #[.int .i64 a, .int .i64 b, .int .i64 c, .slice p s.length cp], .agg #[.int .i64 a, .int .i64 b, .int .i64 c, .slice q s.length cq]] w fun e w' => e = .returned (.bool true) ∧ w.grownBy w' none := by
  obtain ⟨W, hW⟩ : ∃ W, w.alloc (.cells #[.int .i64 a, .int .i64 b, .int .i64 c, .slice p s.length cp] 24) = W := ⟨_, rfl⟩
  have g1 : w.grownBy W none := hW ▸ World.grownBy_alloc _ _ _
  obtain ⟨W2, hW2⟩ : ∃ W2, W.alloc (.cells #[.int .i64 a, .int .i64 b, .int .i64 c, .slice q s.length cq] 24) = W2 := ⟨_, rfl⟩
  have g2 : W.grownBy W2 none := hW2 ▸ World.grownBy_alloc _ _ _
  have r1 := (rowQ hW).grown g2 (by simp)
  have r2 := rowQ hW2
  have c0 := r1.cell (k := 0) (by omega); have c1 := r1.cell (k := 1) (by omega); have c2 := r1.cell (k := 2) (by omega); have c3 := r1.cell (k := 3) (by omega)
  have d0 := r2.cell (k := 0) (by omega); have d1 := r2.cell (k := 1) (by omega); have d2 := r2.cell (k := 2) (by omega); have d3 := r2.cell (k := 3) (by omega)
  simp only [rqV] at c0 c1 c2 c3 d0 d1 d2 d3
  have HS := hid (lSegs_eq s p q cp cq W2 (hp.grown (g1.trans g2)) (hq.grown (g1.trans g2)) hl)
  have HG := hid (g1.trans g2)
  clear r1 r2 hp hq hl g1 g2
  go_enter Try.func12, Try.ntmps12
  go_wp2_with (go_at_call 34; refine HS.out.mono ?_; rintro e w' ⟨rfl, n, rfl⟩)
  go_ret
  exact ⟨rfl, HG.out.trans (grownBy_drewN _ _ none)⟩
set_option maxRecDepth 100000 in
theorem walk (l : List UInt8) (p : Option Addr) (c : Nat) (w : World) (hl : l.length ≤ 140737488351232) (h : BA w p l) (hp : p = none → c = 0) (hc : l.length ≤ c) :
    Calls Try.prog 5 #[.slice p l.length c] w fun e w' => e = .returned (.bool true) ∧ w.grownBy w' none := by
  obtain ⟨i0, hi, hz0, hz1, hz2⟩ := info_parts info_u8
  have Hi := hid hi; have Hz0 := hid hz0; have Hz1 := hid hz1; have Hz2 := hid hz2
  have h1 := fun p' c' w' (hc' : l.length ≤ c') (h6 : c' ≤ 9223372036854775807) hb' => bUnp l p' c' w' hl hc' h6 hb'
  have h2 := fun p' c' w' (hc' : l.length ≤ c') hb' => rUnp l p' c' w' hl hc' hb'
  have hsm := unpV_small l
  obtain ⟨⟨⟨op, id, sec, sl⟩, pg, nn, er⟩, hV⟩ : ∃ V, unpV l = V := ⟨_, rfl⟩
  rw [hV] at h1 h2 hsm
  unfold UnpQ at h1 h2
  simp only at h1 h2 hsm
  have hr := fun p' q' c' d' w' hp' hq' => lReqs op id sec sl p' q' c' d' w' hsm hp' hq'
  have HU1 := hid h1; have HU2 := hid h2; have HR := hid hr
  have HAW := hid blkAwake
  have HB := hid h
  have HLEN := hid hl
  have HC := hid hc
  clear h1 h2 hr hi hz0 hz1 hz2 h hV hsm hc
  cases p with
  | none =>
    obtain rfl := HB.out.of_none
    obtain rfl := hp rfl
    go_enter Try.func5, Try.ntmps5
    go_wp2_with (first
      | (go_at_call 10; refine (HU1.out (some ⟨w.heap.size, 0, none⟩) 0 _ (by decide) (by decide) (BA.nil _ _)).mono ?_; rintro e w1 ⟨p1, k1, rfl, hs1, g1⟩; have HS1 := hid hs1; have HG1 := hid ((World.grownBy_alloc w (.cells #[] 5) none).trans g1); clear hs1 g1)
      | (go_at_call 14; refine (HU2.out none 0 _ (by decide) (BA.nil _ _)).mono ?_; rintro e w2 ⟨p2, k2, rfl, hs2, g2⟩; have HS2 := hid hs2; have HS3 := hid ((HS1.out.grown (World.grownBy_alloc w1 _ none)).grown g2); have HG2 := hid ((HG1.out.trans (World.grownBy_alloc w1 (.cells #[.int .i64 op, .int .i64 id, .int .i64 sec, .slice p1 sl.length k1] 24) none)).trans g2); have RD := hid ((rowQ (w := w1) (a := .int .i64 op) (b := .int .i64 id) (c := .int .i64 sec) (d := .slice p1 sl.length k1) rfl).grown g2 (by simp)); have t0 := fun ob => (World.grownBy_alloc w2 ob none).cell (RD.out.cell (k := 0) (by omega)) (by simp); have t1 := fun ob => (World.grownBy_alloc w2 ob none).cell (RD.out.cell (k := 1) (by omega)) (by simp); have t2 := fun ob => (World.grownBy_alloc w2 ob none).cell (RD.out.cell (k := 2) (by omega)) (by simp); have t3 := fun ob => (World.grownBy_alloc w2 ob none).cell (RD.out.cell (k := 3) (by omega)) (by simp); (simp only [rqV] at t0 t1 t2 t3); clear hs2 g2)
      | (go_at_call 12; refine (HR.out _ _ _ _ _ (HS3.out.grown (World.grownBy_alloc w2 _ none)) (HS2.out.grown (World.grownBy_alloc w2 _ none))).mono ?_; rintro e w3 ⟨rfl, g3⟩; have HG3 := hid ((HG2.out.trans (World.grownBy_alloc w2 (.cells #[.int .i64 op, .int .i64 id, .int .i64 sec, .slice p2 sl.length k2] 24) none)).trans g3); clear g3)
      | (go_at_call 9; refine (HAW.out _).mono ?_; rintro e w4 ⟨rfl, g4⟩; have HG4 := hid (HG3.out.trans g4); clear g4))
    go_ret
    exact ⟨rfl, HG4.out⟩
  | some a =>
    clear hp
    go_enter Try.func5, Try.ntmps5
    go_wp2_with (first
      | (at_builtin; refine wpList_append_own _ rfl _ _ 25 rfl w.heap.size 5 i0 (.int .u8 0) 1 1 Try.underlying25 Hi.out Hz0.out Hz1.out Hz2.out rfl (by decide) _ _ _ rfl (own_made0 w) a l.length c (bcells l) rfl (by rw [bcells_len, Nat.mul_one]) (fun j u hu => news_ba (HB.out.grown (World.grownBy_alloc w _ none)) j u hu) (bcells_one l) (by have := HLEN.out; unfold maxLen; omega) (by have := HLEN.out; omega) (alloc_le w _) ?_; intro v' w0 hown' hgrow hnil; clear hnil; have G0 := hid (own_then (World.grownBy_alloc w (.cells #[] 5) none) (own_made0 w) (Nat.le_refl _) hgrow); rw [Nat.zero_add, bcells_nil, List.nil_append] at hown'; obtain ⟨p', c', rfl, hb', hcl, _, hc6⟩ := own_ba2 hown'; have HB' := hid hb'; have HC' := hid hcl; have HC6 := hid hc6; clear hown' hgrow hb' hcl hc6)
      | (go_at_call 10; refine (HU1.out _ _ _ HC'.out HC6.out HB'.out).mono ?_; rintro e w1 ⟨p1, k1, rfl, hs1, g1⟩; have HS1 := hid hs1; have HG1 := hid (G0.out.trans g1); clear hs1 g1)
      | (go_at_call 14; refine (HU2.out _ _ _ HC.out ((HB.out.grown HG1.out).grown (World.grownBy_alloc w1 _ none))).mono ?_; rintro e w2 ⟨p2, k2, rfl, hs2, g2⟩; have HS2 := hid hs2; have HS3 := hid ((HS1.out.grown (World.grownBy_alloc w1 _ none)).grown g2); have HG2 := hid ((HG1.out.trans (World.grownBy_alloc w1 (.cells #[.int .i64 op, .int .i64 id, .int .i64 sec, .slice p1 sl.length k1] 24) none)).trans g2); have RD := hid ((rowQ (w := w1) (a := .int .i64 op) (b := .int .i64 id) (c := .int .i64 sec) (d := .slice p1 sl.length k1) rfl).grown g2 (by simp)); have t0 := fun ob => (World.grownBy_alloc w2 ob none).cell (RD.out.cell (k := 0) (by omega)) (by simp); have t1 := fun ob => (World.grownBy_alloc w2 ob none).cell (RD.out.cell (k := 1) (by omega)) (by simp); have t2 := fun ob => (World.grownBy_alloc w2 ob none).cell (RD.out.cell (k := 2) (by omega)) (by simp); have t3 := fun ob => (World.grownBy_alloc w2 ob none).cell (RD.out.cell (k := 3) (by omega)) (by simp); (simp only [rqV] at t0 t1 t2 t3); clear hs2 g2)
      | (go_at_call 12; refine (HR.out _ _ _ _ _ (HS3.out.grown (World.grownBy_alloc w2 _ none)) (HS2.out.grown (World.grownBy_alloc w2 _ none))).mono ?_; rintro e w3 ⟨rfl, g3⟩; have HG3 := hid ((HG2.out.trans (World.grownBy_alloc w2 (.cells #[.int .i64 op, .int .i64 id, .int .i64 sec, .slice p2 sl.length k2] 24) none)).trans g3); clear g3)
      | (go_at_call 9; refine (HAW.out _).mono ?_; rintro e w4 ⟨rfl, g4⟩; have HG4 := hid (HG3.out.trans g4); clear g4))
    go_ret
    exact ⟨rfl, HG4.out⟩
theorem main {H : Type} {enc : TypeId × Value → H} (v0 : Value) (W : World) (c0 : Flat.Came enc Try.prog W 0 (fun _ => true) true 25 v0) :
    Calls Try.prog 5 #[v0] W fun e W' => e = .returned (.bool true) ∧ W.grownBy W' none := by
  obtain ⟨pa, l, cap, rfl, hin, hl, hn, hc⟩ := came_bytes c0
  exact walk l pa cap W hl hin hn hc
theorem own : ownKnob Try.prog.godebug = none := by kernel_rfl
theorem laidOut : laidOutB Try.prog = true := by kernel_rfl

set_option maxRecDepth 100000 in
theorem lifted (os : Os) (started : os.Started) (H : Type) (enc : TypeId × Value → H) :
    ReturnsInHanded {} Try.checked os 5 .any (Rows.blkUnpacksSpec.pre6 enc Try.prog Try.f5 Rows.blkUnpacksRow.domain false) (Rows.blkUnpacksSpec.post enc Try.prog Try.f5 false true false false) := by
  refine returnsInHanded_of_change_sized (C := Try.checked) own started (by kernel_rfl) Try.func5
    (ChangeSpec.witness6 (enc := enc) (C := Try.checked) false ⟨#[], #[.slice none 0 0], []⟩ 8 (by kernel_rfl) (by kernel_rfl) (by kernel_rfl) (by kernel_rfl)) ?_
  intro W base args ds gs before hval0 hW _ hsz0 _
  have hsz : (DataW.weightsEach Try.prog (Try.f5.params.toList ++ Rows.blkUnpacksSpec.plain.varTypes Try.prog) (ds ++ gs)).all (· ≤ reachBytes) = true := hsz0
  clear hsz0
  have hval : ∀ (j : Nat) t v, Try.f5.params[j]? = some t → args[j]? = some v → Value.okWide Try.prog W .any base t v := hval0
  have hW' := hW
  obtain ⟨p, q, hA0, hV, rfl, hfz, hnd⟩ := hW
  have hA : DataW.TrodAll enc Try.prog W 0 (fun _ => true) true Try.f5.params.toList args.toList ds p := hA0
  rw [Try.params5] at hA hval hsz
  obtain ⟨v0, vs0, d0, ds0, p0, q0, hargs, rfl, rfl, h0, r0⟩ := trodAll_cons hA
  obtain ⟨rfl, rfl, rfl⟩ := trodAll_nil r0
  obtain rfl : args = #[v0] := by cases args; simp_all
  obtain ⟨rfl, rfl⟩ := trodVars_none hV
  obtain ⟨ps0, ln0, cp0, rfl⟩ := okWide_slice Try.underlying25 (hval 0 25 v0 rfl rfl)
  have k0 := h0
  have lt0 : ∀ x ∈ p0, x.block < W.heap.size := by obtain ⟨m, hm⟩ := k0; exact DataW.trod_lt m _ _ _ hm
  have c0 : Flat.Came enc Try.prog W 0 (fun _ => true) true 25 (.slice ps0 ln0 cp0) := by
    obtain ⟨fuel, hf⟩ := h0
    exact ⟨fuel, _, hf, fun n hn => by
      have := List.all_eq_true.1 hsz n (DataW.weights_mem_each (j := 0) rfl rfl n hn)
      simpa using this⟩
  clear hA0 hval0
  refine (main (.slice ps0 ln0 cp0) W c0).mono fun e W' ⟨he, hg⟩ => ?_
  subst he
  have bel := below_grown' hg
  simp only [List.append_nil, List.nil_append] at hW'
  exact ⟨_, rfl, _, _, _, [], _, [], hW', trodAll_mk1 (shut_bool Try.underlying4 _), (trodAll_cons_mk (Below.trod laidOut (by kernel_rfl) (of_decide_eq_true (by kernel_rfl)) k0 bel lt0) trodAll_mk0), rfl, bel.frame _, fun h => by cases h⟩

theorem proved : Rows.BlkUnpacksSaid :=
  OpenClaim.holds_of_wide 5 Try.f5 rfl rfl rfl rfl rfl rfl rfl ⟨rfl, rfl, rfl, rfl, rfl⟩ rfl rfl rfl rfl rfl (by kernel_rfl) Try.func5 (by kernel_rfl)
    (of_decide_eq_true (by kernel_rfl)) (by unfold Func.isWrapper; first | (rw [if_pos (by decide +kernel)]; kernel_rfl) | (rw [if_neg (by decide +kernel)]; exact ⟨rfl, rfl⟩))
    (fun os started H enc _ => lifted os started H enc)
#print axioms proved
end Go.Proofs.Ytoeohbiofmcdeaa.lawBkUnpacks
