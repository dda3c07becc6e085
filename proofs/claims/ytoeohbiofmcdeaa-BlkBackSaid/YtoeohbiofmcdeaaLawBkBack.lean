/-
  BlkBack: for every request and every number the law returns true, and what was there stays. No condition.
-/
import Derived.Test.YtoeohbiofmcdeaaBkY
import Derived.Test.YtoeohbiofmcdeaaBkRq
import Derived.Test.YtoeohbiofmcdeaaBkD
import Derived.Test.YtoeohbiofmcdeaaLift
import Derived.Deep.Cut
set_option linter.unusedSimpArgs false
set_option linter.unusedVariables false
namespace Go.Proofs.Ytoeohbiofmcdeaa.lawBkBack
open Go.ChangeShapes Go.WideShapes Go.ChangeAt Go.RowKit Gen Bk
set_option maxHeartbeats 4000000

set_option maxRecDepth 100000 in
theorem walk_no (r : Rq) (hf : r.fits) (page : Int) (hp : I64 page) (p : Option Addr) (c : Nat) (w : World) (h : SA w p r.segs) (hl : r.segs.length ≤ 281474976710656) (k : Int) (hk : k = 1 ∨ k = 4) (hv : packV r page = ([], [], k)) :
    Calls Try.prog 3 #[r.val p c, .int .i64 page] w fun e w' => e = .returned (.bool true) ∧ w.grownBy w' none := by
  have H1 := hid fun w' (h' : SA w' p r.segs) => hv ▸ bPack r hf page hp p c w' h' (by omega)
  have HAW := hid blkAwake
  have kb : (k != 0) = true := by rcases hk with rfl | rfl <;> rfl
  unfold PackQ at H1
  obtain ⟨op, id, sec, segs⟩ := r
  simp only [Rq.val, List.length_nil] at *
  generalize segs.length = n at *
  have HS := hid h
  clear h hl hf hk hv
  obtain ⟨W, hW⟩ : ∃ W, w.alloc (.cells #[.int .i64 op, .int .i64 id, .int .i64 sec, .slice p n c] 24) = W := ⟨_, rfl⟩
  have HG0 := hid (show w.grownBy W none from hW ▸ World.grownBy_alloc _ _ _)
  have HRW := hid (rowQ hW)
  have HLT := hid (show w.heap.size < W.heap.size from HRW.out.lt)
  have c0 := HRW.out.cell (k := 0) (by omega); have c1 := HRW.out.cell (k := 1) (by omega); have c2 := HRW.out.cell (k := 2) (by omega); have c3 := HRW.out.cell (k := 3) (by omega)
  simp only [rqV] at c0 c1 c2 c3
  go_enter Try.func3, Try.ntmps3
  go_wp2_with (first
    | (go_at_call 8; refine (H1.out _ (HS.out.grown HG0.out)).mono ?_; rintro e w1 ⟨p1, k1, p2, k2, rfl, _, _, _, _, _, _, g1⟩; have G1 := hid (HG0.out.trans g1); clear g1)
    | (go_at_call 9; refine (HAW.out _).mono ?_; rintro e w2 ⟨rfl, g2⟩; have G2 := hid (G1.out.trans g2); clear g2))
  go_ret
  exact ⟨rfl, G2.out⟩
set_option maxRecDepth 100000 in
theorem walk_self (r : Rq) (hf : r.fits) (page : Int) (hp : I64 page) (p : Option Addr) (c : Nat) (w : World) (h : SA w p r.segs) (hl : r.segs.length ≤ 16) (hv : packV r page = (packB r page, packP r page, 0)) (hpn : page = -1) (hBl : (packB r page).length = 16) (hu : unpV (packB r page) = (r, page, (r.segs.length : Int), 0)) :
    Calls Try.prog 3 #[r.val p c, .int .i64 page] w fun e w' => e = .returned (.bool true) ∧ w.grownBy w' none := by
  have H1 := hid fun w' (h' : SA w' p r.segs) => hv ▸ bPack r hf page hp p c w' h' (by omega)
  have H2 := hid fun p' c' w' (hc' : (packB r page).length ≤ c') (h6 : c' ≤ 9223372036854775807) hb' => hu ▸ bUnp (packB r page) p' c' w' (by rw [hBl]; omega) hc' h6 hb'
  have HAW := hid blkAwake
  unfold PackQ UnpQ at *
  have kn : ((r.segs.length : Int) != r.segs.length) = false := by simp
  have kp : (page != page) = false := by simp
  have hr := fun p' q' c' d' w' hp' hq' => lReqs r.op r.id r.sec r.segs p' q' c' d' w' (by omega) hp' hq'
  have HR := hid hr
  have kq : decide (0 ≤ page) = false := by subst hpn; rfl
  obtain ⟨PP, hPP⟩ : ∃ P, packP r page = P := ⟨_, rfl⟩
  rw [hPP] at H1
  obtain ⟨BB, hBB⟩ : ∃ P, packB r page = P := ⟨_, rfl⟩
  rw [hBB] at H1 H2
  have HS := hid h
  obtain ⟨op, id, sec, segs⟩ := r
  simp only [Rq.val] at H1 H2 HR HS kn ⊢
  obtain ⟨n, hn⟩ : ∃ n, segs.length = n := ⟨_, rfl⟩
  rw [hn] at H1 H2 HR kn ⊢
  clear h hl hf hv hu hBl hr hPP hBB hpn hn
  obtain ⟨W, hW⟩ : ∃ W, w.alloc (.cells #[.int .i64 op, .int .i64 id, .int .i64 sec, .slice p n c] 24) = W := ⟨_, rfl⟩
  have HG0 := hid (show w.grownBy W none from hW ▸ World.grownBy_alloc _ _ _)
  have HRW := hid (rowQ hW)
  have HLT := hid (show w.heap.size < W.heap.size from HRW.out.lt)
  have c0 := HRW.out.cell (k := 0) (by omega); have c1 := HRW.out.cell (k := 1) (by omega); have c2 := HRW.out.cell (k := 2) (by omega); have c3 := HRW.out.cell (k := 3) (by omega)
  simp only [rqV] at c0 c1 c2 c3
  go_enter Try.func3, Try.ntmps3
  go_wp2_with (first
    | (go_at_call 8; refine (H1.out _ (HS.out.grown HG0.out)).mono ?_; rintro e w1 ⟨p1, k1, p2, k2, rfl, hb1, hb2, hc1, h61, hc2, h62, g1⟩; have G1 := hid (HG0.out.trans g1); have HB1 := hid hb1; have HB2 := hid hb2; have HC1 := hid hc1; have H61 := hid h61; have HC2 := hid hc2; have H62 := hid h62; have R1 := hid (HRW.out.grown g1 (by simp)); clear g1 hb1 hb2 hc1 h61 hc2 h62)
    | (go_at_call 10; refine (H2.out _ _ _ HC1.out H61.out HB1.out).mono ?_; rintro e w2 ⟨p3, k3, rfl, hs3, g2⟩; have HS3 := hid hs3; have G2 := hid (G1.out.trans g2); have R2 := hid (R1.out.grown g2 (by simp)); have HB22 := hid (HB2.out.grown g2); have d0 := fun ob => (World.grownBy_alloc w2 ob none).cell (R2.out.cell (k := 0) (by omega)) (by simp); have d1 := fun ob => (World.grownBy_alloc w2 ob none).cell (R2.out.cell (k := 1) (by omega)) (by simp); have d2 := fun ob => (World.grownBy_alloc w2 ob none).cell (R2.out.cell (k := 2) (by omega)) (by simp); have d3 := fun ob => (World.grownBy_alloc w2 ob none).cell (R2.out.cell (k := 3) (by omega)) (by simp); (simp only [rqV] at d0 d1 d2 d3); clear hs3 g2)
    | (go_at_call 12; refine (HR.out _ _ _ _ _ (HS3.out.grown (World.grownBy_alloc w2 _ none)) (HS.out.grown (G2.out.trans (World.grownBy_alloc w2 _ none)))).mono ?_; rintro e w4 ⟨rfl, g4⟩; have G4 := hid ((G2.out.trans (World.grownBy_alloc w2 (.cells #[.int .i64 op, .int .i64 id, .int .i64 sec, .slice p3 n k3] 24) none)).trans g4); clear g4)
    | (go_at_call 9; refine (HAW.out _).mono ?_; rintro e w5 ⟨rfl, g5⟩; have G5 := hid (G4.out.trans g5); clear g5))
  go_ret
  exact ⟨rfl, G5.out⟩
set_option maxRecDepth 100000 in
theorem walk_page (r : Rq) (hf : r.fits) (page : Int) (hp : I64 page) (hp0 : 0 ≤ page) (p : Option Addr) (c : Nat) (w : World) (h : SA w p r.segs) (hl : r.segs.length ≤ 16) (hv : packV r page = (packB r page, packP r page, 0)) (hBl : (packB r page).length = 16) (hu : unpV (packB r page) = (⟨r.op, r.id, r.sec, []⟩, page, (r.segs.length : Int), 0)) (hg : segsR (packP r page) = (r.segs, 0)) (hPl : (packP r page).length ≤ 32) :
    Calls Try.prog 3 #[r.val p c, .int .i64 page] w fun e w' => e = .returned (.bool true) ∧ w.grownBy w' none := by
  have H1 := hid fun w' (h' : SA w' p r.segs) => hv ▸ bPack r hf page hp p c w' h' (by omega)
  have H2 := hid fun p' c' w' (hc' : (packB r page).length ≤ c') (h6 : c' ≤ 9223372036854775807) hb' => hu ▸ bUnp (packB r page) p' c' w' (by rw [hBl]; omega) hc' h6 hb'
  have H3 := hid fun p' c' w' (hc' : (packP r page).length ≤ c') (h6 : c' ≤ 9223372036854775807) hb' => bSegsW2 (packP r page) p' c' w' (by omega) hb' hc' h6
  unfold SegsRead2 at H3
  rw [hg] at H3
  have HAW := hid blkAwake
  unfold PackQ UnpQ at *
  have kn : ((r.segs.length : Int) != r.segs.length) = false := by simp
  have kp : (page != page) = false := by simp
  have hr := fun p' q' c' d' w' hp' hq' => lReqs r.op r.id r.sec r.segs p' q' c' d' w' (by omega) hp' hq'
  have HR := hid hr
  have kq : decide (0 ≤ page) = true := by simpa using hp0
  obtain ⟨PP, hPP⟩ : ∃ P, packP r page = P := ⟨_, rfl⟩
  rw [hPP] at H1 H3
  obtain ⟨BB, hBB⟩ : ∃ P, packB r page = P := ⟨_, rfl⟩
  rw [hBB] at H1 H2
  have HS := hid h
  obtain ⟨op, id, sec, segs⟩ := r
  simp only [Rq.val] at H1 H2 HR HS kn ⊢ H3
  obtain ⟨n, hn⟩ : ∃ n, segs.length = n := ⟨_, rfl⟩
  rw [hn] at H1 H2 HR kn ⊢
  simp only [hn, List.length_nil] at H3 H2
  clear h hl hf hv hu hBl hr hPP hBB hg hPl hp0 hn
  obtain ⟨W, hW⟩ : ∃ W, w.alloc (.cells #[.int .i64 op, .int .i64 id, .int .i64 sec, .slice p n c] 24) = W := ⟨_, rfl⟩
  have HG0 := hid (show w.grownBy W none from hW ▸ World.grownBy_alloc _ _ _)
  have HRW := hid (rowQ hW)
  have HLT := hid (show w.heap.size < W.heap.size from HRW.out.lt)
  have c0 := HRW.out.cell (k := 0) (by omega); have c1 := HRW.out.cell (k := 1) (by omega); have c2 := HRW.out.cell (k := 2) (by omega); have c3 := HRW.out.cell (k := 3) (by omega)
  simp only [rqV] at c0 c1 c2 c3
  go_enter Try.func3, Try.ntmps3
  go_upto_region 12 with (first
    | (go_at_call 8; refine (H1.out _ (HS.out.grown HG0.out)).mono ?_; rintro e w1 ⟨p1, k1, p2, k2, rfl, hb1, hb2, hc1, h61, hc2, h62, g1⟩; have G1 := hid (HG0.out.trans g1); have HB1 := hid hb1; have HB2 := hid hb2; have HC1 := hid hc1; have H61 := hid h61; have HC2 := hid hc2; have H62 := hid h62; have R1 := hid (HRW.out.grown g1 (by simp)); clear g1 hb1 hb2 hc1 h61 hc2 h62)
    | (go_at_call 10; refine (H2.out _ _ _ HC1.out H61.out HB1.out).mono ?_; rintro e w2 ⟨p3, k3, rfl, hs3, g2⟩; have HS3 := hid hs3; have G2 := hid (G1.out.trans g2); have R2 := hid (R1.out.grown g2 (by simp)); have HB22 := hid (HB2.out.grown g2); have d0 := fun ob => (World.grownBy_alloc w2 ob none).cell (R2.out.cell (k := 0) (by omega)) (by simp); have d1 := fun ob => (World.grownBy_alloc w2 ob none).cell (R2.out.cell (k := 1) (by omega)) (by simp); have d2 := fun ob => (World.grownBy_alloc w2 ob none).cell (R2.out.cell (k := 2) (by omega)) (by simp); have d3 := fun ob => (World.grownBy_alloc w2 ob none).cell (R2.out.cell (k := 3) (by omega)) (by simp); (simp only [rqV] at d0 d1 d2 d3); clear hs3 g2)
    | (go_at_call 11; refine (H3.out _ _ _ HC2.out H62.out (HB22.out.grown (World.grownBy_alloc w2 _ none))).mono ?_; rintro e w3 ⟨p4, k4, rfl, hs4, hb4, g3⟩; have HS4 := hid hs4; have HB4 := hid hb4; have G3 := hid ((G2.out.trans (World.grownBy_alloc w2 (.cells #[.int .i64 op, .int .i64 id, .int .i64 sec, .slice p3 0 k3] 24) none)).trans g3); have R3 := hid ((R2.out.alloc (.cells #[.int .i64 op, .int .i64 id, .int .i64 sec, .slice p3 0 k3] 24)).grown g3 (by simp)); have X3 := hid ((rowQ (w := w2) (a := .int .i64 op) (b := .int .i64 id) (c := .int .i64 sec) (d := .slice p3 0 k3) rfl).grown g3 (by simp)); clear hs4 hb4 g3; have x3 := X3.out.cell (k := 3) (by omega); (simp only [rqV] at x3); have xx := X3.out.frozen 3))
  have hWs := R2.out.lt
  have hx := X3.out.set (k := 3) (v := .slice p4 n k4) (X' := rqV (.int .i64 op) (.int .i64 id) (.int .i64 sec) (.slice p4 n k4)) rfl (fun j hj hne => by
    rcases (show j = 0 ∨ j = 1 ∨ j = 2 by omega) with rfl | rfl | rfl
    all_goals rfl)
  have hR := R3.out.setOther ⟨w2.heap.size, 3, none⟩ (by simp only; omega) (.slice p4 n k4)
  have hG := hid (G3.out.andThen (grownBy_setCell w3 w2.heap.size 3 none (.slice p4 n k4)) (fun j e => .inl (by cases e; exact G2.out.size)))
  have hS4 := hid (HS4.out.kept HB4.out (grownBy_setCell w3 w2.heap.size 3 none (.slice p4 n k4)) (by simp))
  generalize w3.setCell ⟨w2.heap.size, 3, none⟩ (.slice p4 n k4) = A at hx hR hG hS4 ⊢
  clear d0 d1 d2 d3 x3 xx c0 c1 c2 c3
  have x0 := hx.cell (k := 0) (by omega); have x1 := hx.cell (k := 1) (by omega); have x2 := hx.cell (k := 2) (by omega); have x3 := hx.cell (k := 3) (by omega)
  have y0 := hR.cell (k := 0) (by omega); have y1 := hR.cell (k := 1) (by omega); have y2 := hR.cell (k := 2) (by omega); have y3 := hR.cell (k := 3) (by omega)
  simp only [rqV] at x0 x1 x2 x3 y0 y1 y2 y3
  clear hx hR
  go_wp2_with (first
    | (go_at_call 12; refine (HR.out _ _ _ _ _ hS4.out (HS.out.grown hG.out)).mono ?_; rintro e w4 ⟨rfl, g4⟩; have G4 := hid (hG.out.trans g4); clear g4)
    | (go_at_call 9; refine (HAW.out _).mono ?_; rintro e w5 ⟨rfl, g5⟩; have G5 := hid (G4.out.trans g5); clear g5))
  go_ret
  exact ⟨rfl, G5.out⟩
theorem packB_len (r : Rq) (page : Int) (h : rqForm r page = true) : (packB r page).length = 16 := by
  have hn := form_le h
  unfold packB
  split
  · rename_i e
    rw [if_pos e] at hn
    simp [padV, headV, leV_len, segsB_len]; omega
  · simp [padV, headV, leV_len]
theorem main {H : Type} {enc : TypeId × Value → H} (l0 : List Value) (v1 : Value) (W : World)
    (z0 : l0.length = [3, 3, 3, 22].length) (c0 : ∀ (j : Nat) (t : TypeId), [3, 3, 3, 22][j]? = some t → ∃ u : Value, l0[j]? = some u ∧ Flat.Came enc Try.prog W 0 (fun _ => true) true t u)
    (c1 : Flat.Came enc Try.prog W 0 (fun _ => true) true 3 v1) :
    Calls Try.prog 3 #[.agg l0.toArray, v1] W fun e w' => e = .returned (.bool true) ∧ W.grownBy w' none := by
  obtain ⟨r, p, c, he, hf, hs, hl⟩ := open_rq z0 c0
  rw [he]
  obtain ⟨page, rfl, wp⟩ := c1.int Try.underlying3
  have hp : I64 page := I64.wf wp
  cases h1 : (r.ok && pageOk page) with
  | false => exact walk_no r hf page hp p c W hs hl 1 (.inl rfl) (by unfold packV; rw [if_neg (by simp [h1])])
  | true =>
    cases h2 : rqForm r page with
    | false => exact walk_no r hf page hp p c W hs hl 4 (.inr rfl) (by unfold packV; rw [if_pos h1, if_neg (by simp [h2])])
    | true =>
      have hv : packV r page = (packB r page, packP r page, 0) := by unfold packV; rw [if_pos h1, if_pos h2]
      obtain ⟨hok, hpg⟩ : r.ok = true ∧ pageOk page = true := by simpa using h1
      have hle : r.segs.length ≤ 16 := Nat.le_trans (form_le h2) (by split <;> omega)
      by_cases e : page = -1
      · subst e
        exact walk_self r hf (-1) hp p c W hs hle hv rfl (packB_len r _ h2) (unp_self r hok h2)
      · have hb : 0 ≤ page ∧ page < 256 := by simpa [pageOk, e, fitsV] using hpg
        obtain ⟨u1, u2⟩ := unp_page r page hb.1 hb.2 hok h2
        exact walk_page r hf page hp hb.1 p c W hs hle hv (packB_len r _ h2) u1 u2 (by unfold packP; rw [if_neg e, segsB_len]; omega)
theorem own : ownKnob Try.prog.godebug = none := by kernel_rfl
theorem laidOut : laidOutB Try.prog = true := by kernel_rfl

set_option maxRecDepth 100000 in
theorem lifted (os : Os) (started : os.Started) (H : Type) (enc : TypeId × Value → H) :
    ReturnsInHanded {} Try.checked os 3 .any (Rows.blkBackSpec.pre6 enc Try.prog Try.f3 Rows.blkBackRow.domain false) (Rows.blkBackSpec.post enc Try.prog Try.f3 false true false false) := by
  refine returnsInHanded_of_change_sized (C := Try.checked) own started (by kernel_rfl) Try.func3
    (ChangeSpec.witness6 (enc := enc) (C := Try.checked) false ⟨#[], #[.agg #[.int .i64 0, .int .i64 0, .int .i64 0, .slice none 0 0], .int .i64 0], []⟩ 8 (by kernel_rfl) (by kernel_rfl) (by kernel_rfl) (by kernel_rfl)) ?_
  intro W base args ds gs before hval0 hW _ hsz0 _
  have hsz : (DataW.weightsEach Try.prog (Try.f3.params.toList ++ Rows.blkBackSpec.plain.varTypes Try.prog) (ds ++ gs)).all (· ≤ reachBytes) = true := hsz0
  clear hsz0
  have hval : ∀ (j : Nat) t v, Try.f3.params[j]? = some t → args[j]? = some v → Value.okWide Try.prog W .any base t v := hval0
  have hW' := hW
  obtain ⟨p, q, hA0, hV, rfl, hfz, hnd⟩ := hW
  have hA : DataW.TrodAll enc Try.prog W 0 (fun _ => true) true Try.f3.params.toList args.toList ds p := hA0
  rw [Try.params3] at hA hval hsz
  obtain ⟨v0, vs0, d0, ds0, p0, q0, hargs, rfl, rfl, h0, r0⟩ := trodAll_cons hA
  obtain ⟨v1, vs1, d1, ds1, p1, q1, rfl, rfl, rfl, h1, r1⟩ := trodAll_cons r0
  obtain ⟨rfl, rfl, rfl⟩ := trodAll_nil r1
  obtain rfl : args = #[v0, v1] := by cases args; simp_all
  obtain ⟨rfl, rfl⟩ := trodVars_none hV
  have sz0 : ∀ n ∈ d0.weights Try.prog 24, n ≤ reachBytes := fun n hn => by
    have := List.all_eq_true.1 hsz n (DataW.weights_mem_each (j := 0) rfl rfl n hn)
    simpa using this
  obtain ⟨l0, rfl, z0, c0⟩ := Flat.open_agg rq_flat (hval 0 24 v0 rfl rfl) h0 sz0
  have k0 := h0
  have lt0 : ∀ x ∈ p0, x.block < W.heap.size := by obtain ⟨m, hm⟩ := k0; exact DataW.trod_lt m _ _ _ hm
  obtain ⟨a1, rfl, rfl, rfl, w1⟩ := open_int Try.underlying3 (hval 1 3 v1 rfl rfl) h1
  have k1 := h1
  have lt1 : ∀ x ∈ ([] : List MemPlace), x.block < W.heap.size := by obtain ⟨m, hm⟩ := k1; exact DataW.trod_lt m _ _ _ hm
  have c1 : Flat.Came enc Try.prog W 0 (fun _ => true) true 3 (.int .i64 a1) := by
    obtain ⟨fuel, hf⟩ := h1
    exact ⟨fuel, _, hf, fun n hn => by
      have := List.all_eq_true.1 hsz n (DataW.weights_mem_each (j := 1) rfl rfl n hn)
      simpa using this⟩
  clear hA0 hval0
  refine (main l0 (.int .i64 a1) W z0 c0 c1).mono fun e W' ⟨he, hg⟩ => ?_
  subst he
  have bel := below_grown' hg
  simp only [List.append_nil, List.nil_append] at hW'
  exact ⟨_, rfl, _, _, _, [], _, [], hW', trodAll_mk1 (shut_bool Try.underlying4 _), (trodAll_cons_mk (Below.trod laidOut (by kernel_rfl) (of_decide_eq_true (by kernel_rfl)) k0 bel lt0) (trodAll_cons_mk (Below.trod laidOut (by kernel_rfl) (of_decide_eq_true (by kernel_rfl)) k1 bel lt1) trodAll_mk0)), rfl, bel.frame _, fun h => by cases h⟩

theorem proved : Rows.BlkBackSaid :=
  OpenClaim.holds_of_wide 3 Try.f3 rfl rfl rfl rfl rfl rfl rfl ⟨rfl, rfl, rfl, rfl, rfl⟩ rfl rfl rfl rfl rfl (by kernel_rfl) Try.func3 (by kernel_rfl)
    (of_decide_eq_true (by kernel_rfl)) (by unfold Func.isWrapper; first | (rw [if_pos (by decide +kernel)]; kernel_rfl) | (rw [if_neg (by decide +kernel)]; exact ⟨rfl, rfl⟩))
    (fun os started H enc _ => lifted os started H enc)
#print axioms proved
end Go.Proofs.Ytoeohbiofmcdeaa.lawBkBack
