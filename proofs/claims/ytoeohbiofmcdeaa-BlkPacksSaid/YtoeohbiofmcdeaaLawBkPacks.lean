/-
  BlkPacks: for every request and every number the law returns true, and what was there stays. No condition.
-/
import Derived.Test.YtoeohbiofmcdeaaBkY
import Derived.Test.YtoeohbiofmcdeaaBkRd
import Derived.Test.YtoeohbiofmcdeaaBkD
import Derived.Test.YtoeohbiofmcdeaaLift
import Derived.Deep.Cut
set_option linter.unusedSimpArgs false
set_option linter.unusedVariables false
namespace Go.Proofs.Ytoeohbiofmcdeaa.lawBkPacks
open Go.ChangeShapes Go.WideShapes Go.ChangeAt Go.RowKit Gen Bk
set_option maxHeartbeats 4000000

theorem rPack (r : Rq) (page : Int) (p : Option Addr) (c : Nat) (w : World) (h : SA w p r.segs) (hl : r.segs.length ≤ 281474976710656) :
    Calls Try.prog 13 #[r.val p c, .int .i64 page] w (PackR (packV r page).1 (packV r page).2.1 (packV r page).2.2 w) := by
  cases hh : r.head page with
  | false =>
    have : packV r page = ([], [], 1) := by unfold packV; rw [if_neg (by rw [ok_head, hh]; simp)]
    rw [this]
    exact rPack_head r page p c w hh
  | true =>
    cases ha : r.segs.all Seg.ok with
    | false =>
      have : packV r page = ([], [], 1) := by unfold packV; rw [if_neg (by rw [ok_head, hh, ha]; simp)]
      rw [this]
      exact rPack_seg r page p c w h hl hh ha
    | true =>
      have h1 : (r.ok && pageOk page) = true := by rw [ok_head, hh, ha]; rfl
      cases h2 : rqForm r page with
      | false =>
        have : packV r page = ([], [], 4) := by unfold packV; rw [if_pos h1, if_neg (by simp [h2])]
        rw [this]
        exact rPack_form r page p c w h hl hh ha h2
      | true =>
        have : packV r page = (packB r page, packP r page, 0) := by unfold packV; rw [if_pos h1, if_pos h2]
        rw [this]
        by_cases e : page = -1
        · exact rPack_self r page p c w h hh ha h2 e
        · have hpg : pageOk page = true := (by simpa using h1 : r.ok = true ∧ pageOk page = true).2
          have hb : 0 ≤ page ∧ page < 256 := by simpa [pageOk, e, fitsV] using hpg
          exact rPack_page r page p c w h hh ha h2 hb.1
set_option maxRecDepth 100000 in
theorem walk (r : Rq) (hf : r.fits) (page : Int) (hp : I64 page) (p : Option Addr) (c : Nat) (w : World) (h : SA w p r.segs) (hl : r.segs.length ≤ 281474976710656) :
    Calls Try.prog 4 #[r.val p c, .int .i64 page] w fun e w' => e = .returned (.bool true) ∧ w.grownBy w' none := by
  have H1 := hid fun w' (h' : SA w' p r.segs) => bPack r hf page hp p c w' h' (by omega)
  have H2 := hid fun w' (h' : SA w' p r.segs) => rPack r page p c w' h' hl
  have HAW := hid blkAwake
  obtain ⟨⟨X, Y, k⟩, hv⟩ : ∃ v, packV r page = v := ⟨_, rfl⟩
  rw [hv] at H1 H2
  unfold PackQ at H1
  unfold PackR at H2
  obtain ⟨op, id, sec, segs⟩ := r
  simp only [Rq.val] at *
  generalize segs.length = n at *
  have HS := hid h
  clear h hl hf hv hp
  obtain ⟨W, hW⟩ : ∃ W, w.alloc (.cells #[.int .i64 op, .int .i64 id, .int .i64 sec, .slice p n c] 24) = W := ⟨_, rfl⟩
  have HG0 := hid (show w.grownBy W none from hW ▸ World.grownBy_alloc _ _ _)
  have HRW := hid (rowQ hW)
  have c0 := HRW.out.cell (k := 0) (by omega); have c1 := HRW.out.cell (k := 1) (by omega); have c2 := HRW.out.cell (k := 2) (by omega); have c3 := HRW.out.cell (k := 3) (by omega)
  simp only [rqV] at c0 c1 c2 c3
  go_enter Try.func4, Try.ntmps4
  go_wp2_with (first
    | (go_at_call 8; refine (H1.out _ (HS.out.grown HG0.out)).mono ?_; rintro e w1 ⟨p1, k1, p2, k2, rfl, hb1, hb2, _, _, _, _, g1⟩; have HB1 := hid hb1; have HB2 := hid hb2; have G1 := hid (HG0.out.trans g1); have R1 := hid (HRW.out.grown g1 (by simp)); have d0 := R1.out.cell (k := 0) (by omega); have d1 := R1.out.cell (k := 1) (by omega); have d2 := R1.out.cell (k := 2) (by omega); have d3 := R1.out.cell (k := 3) (by omega); (simp only [rqV] at d0 d1 d2 d3); clear g1 hb1 hb2)
    | (go_at_call 13; refine (H2.out _ (HS.out.grown G1.out)).mono ?_; rintro e w2 ⟨p3, k3, p4, k4, rfl, hb3, hb4, g2⟩; have s1 := (HB1.out.grown g2).string k1; have s2 := (HB2.out.grown g2).string k2; have s3 := hb3.string k3; have s4 := hb4.string k4; have G2 := hid (G1.out.trans g2); clear g2 hb3 hb4)
    | (go_at_call 9; refine (HAW.out _).mono ?_; rintro e w3 ⟨rfl, g3⟩; have G3 := hid (G2.out.trans g3); clear g3))
  go_ret
  exact ⟨rfl, G3.out⟩
theorem main {H : Type} {enc : TypeId × Value → H} (l0 : List Value) (v1 : Value) (W : World)
    (z0 : l0.length = [3, 3, 3, 22].length) (c0 : ∀ (j : Nat) (t : TypeId), [3, 3, 3, 22][j]? = some t → ∃ u : Value, l0[j]? = some u ∧ Flat.Came enc Try.prog W 0 (fun _ => true) true t u)
    (c1 : Flat.Came enc Try.prog W 0 (fun _ => true) true 3 v1) :
    Calls Try.prog 4 #[.agg l0.toArray, v1] W fun e w' => e = .returned (.bool true) ∧ W.grownBy w' none := by
  obtain ⟨r, p, c, he, hf, hs, hl⟩ := open_rq z0 c0
  rw [he]
  obtain ⟨page, rfl, wp⟩ := c1.int Try.underlying3
  exact walk r hf page (I64.wf wp) p c W hs hl
theorem own : ownKnob Try.prog.godebug = none := by kernel_rfl
theorem laidOut : laidOutB Try.prog = true := by kernel_rfl

set_option maxRecDepth 100000 in
theorem lifted (os : Os) (started : os.Started) (H : Type) (enc : TypeId × Value → H) :
    ReturnsInHanded {} Try.checked os 4 .any (Rows.blkPacksSpec.pre6 enc Try.prog Try.f4 Rows.blkPacksRow.domain false) (Rows.blkPacksSpec.post enc Try.prog Try.f4 false true false false) := by
  refine returnsInHanded_of_change_sized (C := Try.checked) own started (by kernel_rfl) Try.func4
    (ChangeSpec.witness6 (enc := enc) (C := Try.checked) false ⟨#[], #[.agg #[.int .i64 0, .int .i64 0, .int .i64 0, .slice none 0 0], .int .i64 0], []⟩ 8 (by kernel_rfl) (by kernel_rfl) (by kernel_rfl) (by kernel_rfl)) ?_
  intro W base args ds gs before hval0 hW _ hsz0 _
  have hsz : (DataW.weightsEach Try.prog (Try.f4.params.toList ++ Rows.blkPacksSpec.plain.varTypes Try.prog) (ds ++ gs)).all (· ≤ reachBytes) = true := hsz0
  clear hsz0
  have hval : ∀ (j : Nat) t v, Try.f4.params[j]? = some t → args[j]? = some v → Value.okWide Try.prog W .any base t v := hval0
  have hW' := hW
  obtain ⟨p, q, hA0, hV, rfl, hfz, hnd⟩ := hW
  have hA : DataW.TrodAll enc Try.prog W 0 (fun _ => true) true Try.f4.params.toList args.toList ds p := hA0
  rw [Try.params4] at hA hval hsz
  obtain ⟨v0, vs0, d0, ds0, p0, q0, hargs, rfl, rfl, h0, r0⟩ := trodAll_cons hA
  obtain ⟨v1, vs1, d1, ds1, p1, q1, rfl, rfl, rfl, h1, r1⟩ := trodAll_cons r0
  obtain ⟨rfl, rfl, rfl⟩ := trodAll_nil r1
  obtain rfl : args = #[v0, v1] := by cases args; simp_all
  obtain ⟨rfl, rfl⟩ := trodVars_none hV
  have sz0 : ∀ n ∈ d0.weights Try.prog 24, n ≤ reachBytes := fun n hn => by
    have := List.all_eq_true.1 hsz n (DataW.weights_mem_each (j := 0) rfl rfl n hn)
    simpa using this
  obtain ⟨l0, rfl, z0, c0⟩ := Flat.open_agg rq_flat (hval 0 24 v0 rfl rfl) h0 sz0
  have k0 := h0
  have lt0 : ∀ x ∈ p0, x.block < W.heap.size := by obtain ⟨m, hm⟩ := k0; exact DataW.trod_lt m _ _ _ hm
  obtain ⟨a1, rfl, rfl, rfl, w1⟩ := open_int Try.underlying3 (hval 1 3 v1 rfl rfl) h1
  have k1 := h1
  have lt1 : ∀ x ∈ ([] : List MemPlace), x.block < W.heap.size := by obtain ⟨m, hm⟩ := k1; exact DataW.trod_lt m _ _ _ hm
  have c1 : Flat.Came enc Try.prog W 0 (fun _ => true) true 3 (.int .i64 a1) := by
    obtain ⟨fuel, hf⟩ := h1
    exact ⟨fuel, _, hf, fun n hn => by
      have := List.all_eq_true.1 hsz n (DataW.weights_mem_each (j := 1) rfl rfl n hn)
      simpa using this⟩
  clear hA0 hval0
  refine (main l0 (.int .i64 a1) W z0 c0 c1).mono fun e W' ⟨he, hg⟩ => ?_
  subst he
  have bel := below_grown' hg
  simp only [List.append_nil, List.nil_append] at hW'
  exact ⟨_, rfl, _, _, _, [], _, [], hW', trodAll_mk1 (shut_bool Try.underlying4 _), (trodAll_cons_mk (Below.trod laidOut (by kernel_rfl) (of_decide_eq_true (by kernel_rfl)) k0 bel lt0) (trodAll_cons_mk (Below.trod laidOut (by kernel_rfl) (of_decide_eq_true (by kernel_rfl)) k1 bel lt1) trodAll_mk0)), rfl, bel.frame _, fun h => by cases h⟩

theorem proved : Rows.BlkPacksSaid :=
  OpenClaim.holds_of_wide 4 Try.f4 rfl rfl rfl rfl rfl rfl rfl ⟨rfl, rfl, rfl, rfl, rfl⟩ rfl rfl rfl rfl rfl (by kernel_rfl) Try.func4 (by kernel_rfl)
    (of_decide_eq_true (by kernel_rfl)) (by unfold Func.isWrapper; first | (rw [if_pos (by decide +kernel)]; kernel_rfl) | (rw [if_neg (by decide +kernel)]; exact ⟨rfl, rfl⟩))
    (fun os started H enc _ => lifted os started H enc)
#print axioms proved
end Go.Proofs.Ytoeohbiofmcdeaa.lawBkPacks
