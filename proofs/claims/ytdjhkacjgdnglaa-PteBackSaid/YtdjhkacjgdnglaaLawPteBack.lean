/-
  PteBack: for every entry and every address the law returns true, and what was there stays. No condition.
-/
import Derived.Test.YtdjhkacjgdnglaaPteC
import Derived.Test.YtdjhkacjgdnglaaOpen
import Derived.Test.YtdjhkacjgdnglaaLift
import Derived.ProofKit
import Derived.OpenShut
import Derived.Lib.SmallJoins
namespace Go.Proofs.Ytdjhkacjgdnglaa.lawPteBack
open Go.ChangeShapes Go.WideShapes Go.ChangeAt Go.RowKit
set_option maxHeartbeats 1000000

theorem pack_nat (e : Ent) : ∃ k : Nat, (packV e).1 = k ∧ k < 4294967296 ∧ ((packV e).2 = 0 → unpackV k = (e, 0)) ∧ ((packV e).2 = 0 ∨ (packV e).2 = 1) := by
  obtain ⟨p, w, m⟩ := e
  unfold packV
  split
  · exact ⟨0, rfl, by omega, fun h => by simp at h, .inr rfl⟩
  · rename_i h
    simp only at h
    obtain ⟨k, rfl⟩ : ∃ k : Nat, m = k := ⟨m.toNat, by omega⟩
    have hk : k < 16777216 := by omega
    refine ⟨k * 256 + (if p then 1 else 0) + 2 * (if w then 1 else 0), ?_, ?_, ?_, .inl rfl⟩
    · cases p <;> cases w <;> simp only [b2i, Bool.false_eq_true, if_true, if_false] <;> omega
    · cases p <;> cases w <;> simp only [Bool.false_eq_true, if_true, if_false] <;> omega
    · intro _
      unfold unpackV
      cases p
      · have hw : w = false := by cases w; rfl; exact absurd (.inr (.inr ⟨rfl, .inl rfl⟩)) h
        have h0 : k = 0 := by
          refine Classical.byContradiction fun h0 => h (.inr (.inr ⟨rfl, .inr (by simpa using h0)⟩))
        subst hw h0
        rfl
      · cases w
        · simp only [Bool.false_eq_true, if_true, if_false]
          rw [if_neg (by omega), if_neg (by omega)]
          congr 2
          · rw [decide_eq_false_iff_not]; omega
          · have : (k * 256 + 1 + 2 * 0) / 256 = k := by omega
            rw [this]
        · simp only [if_true]
          rw [if_neg (by omega), if_neg (by omega)]
          congr 2
          · rw [decide_eq_true_iff]; omega
          · have : (k * 256 + 1 + 2 * 1) / 256 = k := by omega
            rw [this]
theorem back (va : Nat) (h : va < 1048576) : (((va / 16384 : Nat) : Int) * 64 + ((va / 256 % 64 : Nat) : Int)) * 256 + ((va % 256 : Nat) : Int) = va := by omega
set_option maxRecDepth 100000 in
theorem main {H : Type} {enc : TypeId × Value → H} (p q : Bool) (m : Int) (v1 : Value) (W : World) (c1 : Flat.Came enc Try.prog W 0 (fun _ => true) true 44 v1) :
    Calls Try.prog 7 #[.agg #[.bool p, .bool q, .int .i64 m], v1] W fun e W' => e = .returned (.bool true) ∧ W.grownBy W' none := by
  obtain ⟨n, rfl, wf⟩ := c1.int Try.underlying44
  obtain ⟨va, rfl, hva⟩ := u32_nat wf
  clear c1 wf
  have H1 := Lib.hid (fun w => pack_any ⟨p, q, m⟩ w)
  obtain ⟨x, hx, hx1, hx2, hx3⟩ := pack_nat ⟨p, q, m⟩
  have HU := Lib.hid (fun w => unpack_any x w hx1)
  obtain ⟨⟨y, f⟩, hr⟩ : ∃ r, packV ⟨p, q, m⟩ = r := ⟨_, rfl⟩
  rw [hr] at H1 hx hx2 hx3
  simp only at hx hx2 hx3
  subst hx
  clear hr
  have HX := Lib.hid hx2
  have HV := Lib.hid hva
  clear hx2 hx1 hva
  rcases hx3 with rfl | rfl
  · rw [HX.out rfl] at HU
    by_cases h : 1048576 ≤ va
    · have h' : (1048576 : Int) ≤ va := by omega
      have HS := Lib.hid (fun w => split_any va w HV.out)
      rw [show splitV va = (0, 0, 0, 1) by unfold splitV; rw [if_pos h]] at HS
      clear h
      go_enter Try.func7, Try.ntmps7
      go_wp2_with (first
        | (go_at_call 34; refine (H1.out _).mono ?_; rintro e w2 ⟨rfl, hg⟩; have HG1 := Lib.hid hg; have x0 := hg.cell (a := ⟨W.heap.size, 0, none⟩) (v := .bool p) (by simp [go_sem]) (by simp); have x1 := hg.cell (a := ⟨W.heap.size, 1, none⟩) (v := .bool q) (by simp [go_sem]) (by simp); have x2 := hg.cell (a := ⟨W.heap.size, 2, none⟩) (v := .int .i64 m) (by simp [go_sem]) (by simp); have hz : W.heap.size < w2.heap.size := (by have := hg.size; simp at this; omega); clear hg)
        | (go_at_call 35; refine (HU.out _).mono ?_; rintro e w3 ⟨rfl, hg⟩; have HG2 := Lib.hid hg; have y0 := hg.cell x0 (by simp); have y1 := hg.cell x1 (by simp); have y2 := hg.cell x2 (by simp); have hz3 := Nat.lt_of_lt_of_le hz hg.size; clear hg x0 x1 x2; simp only [Ent.val])
        | (go_at_call 36; refine (HS.out _).mono ?_; rintro e w4 ⟨rfl, rfl⟩; simp only [split4]))
      go_ret
      exact ⟨rfl, (World.grownBy_alloc _ _ _).trans (HG1.out.trans (HG2.out.trans (World.grownBy_alloc _ _ _)))⟩
    · have h' : ¬ (1048576 : Int) ≤ va := by omega
      have HS := Lib.hid (fun w => split_any va w HV.out)
      rw [show splitV va = (va / 16384, va / 256 % 64, va % 256, 0) by unfold splitV; rw [if_neg h]] at HS
      have HJ := Lib.hid (fun w => (join_yes (va / 16384) (va / 256 % 64) (va % 256) w (by omega) (by omega) (by omega)).mono fun e w' hh => (⟨by rw [hh.1, back va (by omega)], hh.2⟩ : e = .returned (.tuple #[.int .u32 (va : Int), .int .i64 0]) ∧ w = w'))
      clear h
      obtain ⟨a, ha⟩ : ∃ a, va / 16384 = a := ⟨_, rfl⟩
      obtain ⟨b, hb⟩ : ∃ a, va / 256 % 64 = a := ⟨_, rfl⟩
      obtain ⟨c, hc⟩ : ∃ a, va % 256 = a := ⟨_, rfl⟩
      rw [ha, hb, hc] at HS HJ
      clear ha hb hc
      go_enter Try.func7, Try.ntmps7
      go_wp2_with (first
        | (go_at_call 34; refine (H1.out _).mono ?_; rintro e w2 ⟨rfl, hg⟩; have HG1 := Lib.hid hg; have x0 := hg.cell (a := ⟨W.heap.size, 0, none⟩) (v := .bool p) (by simp [go_sem]) (by simp); have x1 := hg.cell (a := ⟨W.heap.size, 1, none⟩) (v := .bool q) (by simp [go_sem]) (by simp); have x2 := hg.cell (a := ⟨W.heap.size, 2, none⟩) (v := .int .i64 m) (by simp [go_sem]) (by simp); have hz : W.heap.size < w2.heap.size := (by have := hg.size; simp at this; omega); clear hg)
        | (go_at_call 35; refine (HU.out _).mono ?_; rintro e w3 ⟨rfl, hg⟩; have HG2 := Lib.hid hg; have y0 := hg.cell x0 (by simp); have y1 := hg.cell x1 (by simp); have y2 := hg.cell x2 (by simp); have hz3 := Nat.lt_of_lt_of_le hz hg.size; clear hg x0 x1 x2; simp only [Ent.val])
        | (go_at_call 36; refine (HS.out _).mono ?_; rintro e w4 ⟨rfl, rfl⟩; simp only [split4])
        | (go_at_call 37; refine (HJ.out _).mono ?_; rintro e w5 ⟨rfl, rfl⟩)
        | (go_at_call 28; refine (pAwake _).mono ?_; rintro e w6 ⟨rfl, hg⟩; have HG3 := Lib.hid hg; clear hg))
      go_ret
      exact ⟨rfl, (World.grownBy_alloc _ _ _).trans (HG1.out.trans (HG2.out.trans ((World.grownBy_alloc _ _ _).trans HG3.out)))⟩
  · by_cases h : 1048576 ≤ va
    · have h' : (1048576 : Int) ≤ va := by omega
      have HS := Lib.hid (fun w => split_any va w HV.out)
      rw [show splitV va = (0, 0, 0, 1) by unfold splitV; rw [if_pos h]] at HS
      clear h
      go_enter Try.func7, Try.ntmps7
      go_wp2_with (first
        | (go_at_call 34; refine (H1.out _).mono ?_; rintro e w2 ⟨rfl, hg⟩; have HG1 := Lib.hid hg; clear hg)
        | (go_at_call 36; refine (HS.out _).mono ?_; rintro e w4 ⟨rfl, rfl⟩; simp only [split4]))
      go_ret
      exact ⟨rfl, (World.grownBy_alloc _ _ _).trans HG1.out⟩
    · have h' : ¬ (1048576 : Int) ≤ va := by omega
      have HS := Lib.hid (fun w => split_any va w HV.out)
      rw [show splitV va = (va / 16384, va / 256 % 64, va % 256, 0) by unfold splitV; rw [if_neg h]] at HS
      have HJ := Lib.hid (fun w => (join_yes (va / 16384) (va / 256 % 64) (va % 256) w (by omega) (by omega) (by omega)).mono fun e w' hh => (⟨by rw [hh.1, back va (by omega)], hh.2⟩ : e = .returned (.tuple #[.int .u32 (va : Int), .int .i64 0]) ∧ w = w'))
      clear h
      obtain ⟨a, ha⟩ : ∃ a, va / 16384 = a := ⟨_, rfl⟩
      obtain ⟨b, hb⟩ : ∃ a, va / 256 % 64 = a := ⟨_, rfl⟩
      obtain ⟨c, hc⟩ : ∃ a, va % 256 = a := ⟨_, rfl⟩
      rw [ha, hb, hc] at HS HJ
      clear ha hb hc
      go_enter Try.func7, Try.ntmps7
      go_wp2_with (first
        | (go_at_call 34; refine (H1.out _).mono ?_; rintro e w2 ⟨rfl, hg⟩; have HG1 := Lib.hid hg; clear hg)
        | (go_at_call 36; refine (HS.out _).mono ?_; rintro e w4 ⟨rfl, rfl⟩; simp only [split4])
        | (go_at_call 37; refine (HJ.out _).mono ?_; rintro e w5 ⟨rfl, rfl⟩)
        | (go_at_call 28; refine (pAwake _).mono ?_; rintro e w6 ⟨rfl, hg⟩; have HG3 := Lib.hid hg; clear hg))
      go_ret
      exact ⟨rfl, (World.grownBy_alloc _ _ _).trans (HG1.out.trans HG3.out)⟩

theorem own : ownKnob Try.prog.godebug = none := by kernel_rfl
theorem laidOut : laidOutB Try.prog = true := by kernel_rfl

set_option maxRecDepth 100000 in
theorem lifted (os : Os) (started : os.Started) (H : Type) (enc : TypeId × Value → H) :
    ReturnsInHanded {} Try.checked os 7 .any (Rows.pteBackSpec.pre6 enc Try.prog Try.f7 Rows.pteBackRow.domain false) (Rows.pteBackSpec.post enc Try.prog Try.f7 false true false false) := by
  refine returnsInHanded_of_change_sized (C := Try.checked) own started (by kernel_rfl) Try.func7
    (ChangeSpec.witness6 (enc := enc) (C := Try.checked) false ⟨#[], #[.agg #[.bool false, .bool false, .int .i64 0], .int .u32 0], []⟩ 8 (by kernel_rfl) (by kernel_rfl) (by kernel_rfl) (by kernel_rfl)) ?_
  intro W base args ds gs before hval0 hW _ hsz0 _
  have hsz : (DataW.weightsEach Try.prog (Try.f7.params.toList ++ Rows.pteBackSpec.plain.varTypes Try.prog) (ds ++ gs)).all (· ≤ reachBytes) = true := hsz0
  clear hsz0
  have hval : ∀ (j : Nat) t v, Try.f7.params[j]? = some t → args[j]? = some v → Value.okWide Try.prog W .any base t v := hval0
  have hW' := hW
  obtain ⟨p, q, hA0, hV, rfl, hfz, hnd⟩ := hW
  have hA : DataW.TrodAll enc Try.prog W 0 (fun _ => true) true Try.f7.params.toList args.toList ds p := hA0
  rw [Try.params7] at hA hval hsz
  obtain ⟨v0, vs0, d0, ds0, p0, q0, hargs, rfl, rfl, h0, r0⟩ := trodAll_cons hA
  obtain ⟨v1, vs1, d1, ds1, p1, q1, rfl, rfl, rfl, h1, r1⟩ := trodAll_cons r0
  obtain ⟨rfl, rfl, rfl⟩ := trodAll_nil r1
  obtain rfl : args = #[v0, v1] := by cases args; simp_all
  obtain ⟨rfl, rfl⟩ := trodVars_none hV
  obtain ⟨x0a, x0b, x0c, y0a, y0b, y0c, m0, rfl, hd0, hp0, hy0a, hy0b, hy0c⟩ := Joins.open_agg3 Try.underlying69 (by kernel_rfl) (by kernel_rfl) (hval 0 69 v0 rfl rfl) h0
  obtain ⟨f0a, e0a, rfl⟩ := DataW.trod_bool Try.underlying4 hy0a
  simp only [List.cons.injEq, and_true] at e0a
  subst e0a
  obtain ⟨f0b, e0b, rfl⟩ := DataW.trod_bool Try.underlying4 hy0b
  simp only [List.cons.injEq, and_true] at e0b
  subst e0b
  obtain ⟨f0c, e0c, rfl, w0c⟩ := DataW.trod_int Try.underlying3 hy0c
  simp only [List.cons.injEq, and_true] at e0c
  subst e0c
  have k0 := h0
  have lt0 : ∀ x ∈ p0, x.block < W.heap.size := by obtain ⟨m, hm⟩ := k0; exact DataW.trod_lt m _ _ _ hm
  obtain ⟨a1, rfl, rfl, rfl, w1⟩ := open_int Try.underlying44 (hval 1 44 v1 rfl rfl) h1
  have k1 := h1
  have lt1 : ∀ x ∈ ([] : List MemPlace), x.block < W.heap.size := by obtain ⟨m, hm⟩ := k1; exact DataW.trod_lt m _ _ _ hm
  have c1 : Flat.Came enc Try.prog W 0 (fun _ => true) true 44 (.int .u32 a1) := by
    obtain ⟨fuel, hf⟩ := h1
    exact ⟨fuel, _, hf, fun n hn => by
      have := List.all_eq_true.1 hsz n (DataW.weights_mem_each (j := 1) rfl rfl n hn)
      simpa using this⟩
  clear hA0 hval0
  refine (main f0a f0b f0c (.int .u32 a1) W c1).mono fun e W' ⟨he, hg⟩ => ?_
  subst he
  have bel := below_grown' hg
  simp only [List.append_nil, List.nil_append] at hW'
  exact ⟨_, rfl, _, _, _, [], _, [], hW', trodAll_mk1 (shut_bool Try.underlying4 _), (trodAll_cons_mk (Below.trod laidOut (by kernel_rfl) (of_decide_eq_true (by kernel_rfl)) k0 bel lt0) (trodAll_cons_mk (Below.trod laidOut (by kernel_rfl) (of_decide_eq_true (by kernel_rfl)) k1 bel lt1) trodAll_mk0)), rfl, bel.frame _, fun h => by cases h⟩

theorem proved : Rows.PteBackSaid :=
  OpenClaim.holds_of_wide 7 Try.f7 rfl rfl rfl rfl rfl rfl rfl ⟨rfl, rfl, rfl, rfl, rfl⟩ rfl rfl rfl rfl rfl (by kernel_rfl) Try.func7 (by kernel_rfl)
    (of_decide_eq_true (by kernel_rfl)) (by unfold Func.isWrapper; first | (rw [if_pos (by decide +kernel)]; kernel_rfl) | (rw [if_neg (by decide +kernel)]; exact ⟨rfl, rfl⟩))
    (fun os started H enc _ => lifted os started H enc)
#print axioms proved

end Go.Proofs.Ytdjhkacjgdnglaa.lawPteBack
