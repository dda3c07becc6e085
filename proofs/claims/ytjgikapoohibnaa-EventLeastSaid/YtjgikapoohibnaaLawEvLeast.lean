/-
  EventLeast: for every script of calls and every two bytes the law returns true, and what was there stays. No condition.
-/
import Derived.Test.YtjgikapoohibnaaEvV
import Derived.Test.YtjgikapoohibnaaLift
import Derived.ProofKit
import Derived.OpenShut
import Derived.Deep.RegionWith
set_option linter.unusedSimpArgs false
set_option linter.unusedVariables false
namespace Go.Proofs.Ytjgikapoohibnaa.lawEvLeast
open Go.ChangeShapes Go.WideShapes Go.ChangeAt Go.RowKit Gen
set_option maxHeartbeats 4000000

theorem portR_yes (S : Ev) {d n : Nat} (hd : d < 8) (hn : n < 32) : portR S d n = (S.pt d n, 0) := by
  simp [portR, edOk_yes hd, epOk_yes hn]
theorem alloc_yes (S : Ev) {d r : Nat} (hd : d < 8) (hr : r < 8) (hl : least (isFree S d) < 32) : allocE S d r = (((least (isFree S d) : Nat) : Int), 0, S.upd d (least (isFree S d)) ⟨1, r, 0, 0, false, false⟩) := by
  simp [allocE, edOk_yes hd, edOk_yes hr, takeE, hl]
theorem alloc_no (S : Ev) {d r : Nat} (hd : d < 8) (hr : r < 8) (hl : ¬ least (isFree S d) < 32) : allocE S d r = (0, 71, S) := by
  simp [allocE, edOk_yes hd, edOk_yes hr, takeE, hl]
set_option maxRecDepth 100000 in
theorem walk (po : Option Addr) (co : Nat) (os : List EOp) (d v : Nat) (hd : d < 256) (hv : v < 256) (w : World) (ho : EOpsIn w po os) (hos : os.length ≤ 140737488355328) :
    Calls Try.prog 8 #[.slice po os.length co, .int .u8 d, .int .u8 v] w fun e w' => e = .returned (.bool true) ∧ w.grownBy w' none := by
  have HO := hid ho; have HOs := hid hos
  obtain ⟨D, hD⟩ : ∃ D : Nat, (d : Int) % 8 = D := ⟨d % 8, by omega⟩
  obtain ⟨V, hV⟩ : ∃ V : Nat, (v : Int) % 8 = V := ⟨v % 8, by omega⟩
  have HD8 := hid (show D < 8 by omega)
  have HV8 := hid (show V < 8 by omega)
  clear ho hos
  go_enter Try.func8, Try.ntmps8
  go_wp2_with (first
    | (go_at_call 9; refine (eNew _).mono ?_; rintro e w1 ⟨X, rfl, h1, g1, f1⟩; have H1 := hid h1; have G1 := hid g1; have F1 := hid f1; clear h1 g1 f1)
    | (go_at_call 10; refine (rNew _).mono ?_; rintro e w2 ⟨Y, L, rfl, h2, g2, f2⟩; have HE := hid (eStart H1.out G1.out F1.out h2 g2 f2); clear h2 g2 f2))
  go_loopw [9] (fun i wr => ∃ k : Nat, i = .int .i64 k ∧ k ≤ os.length ∧ EB w wr X Y (runE os k) L) (fun i _ => os.length - (intOf i).toNat)
  case atStart => exact ⟨0, rfl, by omega, HE.out⟩
  case round =>
    clear HE
    obtain ⟨k, rfl, hk, he⟩ := hrel
    have HE := hid he
    clear he
    have hk0 : (0 : Int) ≤ k := by omega
    by_cases hlt : k < os.length
    · have hlt' : (k : Int) < os.length := by omega
      obtain ⟨b', off, rfl, hb', d0, d1, d2, d3, d4⟩ := HO.out k hlt
      have HSt := hid (runE_succ os k hlt)
      have gw := HE.out.g
      have k0 := gw.cell d0 (by simp); have k1 := gw.cell d1 (by simp); have k2 := gw.cell d2 (by simp); have k3 := gw.cell d3 (by simp); have k4 := gw.cell d4 (by simp)
      have hj2 := HOs.out
      clear d0 d1 d2 d3 d4 gw
      generalize os[k] = r at *
      go_wp2_with (go_at_call 11; refine (ePlay w _ X Y r _ L HE.out).mono ?_; rintro e w3 ⟨rfl, h3⟩; have H3 := hid h3; clear h3)
      go_roundw
      case rel => exact ⟨k + 1, by go_num, by omega, by rw [HSt.out]; exact H3.out⟩
      case measure => simp [intOf]; omega
    · obtain rfl : k = os.length := by omega
      have hge : (os.length : Int) ≤ os.length := by omega
      obtain ⟨S, hS⟩ : ∃ S, runE os os.length = S := ⟨_, rfl⟩
      rw [hS] at HE
      clear hS
      go_wp2
      have HDe := hid hD; have HVe := hid hV
      clear hD hV
      go_loopw [11, 12] (fun l i wr => ∃ j : Nat, l = .int .i64 (downE (isFree S D) j) ∧ i = .int .i64 ((j : Int) - 1) ∧ j ≤ 32 ∧ EB w wr X Y S L) (fun _ i _ => (intOf i + 1).toNat)
      case atStart => exact ⟨32, by rw [downE_top], rfl, by omega, HE.out⟩
      case round =>
        clear HE
        obtain ⟨j, rfl, rfl, hj, he⟩ := hrel
        have HE := hid he
        clear he
        by_cases h1 : 1 ≤ j
        · obtain ⟨m, rfl⟩ : ∃ m, j = m + 1 := ⟨j - 1, by omega⟩
          have e1 : ((m + 1 : Nat) : Int) - 1 = m := by omega
          rw [e1]
          have hm0 : (0 : Int) ≤ m := by omega
          have hm32 : m < 32 := by omega
          have hP := ePort X D m _ S HE.out.x
          rw [portR_yes S HD8.out hm32] at hP
          simp only [Prt.val] at hP
          have HP := hid hP
          have hds := downE_step (isFree S D) m hm32
          by_cases hk : (S.pt D m).k = 0
          · rw [show isFree S D m = true by simp [isFree, hk], if_pos rfl] at hds
            have HDs := hid hds
            rw [hk] at hP HP
            clear hP hk e1 hds
            generalize (S.pt D m).r = q1 at *
            generalize (S.pt D m).p = q2 at *
            generalize (S.pt D m).v = q3 at *
            generalize (S.pt D m).pe = q4 at *
            generalize (S.pt D m).ma = q5 at *
            go_wp2_with (go_at_call 14; refine HP.out.mono ?_; rintro e w4 ⟨rfl, g4⟩; have HE4 := hid ((HE.out.more g4).more (World.grownBy_alloc w4 (.cells #[.int .i64 0, .int .i64 q1, .int .i64 q2, .int .i64 q3, .bool q4, .bool q5] 35) none)); clear g4)
            go_roundw
            case rel => exact ⟨m, by rw [HDs.out], rfl, by omega, HE4.out⟩
            case measure => simp [intOf]
          · rw [show isFree S D m = false by simp [isFree, hk], if_neg Bool.false_ne_true] at hds
            have HDs := hid hds
            have hkb : ((S.pt D m).k == 0) = false := by simp [hk]
            clear hP hk e1 hds
            generalize (S.pt D m).k = q0 at *
            generalize (S.pt D m).r = q1 at *
            generalize (S.pt D m).p = q2 at *
            generalize (S.pt D m).v = q3 at *
            generalize (S.pt D m).pe = q4 at *
            generalize (S.pt D m).ma = q5 at *
            go_wp2_with (go_at_call 14; refine HP.out.mono ?_; rintro e w4 ⟨rfl, g4⟩; have HE4 := hid ((HE.out.more g4).more (World.grownBy_alloc w4 (.cells #[.int .i64 q0, .int .i64 q1, .int .i64 q2, .int .i64 q3, .bool q4, .bool q5] 35) none)); clear g4)
            go_roundw
            case rel => exact ⟨m, by rw [HDs.out], rfl, by omega, HE4.out⟩
            case measure => simp [intOf]
        · obtain rfl : j = 0 := by omega
          have hlt0 : ((0 : Nat) : Int) - 1 < 0 := by omega
          rw [downE_zero]
          have hD := HDe.out; have hV := HVe.out
          by_cases hl : least (isFree S D) < 32
          · rw [if_pos hl]
            have hA := eAlloc X D V _ S HE.out.x
            rw [alloc_yes S HD8.out HV8.out hl] at hA
            have HA := hid hA
            have hl0 : (0 : Int) ≤ (least (isFree S D) : Nat) := by omega
            have hP := fun W (h : EvAt W X (S.upd D (least (isFree S D)) ⟨1, V, 0, 0, false, false⟩)) => ePort X D (least (isFree S D)) W _ h
            simp only [portR_yes _ HD8.out hl, Ev.upd_same, Prt.val] at hP
            have HP := hid hP
            have hq := fun w => port_eql ⟨1, V, 0, 0, false, false⟩ w
            simp only [Prt.val] at hq
            clear hA hP
            generalize least (isFree S D) = n at *
            go_wp2_with (first
              | (go_at_call 18; refine HA.out.mono ?_; rintro e w4 ⟨rfl, h4⟩; have H4 := hid (HE.out.one h4); clear h4)
              | (go_at_call 14; refine (HP.out _ H4.out.x).mono ?_; rintro e w5 ⟨rfl, g5⟩; have H5 := hid ((H4.out.g.trans g5).trans (World.grownBy_alloc w5 (.cells #[.int .i64 1, .int .i64 V, .int .i64 0, .int .i64 0, .bool false, .bool false] 35) none)); clear g5)
              | (go_at_call 13; refine (eAwake _).mono ?_; rintro e w6 ⟨rfl, g6⟩; have HG := hid (H5.out.trans g6); clear g6))
            go_ret
            exact ⟨rfl, HG.out⟩
          · rw [if_neg hl]
            have hA := eAlloc X D V _ S HE.out.x
            rw [alloc_no S HD8.out HV8.out hl] at hA
            have HA := hid hA
            clear hA hl
            go_wp2_with (first
              | (go_at_call 18; refine HA.out.mono ?_; rintro e w4 ⟨rfl, h4⟩; have H4 := hid (HE.out.one h4); clear h4)
              | (go_at_call 13; refine (eAwake _).mono ?_; rintro e w6 ⟨rfl, g6⟩; have HG := hid (H4.out.g.trans g6); clear g6))
            go_ret
            exact ⟨rfl, HG.out⟩
theorem u8_nat {n : Int} (h : (Lit.int .u8 n).wf = true) : ∃ k : Nat, n = k ∧ k < 256 := by
  simp only [Lit.wf, Bool.and_eq_true, decide_eq_true_eq] at h
  have h1 : IntKind.u8.min = 0 := rfl
  have h2 : IntKind.u8.max = 255 := rfl
  rw [h1, h2] at h
  exact ⟨n.toNat, by omega, by omega⟩
theorem main {H : Type} {enc : TypeId × Value → H} (v0 v1 v2 : Value) (W : World) (c0 : Flat.Came enc Try.prog W 0 (fun _ => true) true 22 v0) (c1 : Flat.Came enc Try.prog W 0 (fun _ => true) true 5 v1) (c2 : Flat.Came enc Try.prog W 0 (fun _ => true) true 5 v2) :
    Calls Try.prog 8 #[v0, v1, v2] W fun e w' => e = .returned (.bool true) ∧ W.grownBy w' none := by
  obtain ⟨po, os, co, rfl, hos, ho⟩ := open_eops c0
  obtain ⟨a, rfl, wa⟩ := c1.int Try.underlying5
  obtain ⟨b, rfl, wb⟩ := c2.int Try.underlying5
  obtain ⟨d, rfl, hd⟩ := u8_nat wa
  obtain ⟨v, rfl, hv⟩ := u8_nat wb
  exact walk po co os d v hd hv W ho hos
theorem own : ownKnob Try.prog.godebug = none := by kernel_rfl
theorem laidOut : laidOutB Try.prog = true := by kernel_rfl

set_option maxRecDepth 100000 in
theorem lifted (os : Os) (started : os.Started) (H : Type) (enc : TypeId × Value → H) :
    ReturnsInHanded {} Try.checked os 8 .any (Rows.eventLeastSpec.pre6 enc Try.prog Try.f8 Rows.eventLeastRow.domain false) (Rows.eventLeastSpec.post enc Try.prog Try.f8 false true false false) := by
  refine returnsInHanded_of_change_sized (C := Try.checked) own started (by kernel_rfl) Try.func8
    (ChangeSpec.witness6 (enc := enc) (C := Try.checked) false ⟨#[], #[.slice none 0 0, .int .u8 0, .int .u8 0], []⟩ 8 (by kernel_rfl) (by kernel_rfl) (by kernel_rfl) (by kernel_rfl)) ?_
  intro W base args ds gs before hval0 hW _ hsz0 _
  have hsz : (DataW.weightsEach Try.prog (Try.f8.params.toList ++ Rows.eventLeastSpec.plain.varTypes Try.prog) (ds ++ gs)).all (· ≤ reachBytes) = true := hsz0
  clear hsz0
  have hval : ∀ (j : Nat) t v, Try.f8.params[j]? = some t → args[j]? = some v → Value.okWide Try.prog W .any base t v := hval0
  have hW' := hW
  obtain ⟨p, q, hA0, hV, rfl, hfz, hnd⟩ := hW
  have hA : DataW.TrodAll enc Try.prog W 0 (fun _ => true) true Try.f8.params.toList args.toList ds p := hA0
  rw [Try.params8] at hA hval hsz
  obtain ⟨v0, vs0, d0, ds0, p0, q0, hargs, rfl, rfl, h0, r0⟩ := trodAll_cons hA
  obtain ⟨v1, vs1, d1, ds1, p1, q1, rfl, rfl, rfl, h1, r1⟩ := trodAll_cons r0
  obtain ⟨v2, vs2, d2, ds2, p2, q2, rfl, rfl, rfl, h2, r2⟩ := trodAll_cons r1
  obtain ⟨rfl, rfl, rfl⟩ := trodAll_nil r2
  obtain rfl : args = #[v0, v1, v2] := by cases args; simp_all
  obtain ⟨rfl, rfl⟩ := trodVars_none hV
  obtain ⟨ps0, ln0, cp0, rfl⟩ := okWide_slice Try.underlying22 (hval 0 22 v0 rfl rfl)
  have k0 := h0
  have lt0 : ∀ x ∈ p0, x.block < W.heap.size := by obtain ⟨m, hm⟩ := k0; exact DataW.trod_lt m _ _ _ hm
  have c0 : Flat.Came enc Try.prog W 0 (fun _ => true) true 22 (.slice ps0 ln0 cp0) := by
    obtain ⟨fuel, hf⟩ := h0
    exact ⟨fuel, _, hf, fun n hn => by
      have := List.all_eq_true.1 hsz n (DataW.weights_mem_each (j := 0) rfl rfl n hn)
      simpa using this⟩
  obtain ⟨a1, rfl, rfl, rfl, w1⟩ := open_int Try.underlying5 (hval 1 5 v1 rfl rfl) h1
  have k1 := h1
  have lt1 : ∀ x ∈ ([] : List MemPlace), x.block < W.heap.size := by obtain ⟨m, hm⟩ := k1; exact DataW.trod_lt m _ _ _ hm
  have c1 : Flat.Came enc Try.prog W 0 (fun _ => true) true 5 (.int .u8 a1) := by
    obtain ⟨fuel, hf⟩ := h1
    exact ⟨fuel, _, hf, fun n hn => by
      have := List.all_eq_true.1 hsz n (DataW.weights_mem_each (j := 1) rfl rfl n hn)
      simpa using this⟩
  obtain ⟨a2, rfl, rfl, rfl, w2⟩ := open_int Try.underlying5 (hval 2 5 v2 rfl rfl) h2
  have k2 := h2
  have lt2 : ∀ x ∈ ([] : List MemPlace), x.block < W.heap.size := by obtain ⟨m, hm⟩ := k2; exact DataW.trod_lt m _ _ _ hm
  have c2 : Flat.Came enc Try.prog W 0 (fun _ => true) true 5 (.int .u8 a2) := by
    obtain ⟨fuel, hf⟩ := h2
    exact ⟨fuel, _, hf, fun n hn => by
      have := List.all_eq_true.1 hsz n (DataW.weights_mem_each (j := 2) rfl rfl n hn)
      simpa using this⟩
  clear hA0 hval0
  refine (main (.slice ps0 ln0 cp0) (.int .u8 a1) (.int .u8 a2) W c0 c1 c2).mono fun e W' ⟨he, hg⟩ => ?_
  subst he
  have bel := below_grown' hg
  simp only [List.append_nil, List.nil_append] at hW'
  exact ⟨_, rfl, _, _, _, [], _, [], hW', trodAll_mk1 (shut_bool Try.underlying4 _), (trodAll_cons_mk (Below.trod laidOut (by kernel_rfl) (of_decide_eq_true (by kernel_rfl)) k0 bel lt0) (trodAll_cons_mk (Below.trod laidOut (by kernel_rfl) (of_decide_eq_true (by kernel_rfl)) k1 bel lt1) (trodAll_cons_mk (Below.trod laidOut (by kernel_rfl) (of_decide_eq_true (by kernel_rfl)) k2 bel lt2) trodAll_mk0))), rfl, bel.frame _, fun h => by cases h⟩

theorem proved : Rows.EventLeastSaid :=
  OpenClaim.holds_of_wide 8 Try.f8 rfl rfl rfl rfl rfl rfl rfl ⟨rfl, rfl, rfl, rfl, rfl⟩ rfl rfl rfl rfl rfl (by kernel_rfl) Try.func8 (by kernel_rfl)
    (of_decide_eq_true (by kernel_rfl)) (by unfold Func.isWrapper; first | (rw [if_pos (by decide +kernel)]; kernel_rfl) | (rw [if_neg (by decide +kernel)]; exact ⟨rfl, rfl⟩))
    (fun os started H enc _ => lifted os started H enc)
#print axioms proved
end Go.Proofs.Ytjgikapoohibnaa.lawEvLeast
