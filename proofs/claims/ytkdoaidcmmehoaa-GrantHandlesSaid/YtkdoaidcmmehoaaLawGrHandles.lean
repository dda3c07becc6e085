/-
  GrantHandles: for every row of bytes the law returns true, and what was there stays. No condition.
-/
import Derived.Test.YtkdoaidcmmehoaaJ5
import Derived.Test.YtkdoaidcmmehoaaJ4
import Derived.Test.YtkdoaidcmmehoaaLift
import Derived.Test.YtkdoaidcmmehoaaOpen
import Derived.Test.YtkdoaidcmmehoaaRows
import Derived.Test.YtkdoaidcmmehoaaBytesIn
import Derived.ProofKit
import Derived.OpenShut
set_option linter.unusedSimpArgs false
set_option linter.unusedVariables false
namespace Go.Proofs.Ytkdoaidcmmehoaa.lawGrHandles
open Go.ChangeShapes Go.WideShapes Go.ChangeAt Go.RowKit KM
set_option maxHeartbeats 4000000
set_option maxRecDepth 100000

theorem bytes_at {w : World} {pa : Option Addr} {l : List UInt8} (h : InBytes w pa l) {i : Nat} (hi : i < l.length) : ∃ b o, pa = some ⟨b, o, none⟩ ∧ w.cell? ⟨b, o + i, none⟩ = some (.int .u8 l[i].toNat) := by
  obtain ⟨b, o, e, hc⟩ := (BG.of_in h) i hi
  refine ⟨b, o, e, ?_⟩
  rw [hc]
  simp [List.getD, List.getElem?_eq_getElem hi]
theorem walk (pa : Option Addr) (cap : Nat) (l : List UInt8) (w : World) (hin : InBytes w pa l) (hl : l.length ≤ 140737488351232) :
    Calls Try.prog 12 #[.slice pa l.length cap] w fun e w' => e = .returned (.bool true) ∧ w.grownBy w' none := by
  have HIn := hid hin
  have HLn := hid hl
  clear hin hl
  have HB := hid (begin_nil w)
  go_enter Try.func12, Try.ntmps12
  go_wp2_with (first
    | (go_at_call 42; (with_reducible refine HB.out.mono ?_); rintro e w1 ⟨t, X, B, G, pm, Y, R, D, c, qb, ql, L, vp, vq, rfl, ho⟩; have HO1 := hid ho; clear ho)
    | (go_at_call 43; refine (show Calls _ _ #[.pointer (some ⟨t, 0, none⟩), .agg #[.int .i64 0, .int .i64 1, .int .i64 1, .bool false, .bool false, .int .i64 1, .int .i64 1, .int .i64 0, .int .i64 256, .int .u8 0]] _ _ from lay_any HO1.out (bst_ok 3) eH).mono ?_; rintro e w2 ⟨rfl, L2, h2⟩; have HW2 := hid h2.wt; clear h2; have c0 := HW2.out.c0)
    | (go_at_call 23; (with_reducible refine (HW2.out.newView HS.start.ok.n1).mono ?_); rintro e w3 ⟨V, Gv, S, rfl, h3⟩; have HV3 := hid h3; clear h3))
  clear HB HO1 HW2 c0
  go_loopw [7] (fun i wr => ∃ (k : Nat) (s : Gs), i = .int .i64 k ∧ k ≤ 16 ∧ WV w wr t X B G pm s (12 + k) V Gv S k ∧ HS s (3 + (k : Int)) (fun h => decide (h < k))) (fun i _ => 16 - (intOf i).toNat)
  case atStart => exact ⟨0, _, rfl, by omega, HV3.out, HS.start.congr fun j _ => by simp⟩
  case round =>
    obtain ⟨k, s, rfl, hk, hv, hs⟩ := hrel
    have HV4 := hid hv
    have HS4 := hid hs
    have c1 := hv.wt.c1
    clear hv hs HV3
    have hk0 : (0 : Int) ≤ k := by omega
    by_cases hlt : k < 16
    · have hlt' : (k : Int) < 16 := by omega
      go_wp2_with (go_at_call 44; (with_reducible refine (HV4.out.mapH HS4.out (by omega) (by unfold maxLen; omega) (by omega) hlt (fun j hj => by simpa using hj) (by simp) _).mono ?_); rintro e w4 ⟨rfl, h5⟩; have HV5 := hid h5; clear h5)
      go_roundw
      case rel => exact ⟨k + 1, _, by go_num, by omega, HV5.out, ((HS4.out.map hlt _).mono (by omega)).congr fun j hj => by unfold live1; by_cases e : j = k <;> simp [e] <;> omega⟩
      case measure => simp [intOf]; omega
    · obtain rfl : k = 16 := by omega
      have hs16 : HS s 19 (fun _ => true) := (HS4.out.mono (by omega)).congr fun j hj => by simp; omega
      have HS6 := hid hs16
      clear hs16 HS4 hlt hk hk0
      go_wp2_with (go_at_call 44; (with_reducible refine (HV4.out.fullH HS6.out (fun _ _ => rfl)).mono ?_); rintro e w5 ⟨rfl, h6⟩; have HV6 := hid h6; clear h6)
      obtain ⟨wz, hwz⟩ : ∃ x, x = wr := ⟨_, rfl⟩
      subst hwz
      clear c1 HV4
      go_loopw [12] (fun i wr => ∃ (k : Nat) (s : Gs), i = .int .i64 k ∧ k ≤ l.length ∧ WV w wr t X B G pm s (28 + k) V Gv S (16 + k) ∧ HS s (19 + (k : Int)) (fun _ => true)) (fun i _ => l.length - (intOf i).toNat)
      case atStart => exact ⟨0, _, rfl, by omega, HV6.out, HS6.out⟩
      case round =>
        obtain ⟨k, s, rfl, hk, hv, hs⟩ := hrel
        have HV7 := hid hv
        have HS7 := hid hs
        have c1 := hv.wt.c1
        have hlen := HLn.out
        clear hs HV6 HS6
        have hk0 : (0 : Int) ≤ k := by omega
        by_cases hlt : k < l.length
        · have hlt' : (k : Int) < l.length := by omega
          obtain ⟨b, o, rfl, hc⟩ := bytes_at HIn.out hlt
          have hc' := hv.wt.g.cell hc (by simp)
          have hx := UInt8.toNat_lt l[k]
          generalize l[k].toNat = x at *
          obtain ⟨q, hq, hq16⟩ : ∃ q : Nat, (x : Int) % 16 = q ∧ q < 16 := ⟨x % 16, by omega, by omega⟩
          clear hc hv
          go_wp2_with (first
            | (go_at_call 51; (with_reducible refine (HV7.out.unmapH HS7.out (by omega) hq16 rfl).mono ?_); rintro e w6 ⟨rfl, h8⟩; have HV8 := hid h8; have HS8 := hid (HS7.out.unmap hq16 rfl).2; have c8 := HV8.out.wt.c1; clear h8)
            | (go_at_call 44; (with_reducible refine (HV8.out.mapH HS8.out (by omega) (by unfold maxLen; omega) (by omega) hq16 (fun j hj => by unfold live1; rw [if_neg (by omega)]) (by unfold live1; rw [if_pos rfl]) _).mono ?_); rintro e w7 ⟨rfl, h9⟩; have HV9 := hid h9; clear h9))
          go_roundw
          case rel => exact ⟨k + 1, _, by go_num, by omega, HV9.out, ((HS8.out.map hq16 _).mono (by omega)).congr fun j hj => by unfold live1; by_cases e : j = q <;> simp [e]⟩
          case measure => simp [intOf]; omega
        · obtain rfl : k = l.length := by omega
          have hge : ¬ ((l.length : Int) < l.length) := by omega
          go_wp2_with (first
            | (go_at_call 62; (with_reducible refine (HV7.out.mapsH HS7.out (fun _ _ => rfl)).mono ?_); rintro e w6 ⟨p, cc, rfl, h8⟩; have HV8 := hid h8; have c8 := HV8.out.wt.c1; clear h8)
            | (go_at_call 50; (with_reducible refine (HV8.out.foreignH HS7.out (fun _ _ => rfl)).mono ?_); rintro e w7 ⟨rfl, h9⟩; have HV9 := hid h9; clear h9))
          go_ret
          exact ⟨rfl, HV9.out.wt.g⟩
theorem main {H : Type} {enc : TypeId × Value → H} (v0 : Value) (W : World) (c0 : Flat.Came enc Try.prog W 0 (fun _ => true) true 31 v0) :
    Calls Try.prog 12 #[v0] W fun e w' => e = .returned (.bool true) ∧ W.grownBy w' none := by
  obtain ⟨pa, l, cap, rfl, hin, hl⟩ := came_bytes c0
  exact walk pa cap l W hin hl

theorem own : ownKnob Try.prog.godebug = none := by kernel_rfl
theorem laidOut : laidOutB Try.prog = true := by kernel_rfl

set_option maxRecDepth 100000 in
theorem lifted (os : Os) (started : os.Started) (H : Type) (enc : TypeId × Value → H) :
    ReturnsInHanded {} Try.checked os 12 .any (Rows.grantHandlesSpec.pre6 enc Try.prog Try.f12 Rows.grantHandlesRow.domain false) (Rows.grantHandlesSpec.post enc Try.prog Try.f12 false true false false) := by
  refine returnsInHanded_of_change_sized (C := Try.checked) own started (by kernel_rfl) Try.func12
    (ChangeSpec.witness6 (enc := enc) (C := Try.checked) false ⟨#[], #[.slice none 0 0], []⟩ 8 (by kernel_rfl) (by kernel_rfl) (by kernel_rfl) (by kernel_rfl)) ?_
  intro W base args ds gs before hval0 hW _ hsz0 _
  have hsz : (DataW.weightsEach Try.prog (Try.f12.params.toList ++ Rows.grantHandlesSpec.plain.varTypes Try.prog) (ds ++ gs)).all (· ≤ reachBytes) = true := hsz0
  clear hsz0
  have hval : ∀ (j : Nat) t v, Try.f12.params[j]? = some t → args[j]? = some v → Value.okWide Try.prog W .any base t v := hval0
  have hW' := hW
  obtain ⟨p, q, hA0, hV, rfl, hfz, hnd⟩ := hW
  have hA : DataW.TrodAll enc Try.prog W 0 (fun _ => true) true Try.f12.params.toList args.toList ds p := hA0
  rw [Try.params12] at hA hval hsz
  obtain ⟨v0, vs0, d0, ds0, p0, q0, hargs, rfl, rfl, h0, r0⟩ := trodAll_cons hA
  obtain ⟨rfl, rfl, rfl⟩ := trodAll_nil r0
  obtain rfl : args = #[v0] := by cases args; simp_all
  obtain ⟨rfl, rfl⟩ := trodVars_none hV
  obtain ⟨ps0, ln0, cp0, rfl⟩ := okWide_slice Try.underlying31 (hval 0 31 v0 rfl rfl)
  have k0 := h0
  have lt0 : ∀ x ∈ p0, x.block < W.heap.size := by obtain ⟨m, hm⟩ := k0; exact DataW.trod_lt m _ _ _ hm
  have c0 : Flat.Came enc Try.prog W 0 (fun _ => true) true 31 (.slice ps0 ln0 cp0) := by
    obtain ⟨fuel, hf⟩ := h0
    exact ⟨fuel, _, hf, fun n hn => by
      have := List.all_eq_true.1 hsz n (DataW.weights_mem_each (j := 0) rfl rfl n hn)
      simpa using this⟩
  clear hA0 hval0
  refine (main (.slice ps0 ln0 cp0) W c0).mono fun e W' ⟨he, hg⟩ => ?_
  subst he
  have bel := below_grown' hg
  simp only [List.append_nil, List.nil_append] at hW'
  exact ⟨_, rfl, _, _, _, [], _, [], hW', trodAll_mk1 (shut_bool Try.underlying4 _), (trodAll_cons_mk (Below.trod laidOut (by kernel_rfl) (of_decide_eq_true (by kernel_rfl)) k0 bel lt0) trodAll_mk0), rfl, bel.frame _, fun h => by cases h⟩

theorem proved : Rows.GrantHandlesSaid :=
  OpenClaim.holds_of_wide 12 Try.f12 rfl rfl rfl rfl rfl rfl rfl ⟨rfl, rfl, rfl, rfl, rfl⟩ rfl rfl rfl rfl rfl (by kernel_rfl) Try.func12 (by kernel_rfl)
    (of_decide_eq_true (by kernel_rfl)) (by unfold Func.isWrapper; first | (rw [if_pos (by decide +kernel)]; kernel_rfl) | (rw [if_neg (by decide +kernel)]; exact ⟨rfl, rfl⟩))
    (fun os started H enc _ => lifted os started H enc)
#print axioms proved

end Go.Proofs.Ytkdoaidcmmehoaa.lawGrHandles
