/-
  ConsPlain, where what comes in is of bulk at most 1048576: what is shown can be read, and what can be read stays as it is; what came in is as it was. The two tables of the library's decoder hold what the program's text lays.
-/
import Derived.Test.YtnplkifohocekaaDoorCoL
import Derived.Deep.RegionHeld3
import Derived.Deep.CutBlock
import Derived.Deep.DeepCutAuto
set_option linter.unusedSimpArgs false
set_option linter.unusedVariables false
namespace Go.Proofs.YtnplkifohocekaaDoor.lawCoPlain
open Go.RowKit Go.Lib Go.Proofs.YtnplkifohocekaaDoor.Bk Go.Proofs.YtnplkifohocekaaDoor.Co Go.ChangeShapes Go.WideShapes Go.ChangeAt Go.Deep
set_option maxHeartbeats 4000000
theorem step_append_g {ops : Array Oper} {o : Oper} {a : Act} {w : World} {K : Act → World → Prop} {Q : Exit → Act → World → Prop} {E : Prop} (hw : Region.wanted o (yielded ops a.tmps) = true) (s x : Operand) (t tn : TypeId)
    (ho : o.op = .call { callee := .builtin .append, args := #[s, x], argTypes := #[t, tn] }) (vs vx : Value) (hs : a.eval s = vs) (hx : a.eval x = vx) (v' : Value) (w' : World) (hr : (Builtin.append_ #[t, tn] o.type #[vs, vx]).run Tryd.prog w = .ok v' w')
    (hK : K (a.put o.dst v') w') : if Region.wanted o (yielded ops a.tmps) = true then Oper.wp Tryd.prog o a w K Q else E := by
  rw [if_pos hw]
  exact Lib.wp_append_run w s x t tn ho vs vx hs hx v' w' hr hK
theorem prep (la lb : List UInt8) (pa pb : Option Addr) (ca cb : Nat) (W W2 : World) (hT : Lib.Utf8Tabs 0 1 W) (hla : la.length ≤ 1048576) (hlb : lb.length ≤ 1048576) (ha : BA W pa la) (hb : BA W pb lb) (hca : pa = none → ca = 0) (hcb : pb = none → cb = 0) (hg : W.grownBy W2 none) :
    ∃ v3 W3 p4 c4 W4, (∀ ty, (Builtin.append_ #[22, 22] ty #[.slice (some ⟨W2.heap.size, 0, none⟩) 0 0, .slice pa la.length ca]).run Tryd.prog (W2.alloc (Obj.cells #[] 5)) = .ok v3 W3) ∧
      (∀ ty, (Builtin.append_ #[22, 22] ty #[v3, .slice pb lb.length cb]).run Tryd.prog W3 = .ok (.slice p4 (la.length + lb.length) c4) W4) ∧ W.grownBy W3 none ∧ W.grownBy W4 none ∧
      Calls Tryd.prog 9 #[.slice p4 (la.length + lb.length) c4] W4 fun e w' => e = .returned (.string ⟨(showV (la ++ lb)).toArray⟩) ∧ Below W4.heap.size W4 w' := by
  have hga := hg.trans (World.grownBy_alloc W2 (Obj.cells #[] 5) none)
  have hz := (World.grownBy_alloc W2 (Obj.cells #[] 5) none).size
  obtain ⟨v3, W3, hr3, ho3, hg3⟩ := run_append_ba (W2.alloc (Obj.cells #[] 5)) W2.heap.size _ 0 _ (own_made0 W2) pa la ca hca (ha.grown hga) (by omega) hz
  rw [Nat.zero_add, bcells_nil, List.nil_append] at ho3
  have HG3 := own_then hga (own_made0 W2) hg.size hg3
  obtain ⟨v4, W4, hr4, ho4, hg4⟩ := run_append_ba W3 W2.heap.size v3 _ _ ho3 pb lb cb hcb (hb.grown HG3) (by omega) (Nat.le_trans hz hg3.size)
  have HG4 := own_then HG3 ho3 hg.size hg4
  have hn : la.length + lb.length = (la ++ lb).length := by rw [List.length_append]
  rw [← bcells_app, hn] at ho4
  obtain ⟨p4, c4, rfl, hb4, hl4, _⟩ := own_ba ho4
  rw [hn]
  exact ⟨v3, W3, p4, c4, W4, hr3, hr4, HG3, HG4, bShow (la ++ lb) p4 c4 W4 (by rw [List.length_append]; omega) hb4 (Utf8Tabs_below hT (below_grown HG4))⟩
def QPost (W : World) (e : Ending) (w' : World) : Prop := e = .returned (.bool true) ∧ Below W.heap.size W w'
set_option maxRecDepth 100000 in
theorem walk (la lb : List UInt8) (pa pb : Option Addr) (ca cb : Nat) (W : World) (hT : Lib.Utf8Tabs 0 1 W) (hla : la.length ≤ 1048576) (hlb : lb.length ≤ 1048576) (ha : BA W pa la) (hb : BA W pb lb) (hca : pa = none → ca = 0) (hcb : pb = none → cb = 0) :
    Calls Tryd.prog 8 #[.slice pa la.length ca, .slice pb lb.length cb] W (QPost W) := by
  have HT := hid hT
  have HA := hid ha
  have HB := hid hb
  have HCA := hid hca
  have HCB := hid hcb
  obtain ⟨T, hTT⟩ : ∃ T : ByteArray, ⟨(showV lb).toArray⟩ = T := ⟨_, rfl⟩
  have HS := bShow lb pb cb W (by omega) hb hT
  rw [hTT] at HS
  have hTl : T.data.toList = showV lb := by rw [← hTT]
  have hTs : T.size ≤ 4194304 := by rw [sub_size hTl]; have := showV_len lb; omega
  have HTL := hid hTl
  have HSS := hid HS
  have hlai : (la.length : Int) ≤ 1048576 := by omega
  have hTsi : (T.size : Int) ≤ 4194304 := by omega
  clear HS hT ha hb hca hcb hTl hTT
  go_enter Tryd.func8, Tryd.ntmps8
  go_wp2_with (first
    | (go_at_call 9; (with_reducible refine HSS.out.mono ?_); rintro e W1 ⟨rfl, hb1⟩; have HB1 := hid hb1; clear hb1))
  go_loop [6] (fun ti => ∃ i : Nat, ti = .int .i64 i ∧ i ≤ T.size) (fun ti => T.size - (Lib.intOf ti).toNat)
  case atStart => exact ⟨0, rfl, Nat.zero_le _⟩
  case round =>
    obtain ⟨i, rfl, hi⟩ := hrel
    by_cases hit : i < T.size
    · obtain ⟨x, hx⟩ : ∃ x, T[i]'hit = x := ⟨_, rfl⟩
      have hrd : readable x := showV_ok lb x (by
        rw [← HTL.out, ← hx]
        exact List.mem_iff_getElem.2 ⟨i, by rw [Array.length_toList]; exact hit, by rw [Array.getElem_toList]; rfl⟩)
      have hxi : ∀ W, (Instr.index 9 (.string T) (.int .i64 (i : Int))).run Tryd.prog W = .ok (.int .u8 x.toNat) W := fun W => by
        rw [run_index_string W 9 T .i64 i Tryd.underlying9, dif_pos (by omega)]
        subst hx
        rfl
      have h1 : ¬ (x.toNat : Int) < 32 := by have := hrd.1; omega
      have h2 : ((x.toNat : Int) == 127) = false := by have := hrd.2; simp; omega
      have hx256 : (x.toNat : Int) ≤ 255 := by have := UInt8.toNat_lt x; omega
      clear hx hrd
      go_wp2
      refine ⟨⟨i + 1, by congr 1, by omega⟩, by simp [Lib.intOf]; omega⟩
    · have HI := hid hi
      clear hi
      go_wp2
      go_loop [7, 8] (fun tp tk => ∃ (k : Nat) (q : Bool), tp = .bool q ∧ tk = .int .i64 k ∧ k ≤ la.length ∧ (la.take k).all plainB = q) (fun _ tk => la.length - (Lib.intOf tk).toNat)
      case atStart => exact ⟨0, true, rfl, rfl, Nat.zero_le _, rfl⟩
      case round =>
        obtain ⟨k, q, rfl, rfl, hk, hq⟩ := hrel
        have HQ := hid hq
        clear hq
        by_cases hkl : k < la.length
        · obtain ⟨b, o, rfl⟩ := HA.out.ptr (by omega)
          obtain ⟨x, hx⟩ : ∃ x, la.getD k 0 = x := ⟨_, rfl⟩
          have cx := ((HA.out.grown (grown_below HB1.out))).at hkl
          rw [hx] at cx
          have HX := hid hx
          have HN := hid (show (la.take (k + 1)).all plainB = (q && plainB x) by
            rw [List.take_add_one, List.all_append, HQ.out, List.getElem?_eq_getElem hkl, ← hx]
            simp [List.getD, List.getElem?_eq_getElem hkl])
          have hx256 : (x.toNat : Int) ≤ 255 := by have := UInt8.toNat_lt x; omega
          clear hx
          cases q with
          | false =>
            go_wp2
            exact ⟨⟨k + 1, false, rfl, by congr 1, by omega, by rw [HN.out]; rfl⟩, by simp [Lib.intOf]; omega⟩
          | true =>
            by_cases x1 : (32 : Int) ≤ x.toNat
            · by_cases x2 : (x.toNat : Int) ≤ 126
              · have HP := hid (show plainB x = ((x.toNat : Int) != 92) by
                  unfold plainB
                  by_cases x3 : x.toNat = 92
                  · simp [x3]
                  · have : ((x.toNat : Int) != 92) = true := by simp; omega
                    rw [this]; simp; omega)
                go_wp2
                exact ⟨⟨k + 1, (x.toNat : Int) != 92, rfl, by congr 1, by omega, by rw [HN.out, HP.out]; rfl⟩, by simp [Lib.intOf]; omega⟩
              · have HP := hid (show plainB x = false by unfold plainB; simp; omega)
                go_wp2
                exact ⟨⟨k + 1, false, rfl, by congr 1, by omega, by rw [HN.out, HP.out]; rfl⟩, by simp [Lib.intOf]; omega⟩
            · have HP := hid (show plainB x = false by unfold plainB; simp; omega)
              go_wp2
              exact ⟨⟨k + 1, false, rfl, by congr 1, by omega, by rw [HN.out, HP.out]; rfl⟩, by simp [Lib.intOf]; omega⟩
        · obtain rfl : k = la.length := by omega
          have HLA := hid (show la.all plainB = q by have := HQ.out; rw [List.take_length] at this; exact this)
          clear hk
          cases q with
          | false =>
            have HAW := hid (lAwake W1 (Utf8Tabs_below HT.out HB1.out))
            go_wp2_with (first
              | (go_at_call 11; (with_reducible refine HAW.out.mono ?_); rintro e W5 ⟨rfl, hb5⟩; have HB5 := hid hb5; clear hb5))
            go_ret
            exact ⟨rfl, HB1.out.trans (HB5.out.mono HB1.out.size)⟩
          | true =>
            have HS1 := hid (bShow la pa ca W1.drew (by omega) (HA.out.grown ((grown_below HB1.out).trans (grownBy_drewN W1 1 none))) (Utf8Tabs_below HT.out HB1.out.drew))
            have HV1 := hid (showV_self la HLA.out)
            rw [HV1.out] at HS1
            obtain ⟨A, hA⟩ : ∃ A : ByteArray, ⟨la.toArray⟩ = A := ⟨_, rfl⟩
            have CV := hid (fun (W' : World) (h : W.grownBy W' none) => (HA.out.grown h).string ca)
            rw [hA] at HS1 CV
            have HAL := hid (show A.data.toList = la by rw [← hA])
            have hAs : A.size ≤ 1048576 := by rw [sub_size HAL.out]; exact hla
            have hno : ¬ (9223372036854775807 < A.size + T.size) := by omega
            have hno2 : A.size + T.size ≤ 9223372036854775807 := by omega
            have HV2 := hid (show (⟨(showV (la ++ lb)).toArray⟩ : ByteArray) = A ++ T by
              rw [showV_plain la lb HLA.out, ← HTL.out, ← HAL.out]
              apply ByteArray.ext
              simp)
            have PREP := hid (fun W2 hg => prep la lb pa pb ca cb W W2 HT.out hla hlb HA.out HB.out HCA.out HCB.out hg)
            clear hA
            have HG1 := hid (grown_below HB1.out)
            go_upto_region 14 with fail
            have cv := CV.out _ (HG1.out.trans (grownBy_drewN W1 1 none))
            go_region_held3 (fun W' => (convert 22 9 (.slice pa la.length ca)).run Tryd.prog W' = .ok (.string A) W') (first | assumption | exact cva _ | go_keep)
              (first
              | (go_at_call 9; first
                | ((with_reducible refine HS1.out.mono ?_); rintro e W2 ⟨rfl, hb2⟩; have HG2 := hid ((HG1.out.trans (grownBy_drewN W1 1 none)).trans (grown_below hb2)); have cv2 := CV.out _ HG2.out; have cva := (fun ob => CV.out (W2.alloc ob) (HG2.out.trans (World.grownBy_alloc W2 ob none))); clear hb2; obtain ⟨v3, W3, p4, c4, W4, hr3, hr4, g3, g4, hs2⟩ := PREP.out W2 HG2.out; have HR3 := hid hr3; have HR4 := hid hr4; have cv3 := CV.out _ g3; have cv4 := CV.out _ g4; have HG4 := hid g4; rw [HV2.out] at hs2; have HS2 := hid hs2; clear hr3 hr4 g3 g4 hs2)
                | ((with_reducible refine HS2.out.mono ?_); rintro e W5 ⟨rfl, hb5⟩; have HG5 := hid (HG4.out.trans (grown_below hb5)); have cv5 := CV.out _ HG5.out; have HAW := hid (lAwake W5 (Utf8Tabs_below HT.out (below_grown HG5.out))); clear hb5))
              | (go_at_call 11; (with_reducible refine HAW.out.mono ?_); rintro e W6 ⟨rfl, hb6⟩; have HG6 := hid (HG5.out.trans (grown_below hb6)); have cv6 := CV.out _ HG6.out; clear hb6)
              | (refine step_append_g (by rfl) _ _ _ _ rfl _ _ rfl rfl _ _ (HR3.out _) ?_)
              | (refine step_append_g (by rfl) _ _ _ _ rfl _ _ rfl rfl _ _ (HR4.out _) ?_)
              | fail)
            all_goals
              go_wp2
              go_ret
              exact ⟨rfl, below_grown HG6.out⟩
theorem main {H : Type} {enc : TypeId × Value → H} (v0 v1 : Value) (W : World) (hT : Lib.Utf8Tabs 0 1 W) (c0 : Flat.Came enc Tryd.prog W 0 (fun _ => true) true 22 v0) (c1 : Flat.Came enc Tryd.prog W 0 (fun _ => true) true 22 v1)
    (hn : ∀ p n c, v0 = .slice p n c → n ≤ 1048576) (hm : ∀ p n c, v1 = .slice p n c → n ≤ 1048576) :
    Calls Tryd.prog 8 #[v0, v1] W fun e w' => e = .returned (.bool true) ∧ Below W.heap.size W w' := by
  obtain ⟨p, l, c, rfl, hin, _, hpc, hlc⟩ := came_bytes c0
  obtain ⟨q, k, d, rfl, kin, _, kpc, klc⟩ := came_bytes c1
  exact walk l k p q c d W hT (hn _ _ _ rfl) (hm _ _ _ rfl) hin kin hpc kpc
theorem own : ownKnob Tryd.prog.godebug = none := by kernel_rfl
theorem laidOut : laidOutB Tryd.prog = true := by kernel_rfl
set_option maxRecDepth 100000 in
theorem contract (H : Type) (enc : TypeId × Value → H) (W : World) (base : Nat) (args : Array Value) (ds gs : List (DataW H)) (before : List MemPlace)
    (hval0 : ∀ (j : Nat) t v, Tryd.f8.params[j]? = some t → args[j]? = some v → Value.okWide Tryd.prog W .any base t v)
    (hW : DataW.Whole enc Tryd.prog Tryd.f8.params.toList Rows.consPlainSpec.vars false W args.toList ds gs before)
    (hk : Rows.uptoSmall H (ds ++ gs) = true)
    (hsz0 : (DataW.weightsEach Tryd.prog (Tryd.f8.params.toList ++ Rows.consPlainSpec.plain.varTypes Tryd.prog) (ds ++ gs)).all (· ≤ reachBytes) = true) (hT : Lib.Utf8Tabs 0 1 W) :
    Calls Tryd.prog 8 args W fun e W' => ∃ v, e = .returned v ∧ Rows.consPlainSpec.post enc Tryd.prog Tryd.f8 false true false false W args v W' := by
  have hsz := hsz0
  clear hsz0
  have hval : ∀ (j : Nat) t v, Tryd.f8.params[j]? = some t → args[j]? = some v → Value.okWide Tryd.prog W .any base t v := hval0
  have hW' := hW
  obtain ⟨p, q, hA0, hV, rfl, hfz, hnd⟩ := hW
  have hA : DataW.TrodAll enc Tryd.prog W 0 (fun _ => true) true Tryd.f8.params.toList args.toList ds p := hA0
  rw [Tryd.params8] at hA hval hsz
  obtain ⟨v0, vs0, d0, ds0, p0, q0, hargs, rfl, rfl, h0, r0⟩ := trodAll_cons hA
  obtain ⟨v1, vs1, d1, ds1, p1, q1, rfl, rfl, rfl, h1, r1⟩ := trodAll_cons r0
  obtain ⟨rfl, rfl, rfl⟩ := trodAll_nil r1
  obtain rfl : args = #[v0, v1] := by cases args; simp_all
  obtain ⟨rfl, rfl⟩ := trodVars_none hV
  obtain ⟨ps0, ln0, cp0, rfl⟩ := okWide_slice Tryd.underlying22 (hval 0 22 v0 rfl rfl)
  have k0 := h0
  have lt0 : ∀ x ∈ p0, x.block < W.heap.size := by obtain ⟨m, hm⟩ := k0; exact DataW.trod_lt m _ _ _ hm
  have c0 : Flat.Came enc Tryd.prog W 0 (fun _ => true) true 22 (.slice ps0 ln0 cp0) := by
    obtain ⟨fuel, hf⟩ := h0
    exact ⟨fuel, _, hf, fun n hn => by
      have := List.all_eq_true.1 hsz n (DataW.weights_mem_each (j := 0) rfl rfl n hn)
      simpa using this⟩
  have n0 : ln0 ≤ 1048576 := small_len Tryd.underlying22 (Nat.le_trans (part_le (by simp)) (of_decide_eq_true hk)) h0
  obtain ⟨ps1, ln1, cp1, rfl⟩ := okWide_slice Tryd.underlying22 (hval 1 22 v1 rfl rfl)
  have k1 := h1
  have lt1 : ∀ x ∈ p1, x.block < W.heap.size := by obtain ⟨m, hm⟩ := k1; exact DataW.trod_lt m _ _ _ hm
  have c1 : Flat.Came enc Tryd.prog W 0 (fun _ => true) true 22 (.slice ps1 ln1 cp1) := by
    obtain ⟨fuel, hf⟩ := h1
    exact ⟨fuel, _, hf, fun n hn => by
      have := List.all_eq_true.1 hsz n (DataW.weights_mem_each (j := 1) rfl rfl n hn)
      simpa using this⟩
  have n1 : ln1 ≤ 1048576 := small_len Tryd.underlying22 (Nat.le_trans (part_le (by simp)) (of_decide_eq_true hk)) h1
  clear hA0 hval0
  refine (main (.slice ps0 ln0 cp0) (.slice ps1 ln1 cp1) W hT c0 c1 (fun _ _ _ e => by cases e; exact n0) (fun _ _ _ e => by cases e; exact n1)).mono fun e W' ⟨he, bel⟩ => ?_
  subst he
  simp only [List.append_nil, List.nil_append] at hW'
  exact ⟨_, rfl, _, _, _, [], _, [], hW', trodAll_mk1 (shut_bool Tryd.underlying4 _), (trodAll_cons_mk (Below.trod laidOut (by kernel_rfl) (of_decide_eq_true (by kernel_rfl)) k0 bel lt0) (trodAll_cons_mk (Below.trod laidOut (by kernel_rfl) (of_decide_eq_true (by kernel_rfl)) k1 bel lt1) trodAll_mk0)), rfl, bel.frame _, fun h => by cases h⟩
theorem laid_met (os : Os) (args : Array Value) : laidMet Tryd.prog Rows.consPlainUptoRow.laid ((World.laidAll Tryd.prog os Rows.consPlainUptoRow.laid).forCall (fun _ _ => 0) ⟨#[], args, []⟩).memory :=
  laidMet_laidAll _ (by kernel_rfl) (by kernel_rfl)
theorem reads (os : Os) {H : Type} (enc : TypeId × Value → H) : ∃ places, DataW.whole enc Tryd.prog ((World.laidAll Tryd.prog os Rows.consPlainUptoRow.laid).forCall (fun _ _ => 0) ⟨#[], #[.slice none 0 0, .slice none 0 0], []⟩).memory Tryd.f8.params.toList Rows.consPlainSpec.vars false (#[.slice none 0 0, .slice none 0 0] : Array Value).toList 8 = some ([.nil, .nil], [], places) :=
  ⟨[], by kernel_rfl⟩
set_option maxRecDepth 100000 in
theorem lifted (os : Os) (started : os.Started) (H : Type) (enc : TypeId × Value → H) (F : Stop.Interp) :
    ReturnsInHanded {} Tryd.checked os 8 .any ((Rows.OpenSpec.upto Rows.consPlainSpec).preRow enc Tryd.prog Tryd.f8 Rows.consPlainUptoRow.domain false Rows.consPlainUptoRow.laid) (((Rows.OpenSpec.upto Rows.consPlainSpec).at F).post enc Tryd.prog Tryd.f8 false true false false) := by
  obtain ⟨places, hx⟩ := reads os enc
  refine returnsInHanded_of_row (C := Tryd.checked) (s := (Rows.OpenSpec.upto Rows.consPlainSpec)) own started (by kernel_rfl) Tryd.func8
    (witness_row_at (enc := enc) (C := Tryd.checked) false (World.laidAll Tryd.prog os Rows.consPlainUptoRow.laid) #[.slice none 0 0, .slice none 0 0] (World.laidAll_os _ _ _) (by kernel_rfl) (by kernel_rfl) (by kernel_rfl)
      (OpenSpec.preRow_of_cond 8 hx (by kernel_rfl) (fun k hk => by cases hk; kernel_rfl) (by kernel_rfl) (laid_met os _))) ?_
  intro W base args ds gs before hval hW _ hcond hsz hL _ _
  exact contract H enc W base args ds gs before hval hW (hcond _ rfl) hsz (tabs_of hL (.head _) (.tail _ (.head _)))
theorem said : Rows.ConsPlainUptoSaid :=
  OpenClaim.holds_of_cond 8 Tryd.f8 rfl rfl rfl rfl rfl rfl rfl ⟨rfl, rfl, rfl, rfl, rfl⟩ rfl rfl rfl rfl rfl (by kernel_rfl) Tryd.func8 (by kernel_rfl)
    (of_decide_eq_true (by kernel_rfl)) (by unfold Func.isWrapper; first | (rw [if_pos (by decide +kernel)]; kernel_rfl) | (rw [if_neg (by decide +kernel)]; exact ⟨rfl, rfl⟩))
    (fun os started H enc _ F => by rw [OpenClaim.pre_eq_preRow]; exact lifted os started H enc F)
theorem plain (f : FuncId) (fn : Func) (hf : Tryd.pinned.checked.prog.funcNamed "tenement/tenementlaw16.ConsPlain" = some f) (hfn : Tryd.pinned.checked.prog.funcs[f]? = some fn) :
    false = Tryd.pinned.checked.prog.looks [] ∧ ∀ (j : Nat) t, fn.params[j]? = some t → Tryd.pinned.checked.prog.wantsStandIn t = false := by
  obtain rfl : f = 8 := Option.some.inj ((show Tryd.prog.funcNamed "tenement/tenementlaw16.ConsPlain" = some 8 by kernel_rfl).symm.trans hf) |>.symm
  obtain rfl : fn = Tryd.f8 := (Option.some.inj (Tryd.func8.symm.trans hfn)).symm
  refine ⟨by kernel_rfl, fun j t ht => ?_⟩
  rw [Tryd.params8] at ht
  have hm : t ∈ [22] := by have := Array.mem_of_getElem? ht; simp at this ⊢; omega
  have hall : ([22].all fun u => !Tryd.prog.wantsStandIn u) = true := by kernel_rfl
  exact (show Tryd.prog.wantsStandIn t = false by simpa using List.all_eq_true.1 hall t hm)
theorem card : Rows.ConsPlainUptoCardSaid :=
  Claim7.holds_tied_plain_at .later [] _ _ _ _ said (fun _ h => by cases h) (by kernel_rfl) (fun _ h => by cases h) consPlainUpto_row_tie rfl ⟨rfl, rfl⟩ (by kernel_rfl) rfl plain (by kernel_rfl)
#print axioms card
end Go.Proofs.YtnplkifohocekaaDoor.lawCoPlain
