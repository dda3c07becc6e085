/-
  PhysPlays: for every number and every row of calls the law returns true, and what was there stays. No condition.
-/
import Derived.Test.YtmemeaaffbalbaaTold
import Derived.Deep.Cut
import Derived.LaidEqlPtr
namespace Go.Proofs.Ytmemeaaffbalbaa.lawPlays
open Go.ChangeShapes Go.WideShapes Go.ChangeAt Go.RowKit
set_option maxHeartbeats 1000000

theorem own : ownKnob Try.prog.godebug = none := by kernel_rfl
theorem laidOut : laidOutB Try.prog = true := by kernel_rfl

/-- a row of calls that came in -/
def Script (w : World) (p : Option Addr) (len : Nat) : Prop := ∀ i, i < len → ∃ b off o, p = some ⟨b, off, none⟩ ∧ b < w.heap.size ∧ OpAt w b (off + i * 5) o ∧ o.ok ∧ InBytes w o.pa o.l
theorem upTo_ok (n : Nat) (h1 : 1 ≤ n) (h2 : n ≤ 256) : (upTo n n).ok 0 := ⟨by show (1 : Int) ≤ n; omega, by show (n : Int) ≤ 256; omega, fun i hi => by
  have h : i < n := by simp only [upTo] at hi; omega
  show ((if i < n then blankFr else zeroFr).ok ∧ (if i < n then blankFr else zeroFr).tot ≤ 0)
  rw [if_pos h]; exact ⟨blankFr_ok, by decide⟩⟩

theorem but_row {a c : World} (h : a.grownBy c none) (row : Option Nat) : a.grownBy c row := ⟨h.os, h.tape, h.output, h.size, fun i hi _ => h.block i hi (by simp)⟩
theorem ptr_ne {w : World} {b c : Nat} {M M' : Mach} (hb : PM w b M) (hc : PM w c M') (h : c ≠ b) : (binOp .eql 23 (.pointer (some ⟨c, 0, none⟩)) (.pointer (some ⟨b, 0, none⟩))).run Try.prog w = .ok (.bool false) w := by
  have h58 := size58
  cases hi : Try.prog.info? 83 with
  | none => rw [hi] at h58; cases h58
  | some j =>
    rw [hi] at h58
    simp only [Option.map_some, Option.some.injEq] at h58
    exact run_eql_ptr_other w Try.underlying23 hi (by rw [h58, cellsN_eq]; omega) (by simp [h]) hc hb
set_option maxRecDepth 100000 in
theorem walk_no (n : Int) (hn : n < 1 ∨ 256 < n) (p : Option Addr) (len cap : Nat) (w : World) :
    Calls Try.prog 3 #[.int .i64 n, .slice p len cap] w fun e w' => e = .returned (.bool true) ∧ w.grownBy w' none := by
  go_enter Try.func3, Try.ntmps3
  go_wp2_with (first
    | (go_at_call 11; refine (New_no n _ hn).mono ?_; rintro e w1 ⟨rfl, rfl⟩)
    | (go_at_call 12; refine (rNew_no n _ hn).mono ?_; rintro e w1 ⟨rfl, rfl⟩)
    | (go_at_call 13; refine (awake_yes _).mono ?_; rintro e w3 ⟨rfl, hg3⟩; have HG3 := hid hg3; clear hg3))
  go_ret
  exact ⟨rfl, HG3.out⟩

set_option maxRecDepth 100000 in
theorem walk_yes (n : Nat) (h1 : 1 ≤ n) (h2 : n ≤ 256) (p : Option Addr) (len cap : Nat) (w : World) (hlen : len ≤ 9223372036854775806) (hs : Script w p len) :
    Calls Try.prog 3 #[.int .i64 n, .slice p len cap] w fun e w' => e = .returned (.bool true) ∧ w.grownBy w' none := by
  have HS := hid hs
  have HOK := hid (upTo_ok n h1 h2)
  clear hs
  go_enter Try.func3, Try.ntmps3
  go_wp2_with (first
    | (go_at_call 11; refine (New_yes n _ h1 h2).mono ?_; rintro e w1 ⟨v, rfl, B, rfl, hB, hM1, hg1⟩; have HM1 := hid hM1; have HG1 := hid hg1; clear hM1 hg1)
    | (go_at_call 12; refine (rNew_yes n _ h1 h2).mono ?_; rintro e w2 ⟨v, rfl, b, L, rfl, hr, hg2, hf⟩; have HP := hid (Pair.mk (HM1.out.grown hg2 (by simp)) hr); have HG2 := hid (HG1.out.trans hg2); have HF := hid (fun k hk => Nat.le_trans HG1.out.size (hf k hk)); clear hr hg2 hf))
  go_loopw [5, 9] (fun m i wr => ∃ (B k : Nat) (M : Mach) (L : Lay), m = .pointer (some ⟨B, 0, none⟩) ∧ i = .int .i64 k ∧ k ≤ len ∧ Pair wr B b M L ∧ M.ok k ∧ w.grownBy wr none ∧ w.heap.size ≤ B ∧ ∀ j, L.foot b j → w.heap.size ≤ j) (fun _ i _ => len - (intOf i).toNat)
  case atStart => exact ⟨B, 0, _, L, rfl, rfl, by omega, HP.out, HOK.out, HG2.out, hB, HF.out⟩
  case round =>
    clear HP HG2 HF HM1 HG1 hB HOK
    obtain ⟨B, k, M, L, rfl, rfl, hk, hP, hok, hg, hB, hf⟩ := hrel
    have HP := hid hP; have HOk := hid hok; have HG := hid hg; have HF := hid hf
    clear hP hok hg hf
    by_cases hlt : k < len
    · have hlt' : (k : Int) < len := by omega
      have hk0 : (0 : Int) ≤ k := by omega
      obtain ⟨sb, so, o, rfl, hsb, hop, hoo, hin⟩ := HS.out k hlt
      have HIn := hid hin
      have HPl := hid (fun W (hP : Pair W B b M L) (hg : w.grownBy W none) => play_any o hoo B b W M L k hP HOk.out (by omega) (fun j hj => by
        rcases HIn.out with h0 | ⟨b', o', e, hb', hc⟩
        · rw [h0] at hj; simp at hj
        · exact ⟨b', o', e, fun h => h.elim (fun e => by omega) (fun h => by have := HF.out _ h; omega), Nat.lt_of_lt_of_le hb' hg.size, hg.cell (hc j hj) (by simp)⟩))
      clear hin
      obtain ⟨d0, d1, d2, d3, d4⟩ := hop
      have d0 := HG.out.cell d0 (by simp); have d1 := HG.out.cell d1 (by simp); have d2 := HG.out.cell d2 (by simp); have d3 := HG.out.cell d3 (by simp); have d4 := HG.out.cell d4 (by simp)
      have hl := hoo.l
      by_cases h7 : o.x = 7
      · rw [h7] at d0
        have hn1 := HOk.out.n1
        have HO1 := hid (Mach.write_ok HOk.out o.a 0 o.l)
        go_wp2_with (first
          | (go_at_call 14; refine (Copy_yes B _ M (HP.out.grown (World.grownBy_alloc wr (.cells #[.int .i64 7, .int .i64 o.a, .int .i64 o.c, .int .i64 o.d, .slice o.pa o.l.length o.cap] 33) none)).m hn1).mono ?_; rintro e w3 ⟨v, rfl, C, rfl, hC, hMC, g3⟩; have HA := hid (World.grownBy_alloc wr (.cells #[.int .i64 7, .int .i64 o.a, .int .i64 o.c, .int .i64 o.d, .slice o.pa o.l.length o.cap] 33) none); have hCB : C ≠ B := (by have := HP.out.m.lt; have := HA.out.size; omega); have hBC : B ≠ C := Ne.symm hCB; have HP3 := hid ((HP.out.grown HA.out).grown g3); have HG3 := hid ((HG.out.trans HA.out).trans g3); have HMC := hid hMC; have k1 := g3.cell (a := ⟨wr.heap.size, 1, none⟩) (v := .int .i64 o.a) (by simp [go_sem]) (by simp); have k4 := g3.cell (a := ⟨wr.heap.size, 4, none⟩) (v := .slice o.pa o.l.length o.cap) (by simp [go_sem]) (by simp); have HC := hid (show w.heap.size ≤ C from by have := HG.out.size; have := HA.out.size; omega); have hBx : B ≠ wr.heap.size := Nat.ne_of_lt HP.out.m.lt; have keq := ptr_ne HP3.out.m hMC hCB; clear hMC g3 hC)
          | (go_at_call 15; refine (Write_any B o.a 0 _ o.l _ M k HP3.out.m HOk.out (by omega) (((HIn.out.is B hB).grown (but_row HG3.out (some B)))) (by omega)).mono ?_; rintro e w4 ⟨rfl, h4, g4⟩; have HM4 := hid h4; have HG4 := hid g4; clear h4 g4)
          | (go_at_call 16; refine (Alloc_any B (-2) _ _ k HM4.out HO1.out).mono ?_; rintro e w5 ⟨rfl, h5, g5⟩; have HG5 := hid (HG4.out.trans g5); clear h5 g5))
        go_roundw
        case rel => exact ⟨C, k + 1, M, L, rfl, by go_num, by omega, Pair.mk (HMC.out.grown HG5.out (by simp [hCB])) (HP3.out.r.keep HP3.out.m HG5.out), HOk.out.mono (by omega), HG3.out.andThen HG5.out (fun j e => by cases e; exact .inl hB), HC.out, HF.out⟩
        case measure => simp [intOf]; omega
      · have h7b : (o.x == 7) = false := by simp [h7]
        go_wp2_with (go_at_call 17; refine (HPl.out _ (HP.out.grown (World.grownBy_alloc wr (.cells #[.int .i64 o.x, .int .i64 o.a, .int .i64 o.c, .int .i64 o.d, .slice o.pa o.l.length o.cap] 33) none)) (HG.out.trans (World.grownBy_alloc wr _ none))).mono ?_; rintro e w3 ⟨rfl, M', L', hP', hok', hn', hch, hft⟩; have HP3 := hid hP'; have HO3 := hid hok'; have HG3 := hid (hch.grown (HG.out.trans (World.grownBy_alloc wr _ none)) (fun j hj => hj.elim (fun e => by omega) (HF.out j))); have HF3 := hid (fun j (hj : L'.foot b j) => (hft j hj).elim (HF.out j) (Nat.le_trans (HG.out.trans (World.grownBy_alloc wr _ none)).size)); clear hP' hok' hn' hch hft)
        go_roundw
        case rel => exact ⟨B, k + 1, M', L', rfl, by go_num, by omega, HP3.out, HO3.out, HG3.out, hB, HF3.out⟩
        case measure => simp [intOf]; omega
    · have hge : (len : Int) ≤ k := by omega
      obtain rfl : k = len := by omega
      go_wp2_with (first
        | (go_at_call 18; refine (told_yes B b _ M L k HP.out HOk.out).mono ?_; rintro e w3 ⟨rfl, hg3⟩; have HG3 := hid (HG.out.trans hg3); clear hg3)
        | (go_at_call 13; refine (awake_yes _).mono ?_; rintro e w4 ⟨rfl, hg4⟩; have HG4 := hid (HG3.out.trans hg4); clear hg4))
      go_ret
      exact ⟨rfl, HG4.out⟩
theorem walk (n : Int) (p : Option Addr) (len cap : Nat) (w : World) (hlen : len ≤ 9223372036854775806) (hs : Script w p len) :
    Calls Try.prog 3 #[.int .i64 n, .slice p len cap] w fun e w' => e = .returned (.bool true) ∧ w.grownBy w' none := by
  by_cases h : n < 1 ∨ 256 < n
  · exact walk_no n h p len cap w
  · obtain ⟨k, rfl⟩ := Int.eq_ofNat_of_zero_le (show 0 ≤ n by omega)
    exact walk_yes k (by omega) (by omega) p len cap w hlen hs

set_option maxRecDepth 100000 in
theorem lifted (os : Os) (started : os.Started) (H : Type) (enc : TypeId × Value → H) :
    ReturnsInHanded {} Try.checked os 3 .any (Rows.physPlaysSpec.pre6 enc Try.prog Try.f3 Rows.physPlaysRow.domain false) (Rows.physPlaysSpec.post enc Try.prog Try.f3 false true false false) := by
  refine returnsInHanded_of_change_sized (C := Try.checked) own started (by kernel_rfl) Try.func3
    (ChangeSpec.witness6 (enc := enc) (C := Try.checked) false ⟨#[], #[.int .i64 0, .slice none 0 0], []⟩ 8 (by kernel_rfl) (by kernel_rfl) (by kernel_rfl) (by kernel_rfl)) ?_
  intro W base args ds gs before hval0 hW _ hsz0 _
  have hsz : (DataW.weightsEach Try.prog (Try.f3.params.toList ++ Rows.physPlaysSpec.plain.varTypes Try.prog) (ds ++ gs)).all (· ≤ reachBytes) = true := hsz0
  clear hsz0
  have hval : ∀ (j : Nat) t v, Try.f3.params[j]? = some t → args[j]? = some v → Value.okWide Try.prog W .any base t v := hval0
  have hW' := hW
  obtain ⟨p, q, hA0, hV, rfl, hfz, hnd⟩ := hW
  have hA : DataW.TrodAll enc Try.prog W 0 (fun _ => true) true Try.f3.params.toList args.toList ds p := hA0
  rw [Try.params3] at hA hval hsz
  obtain ⟨v0, v1, d0, d1, p0, p1, rfl, rfl, rfl, h0, h1⟩ := trodAll_two hA
  obtain ⟨rfl, rfl⟩ := trodVars_none hV
  obtain ⟨a0, rfl, rfl, rfl, w0⟩ := open_int Try.underlying3 (hval 0 3 v0 rfl rfl) h0
  obtain ⟨ps, len1, cap1, rfl⟩ := okWide_slice Try.underlying22 (hval 1 22 v1 rfl rfl)
  have k1 := h1
  have lt1 : ∀ x ∈ p1, x.block < W.heap.size := by obtain ⟨m, hm⟩ := k1; exact DataW.trod_lt m _ _ _ hm
  obtain ⟨hl1, hs1⟩ : len1 ≤ 9223372036854775806 ∧ Script W ps len1 := by
    obtain ⟨fuel, hf⟩ := h1
    obtain ⟨p, len, cap, e, hl, hs⟩ := open_ops hf (fun n hn => by
      have := List.all_eq_true.1 hsz n (DataW.weights_mem_each (j := 1) rfl rfl n hn)
      simpa using this)
    cases e
    exact ⟨hl, hs⟩
  clear hA0 hval0
  refine (walk a0 ps len1 cap1 W hl1 hs1).mono fun e W' ⟨he, hg⟩ => ?_
  subst he
  have bel := below_grown hg
  simp only [List.append_nil, List.nil_append] at hW'
  exact ⟨_, rfl, _, _, _, [], _, [], hW', trodAll_mk1 (shut_bool Try.underlying4 _), (trodAll_mk2 (shut_int Try.underlying3 w0) (Below.trod laidOut (by kernel_rfl) (of_decide_eq_true (by kernel_rfl)) k1 bel lt1)), rfl, bel.frame _, fun h => by cases h⟩

theorem proved : Rows.PhysPlaysSaid :=
  OpenClaim.holds_of_wide 3 Try.f3 rfl rfl rfl rfl rfl rfl rfl ⟨rfl, rfl, rfl, rfl, rfl⟩ rfl rfl rfl rfl rfl (by kernel_rfl) Try.func3 (by kernel_rfl)
    (of_decide_eq_true (by kernel_rfl)) (by unfold Func.isWrapper; first | (rw [if_pos (by decide +kernel)]; kernel_rfl) | (rw [if_neg (by decide +kernel)]; exact ⟨rfl, rfl⟩))
    (fun os started H enc _ => lifted os started H enc)
#print axioms proved
end Go.Proofs.Ytmemeaaffbalbaa.lawPlays
