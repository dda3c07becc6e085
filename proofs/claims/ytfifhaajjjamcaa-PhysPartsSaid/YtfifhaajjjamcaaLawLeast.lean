/-
  PhysLeast: for every number and every row of calls the law returns true, and what was there stays. No condition.
-/
import Derived.Test.YtfifhaajjjamcaaOps
import Derived.Deep.Cut
namespace Go.Proofs.Ytfifhaajjjamcaa.lawLeast
open Go.ChangeShapes Go.WideShapes Go.ChangeAt Go.RowKit
set_option maxHeartbeats 1000000

theorem own : ownKnob Try.prog.godebug = none := by kernel_rfl
theorem laidOut : laidOutB Try.prog = true := by kernel_rfl

/-- a row of calls that came in -/
def Script (w : World) (p : Option Addr) (len : Nat) : Prop := ∀ i, i < len → ∃ b off o, p = some ⟨b, off, none⟩ ∧ b < w.heap.size ∧ OpAt w b (off + i * 5) o ∧ o.ok ∧ InBytes w o.pa o.l
theorem upTo_ok (n : Nat) (h1 : 1 ≤ n) (h2 : n ≤ 256) : (upTo n n).ok 0 := ⟨by show (1 : Int) ≤ n; omega, by show (n : Int) ≤ 256; omega, fun i hi => by
  have h : i < n := by simp only [upTo] at hi; omega
  show ((if i < n then blankFr else zeroFr).ok ∧ (if i < n then blankFr else zeroFr).tot ≤ 0)
  rw [if_pos h]; exact ⟨blankFr_ok, by decide⟩⟩

set_option maxRecDepth 100000 in
theorem walk (m : Nat) (hm : m ≤ 255) (p : Option Addr) (len cap : Nat) (w : World) (hlen : len ≤ 9223372036854775806) (hs : Script w p len) :
    Calls Try.prog 7 #[.int .u8 m, .slice p len cap] w fun e w' => e = .returned (.bool true) ∧ w.grownBy w' none := by
  have HS := hid hs
  clear hs
  have hsz1 : 1 ≤ 1 + m % 16 := by omega
  have hsz2 : 1 + m % 16 ≤ 256 := by omega
  have esz : ((1 + m % 16 : Nat) : Int) = 1 + (m : Int) % 16 := by omega
  have HN1 := hid (fun w => esz ▸ New_yes (1 + m % 16) w hsz1 hsz2 : ∀ w : World, Calls Try.prog 10 #[.int .i64 (1 + (m : Int) % 16)] w fun e w' => ∃ v, e = .returned (.tuple #[v, .int .i64 0]) ∧ NewMach w (upTo ((1 + m % 16 : Nat) : Int) (1 + m % 16)) v w')
  have HN2 := hid (fun w => esz ▸ rNew_yes (1 + m % 16) w hsz1 hsz2 : ∀ w : World, Calls Try.prog 11 #[.int .i64 (1 + (m : Int) % 16)] w fun e w' => ∃ v, e = .returned (.tuple #[v, .int .i64 0]) ∧ NewRef w (upTo ((1 + m % 16 : Nat) : Int) (1 + m % 16)) v w')
  have HOK := hid (upTo_ok (1 + m % 16) hsz1 hsz2)
  clear hsz1 hsz2 esz
  go_enter Try.func7, Try.ntmps7
  go_wp2_with (first
    | (go_at_call 10; refine (HN1.out _).mono ?_; rintro e w1 ⟨v, rfl, B, rfl, hB, hM1, hg1⟩; have HM1 := hid hM1; have HG1 := hid hg1; clear hM1 hg1)
    | (go_at_call 11; refine (HN2.out _).mono ?_; rintro e w2 ⟨v, rfl, b, L, rfl, hr, hg2, hf⟩; have HP := hid (Pair.mk (HM1.out.grown hg2 (by simp)) hr); have HG2 := hid (HG1.out.trans hg2); have HF := hid (fun k hk => Nat.le_trans HG1.out.size (hf k hk)); clear hr hg2 hf))
  go_loopw [10] (fun i wr => ∃ (k : Nat) (M : Mach) (L : Lay), i = .int .i64 k ∧ k ≤ len ∧ Pair wr B b M L ∧ M.ok k ∧ w.grownBy wr none ∧ ∀ j, L.foot b j → w.heap.size ≤ j) (fun i _ => len - (intOf i).toNat)
  case atStart => exact ⟨0, _, L, rfl, by omega, HP.out, HOK.out, HG2.out, HF.out⟩
  case round =>
    clear HP HG2 HF HM1 HG1
    obtain ⟨k, M, L, rfl, hk, hP, hok, hg, hf⟩ := hrel
    have HP := hid hP; have HOk := hid hok; have HG := hid hg; have HF := hid hf
    clear hP hok hg hf
    by_cases hlt : k < len
    · have hlt' : (k : Int) < len := by omega
      have hk0 : (0 : Int) ≤ k := by omega
      obtain ⟨sb, so, o, rfl, hsb, hop, hoo, hin⟩ := HS.out k hlt
      have HPl := hid (fun W (hP : Pair W B b M L) (hg : w.grownBy W none) => play_any o hoo B b W M L k hP HOk.out (by omega) (fun j hj => by
        rcases hin with h0 | ⟨b', o', e, hb', hc⟩
        · rw [h0] at hj; simp at hj
        · exact ⟨b', o', e, fun h => h.elim (fun e => by omega) (fun h => by have := HF.out _ h; omega), Nat.lt_of_lt_of_le hb' hg.size, hg.cell (hc j hj) (by simp)⟩))
      obtain ⟨d0, d1, d2, d3, d4⟩ := hop
      have d0 := HG.out.cell d0 (by simp); have d1 := HG.out.cell d1 (by simp); have d2 := HG.out.cell d2 (by simp); have d3 := HG.out.cell d3 (by simp); have d4 := HG.out.cell d4 (by simp)
      go_upto_region 10 with (go_at_call 16; refine (HPl.out _ HP.out HG.out).mono ?_; rintro e w3 ⟨rfl, M', L', hP', hok', hn', hch, hft⟩; have HP3 := hid hP'; have HO3 := hid hok'; have HG3 := hid (hch.grown HG.out (fun j hj => hj.elim (fun e => by omega) (HF.out j))); have HF3 := hid (fun j (hj : L'.foot b j) => (hft j hj).elim (HF.out j) (Nat.le_trans HG.out.size)); clear hP' hok' hn' hch hft)
      clear d0 d1 d2 d3 d4 HPl
      have hk8 : (0 : Int) ≤ (k : Int) % 8 := by omega
      have hk9 : (k : Int) % 8 < 8 := by omega
      generalize hq : (k : Int) % 8 = q8 at *
      have hgood : ¬ (q8 ≠ -2 ∧ (q8 < 0 ∨ 8 ≤ q8)) := by omega
      have hn1 := HO3.out.n1; have hn2 := HO3.out.n2
      have HO4 := hid (Mach.alloc_ok HO3.out q8)
      cases hl : M'.ownedL (-1) with
      | nil =>
        have HA := hid (show M'.alloc q8 = (0, 10, M') by unfold Mach.alloc; rw [if_neg hgood, hl])
        have HL := hid hl
        clear hgood hl
        go_wp2_with (first
          | (go_at_call 18; refine (Owned_any _ M' (-1) _ (HP3.out.m.stops hn1 hn2) hn2).mono ?_; rw [HL.out]; rintro e w4 ⟨v, rfl, hnew⟩; obtain ⟨pv, cv, rfl⟩ := newInts_slice hnew; have HP4 := hid (HP3.out.grown hnew.2.2); have HG4 := hid (HG3.out.trans hnew.2.2); clear hnew)
          | (go_at_call 15; refine (Alloc_any B q8 _ M' (k + 1) HP4.out.m HO3.out).mono ?_; rw [HA.out]; rintro e w5 ⟨rfl, h5, g5⟩; have HP5 := hid (Pair.mk h5 (HP4.out.r.keep HP4.out.m g5)); have HG5 := hid (HG4.out.andThen g5 (fun j e => by cases e; exact .inl hB)); clear h5 g5)
          | (go_at_call 28; refine (rAlloc b q8 _ M' L' HP5.out.r hn2).mono ?_; rw [HA.out]; rintro e w6 ⟨rfl, L6, h6, hn6, hc6, hf6⟩; have HP6 := hid (Pair.mk (HP5.out.m.chg hc6 (HP5.out.r.off HP5.out.m)) h6); have HG6 := hid (hc6.grown HG5.out HF3.out); have HF6 := hid (fun j (hj : L6.foot b j) => (hf6 j hj).elim (HF3.out j) (Nat.le_trans HG5.out.size)); clear h6 hn6 hc6 hf6))
        go_roundw
        case rel => exact ⟨k + 1, M', L6, by go_num, by omega, HP6.out, HO3.out, HG6.out, HF6.out⟩
        case measure => simp [intOf]; omega
      | cons j r =>
        have HA := hid (show M'.alloc q8 = ((j : Int), 0, M'.upd j { M'.fr j with owner := q8 }) by unfold Mach.alloc; rw [if_neg hgood, hl])
        have HL := hid hl
        have hjm := mem_ownedL.1 (show j ∈ M'.ownedL (-1) by rw [hl]; simp)
        have hjn : (j : Int) < M'.n := hjm.1
        obtain ⟨hf0, -⟩ := HO3.out.fr j hjn
        obtain ⟨htot, hbz⟩ := hf0.free hjm.2
        have hcnt : (M'.fr j).cnt = 0 := by have := hf0.c0; have := hf0.ct; omega
        have hty := hf0.z.1 hcnt
        rw [HA.out] at HO4
        have HFr := hid (fun (W : World) (hM : PM W B (M'.upd j { M'.fr j with owner := q8 })) => (Frame_yes B j W _ _ hM HO4.out hjn : Calls Try.prog 19 #[.pointer (some ⟨B, 0, none⟩), .int .i64 j] W fun e w' => e = .returned (.tuple #[((M'.upd j { M'.fr j with owner := q8 }).fr j).head, .int .i64 0]) ∧ W.grownBy w' none))
        rw [Mach.upd_same, show ({ M'.fr j with owner := q8 } : Fr).head = .agg #[.int .i64 q8, .int .i64 0, .int .i64 0, .int .i64 0] by unfold Fr.head; rw [hty, hcnt, htot]] at HFr
        have HCl := hid (fun (W : World) (hM : PM W B (M'.upd j { M'.fr j with owner := q8 })) => clean_yes B j W _ _ hM HO4.out hjn (fun k hk => by rw [Mach.upd_same]; exact hbz k hk))
        have hlen0 : (((j :: r).length : Nat) : Int) ≠ 0 := by simp; omega
        clear hgood hl hjm hf0 htot hbz hcnt hty hjn
        go_wp2_with (first
          | (go_at_call 18; refine (Owned_any _ M' (-1) _ (HP3.out.m.stops hn1 hn2) hn2).mono ?_; rw [HL.out]; rintro e w4 ⟨v, rfl, hnew⟩; obtain ⟨gv, cv, rfl, hc4⟩ := row_cellN hnew.1 (j := 0) (by simp); rw [show (j :: r)[0] = j from rfl] at hc4; have hgv := (hnew.1.lt gv rfl).1; have HP4 := hid (HP3.out.grown hnew.2.2); have HG4 := hid (HG3.out.trans hnew.2.2); have hgB : gv ≠ B := (by have := HP3.out.m.lt; omega); have hgb : ¬ L'.foot b gv := (fun h => by have := HP3.out.r.lt h; omega); clear hnew)
          | (go_at_call 15; refine (Alloc_any B q8 _ M' (k + 1) HP4.out.m HO3.out).mono ?_; rw [HA.out]; rintro e w5 ⟨rfl, h5, g5⟩; have hc5 := g5.cell (a := ⟨gv, 0, none⟩) hc4 (by simp; omega); have HM5 := hid h5; have HR5 := hid (HP4.out.r.keep HP4.out.m g5); have HG5 := hid (HG4.out.andThen g5 (fun j e => by cases e; exact .inl hB)); clear h5 g5)
          | (go_at_call 28; refine (rAlloc b q8 _ M' L' HR5.out hn2).mono ?_; rw [HA.out]; rintro e w6 ⟨rfl, L6, h6, hn6, hc6, hf6⟩; have hc6' := hc6.cell (a := ⟨gv, 0, none⟩) hc5 hgb; have HP6 := hid (Pair.mk (HM5.out.chg hc6 (HR5.out.off HM5.out)) h6); have HG6 := hid (hc6.grown HG5.out HF3.out); have HF6 := hid (fun j (hj : L6.foot b j) => (hf6 j hj).elim (HF3.out j) (Nat.le_trans HG5.out.size)); clear h6 hn6 hc6 hf6)
          | (go_at_call 19; refine (HFr.out _ HP6.out.m).mono ?_; rintro e w7 ⟨rfl, g7⟩; have hc7 := g7.cell (a := ⟨gv, 0, none⟩) hc6' (by simp); have hgv7 := World.block_lt_of_cell? _ _ hc7; have HP7 := hid ((HP6.out.grown g7).grown (World.grownBy_alloc w7 (.cells #[.int .i64 q8, .int .i64 0, .int .i64 0, .int .i64 0] 44) none)); have HG7 := hid ((HG6.out.trans g7).trans (World.grownBy_alloc w7 (.cells #[.int .i64 q8, .int .i64 0, .int .i64 0, .int .i64 0] 44) none)); clear g7)
          | (go_at_call 20; refine (HCl.out _ HP7.out.m).mono ?_; rintro e w8 ⟨rfl, g8⟩; have HP8 := hid (HP7.out.grown g8); have HG8 := hid (HG7.out.trans g8); clear g8))
        go_roundw
        case rel => exact ⟨k + 1, _, L6, by go_num, by omega, HP8.out, HO4.out, HG8.out, HF6.out⟩
        case measure => simp [intOf]; omega
    · have hge : (len : Int) ≤ k := by omega
      obtain rfl : k = len := by omega
      go_wp2_with (go_at_call 12; refine (awake_yes _).mono ?_; rintro e w3 ⟨rfl, hg3⟩; have HG3 := hid (HG.out.trans hg3); clear hg3)
      go_ret
      exact ⟨rfl, HG3.out⟩

set_option maxRecDepth 100000 in
theorem lifted (os : Os) (started : os.Started) (H : Type) (enc : TypeId × Value → H) :
    ReturnsInHanded {} Try.checked os 7 .any (Rows.physLeastSpec.pre6 enc Try.prog Try.f7 Rows.physLeastRow.domain false) (Rows.physLeastSpec.post enc Try.prog Try.f7 false true false false) := by
  refine returnsInHanded_of_change_sized (C := Try.checked) own started (by kernel_rfl) Try.func7
    (ChangeSpec.witness6 (enc := enc) (C := Try.checked) false ⟨#[], #[.int .u8 0, .slice none 0 0], []⟩ 8 (by kernel_rfl) (by kernel_rfl) (by kernel_rfl) (by kernel_rfl)) ?_
  intro W base args ds gs before hval0 hW _ hsz0 _
  have hsz : (DataW.weightsEach Try.prog (Try.f7.params.toList ++ Rows.physLeastSpec.plain.varTypes Try.prog) (ds ++ gs)).all (· ≤ reachBytes) = true := hsz0
  clear hsz0
  have hval : ∀ (j : Nat) t v, Try.f7.params[j]? = some t → args[j]? = some v → Value.okWide Try.prog W .any base t v := hval0
  have hW' := hW
  obtain ⟨p, q, hA0, hV, rfl, hfz, hnd⟩ := hW
  have hA : DataW.TrodAll enc Try.prog W 0 (fun _ => true) true Try.f7.params.toList args.toList ds p := hA0
  rw [Try.params7] at hA hval hsz
  obtain ⟨v0, v1, d0, d1, p0, p1, rfl, rfl, rfl, h0, h1⟩ := trodAll_two hA
  obtain ⟨rfl, rfl⟩ := trodVars_none hV
  obtain ⟨a0, rfl, rfl, rfl, w0⟩ := open_int Try.underlying5 (hval 0 5 v0 rfl rfl) h0
  obtain ⟨ps, len1, cap1, rfl⟩ := okWide_slice Try.underlying22 (hval 1 22 v1 rfl rfl)
  have k1 := h1
  have lt1 : ∀ x ∈ p1, x.block < W.heap.size := by obtain ⟨m, hm⟩ := k1; exact DataW.trod_lt m _ _ _ hm
  obtain ⟨hl1, hs1⟩ : len1 ≤ 9223372036854775806 ∧ Script W ps len1 := by
    obtain ⟨fuel, hf⟩ := h1
    obtain ⟨p, len, cap, e, hl, hs⟩ := open_ops hf (fun n hn => by
      have := List.all_eq_true.1 hsz n (DataW.weights_mem_each (j := 1) rfl rfl n hn)
      simpa using this)
    cases e
    exact ⟨hl, hs⟩
  obtain ⟨b0, b1⟩ := bounds_u8 w0
  obtain ⟨m, rfl⟩ := Int.eq_ofNat_of_zero_le b0
  clear hA0 hval0
  refine (walk m (by omega) ps len1 cap1 W hl1 hs1).mono fun e W' ⟨he, hg⟩ => ?_
  subst he
  have bel := below_grown hg
  simp only [List.append_nil, List.nil_append] at hW'
  exact ⟨_, rfl, _, _, _, [], _, [], hW', trodAll_mk1 (shut_bool Try.underlying4 _), (trodAll_mk2 (shut_int Try.underlying5 w0) (Below.trod laidOut (by kernel_rfl) (of_decide_eq_true (by kernel_rfl)) k1 bel lt1)), rfl, bel.frame _, fun h => by cases h⟩

theorem proved : Rows.PhysLeastSaid :=
  OpenClaim.holds_of_wide 7 Try.f7 rfl rfl rfl rfl rfl rfl rfl ⟨rfl, rfl, rfl, rfl, rfl⟩ rfl rfl rfl rfl rfl (by kernel_rfl) Try.func7 (by kernel_rfl)
    (of_decide_eq_true (by kernel_rfl)) (by unfold Func.isWrapper; first | (rw [if_pos (by decide +kernel)]; kernel_rfl) | (rw [if_neg (by decide +kernel)]; exact ⟨rfl, rfl⟩))
    (fun os started H enc _ => lifted os started H enc)
#print axioms proved
end Go.Proofs.Ytfifhaajjjamcaa.lawLeast
