/-
  PhysCopies: for every number and every two rows of calls the law returns true, and what was there stays. No condition.
-/
import Derived.Test.YtmemeaaffbalbaaTold
import Derived.Test.YtmemeaaffbalbaaRefK
import Derived.Deep.Cut
namespace Go.Proofs.Ytmemeaaffbalbaa.lawCopies
open Go.ChangeShapes Go.WideShapes Go.ChangeAt Go.RowKit
set_option maxHeartbeats 1000000

theorem own : ownKnob Try.prog.godebug = none := by kernel_rfl
theorem laidOut : laidOutB Try.prog = true := by kernel_rfl

/-- a row of calls that came in -/
def Script (w : World) (p : Option Addr) (len : Nat) : Prop := ∀ i, i < len → ∃ b off o, p = some ⟨b, off, none⟩ ∧ b < w.heap.size ∧ OpAt w b (off + i * 5) o ∧ o.ok ∧ InBytes w o.pa o.l
theorem upTo_ok (n : Nat) (h1 : 1 ≤ n) (h2 : n ≤ 256) : (upTo n n).ok 0 := ⟨by show (1 : Int) ≤ n; omega, by show (n : Int) ≤ 256; omega, fun i hi => by
  have h : i < n := by simp only [upTo] at hi; omega
  show ((if i < n then blankFr else zeroFr).ok ∧ (if i < n then blankFr else zeroFr).tot ≤ 0)
  rw [if_pos h]; exact ⟨blankFr_ok, by decide⟩⟩

/-- one pair, made behind w -/
structure One (w W : World) (B b : Nat) (M : Mach) (L : Lay) (T : Int) : Prop where
  p : Pair W B b M L
  ok : M.ok T
  far : ∀ j, both B b L j → w.heap.size ≤ j
theorem One.grown {w W W' : World} {B b : Nat} {M : Mach} {L : Lay} {T : Int} (h : One w W B b M L T) (hg : W.grownBy W' none) : One w W' B b M L T := ⟨h.p.grown hg, h.ok, h.far⟩
theorem One.mono {w W : World} {B b : Nat} {M : Mach} {L : Lay} {T T' : Int} (h : One w W B b M L T) (ht : T ≤ T') : One w W B b M L T' := ⟨h.p, h.ok.mono ht, h.far⟩
theorem One.lt {w W : World} {B b : Nat} {M : Mach} {L : Lay} {T : Int} (h : One w W B b M L T) (j : Nat) (hj : both B b L j) : j < W.heap.size := hj.elim (fun e => e ▸ h.p.m.lt) (fun h' => h.p.r.lt h')
/-- two pairs that share nothing -/
structure Two (w W : World) (B b : Nat) (M : Mach) (L : Lay) (C c : Nat) (K : Mach) (X : Lay) (T : Int) : Prop where
  fst : One w W B b M L T
  snd : One w W C c K X T
  sep : ∀ j, both B b L j → ¬ both C c X j
theorem Two.swap {w W : World} {B b C c : Nat} {M K : Mach} {L X : Lay} {T : Int} (h : Two w W B b M L C c K X T) : Two w W C c K X B b M L T := ⟨h.snd, h.fst, fun j hj hk => h.sep j hk hj⟩
theorem Two.grown {w W W' : World} {B b C c : Nat} {M K : Mach} {L X : Lay} {T : Int} (h : Two w W B b M L C c K X T) (hg : W.grownBy W' none) : Two w W' B b M L C c K X T := ⟨h.fst.grown hg, h.snd.grown hg, h.sep⟩
theorem One.step {w W W' : World} {B b : Nat} {M : Mach} {L : Lay} {T : Int} (h : One w W B b M L T) (hw : w.grownBy W none) (hp : Played B b M L T W W') : (∃ M' L', One w W' B b M' L' (T + 1)) ∧ w.grownBy W' none := by
  obtain ⟨M', L', hP, hok, _, hch, hft⟩ := hp
  refine ⟨⟨M', L', hP, hok, fun j hj => ?_⟩, hch.grown hw h.far⟩
  rcases hj with rfl | hj
  · exact h.far _ (.inl rfl)
  · rcases hft j hj with h' | h'
    · exact h.far _ (.inr h')
    · exact Nat.le_trans hw.size h'
theorem Two.step {w W W' : World} {B b C c : Nat} {M K : Mach} {L X : Lay} {T : Int} (h : Two w W B b M L C c K X T) (hw : w.grownBy W none) (hp : Played B b M L T W W') : (∃ M' L', Two w W' B b M' L' C c K X (T + 1)) ∧ w.grownBy W' none := by
  obtain ⟨M', L', hP, hok, _, hch, hft⟩ := hp
  refine ⟨⟨M', L', ⟨hP, hok, fun j hj => ?_⟩, ⟨⟨h.snd.p.m.chg hch (fun h' => h.sep _ h' (.inl rfl)), h.snd.p.r.chg hch (fun j hj h' => h.sep j h' (.inr hj))⟩, h.snd.ok.mono (by omega), h.snd.far⟩, fun j hj hk => ?_⟩, hch.grown hw h.fst.far⟩
  · rcases hj with rfl | hj
    · exact h.fst.far _ (.inl rfl)
    · rcases hft j hj with h' | h'
      · exact h.fst.far _ (.inr h')
      · exact Nat.le_trans hw.size h'
  · rcases hj with rfl | hj
    · exact h.sep _ (.inl rfl) hk
    · rcases hft j hj with h' | h'
      · exact h.sep _ (.inr h') hk
      · have := h.snd.lt j hk; omega
theorem src {w W : World} {B b : Nat} {L : Lay} {o : OpV} (hin : InBytes w o.pa o.l) (hg : w.grownBy W none) (far : ∀ j, both B b L j → w.heap.size ≤ j) : Src W B b L o.pa o.l := fun j hj => by
  rcases hin with h0 | ⟨b', o', e, hb', hc⟩
  · rw [h0] at hj; simp at hj
  · exact ⟨b', o', e, fun h => by have := far _ h; omega, Nat.lt_of_lt_of_le hb' hg.size, hg.cell (hc j hj) (by simp)⟩
theorem One.play {w W : World} {B b : Nat} {M : Mach} {L : Lay} {T : Int} (h : One w W B b M L T) (hw : w.grownBy W none) (hT : T < 9223372036854775807) {o : OpV} (ho : o.ok) (hin : InBytes w o.pa o.l) :
    Calls Try.prog 17 #[.pointer (some ⟨B, 0, none⟩), .pointer (some ⟨b, 0, none⟩), o.val] W fun e w' => e = .returned (.bool true) ∧ Played B b M L T W w' :=
  play_any o ho B b W M L T h.p h.ok hT (src hin hw h.far)

set_option maxRecDepth 100000 in
set_option maxHeartbeats 4000000 in
theorem walk (m : Nat) (hm : m ≤ 255) (p : Option Addr) (len cap : Nat) (p2 : Option Addr) (len2 cap2 : Nat) (w : World) (hlen : len ≤ 140737488351232) (hs : Script w p len) (hlen2 : len2 ≤ 140737488351232) (hs2 : Script w p2 len2) :
    Calls Try.prog 4 #[.int .u8 m, .slice p len cap, .slice p2 len2 cap2] w fun e w' => e = .returned (.bool true) ∧ w.grownBy w' none := by
  have HS := hid hs
  have HS2 := hid hs2
  clear hs hs2
  have hsz1 : 1 ≤ 1 + m % 8 := by omega
  have hsz2 : 1 + m % 8 ≤ 256 := by omega
  have esz : ((1 + m % 8 : Nat) : Int) = 1 + (m : Int) % 8 := by omega
  have HN1 := hid (fun w => esz ▸ New_yes (1 + m % 8) w hsz1 hsz2 : ∀ w : World, Calls Try.prog 11 #[.int .i64 (1 + (m : Int) % 8)] w fun e w' => ∃ v, e = .returned (.tuple #[v, .int .i64 0]) ∧ NewMach w (upTo ((1 + m % 8 : Nat) : Int) (1 + m % 8)) v w')
  have HN2 := hid (fun w => esz ▸ rNew_yes (1 + m % 8) w hsz1 hsz2 : ∀ w : World, Calls Try.prog 12 #[.int .i64 (1 + (m : Int) % 8)] w fun e w' => ∃ v, e = .returned (.tuple #[v, .int .i64 0]) ∧ NewRef w (upTo ((1 + m % 8 : Nat) : Int) (1 + m % 8)) v w')
  have HOK := hid (upTo_ok (1 + m % 8) hsz1 hsz2)
  clear hsz1 hsz2 esz
  go_enter Try.func4, Try.ntmps4
  go_wp2_with (first
    | (go_at_call 11; refine (HN1.out _).mono ?_; rintro e w1 ⟨v, rfl, B, rfl, hB, hM1, hg1⟩; have HB := hid hB; have HM1 := hid hM1; have HG1 := hid hg1; clear hM1 hg1 hB)
    | (go_at_call 12; refine (HN2.out _).mono ?_; rintro e w2 ⟨v, rfl, b, L, rfl, hr, hg2, hf⟩; have HO := hid (One.mk (w := w) (Pair.mk (HM1.out.grown hg2 (by simp)) hr) HOK.out (fun j hj => hj.elim (fun e => e ▸ HB.out) (fun h => Nat.le_trans HG1.out.size (hf j h)))); have HG2 := hid (HG1.out.trans hg2); clear hr hg2 hf))
  go_loopw [12] (fun i wr => ∃ (k : Nat) (M : Mach) (L : Lay), i = .int .i64 k ∧ k ≤ len ∧ One w wr B b M L k ∧ w.grownBy wr none) (fun i _ => len - (intOf i).toNat)
  case atStart => exact ⟨0, _, L, rfl, by omega, HO.out, HG2.out⟩
  case round =>
    clear HO HG2 HM1 HG1 HB HOK
    obtain ⟨k, M, L, rfl, hk, hO, hg⟩ := hrel
    have HO := hid hO; have HG := hid hg
    clear hO hg
    by_cases hlt : k < len
    · have hlt' : (k : Int) < len := by omega
      have hk0 : (0 : Int) ≤ k := by omega
      obtain ⟨sb, so, o, rfl, hsb, hop, hoo, hin⟩ := HS.out k hlt
      have HPl := hid (HO.out.play HG.out (by omega) hoo hin)
      clear hin
      obtain ⟨d0, d1, d2, d3, d4⟩ := hop
      have d0 := HG.out.cell d0 (by simp); have d1 := HG.out.cell d1 (by simp); have d2 := HG.out.cell d2 (by simp); have d3 := HG.out.cell d3 (by simp); have d4 := HG.out.cell d4 (by simp)
      go_wp2_with (go_at_call 17; refine HPl.out.mono ?_; rintro e w3 ⟨rfl, hp⟩; have HQ := hid (HO.out.step HG.out hp); clear hp)
      go_roundw
      case rel => obtain ⟨⟨M', L', h⟩, hg⟩ := HQ.out; exact ⟨k + 1, M', L', by go_num, by omega, h, hg⟩
      case measure => simp [intOf]; omega
    · have hge : (len : Int) ≤ k := by omega
      obtain rfl : k = len := by omega
      have hn1 := HO.out.ok.n1
      have hn2 := HO.out.ok.n2
      go_wp2_with (first
        | (go_at_call 14; refine (Copy_yes B _ M HO.out.p.m hn1).mono ?_; rintro e w3 ⟨v, rfl, C, rfl, hC, hMC, g3⟩; have HMC := hid hMC; have HO3 := hid (HO.out.grown g3); have HG3 := hid (HG.out.trans g3); have HCl := hid (show w.heap.size ≤ C from Nat.le_trans HG.out.size hC); have HC3 := hid (And.intro hC hMC.lt); clear hMC g3 hC)
        | (go_at_call 19; refine (rCopy b _ M L HO3.out.p.r hn1 hn2).mono ?_; rintro e w4 ⟨v, rfl, c, X, rfl, hr, g4, hf⟩; have HT := hid (Two.mk (HO3.out.grown g4) (One.mk (w := w) (Pair.mk (HMC.out.grown g4 (by simp)) hr) HO.out.ok (fun j hj => hj.elim (fun e => e ▸ HCl.out) (fun h => Nat.le_trans HG3.out.size (hf j h)))) (fun j hj hk => by have h1 := HO.out.lt j hj; have h2 := HO3.out.lt j hj; exact hk.elim (fun e => by have := HC3.out.1; omega) (fun hk' => by have := hf j hk'; omega))); have HG4 := hid (HG3.out.trans g4); have HTo := hid (Pair.mk (HMC.out.grown g4 (by simp)) (HO3.out.p.r.grown g4)); clear hr g4 hf)
        | (go_at_call 18; refine (told_yes C b _ M L _ HTo.out HO.out.ok).mono ?_; rintro e w5 ⟨rfl, hg5⟩; have HT5 := hid (HT.out.grown hg5); have HG5 := hid (HG4.out.trans hg5); clear hg5))
      go_loopw [15] (fun i wr => ∃ (j : Nat) (M : Mach) (L : Lay) (K : Mach) (X : Lay), i = .int .i64 j ∧ j ≤ len2 ∧ Two w wr B b M L C c K X (k + j) ∧ w.grownBy wr none) (fun i _ => len2 - (intOf i).toNat)
      case atStart => exact ⟨0, M, L, M, X, rfl, by omega, by simpa using HT5.out, HG5.out⟩
      case round =>
        clear HT5 HG5 HTo HG4 HT HC3 HCl HG3 HO3 HMC HO HG
        obtain ⟨j, M, L, K, X, rfl, hj, hT, hg⟩ := hrel
        have HT := hid hT; have HG := hid hg
        clear hT hg
        by_cases hlt2 : j < len2
        · have hlt2' : (j : Int) < len2 := by omega
          have hj0 : (0 : Int) ≤ j := by omega
          obtain ⟨sb, so, o, rfl, hsb, hop, hoo, hin⟩ := HS2.out j hlt2
          have HPa := hid (HT.out.fst.play HG.out (by omega) hoo hin)
          have HPb := hid (HT.out.snd.play HG.out (by omega) hoo hin)
          clear hin
          obtain ⟨d0, d1, d2, d3, d4⟩ := hop
          have d0 := HG.out.cell d0 (by simp); have d1 := HG.out.cell d1 (by simp); have d2 := HG.out.cell d2 (by simp); have d3 := HG.out.cell d3 (by simp); have d4 := HG.out.cell d4 (by simp)
          by_cases h2 : (j : Int) % 2 = 0
          · go_wp2_with (go_at_call 17; refine HPb.out.mono ?_; rintro e w3 ⟨rfl, hp⟩; have HQ := hid (HT.out.swap.step HG.out hp); clear hp)
            go_roundw
            case rel => obtain ⟨⟨M', L', h⟩, hg⟩ := HQ.out; exact ⟨j + 1, M, L, M', L', by go_num, by omega, (by simpa [Int.add_assoc] using h.swap), hg⟩
            case measure => simp [intOf]; omega
          · have h2b : ((j : Int) % 2 == 0) = false := by simp [h2]
            go_wp2_with (go_at_call 17; refine HPa.out.mono ?_; rintro e w3 ⟨rfl, hp⟩; have HQ := hid (HT.out.step HG.out hp); clear hp)
            go_roundw
            case rel => obtain ⟨⟨M', L', h⟩, hg⟩ := HQ.out; exact ⟨j + 1, M', L', K, X, by go_num, by omega, (by simpa [Int.add_assoc] using h), hg⟩
            case measure => simp [intOf]; omega
        · have hge2 : (len2 : Int) ≤ j := by omega
          obtain rfl : j = len2 := by omega
          go_wp2_with (first
            | (go_at_call 18; first
                | ((with_reducible refine (told_yes B b _ M L _ HT.out.fst.p HT.out.fst.ok).mono ?_); rintro e w5 ⟨rfl, hg5⟩; have HT5 := hid (HT.out.grown hg5); have HG5 := hid (HG.out.trans hg5); clear hg5)
                | ((with_reducible refine (told_yes C c _ K X _ HT5.out.snd.p HT5.out.snd.ok).mono ?_); rintro e w6 ⟨rfl, hg6⟩; have HG6 := hid (HG5.out.trans hg6); clear hg6))
            | (go_at_call 13; refine (awake_yes _).mono ?_; rintro e w7 ⟨rfl, hg7⟩; have HG7 := hid (HG6.out.trans hg7); clear hg7))
          go_ret
          exact ⟨rfl, HG7.out⟩
set_option maxRecDepth 100000 in
theorem lifted (os : Os) (started : os.Started) (H : Type) (enc : TypeId × Value → H) :
    ReturnsInHanded {} Try.checked os 4 .any (Rows.physCopiesSpec.pre6 enc Try.prog Try.f4 Rows.physCopiesRow.domain false) (Rows.physCopiesSpec.post enc Try.prog Try.f4 false true false false) := by
  refine returnsInHanded_of_change_sized (C := Try.checked) own started (by kernel_rfl) Try.func4
    (ChangeSpec.witness6 (enc := enc) (C := Try.checked) false ⟨#[], #[.int .u8 0, .slice none 0 0, .slice none 0 0], []⟩ 8 (by kernel_rfl) (by kernel_rfl) (by kernel_rfl) (by kernel_rfl)) ?_
  intro W base args ds gs before hval0 hW _ hsz0 _
  have hsz : (DataW.weightsEach Try.prog (Try.f4.params.toList ++ Rows.physCopiesSpec.plain.varTypes Try.prog) (ds ++ gs)).all (· ≤ reachBytes) = true := hsz0
  clear hsz0
  have hval : ∀ (j : Nat) t v, Try.f4.params[j]? = some t → args[j]? = some v → Value.okWide Try.prog W .any base t v := hval0
  have hW' := hW
  obtain ⟨p, q, hA0, hV, rfl, hfz, hnd⟩ := hW
  have hA : DataW.TrodAll enc Try.prog W 0 (fun _ => true) true Try.f4.params.toList args.toList ds p := hA0
  rw [Try.params4] at hA hval hsz
  obtain ⟨v0, vs0, d0, ds0, p0, q0, hargs, rfl, rfl, h0, r0⟩ := trodAll_cons hA
  obtain ⟨v1, vs1, d1, ds1, p1, q1, rfl, rfl, rfl, h1, r1⟩ := trodAll_cons r0
  obtain ⟨v2, vs2, d2, ds2, p2, q2, rfl, rfl, rfl, h2, r2⟩ := trodAll_cons r1
  obtain ⟨rfl, rfl, rfl⟩ := trodAll_nil r2
  obtain rfl : args = #[v0, v1, v2] := by cases args; simp_all
  obtain ⟨rfl, rfl⟩ := trodVars_none hV
  obtain ⟨a0, rfl, rfl, rfl, w0⟩ := open_int Try.underlying5 (hval 0 5 v0 rfl rfl) h0
  obtain ⟨ps1, len1, cap1, rfl⟩ := okWide_slice Try.underlying22 (hval 1 22 v1 rfl rfl)
  have k1 := h1
  have lt1 : ∀ x ∈ p1, x.block < W.heap.size := by obtain ⟨m, hm⟩ := k1; exact DataW.trod_lt m _ _ _ hm
  obtain ⟨hl1, hs1⟩ : len1 ≤ 140737488351232 ∧ Script W ps1 len1 := by
    obtain ⟨fuel, hf⟩ := h1
    obtain ⟨p, len, cap, e, hl, hs⟩ := open_ops2 hf (fun n hn => by
      have := List.all_eq_true.1 hsz n (DataW.weights_mem_each (j := 1) rfl rfl n hn)
      simpa using this)
    cases e
    exact ⟨hl, hs⟩
  obtain ⟨ps2, len2, cap2, rfl⟩ := okWide_slice Try.underlying22 (hval 2 22 v2 rfl rfl)
  have k2 := h2
  have lt2 : ∀ x ∈ p2, x.block < W.heap.size := by obtain ⟨m, hm⟩ := k2; exact DataW.trod_lt m _ _ _ hm
  obtain ⟨hl2, hs2⟩ : len2 ≤ 140737488351232 ∧ Script W ps2 len2 := by
    obtain ⟨fuel, hf⟩ := h2
    obtain ⟨p, len, cap, e, hl, hs⟩ := open_ops2 hf (fun n hn => by
      have := List.all_eq_true.1 hsz n (DataW.weights_mem_each (j := 2) rfl rfl n hn)
      simpa using this)
    cases e
    exact ⟨hl, hs⟩
  obtain ⟨b0, b1⟩ := bounds_u8 w0
  obtain ⟨m, rfl⟩ := Int.eq_ofNat_of_zero_le b0
  clear hA0 hval0
  refine (walk m (by omega) ps1 len1 cap1 ps2 len2 cap2 W hl1 hs1 hl2 hs2).mono fun e W' ⟨he, hg⟩ => ?_
  subst he
  have bel := below_grown hg
  simp only [List.append_nil, List.nil_append] at hW'
  exact ⟨_, rfl, _, _, _, [], _, [], hW', trodAll_mk1 (shut_bool Try.underlying4 _), (trodAll_cons_mk (shut_int Try.underlying5 w0) (trodAll_cons_mk (Below.trod laidOut (by kernel_rfl) (of_decide_eq_true (by kernel_rfl)) k1 bel lt1) (trodAll_cons_mk (Below.trod laidOut (by kernel_rfl) (of_decide_eq_true (by kernel_rfl)) k2 bel lt2) trodAll_mk0))), rfl, bel.frame _, fun h => by cases h⟩

theorem proved : Rows.PhysCopiesSaid :=
  OpenClaim.holds_of_wide 4 Try.f4 rfl rfl rfl rfl rfl rfl rfl ⟨rfl, rfl, rfl, rfl, rfl⟩ rfl rfl rfl rfl rfl (by kernel_rfl) Try.func4 (by kernel_rfl)
    (of_decide_eq_true (by kernel_rfl)) (by unfold Func.isWrapper; first | (rw [if_pos (by decide +kernel)]; kernel_rfl) | (rw [if_neg (by decide +kernel)]; exact ⟨rfl, rfl⟩))
    (fun os started H enc _ => lifted os started H enc)
#print axioms proved
end Go.Proofs.Ytmemeaaffbalbaa.lawCopies
