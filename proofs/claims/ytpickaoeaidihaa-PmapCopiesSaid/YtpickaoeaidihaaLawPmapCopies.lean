/-
  PmapCopies: for every number and every two rows of calls the law returns true, and what was there stays. No condition.
-/
import Derived.Test.YtpickaoeaidihaaLawPmapPlays
namespace Go.Proofs.Ytpickaoeaidihaa.lawPmapCopies
open Go.ChangeShapes Go.WideShapes Go.ChangeAt Go.RowKit Gen
open lawPmapPlays (One one_new)
set_option maxHeartbeats 1000000

/-- two pairs that share nothing -/
structure Two (w W : World) (b f p c : Nat) (L : RL) (M : Mp) (b' f' p' c' : Nat) (L' : RL) (M' : Mp) (T s : Nat) : Prop where
  fst : One w W b f p c L M T s
  snd : One w W b' f' p' c' L' M' T s
  sep : ∀ k, both b f p c L k → ¬ both b' f' p' c' L' k
theorem one_chg {S : Nat → Prop} {w W W' : World} {b f p c : Nat} {L : RL} {M : Mp} {T T' s : Nat} (h : One w W b f p c L M T s) (hc : Chg S W W') (hS : ∀ k, both b f p c L k → ¬ S k) (hfar : ∀ k, S k → w.heap.size ≤ k) (hT : T ≤ T') : One w W' b f p c L M T' s :=
  ⟨(h.pr.chg hc hS).mono hT, h.ok, h.far, hc.grown h.grown hfar⟩
theorem Two.swap {w W : World} {b f p c b' f' p' c' : Nat} {L L' : RL} {M M' : Mp} {T s : Nat} (h : Two w W b f p c L M b' f' p' c' L' M' T s) : Two w W b' f' p' c' L' M' b f p c L M T s := ⟨h.snd, h.fst, fun k hk hk' => h.sep k hk' hk⟩
theorem Two.more {w W W' : World} {b f p c b' f' p' c' : Nat} {L L' : RL} {M M' : Mp} {T s : Nat} (h : Two w W b f p c L M b' f' p' c' L' M' T s) (hg : W.grownBy W' none) : Two w W' b f p c L M b' f' p' c' L' M' T s := ⟨h.fst.more hg, h.snd.more hg, h.sep⟩
theorem Two.played {w W W' : World} {b f p c b' f' p' c' : Nat} {L L' : RL} {M M' : Mp} {T s : Nat} (h : Two w W b f p c L M b' f' p' c' L' M' T s) (hp : PPlayed b f p c L M (T + 1) W W') : ∃ K, Two w W' b f p c L K b' f' p' c' L' M' (T + 1) s := by
  obtain ⟨K, hK⟩ := h.fst.played hp
  obtain ⟨_, _, _, _, hc⟩ := hp
  exact ⟨K, hK, one_chg h.snd hc (fun k hk hk' => h.sep k hk' hk) h.fst.far (by omega), h.sep⟩
theorem two_new {w W w1 w2 : World} {b f p c b' f' p' c' : Nat} {L L' : RL} {M : Mp} {T s : Nat} (h : One w W b f p c L M T s) (h1 : PMap w1 b' f' p' M T) (g1 : W.grownBy w1 none) (f1 : ∀ k, pfoot b' f' p' k → W.heap.size ≤ k) (h2 : RMap w2 c' L' M) (g2 : w1.grownBy w2 none) (f2 : ∀ k, rfoot c' L' k → w1.heap.size ≤ k) : Two w w2 b f p c L M b' f' p' c' L' M T s := by
  have hfar : ∀ k, both b' f' p' c' L' k → W.heap.size ≤ k := fun k hk => hk.elim (f1 k) (fun h => Nat.le_trans g1.size (f2 k h))
  exact ⟨(h.more g1).more g2, ⟨⟨h1.grown g2, h2, fun k hk hk' => by have := h1.lt hk; have := f2 k hk'; omega⟩, h.ok, fun k hk => Nat.le_trans h.grown.size (hfar k hk), (h.grown.trans g1).trans g2⟩, fun k hk hk' => by have := h.pr.lt hk; have := hfar k hk'; omega⟩

set_option maxRecDepth 100000 in
set_option maxHeartbeats 4000000 in
theorem walk (n s : Nat) (hn : n ≤ 255) (hs : (n : Int) % 49 = s) (p0 : Option Addr) (len cap : Nat) (p2 : Option Addr) (len2 cap2 : Nat) (w : World) (hlen : len ≤ 140737488351232) (hscr : PScript w p0 len) (hlen2 : len2 ≤ 140737488351232) (hscr2 : PScript w p2 len2) :
    Calls Try.prog 6 #[.int .u8 n, .slice p0 len cap, .slice p2 len2 cap2] w fun e w' => e = .returned (.bool true) ∧ w.grownBy w' none := by
  have hs48 : s ≤ 48 := by omega
  have HS := hid hscr
  have HS2 := hid hscr2
  have HLen := hid hlen
  have HLen2 := hid hlen2
  clear hscr hlen hscr2 hlen2
  go_enter Try.func6, Try.ntmps6
  go_wp2_with (first
    | (go_at_call 8; refine (pNew_yes s _ hs48).mono ?_; rintro e w1 ⟨v, rfl, b, f, p, rfl, h1, g1, hf1⟩; have H1 := hid h1; have G1 := hid g1; have F1 := hid hf1; clear h1 g1 hf1)
    | (go_at_call 9; refine (rNew_yes s _ hs48).mono ?_; rintro e w2 ⟨v, rfl, c, L, rfl, h2, g2, hf2⟩; have HO := hid (one_new hs48 H1.out G1.out F1.out h2 g2 hf2); clear h2 g2 hf2))
  go_loopw [12] (fun i wr => ∃ (k : Nat) (M : Mp), i = .int .i64 k ∧ k ≤ len ∧ One w wr b f p c L M k s) (fun i _ => len - (intOf i).toNat)
  case atStart => exact ⟨0, _, rfl, by omega, HO.out⟩
  case round =>
    clear HO H1 G1 F1
    obtain ⟨k, M, rfl, hk, hO⟩ := hrel
    have HO := hid hO
    clear hO
    have hk0 : (0 : Int) ≤ k := by omega
    have hk64 : (k : Int) ≤ 140737488351232 := by have := HLen.out; omega
    by_cases hlt : k < len
    · have hlt' : (k : Int) < len := by omega
      obtain ⟨sb, so, x, a, d, rfl, hsb, d0, d1, d2, hx, ha, hd⟩ := HS.out k hlt
      have d0 := HO.out.grown.cell d0 (by simp); have d1 := HO.out.grown.cell d1 (by simp); have d2 := HO.out.grown.cell d2 (by simp)
      have hT : k < maxLen := by have := HLen.out; unfold maxLen; omega
      have HPl := hid (pplay_any x a d hx ha hd b f p c L M k hT wr HO.out.pr HO.out.ok)
      clear hx ha hd hT
      go_wp2_with (go_at_call 12; refine HPl.out.mono ?_; rintro e w3 ⟨rfl, hp⟩; obtain ⟨M', hO⟩ := HO.out.played hp; have HO4 := hid hO; clear hp hO)
      go_roundw
      case rel => exact ⟨k + 1, M', by go_num, by omega, HO4.out⟩
      case measure => simp [intOf]; omega
    · obtain rfl : k = len := by omega
      have hge : (k : Int) ≤ k := by omega
      go_wp2_with (first
        | (go_at_call 10; refine (pCopy_yes b f p M k _ HO.out.pr.m).mono ?_; rintro e w3 ⟨v, rfl, b', f', p', rfl, h3, g3, hf3⟩; have H3 := hid h3; have G3 := hid g3; have F3 := hid hf3; clear h3 g3 hf3)
        | (go_at_call 21; refine (rCopy c L M _ (HO.out.pr.r.grown G3.out) HO.out.ok).mono ?_; rintro e w4 ⟨v, rfl, c', L', rfl, h4, g4, hf4⟩; have HT := hid (two_new HO.out H3.out G3.out F3.out h4 g4 hf4); clear h4 g4 hf4))
      go_loopw [15] (fun i wr => ∃ (j : Nat) (M M' : Mp), i = .int .i64 j ∧ j ≤ len2 ∧ Two w wr b f p c L M b' f' p' c' L' M' (k + j) s) (fun i _ => len2 - (intOf i).toNat)
      case atStart => exact ⟨0, M, M, rfl, by omega, HT.out⟩
      case round =>
        clear HT H3 G3 F3 HO
        obtain ⟨j, M, M', rfl, hj, hT⟩ := hrel
        have HT := hid hT
        clear hT
        have hj0 : (0 : Int) ≤ j := by omega
        have hj64 : (j : Int) ≤ 140737488351232 := by have := HLen2.out; omega
        by_cases hjl : j < len2
        · have hjl' : (j : Int) < len2 := by omega
          obtain ⟨sb, so, x, a, d, rfl, hsb, d0, d1, d2, hx, ha, hd⟩ := HS2.out j hjl
          have d0 := HT.out.fst.grown.cell d0 (by simp); have d1 := HT.out.fst.grown.cell d1 (by simp); have d2 := HT.out.fst.grown.cell d2 (by simp)
          have hTm : k + j < maxLen := by have := HLen.out; have := HLen2.out; unfold maxLen; omega
          have HPa := hid (pplay_any x a d hx ha hd b f p c L M (k + j) hTm wr HT.out.fst.pr HT.out.fst.ok)
          have HPb := hid (pplay_any x a d hx ha hd b' f' p' c' L' M' (k + j) hTm wr HT.out.snd.pr HT.out.snd.ok)
          clear hx ha hd hTm
          by_cases h2 : (j : Int) % 2 = 0
          · go_wp2_with (go_at_call 12; refine HPb.out.mono ?_; rintro e w3 ⟨rfl, hp⟩; obtain ⟨K, hT⟩ := HT.out.swap.played hp; have HT4 := hid hT; clear hp hT)
            go_roundw
            case rel => exact ⟨j + 1, M, K, by go_num, by omega, HT4.out.swap⟩
            case measure => simp [intOf]; omega
          · have h2b : ((j : Int) % 2 == 0) = false := by simp [h2]
            go_wp2_with (go_at_call 12; refine HPa.out.mono ?_; rintro e w3 ⟨rfl, hp⟩; obtain ⟨K, hT⟩ := HT.out.played hp; have HT4 := hid hT; clear hp hT)
            go_roundw
            case rel => exact ⟨j + 1, K, M', by go_num, by omega, HT4.out⟩
            case measure => simp [intOf]; omega
        · obtain rfl : j = len2 := by omega
          have hge2 : (j : Int) ≤ j := by omega
          go_wp2_with (first
            | (go_at_call 13; first
                | ((with_reducible refine (ptold b f p c L M (k + j) _ HT.out.fst.pr HT.out.fst.ok).mono ?_); rintro e w5 ⟨rfl, hg5⟩; have HT5 := hid (HT.out.more hg5); clear hg5)
                | ((with_reducible refine (ptold b' f' p' c' L' M' (k + j) _ HT5.out.snd.pr HT5.out.snd.ok).mono ?_); rintro e w6 ⟨rfl, hg6⟩; have HT6 := hid (HT5.out.more hg6); clear hg6))
            | (go_at_call 14; refine (pawake _).mono ?_; rintro e w7 ⟨rfl, hg7⟩; have HT7 := hid (HT6.out.more hg7); clear hg7))
          go_ret
          exact ⟨rfl, HT7.out.fst.grown⟩
theorem main {H : Type} {enc : TypeId × Value → H} (v0 v1 v2 : Value) (W : World) (c0 : Flat.Came enc Try.prog W 0 (fun _ => true) true 5 v0) (c1 : Flat.Came enc Try.prog W 0 (fun _ => true) true 22 v1) (c2 : Flat.Came enc Try.prog W 0 (fun _ => true) true 22 v2) :
    Calls Try.prog 6 #[v0, v1, v2] W fun e w' => e = .returned (.bool true) ∧ W.grownBy w' none := by
  obtain ⟨a, rfl, h0⟩ := c0.int Try.underlying5
  obtain ⟨a0, a1⟩ := bounds_u8 h0
  obtain ⟨n, rfl⟩ := Int.eq_ofNat_of_zero_le a0
  obtain ⟨p, len, cap, rfl, hl, hs⟩ := open_pscript c1
  obtain ⟨p2, len2, cap2, rfl, hl2, hs2⟩ := open_pscript c2
  exact walk n (n % 49) (by omega) (by omega) p len cap p2 len2 cap2 W hl hs hl2 hs2

theorem own : ownKnob Try.prog.godebug = none := by kernel_rfl
theorem laidOut : laidOutB Try.prog = true := by kernel_rfl

set_option maxRecDepth 100000 in
theorem lifted (os : Os) (started : os.Started) (H : Type) (enc : TypeId × Value → H) :
    ReturnsInHanded {} Try.checked os 6 .any (Rows.pmapCopiesSpec.pre6 enc Try.prog Try.f6 Rows.pmapCopiesRow.domain false) (Rows.pmapCopiesSpec.post enc Try.prog Try.f6 false true false false) := by
  refine returnsInHanded_of_change_sized (C := Try.checked) own started (by kernel_rfl) Try.func6
    (ChangeSpec.witness6 (enc := enc) (C := Try.checked) false ⟨#[], #[.int .u8 0, .slice none 0 0, .slice none 0 0], []⟩ 8 (by kernel_rfl) (by kernel_rfl) (by kernel_rfl) (by kernel_rfl)) ?_
  intro W base args ds gs before hval0 hW _ hsz0 _
  have hsz : (DataW.weightsEach Try.prog (Try.f6.params.toList ++ Rows.pmapCopiesSpec.plain.varTypes Try.prog) (ds ++ gs)).all (· ≤ reachBytes) = true := hsz0
  clear hsz0
  have hval : ∀ (j : Nat) t v, Try.f6.params[j]? = some t → args[j]? = some v → Value.okWide Try.prog W .any base t v := hval0
  have hW' := hW
  obtain ⟨p, q, hA0, hV, rfl, hfz, hnd⟩ := hW
  have hA : DataW.TrodAll enc Try.prog W 0 (fun _ => true) true Try.f6.params.toList args.toList ds p := hA0
  rw [Try.params6] at hA hval hsz
  obtain ⟨v0, vs0, d0, ds0, p0, q0, hargs, rfl, rfl, h0, r0⟩ := trodAll_cons hA
  obtain ⟨v1, vs1, d1, ds1, p1, q1, rfl, rfl, rfl, h1, r1⟩ := trodAll_cons r0
  obtain ⟨v2, vs2, d2, ds2, p2, q2, rfl, rfl, rfl, h2, r2⟩ := trodAll_cons r1
  obtain ⟨rfl, rfl, rfl⟩ := trodAll_nil r2
  obtain rfl : args = #[v0, v1, v2] := by cases args; simp_all
  obtain ⟨rfl, rfl⟩ := trodVars_none hV
  obtain ⟨a0, rfl, rfl, rfl, w0⟩ := open_int Try.underlying5 (hval 0 5 v0 rfl rfl) h0
  have k0 := h0
  have lt0 : ∀ x ∈ ([] : List MemPlace), x.block < W.heap.size := by obtain ⟨m, hm⟩ := k0; exact DataW.trod_lt m _ _ _ hm
  have c0 : Flat.Came enc Try.prog W 0 (fun _ => true) true 5 (.int .u8 a0) := by
    obtain ⟨fuel, hf⟩ := h0
    exact ⟨fuel, _, hf, fun n hn => by
      have := List.all_eq_true.1 hsz n (DataW.weights_mem_each (j := 0) rfl rfl n hn)
      simpa using this⟩
  obtain ⟨ps1, ln1, cp1, rfl⟩ := okWide_slice Try.underlying22 (hval 1 22 v1 rfl rfl)
  have k1 := h1
  have lt1 : ∀ x ∈ p1, x.block < W.heap.size := by obtain ⟨m, hm⟩ := k1; exact DataW.trod_lt m _ _ _ hm
  have c1 : Flat.Came enc Try.prog W 0 (fun _ => true) true 22 (.slice ps1 ln1 cp1) := by
    obtain ⟨fuel, hf⟩ := h1
    exact ⟨fuel, _, hf, fun n hn => by
      have := List.all_eq_true.1 hsz n (DataW.weights_mem_each (j := 1) rfl rfl n hn)
      simpa using this⟩
  obtain ⟨ps2, ln2, cp2, rfl⟩ := okWide_slice Try.underlying22 (hval 2 22 v2 rfl rfl)
  have k2 := h2
  have lt2 : ∀ x ∈ p2, x.block < W.heap.size := by obtain ⟨m, hm⟩ := k2; exact DataW.trod_lt m _ _ _ hm
  have c2 : Flat.Came enc Try.prog W 0 (fun _ => true) true 22 (.slice ps2 ln2 cp2) := by
    obtain ⟨fuel, hf⟩ := h2
    exact ⟨fuel, _, hf, fun n hn => by
      have := List.all_eq_true.1 hsz n (DataW.weights_mem_each (j := 2) rfl rfl n hn)
      simpa using this⟩
  clear hA0 hval0
  refine (main (.int .u8 a0) (.slice ps1 ln1 cp1) (.slice ps2 ln2 cp2) W c0 c1 c2).mono fun e W' ⟨he, hg⟩ => ?_
  subst he
  have bel := below_grown hg
  simp only [List.append_nil, List.nil_append] at hW'
  exact ⟨_, rfl, _, _, _, [], _, [], hW', trodAll_mk1 (shut_bool Try.underlying4 _), (trodAll_cons_mk (Below.trod laidOut (by kernel_rfl) (of_decide_eq_true (by kernel_rfl)) k0 bel lt0) (trodAll_cons_mk (Below.trod laidOut (by kernel_rfl) (of_decide_eq_true (by kernel_rfl)) k1 bel lt1) (trodAll_cons_mk (Below.trod laidOut (by kernel_rfl) (of_decide_eq_true (by kernel_rfl)) k2 bel lt2) trodAll_mk0))), rfl, bel.frame _, fun h => by cases h⟩

theorem proved : Rows.PmapCopiesSaid :=
  OpenClaim.holds_of_wide 6 Try.f6 rfl rfl rfl rfl rfl rfl rfl ⟨rfl, rfl, rfl, rfl, rfl⟩ rfl rfl rfl rfl rfl (by kernel_rfl) Try.func6 (by kernel_rfl)
    (of_decide_eq_true (by kernel_rfl)) (by unfold Func.isWrapper; first | (rw [if_pos (by decide +kernel)]; kernel_rfl) | (rw [if_neg (by decide +kernel)]; exact ⟨rfl, rfl⟩))
    (fun os started H enc _ => lifted os started H enc)
#print axioms proved
end Go.Proofs.Ytpickaoeaidihaa.lawPmapCopies
