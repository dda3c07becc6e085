/-
  PmapPlays: for every number and every row of calls the law returns true, and what was there stays. No condition.
-/
import Derived.Test.YtpickaoeaidihaaPplayB
namespace Go.Proofs.Ytpickaoeaidihaa.lawPmapPlays
open Go.ChangeShapes Go.WideShapes Go.ChangeAt Go.RowKit Gen
set_option maxHeartbeats 1000000

/-- the pair, made behind w -/
structure One (w W : World) (b f p c : Nat) (L : RL) (M : Mp) (T s : Nat) : Prop where
  pr : PPair W b f p c L M T
  ok : M.ok
  far : ∀ k, both b f p c L k → w.heap.size ≤ k
  grown : w.grownBy W none
theorem One.more {w W W' : World} {b f p c : Nat} {L : RL} {M : Mp} {T s : Nat} (h : One w W b f p c L M T s) (hg : W.grownBy W' none) : One w W' b f p c L M T s := ⟨h.pr.grown hg, h.ok, h.far, h.grown.trans hg⟩
theorem One.played {w W W' : World} {b f p c : Nat} {L : RL} {M : Mp} {T s : Nat} (h : One w W b f p c L M T s) (hp : PPlayed b f p c L M (T + 1) W W') : ∃ M', One w W' b f p c L M' (T + 1) s := by
  obtain ⟨M', hP, hok, _, hc⟩ := hp
  exact ⟨M', hP, hok, h.far, hc.grown h.grown h.far⟩
theorem one_new {w w1 w2 : World} {n b f p c : Nat} {L : RL} (hn : n ≤ 48) (h1 : PMap w1 b f p (.empty n) 0) (g1 : w.grownBy w1 none) (f1 : ∀ k, pfoot b f p k → w.heap.size ≤ k) (h2 : RMap w2 c L (.empty n)) (g2 : w1.grownBy w2 none) (f2 : ∀ k, rfoot c L k → w1.heap.size ≤ k) : One w w2 b f p c L (.empty n) 0 n :=
  ⟨⟨h1.grown g2, h2, fun k hk hk' => by have := h1.lt hk; have := f2 k hk'; omega⟩, Mp.empty_ok n hn, fun k hk => hk.elim (f1 k) (fun h => Nat.le_trans g1.size (f2 k h)), g1.trans g2⟩
/-- on with a copy, the other one cleared -/
theorem One.swap {w W w1 w2 : World} {b f p c b' f' p' : Nat} {L : RL} {M M' : Mp} {T T' s : Nat} (h : One w W b f p c L M T s) (h1 : PMap w1 b' f' p' M T) (g1 : W.grownBy w1 none) (f1 : ∀ k, pfoot b' f' p' k → W.heap.size ≤ k) (h2 : PLeft b f p w1 M' T' w2) : One w w2 b' f' p' c L M (T + 1) s := by
  have hs : ∀ k, pfoot b' f' p' k → ¬ pfoot b f p k := fun k hk hk' => by have := h.pr.m.lt hk'; have := f1 k hk; omega
  refine ⟨⟨(h1.chg h2.chg hs).mono (by omega), (h.pr.r.grown g1).chg h2.chg fun k hk hk' => h.pr.sep k hk' hk, fun k hk hk' => ?_⟩, h.ok, fun k hk => ?_, h2.chg.grown (h.grown.trans g1) fun k hk => h.far k (.inl hk)⟩
  · have := h.pr.r.lt_foot hk'; have := f1 k hk; omega
  · rcases hk with hk | hk
    · exact Nat.le_trans h.grown.size (f1 k hk)
    · exact h.far k (.inr hk)

set_option maxRecDepth 100000 in
set_option maxHeartbeats 4000000 in
theorem walk (n : Int) (p0 : Option Addr) (len cap : Nat) (w : World) (hlen : len ≤ 140737488351232) (hscr : PScript w p0 len) :
    Calls Try.prog 3 #[.int .i64 n, .slice p0 len cap] w fun e w' => e = .returned (.bool true) ∧ w.grownBy w' none := by
  have HS := hid hscr
  have HLen := hid hlen
  clear hscr hlen
  by_cases hbad : n < 0 ∨ 48 < n
  · have HB := hid hbad
    clear hbad
    go_enter Try.func3, Try.ntmps3
    go_wp2_with (first
      | (go_at_call 8; refine (pNew_no n _ HB.out).mono ?_; rintro e w1 ⟨rfl, rfl⟩)
      | (go_at_call 9; refine (rNew_no n _ HB.out).mono ?_; rintro e w1 ⟨rfl, rfl⟩))
    go_loop [9] (fun i => i = .int .i64 0) (fun _ => 0)
    case atStart => rfl
    case round =>
      subst hrel
      go_wp2_with (go_at_call 14; refine (pawake _).mono ?_; rintro e w2 ⟨rfl, hg⟩; have HG := hid hg; clear hg)
      go_ret
      exact ⟨rfl, HG.out⟩
  · obtain ⟨s, rfl⟩ := Int.eq_ofNat_of_zero_le (show 0 ≤ n by omega)
    have hs48 : s ≤ 48 := by omega
    clear hbad
    go_enter Try.func3, Try.ntmps3
    go_wp2_with (first
      | (go_at_call 8; refine (pNew_yes s _ hs48).mono ?_; rintro e w1 ⟨v, rfl, b, f, p, rfl, h1, g1, hf1⟩; have H1 := hid h1; have G1 := hid g1; have F1 := hid hf1; clear h1 g1 hf1)
      | (go_at_call 9; refine (rNew_yes s _ hs48).mono ?_; rintro e w2 ⟨v, rfl, c, L, rfl, h2, g2, hf2⟩; have HO := hid (one_new hs48 H1.out G1.out F1.out h2 g2 hf2); clear h2 g2 hf2))
    go_loopw [5, 9] (fun v i wr => ∃ (k b f p : Nat) (M : Mp), v = .pointer (some ⟨b, 0, none⟩) ∧ i = .int .i64 k ∧ k ≤ len ∧ One w wr b f p c L M k s) (fun _ i _ => len - (intOf i).toNat)
    case atStart => exact ⟨0, b, f, p, _, rfl, rfl, by omega, HO.out⟩
    case round =>
      clear HO H1 G1 F1
      obtain ⟨k, b, f, p, M, rfl, rfl, hk, hO⟩ := hrel
      have HO := hid hO
      clear hO
      have hk0 : (0 : Int) ≤ k := by omega
      by_cases hlt : k < len
      · have hlt' : (k : Int) < len := by omega
        obtain ⟨sb, so, x, a, d, rfl, hsb, d0, d1, d2, hx, ha, hd⟩ := HS.out k hlt
        have d0 := HO.out.grown.cell d0 (by simp); have d1 := HO.out.grown.cell d1 (by simp); have d2 := HO.out.grown.cell d2 (by simp)
        have hk64 : (k : Int) ≤ 140737488351232 := by have := HLen.out; omega
        have hT : k < maxLen := by have := HLen.out; unfold maxLen; omega
        have HPl := hid (pplay_any x a d hx ha hd b f p c L M k hT wr HO.out.pr HO.out.ok)
        have HA := hid ha
        clear hx ha hd hT
        by_cases hx4 : x = 4
        · subst hx4
          clear HPl
          go_wp2_with (first
            | (go_at_call 10; refine (pCopy_yes b f p M k _ HO.out.pr.m).mono ?_; rintro e w3 ⟨v, rfl, b', f', p', rfl, h3, g3, hf3⟩; have e1 := g3.cell d1 (by simp); have H3 := hid h3; have G3 := hid g3; have F3 := hid hf3; clear h3 g3 hf3)
            | (go_at_call 11; refine (pClear_yes b f p M k a HA.out _ (HO.out.pr.m.grown G3.out) HO.out.ok).mono ?_; rintro e w4 ⟨rfl, hl⟩; have HO4 := hid (HO.out.swap H3.out G3.out F3.out hl); clear hl)
            | (go_at_call 13; refine (ptold b' f' p' c L M (k + 1) _ HO4.out.pr HO4.out.ok).mono ?_; rintro e w5 ⟨rfl, hg⟩; have HO5 := hid (HO4.out.more hg); clear hg))
          go_roundw
          case rel => exact ⟨k + 1, b', f', p', M, rfl, by go_num, by omega, HO5.out⟩
          case measure => simp [intOf]; omega
        · have hxb : (x == 4) = false := by simp [hx4]
          go_wp2_with (first
            | (go_at_call 12; refine HPl.out.mono ?_; rintro e w3 ⟨rfl, hp⟩; obtain ⟨M', hO⟩ := HO.out.played hp; have HO4 := hid hO; clear hp hO)
            | (go_at_call 13; refine (ptold b f p c L M' (k + 1) _ HO4.out.pr HO4.out.ok).mono ?_; rintro e w5 ⟨rfl, hg⟩; have HO5 := hid (HO4.out.more hg); clear hg))
          go_roundw
          case rel => exact ⟨k + 1, b, f, p, M', rfl, by go_num, by omega, HO5.out⟩
          case measure => simp [intOf]; omega
      · obtain rfl : k = len := by omega
        have hge : (k : Int) ≤ k := by omega
        go_wp2_with (go_at_call 14; refine (pawake _).mono ?_; rintro e w2 ⟨rfl, hg⟩; have HG := hid hg; clear hg)
        go_ret
        exact ⟨rfl, HO.out.grown.trans HG.out⟩
theorem main {H : Type} {enc : TypeId × Value → H} (v0 v1 : Value) (W : World) (c0 : Flat.Came enc Try.prog W 0 (fun _ => true) true 3 v0) (c1 : Flat.Came enc Try.prog W 0 (fun _ => true) true 22 v1) :
    Calls Try.prog 3 #[v0, v1] W fun e w' => e = .returned (.bool true) ∧ W.grownBy w' none := by
  obtain ⟨a, rfl, h0⟩ := c0.int Try.underlying3
  obtain ⟨p, len, cap, rfl, hl, hs⟩ := open_pscript c1
  exact walk a p len cap W hl hs

theorem own : ownKnob Try.prog.godebug = none := by kernel_rfl
theorem laidOut : laidOutB Try.prog = true := by kernel_rfl

set_option maxRecDepth 100000 in
theorem lifted (os : Os) (started : os.Started) (H : Type) (enc : TypeId × Value → H) :
    ReturnsInHanded {} Try.checked os 3 .any (Rows.pmapPlaysSpec.pre6 enc Try.prog Try.f3 Rows.pmapPlaysRow.domain false) (Rows.pmapPlaysSpec.post enc Try.prog Try.f3 false true false false) := by
  refine returnsInHanded_of_change_sized (C := Try.checked) own started (by kernel_rfl) Try.func3
    (ChangeSpec.witness6 (enc := enc) (C := Try.checked) false ⟨#[], #[.int .i64 0, .slice none 0 0], []⟩ 8 (by kernel_rfl) (by kernel_rfl) (by kernel_rfl) (by kernel_rfl)) ?_
  intro W base args ds gs before hval0 hW _ hsz0 _
  have hsz : (DataW.weightsEach Try.prog (Try.f3.params.toList ++ Rows.pmapPlaysSpec.plain.varTypes Try.prog) (ds ++ gs)).all (· ≤ reachBytes) = true := hsz0
  clear hsz0
  have hval : ∀ (j : Nat) t v, Try.f3.params[j]? = some t → args[j]? = some v → Value.okWide Try.prog W .any base t v := hval0
  have hW' := hW
  obtain ⟨p, q, hA0, hV, rfl, hfz, hnd⟩ := hW
  have hA : DataW.TrodAll enc Try.prog W 0 (fun _ => true) true Try.f3.params.toList args.toList ds p := hA0
  rw [Try.params3] at hA hval hsz
  obtain ⟨v0, vs0, d0, ds0, p0, q0, hargs, rfl, rfl, h0, r0⟩ := trodAll_cons hA
  obtain ⟨v1, vs1, d1, ds1, p1, q1, rfl, rfl, rfl, h1, r1⟩ := trodAll_cons r0
  obtain ⟨rfl, rfl, rfl⟩ := trodAll_nil r1
  obtain rfl : args = #[v0, v1] := by cases args; simp_all
  obtain ⟨rfl, rfl⟩ := trodVars_none hV
  obtain ⟨a0, rfl, rfl, rfl, w0⟩ := open_int Try.underlying3 (hval 0 3 v0 rfl rfl) h0
  have k0 := h0
  have lt0 : ∀ x ∈ ([] : List MemPlace), x.block < W.heap.size := by obtain ⟨m, hm⟩ := k0; exact DataW.trod_lt m _ _ _ hm
  have c0 : Flat.Came enc Try.prog W 0 (fun _ => true) true 3 (.int .i64 a0) := by
    obtain ⟨fuel, hf⟩ := h0
    exact ⟨fuel, _, hf, fun n hn => by
      have := List.all_eq_true.1 hsz n (DataW.weights_mem_each (j := 0) rfl rfl n hn)
      simpa using this⟩
  obtain ⟨ps1, ln1, cp1, rfl⟩ := okWide_slice Try.underlying22 (hval 1 22 v1 rfl rfl)
  have k1 := h1
  have lt1 : ∀ x ∈ p1, x.block < W.heap.size := by obtain ⟨m, hm⟩ := k1; exact DataW.trod_lt m _ _ _ hm
  have c1 : Flat.Came enc Try.prog W 0 (fun _ => true) true 22 (.slice ps1 ln1 cp1) := by
    obtain ⟨fuel, hf⟩ := h1
    exact ⟨fuel, _, hf, fun n hn => by
      have := List.all_eq_true.1 hsz n (DataW.weights_mem_each (j := 1) rfl rfl n hn)
      simpa using this⟩
  clear hA0 hval0
  refine (main (.int .i64 a0) (.slice ps1 ln1 cp1) W c0 c1).mono fun e W' ⟨he, hg⟩ => ?_
  subst he
  have bel := below_grown hg
  simp only [List.append_nil, List.nil_append] at hW'
  exact ⟨_, rfl, _, _, _, [], _, [], hW', trodAll_mk1 (shut_bool Try.underlying4 _), (trodAll_cons_mk (Below.trod laidOut (by kernel_rfl) (of_decide_eq_true (by kernel_rfl)) k0 bel lt0) (trodAll_cons_mk (Below.trod laidOut (by kernel_rfl) (of_decide_eq_true (by kernel_rfl)) k1 bel lt1) trodAll_mk0)), rfl, bel.frame _, fun h => by cases h⟩

theorem proved : Rows.PmapPlaysSaid :=
  OpenClaim.holds_of_wide 3 Try.f3 rfl rfl rfl rfl rfl rfl rfl ⟨rfl, rfl, rfl, rfl, rfl⟩ rfl rfl rfl rfl rfl (by kernel_rfl) Try.func3 (by kernel_rfl)
    (of_decide_eq_true (by kernel_rfl)) (by unfold Func.isWrapper; first | (rw [if_pos (by decide +kernel)]; kernel_rfl) | (rw [if_neg (by decide +kernel)]; exact ⟨rfl, rfl⟩))
    (fun os started H enc _ => lifted os started H enc)
#print axioms proved
end Go.Proofs.Ytpickaoeaidihaa.lawPmapPlays
