/-
  ViewWords: for every row of beginnings, every row of rewrites and every two numbers the law returns true, and what was there stays. No condition.
-/
import Derived.Test.YtihcbafgokimjaaVOpen
import Derived.Test.YtihcbafgokimjaaViewE
namespace Go.Proofs.Ytihcbafgokimjaa.lawVWords
open Go.ChangeShapes Go.WideShapes Go.ChangeAt Go.RowKit
set_option maxHeartbeats 2000000

theorem read_word (r : List UInt8 × Int) (h : (r.2 = 1 ∧ r.1 = []) ∨ (r.2 = 0 ∧ ∃ x y : UInt8, r.1 = [x, y])) : (r.2 = 1 ∧ r.1 = [] ∧ wordOf r = 0) ∨ ∃ x y : UInt8, r.2 = 0 ∧ r.1 = [x, y] ∧ wordOf r = (x.toNat : Int) + 256 * (y.toNat : Int) := by
  obtain ⟨l, c⟩ := r
  rcases h with ⟨h1, h2⟩ | ⟨h1, x, y, h2⟩
  · simp only at h1 h2; subst h1 h2; exact .inl ⟨rfl, rfl, rfl⟩
  · simp only at h1 h2; subst h1 h2; exact .inr ⟨x, y, rfl, rfl, rfl⟩

set_option maxRecDepth 100000 in
theorem walk (ps : Option Addr) (cs : Nat) (ss : List StartV) (pa : Option Addr) (cap : Nat) (l : List PokeV) (i off : Int) (w : World) (hs : StartsIn w ps ss) (hss : ss.length ≤ 9223372036854775807) (hp : PokesIn w pa l) (hl : l.length ≤ 9223372036854775807) (ho : off ≤ 9223372036854775807) :
    Calls Try.prog 8 #[.slice ps ss.length cs, .slice pa l.length cap, .int .i64 i, .int .i64 off] w fun e w' => e = .returned (.bool true) ∧ w.grownBy w' none := by
  obtain ⟨n, hn⟩ : ∃ n, n = min ss.length 8 := ⟨_, rfl⟩
  have HS := hid hs
  have HP := hid hp
  have HF := hid hp.fits
  have HB1 := hid (vBegin ps cs ss n w hs hn hss)
  have HBg := hid (fun (W : World) (hg : w.grownBy W none) => vBegin ps cs ss n W (hs.grown hg) hn hss)
  obtain ⟨M, hM⟩ : ∃ M, beginK ss n n = M := ⟨_, rfl⟩
  rw [hM] at HB1
  simp only [hM] at HBg
  clear hM hs hp hn hss
  by_cases h64 : 64 < l.length
  · have h64' : (64 : Int) < l.length := by omega
    go_enter Try.func8, Try.ntmps8
    go_wp2_with (first
      | (go_at_call 19; first
          | ((with_reducible refine HB1.out.mono ?_); rintro e w1 ⟨B, b, L, rfl, h1⟩; have H1 := hid h1; clear h1)
          | ((with_reducible refine (HBg.out _ H1.out.grown).mono ?_); rintro e w2 ⟨B2, b2, L2, rfl, h2⟩; have H2 := hid h2; have H1b := hid (H1.out.more h2.grown); have G2 := hid (H1.out.grown.trans h2.grown); clear h2))
      | (go_at_call 20; first
          | ((with_reducible refine (vNew_long B pa l.length cap _ M H1b.out.m H1b.out.ok.n1 h64).mono ?_); rintro e w3 ⟨rfl, rfl⟩)
          | ((with_reducible refine (vNew_long B2 pa l.length cap _ M H2.out.m H2.out.ok.n1 h64).mono ?_); rintro e w4 ⟨rfl, rfl⟩)))
    go_ret
    exact ⟨rfl, G2.out⟩
  · have h64' : l.length ≤ 64 := by omega
    clear h64
    have HBg2 := hid HBg.out
    clear HBg
    obtain ⟨r, hr⟩ : ∃ r, (M.rews (due l ((0 : Nat) : Int))).read i off 2 = r := ⟨_, rfl⟩
    have hx := read_word r (hr ▸ read_two (M.rews (due l ((0 : Nat) : Int))) i off)
    have HR := hid hr
    clear hr
    rcases hx with ⟨e1, e2, e3⟩ | ⟨x, y, e1, e2, e3⟩
    · have E1 := hid e1; have E2 := hid e2; have E3 := hid e3
      clear e1 e2 e3
      go_enter Try.func8, Try.ntmps8
      go_wp2_with (first
        | (go_at_call 19; first
            | ((with_reducible refine HB1.out.mono ?_); rintro e w1 ⟨B, b, L, rfl, h1⟩; have H1 := hid h1; have hB1 := h1.m.lt; have hB0 := h1.farB; clear h1)
            | ((with_reducible refine (HBg2.out _ H1.out.grown).mono ?_); rintro e w2 ⟨B2, b2, L2, rfl, h2⟩; have H2 := hid h2; have H1b := hid (H1.out.more h2.grown); have G2 := hid (H1.out.grown.trans h2.grown); have hB2 := h2.m.lt; have hB3 := h2.farB; clear h2))
        | (go_at_call 20; first
            | ((with_reducible refine (vNew B pa cap l _ M H1b.out.m H1b.out.ok.n1 h64' (HP.out.grown G2.out)).mono ?_); rintro e w3 ⟨rfl, ⟨f3, hv3⟩, g3⟩; have HV3 := hid hv3; have hs3 := hv3.top.lt; have G3 := hid g3; have HM3 := hid (H1b.out.m.grown g3 (by simp)); clear hv3 g3)
            | ((with_reducible refine (vNew B2 pa cap l _ M (H2.out.m.grown G3.out (by simp)) H2.out.ok.n1 h64' (HP.out.grown (G2.out.trans G3.out))).mono ?_); rintro e w4 ⟨rfl, ⟨f4, hv4⟩, g4⟩; have HV4 := hid hv4; have HV3b := hid (HV3.out.grown g4); have G4 := hid ((G2.out.trans G3.out).trans g4); have HM4 := hid ((H2.out.m.grown G3.out (by simp)).grown g4 (by simp)); have HM3b := hid (HM3.out.grown g4 (by simp)); have hs4 := hv4.top.lt; clear hv4 g4))
        | (go_at_call 31; refine (vWord _ _ B _ l 0 l.length f3 i off _ M n HV3b.out HM3b.out H1.out.ok HF.out (by omega) h64' ho).mono ?_; rw [HR.out, E1.out, E3.out]; rintro e w5 ⟨rfl, hv⟩; obtain ⟨f5, hvv⟩ := hv.view; have HV5 := hid hvv; have HV4b := hid (HV4.out.chg hv.chg (by intro k hk e; simp only [vfoot] at hk; omega)); have HM4b := hid (HM4.out.chg hv.chg (by intro e; omega)); have G5 := hid (hv.chg.grown G4.out (by intro k e; have := G2.out.size; omega)); clear hvv hv)
        | (go_at_call 28; refine (vRead _ _ B2 _ l 0 l.length f4 i off 2 _ M n HV4b.out HM4b.out H2.out.ok HF.out (by omega) h64' ho).mono ?_; rw [HR.out, E1.out]; rintro e w6 ⟨v, rfl, hb, hr⟩; obtain ⟨f6, hvv⟩ := hr.view; have HBy := hid hb; have HV6 := hid (show VV w6 _ _ _ _ _ 1 _ _ from hvv); have HV5b := hid (show VV w6 _ _ _ _ _ 1 _ _ from HV5.out.chg hr.chg (by intro k hk e; simp only [vfoot] at hk; omega)); have G6 := hid (hr.chg.grown G5.out (by intro k e; have := G2.out.size; have := H1.out.grown.size; omega)); clear hvv hb hr)
        | (go_at_call 23; first | ((with_reducible refine (vReads _ _ B _ l 1 l.length _ _ HV5b.out).mono ?_); rintro e w7 ⟨rfl, rfl⟩) | ((with_reducible refine (vReads _ _ B2 _ l 1 l.length _ _ HV6.out).mono ?_); rintro e w7 ⟨rfl, rfl⟩)))
      go_quiet (fail)
      all_goals go_wp2
      all_goals go_ret
      all_goals exact ⟨rfl, G6.out.trans (grownBy_drewN _ _ none)⟩
    · have E1 := hid e1; have E2 := hid e2; have E3 := hid e3
      clear e1 e2 e3
      have hx := x.toNat_lt
      have hy := y.toNat_lt
      go_enter Try.func8, Try.ntmps8
      go_upto_region 15 with (first
        | (go_at_call 19; first
            | ((with_reducible refine HB1.out.mono ?_); rintro e w1 ⟨B, b, L, rfl, h1⟩; have H1 := hid h1; have hB1 := h1.m.lt; have hB0 := h1.farB; clear h1)
            | ((with_reducible refine (HBg2.out _ H1.out.grown).mono ?_); rintro e w2 ⟨B2, b2, L2, rfl, h2⟩; have H2 := hid h2; have H1b := hid (H1.out.more h2.grown); have G2 := hid (H1.out.grown.trans h2.grown); have hB2 := h2.m.lt; have hB3 := h2.farB; clear h2))
        | (go_at_call 20; first
            | ((with_reducible refine (vNew B pa cap l _ M H1b.out.m H1b.out.ok.n1 h64' (HP.out.grown G2.out)).mono ?_); rintro e w3 ⟨rfl, ⟨f3, hv3⟩, g3⟩; have HV3 := hid hv3; have hs3 := hv3.top.lt; have G3 := hid g3; have HM3 := hid (H1b.out.m.grown g3 (by simp)); clear hv3 g3)
            | ((with_reducible refine (vNew B2 pa cap l _ M (H2.out.m.grown G3.out (by simp)) H2.out.ok.n1 h64' (HP.out.grown (G2.out.trans G3.out))).mono ?_); rintro e w4 ⟨rfl, ⟨f4, hv4⟩, g4⟩; have HV4 := hid hv4; have HV3b := hid (HV3.out.grown g4); have G4 := hid ((G2.out.trans G3.out).trans g4); have HM4 := hid ((H2.out.m.grown G3.out (by simp)).grown g4 (by simp)); have HM3b := hid (HM3.out.grown g4 (by simp)); have hs4 := hv4.top.lt; clear hv4 g4))
        | (go_at_call 31; refine (vWord _ _ B _ l 0 l.length f3 i off _ M n HV3b.out HM3b.out H1.out.ok HF.out (by omega) h64' ho).mono ?_; rw [HR.out, E1.out, E3.out]; rintro e w5 ⟨rfl, hv⟩; obtain ⟨f5, hvv⟩ := hv.view; have HV5 := hid hvv; have HV4b := hid (HV4.out.chg hv.chg (by intro k hk e; simp only [vfoot] at hk; omega)); have HM4b := hid (HM4.out.chg hv.chg (by intro e; omega)); have G5 := hid (hv.chg.grown G4.out (by intro k e; have := G2.out.size; omega)); clear hvv hv)
        | (go_at_call 28; refine (vRead _ _ B2 _ l 0 l.length f4 i off 2 _ M n HV4b.out HM4b.out H2.out.ok HF.out (by omega) h64' ho).mono ?_; rw [HR.out, E1.out]; rintro e w6 ⟨v, rfl, hb, hr⟩; obtain ⟨f6, hvv⟩ := hr.view; have HBy := hid hb; have HV6 := hid (show VV w6 _ _ _ _ _ 1 _ _ from hvv); have HV5b := hid (show VV w6 _ _ _ _ _ 1 _ _ from HV5.out.chg hr.chg (by intro k hk e; simp only [vfoot] at hk; omega)); have G6 := hid (hr.chg.grown G5.out (by intro k e; have := G2.out.size; have := H1.out.grown.size; omega)); clear hvv hb hr)
        | (go_at_call 23; first | ((with_reducible refine (vReads _ _ B _ l 1 l.length _ _ HV5b.out).mono ?_); rintro e w7 ⟨rfl, rfl⟩) | ((with_reducible refine (vReads _ _ B2 _ l 1 l.length _ _ HV6.out).mono ?_); rintro e w7 ⟨rfl, rfl⟩)))
      have hb := HBy.out
      rw [E2.out] at hb
      obtain ⟨q, cc, rfl, hk⟩ := hb
      rcases hk with hk | ⟨g, rfl, _, hk⟩
      · cases hk
      · have k0 := hk 0 (by simp)
        have k1 := hk 1 (by simp)
        simp only [List.getD_cons_zero, List.getD_cons_succ] at k0 k1
        clear hk
        go_quiet (fail)
        all_goals go_wp2
        all_goals go_ret
        all_goals exact ⟨by simp, G6.out.trans (grownBy_drewN _ _ none)⟩
theorem main {H : Type} {enc : TypeId × Value → H} (v0 v1 v2 v3 : Value) (W : World) (c0 : Flat.Came enc Try.prog W 0 (fun _ => true) true 43 v0) (c1 : Flat.Came enc Try.prog W 0 (fun _ => true) true 44 v1) (c2 : Flat.Came enc Try.prog W 0 (fun _ => true) true 3 v2) (c3 : Flat.Came enc Try.prog W 0 (fun _ => true) true 3 v3) :
    Calls Try.prog 8 #[v0, v1, v2, v3] W fun e w' => e = .returned (.bool true) ∧ W.grownBy w' none := by
  obtain ⟨ps, ss, cs, rfl, hss, hs⟩ := open_starts c0
  obtain ⟨pa, l, cap, rfl, hl, hp⟩ := open_pokes c1
  obtain ⟨i, rfl, _⟩ := c2.int Try.underlying3
  obtain ⟨off, rfl, ho⟩ := c3.int Try.underlying3
  exact walk ps cs ss pa cap l i off W hs hss hp hl (bounds_i64 ho).2

theorem own : ownKnob Try.prog.godebug = none := by kernel_rfl
theorem laidOut : laidOutB Try.prog = true := by kernel_rfl

set_option maxRecDepth 100000 in
theorem lifted (os : Os) (started : os.Started) (H : Type) (enc : TypeId × Value → H) :
    ReturnsInHanded {} Try.checked os 8 .any (Rows.viewWordsSpec.pre6 enc Try.prog Try.f8 Rows.viewWordsRow.domain false) (Rows.viewWordsSpec.post enc Try.prog Try.f8 false true false false) := by
  refine returnsInHanded_of_change_sized (C := Try.checked) own started (by kernel_rfl) Try.func8
    (ChangeSpec.witness6 (enc := enc) (C := Try.checked) false ⟨#[], #[.slice none 0 0, .slice none 0 0, .int .i64 0, .int .i64 0], []⟩ 8 (by kernel_rfl) (by kernel_rfl) (by kernel_rfl) (by kernel_rfl)) ?_
  intro W base args ds gs before hval0 hW _ hsz0 _
  have hsz : (DataW.weightsEach Try.prog (Try.f8.params.toList ++ Rows.viewWordsSpec.plain.varTypes Try.prog) (ds ++ gs)).all (· ≤ reachBytes) = true := hsz0
  clear hsz0
  have hval : ∀ (j : Nat) t v, Try.f8.params[j]? = some t → args[j]? = some v → Value.okWide Try.prog W .any base t v := hval0
  have hW' := hW
  obtain ⟨p, q, hA0, hV, rfl, hfz, hnd⟩ := hW
  have hA : DataW.TrodAll enc Try.prog W 0 (fun _ => true) true Try.f8.params.toList args.toList ds p := hA0
  rw [Try.params8] at hA hval hsz
  obtain ⟨v0, vs0, d0, ds0, p0, q0, hargs, rfl, rfl, h0, r0⟩ := trodAll_cons hA
  obtain ⟨v1, vs1, d1, ds1, p1, q1, rfl, rfl, rfl, h1, r1⟩ := trodAll_cons r0
  obtain ⟨v2, vs2, d2, ds2, p2, q2, rfl, rfl, rfl, h2, r2⟩ := trodAll_cons r1
  obtain ⟨v3, vs3, d3, ds3, p3, q3, rfl, rfl, rfl, h3, r3⟩ := trodAll_cons r2
  obtain ⟨rfl, rfl, rfl⟩ := trodAll_nil r3
  obtain rfl : args = #[v0, v1, v2, v3] := by cases args; simp_all
  obtain ⟨rfl, rfl⟩ := trodVars_none hV
  obtain ⟨ps0, ln0, cp0, rfl⟩ := okWide_slice Try.underlying43 (hval 0 43 v0 rfl rfl)
  have k0 := h0
  have lt0 : ∀ x ∈ p0, x.block < W.heap.size := by obtain ⟨m, hm⟩ := k0; exact DataW.trod_lt m _ _ _ hm
  have c0 : Flat.Came enc Try.prog W 0 (fun _ => true) true 43 (.slice ps0 ln0 cp0) := by
    obtain ⟨fuel, hf⟩ := h0
    exact ⟨fuel, _, hf, fun n hn => by
      have := List.all_eq_true.1 hsz n (DataW.weights_mem_each (j := 0) rfl rfl n hn)
      simpa using this⟩
  obtain ⟨ps1, ln1, cp1, rfl⟩ := okWide_slice Try.underlying44 (hval 1 44 v1 rfl rfl)
  have k1 := h1
  have lt1 : ∀ x ∈ p1, x.block < W.heap.size := by obtain ⟨m, hm⟩ := k1; exact DataW.trod_lt m _ _ _ hm
  have c1 : Flat.Came enc Try.prog W 0 (fun _ => true) true 44 (.slice ps1 ln1 cp1) := by
    obtain ⟨fuel, hf⟩ := h1
    exact ⟨fuel, _, hf, fun n hn => by
      have := List.all_eq_true.1 hsz n (DataW.weights_mem_each (j := 1) rfl rfl n hn)
      simpa using this⟩
  obtain ⟨a2, rfl, rfl, rfl, w2⟩ := open_int Try.underlying3 (hval 2 3 v2 rfl rfl) h2
  have k2 := h2
  have lt2 : ∀ x ∈ ([] : List MemPlace), x.block < W.heap.size := by obtain ⟨m, hm⟩ := k2; exact DataW.trod_lt m _ _ _ hm
  have c2 : Flat.Came enc Try.prog W 0 (fun _ => true) true 3 (.int .i64 a2) := by
    obtain ⟨fuel, hf⟩ := h2
    exact ⟨fuel, _, hf, fun n hn => by
      have := List.all_eq_true.1 hsz n (DataW.weights_mem_each (j := 2) rfl rfl n hn)
      simpa using this⟩
  obtain ⟨a3, rfl, rfl, rfl, w3⟩ := open_int Try.underlying3 (hval 3 3 v3 rfl rfl) h3
  have k3 := h3
  have lt3 : ∀ x ∈ ([] : List MemPlace), x.block < W.heap.size := by obtain ⟨m, hm⟩ := k3; exact DataW.trod_lt m _ _ _ hm
  have c3 : Flat.Came enc Try.prog W 0 (fun _ => true) true 3 (.int .i64 a3) := by
    obtain ⟨fuel, hf⟩ := h3
    exact ⟨fuel, _, hf, fun n hn => by
      have := List.all_eq_true.1 hsz n (DataW.weights_mem_each (j := 3) rfl rfl n hn)
      simpa using this⟩
  clear hA0 hval0
  refine (main (.slice ps0 ln0 cp0) (.slice ps1 ln1 cp1) (.int .i64 a2) (.int .i64 a3) W c0 c1 c2 c3).mono fun e W' ⟨he, hg⟩ => ?_
  subst he
  have bel := below_grown hg
  simp only [List.append_nil, List.nil_append] at hW'
  exact ⟨_, rfl, _, _, _, [], _, [], hW', trodAll_mk1 (shut_bool Try.underlying4 _), (trodAll_cons_mk (Below.trod laidOut (by kernel_rfl) (of_decide_eq_true (by kernel_rfl)) k0 bel lt0) (trodAll_cons_mk (Below.trod laidOut (by kernel_rfl) (of_decide_eq_true (by kernel_rfl)) k1 bel lt1) (trodAll_cons_mk (Below.trod laidOut (by kernel_rfl) (of_decide_eq_true (by kernel_rfl)) k2 bel lt2) (trodAll_cons_mk (Below.trod laidOut (by kernel_rfl) (of_decide_eq_true (by kernel_rfl)) k3 bel lt3) trodAll_mk0)))), rfl, bel.frame _, fun h => by cases h⟩

theorem proved : Rows.ViewWordsSaid :=
  OpenClaim.holds_of_wide 8 Try.f8 rfl rfl rfl rfl rfl rfl rfl ⟨rfl, rfl, rfl, rfl, rfl⟩ rfl rfl rfl rfl rfl (by kernel_rfl) Try.func8 (by kernel_rfl)
    (of_decide_eq_true (by kernel_rfl)) (by unfold Func.isWrapper; first | (rw [if_pos (by decide +kernel)]; kernel_rfl) | (rw [if_neg (by decide +kernel)]; exact ⟨rfl, rfl⟩))
    (fun os started H enc _ => lifted os started H enc)
#print axioms proved
end Go.Proofs.Ytihcbafgokimjaa.lawVWords
