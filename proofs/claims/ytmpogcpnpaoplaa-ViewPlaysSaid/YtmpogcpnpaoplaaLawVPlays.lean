/-
  ViewPlays: for every row of beginnings, every row of rewrites and every row of calls the law returns true, and what was there stays. No condition.
-/
import Derived.Test.YtmpogcpnpaoplaaVW
import Derived.Test.YtmpogcpnpaoplaaVSame
import Derived.Test.YtmpogcpnpaoplaaVTwin
import Derived.Deep.Cut
import Derived.Deep.RegionWith
import Derived.Lib.Builder
namespace Go.Proofs.Ytmpogcpnpaoplaa.lawVPlays
open Go.ChangeShapes Go.WideShapes Go.ChangeAt Go.RowKit
set_option maxHeartbeats 2000000

theorem play_any (w0 w : World) (V G B : Nat) (S : Nat → Prop) (l : List PokeV) (n : Nat) (M : Mach) (X : Int) (U b : Nat) (pa : Option Addr) (cap : Nat) (x i off nn : Int) (pb : Option Addr) (cb : Nat) (lb : List UInt8) (h : VX w0 w V G B S l n M U b pa cap n M) (hok : M.ok X) (hp : PokesIn w0 pa l) (hl : l.length ≤ 64) (hn : (n : Int) < 9223372036854775807) (ho : off ≤ 9223372036854775807) (hnn : nn ≤ 9223372036854775807) (hlb : lb.length ≤ 140737488351232) (hin : InBytes w0 pb lb) :
    Calls Try.prog 23 #[.pointer (some ⟨V, 0, none⟩), .pointer (some ⟨U, 0, none⟩), .agg #[.int .i64 x, .int .i64 i, .int .i64 off, .int .i64 nn, .slice pb lb.length cb]] w fun e w' => e = .returned (.bool true) ∧ ∃ n' M', n' ≤ n + 1 ∧ M'.ok X ∧ VX w0 w' V G B S l n' M' U b pa cap n' M' := by
  by_cases h0 : x = 0
  · subst h0
    exact (play0 w0 w V G B S l n M X U b pa cap i off nn _ h hok hp hl hn ho hnn).mono fun e w' ⟨he, hv⟩ => ⟨he, n + 1, _, Nat.le_refl _, Mach.rews_ok _ hok, hv⟩
  by_cases h1 : x = 1
  · subst h1
    exact (play1 w0 w V G B S l n M X U b pa cap i off nn _ h hok hp hl hn ho).mono fun e w' ⟨he, hv⟩ => ⟨he, n + 1, _, Nat.le_refl _, Mach.rews_ok _ hok, hv⟩
  · exact (play2 w0 w V G B S l n M X U b pa cap x i off nn pb cb lb h hok ho hlb hin (by simp [h0]) (by simp [h1])).mono fun e w' ⟨he, hv⟩ => ⟨he, n, _, Nat.le_succ _, Mach.write_ok hok _ _ _, hv⟩

theorem neq_mach (B : Nat) (w : World) : (binOp .neq 23 (.pointer (some ⟨B, 0, none⟩)) (.pointer (some ⟨B, 0, none⟩))).run Try.prog w = .ok (.bool false) w := by
  have h : (Try.prog.info? 83).isSome = true := by kernel_rfl
  obtain ⟨j, hj⟩ := Option.isSome_iff_exists.1 h
  exact Go.Lib.run_neq_ptr_same w _ Try.underlying23 hj
set_option maxRecDepth 100000 in
set_option maxHeartbeats 6000000 in
theorem walk (ps : Option Addr) (cs : Nat) (ss : List StartV) (pa : Option Addr) (cap : Nat) (l : List PokeV) (po : Option Addr) (leno capo : Nat) (w : World)
    (hs : StartsIn w ps ss) (hss : ss.length ≤ 9223372036854775807) (hp : PokesIn w pa l) (hl : l.length ≤ 9223372036854775807) (hlo : leno ≤ 140737488355328) (hop : VOpsIn w po leno) :
    Calls Try.prog 5 #[.slice ps ss.length cs, .slice pa l.length cap, .slice po leno capo] w fun e w' => e = .returned (.bool true) ∧ w.grownBy w' none := by
  obtain ⟨n, hn⟩ : ∃ n, n = min ss.length 8 := ⟨_, rfl⟩
  have HP := hid hp
  have HB1 := hid (vBegin ps cs ss n w hs hn hss)
  obtain ⟨M, hM⟩ : ∃ M, beginK ss n n = M := ⟨_, rfl⟩
  rw [hM] at HB1
  have HOp := hid hop
  clear hM hs hp hn hss hop
  by_cases h64 : 64 < l.length
  · go_enter Try.func5, Try.ntmps5
    go_wp2_with (first
      | (go_at_call 20; refine HB1.out.mono ?_; rintro e w1 ⟨B, b, L, rfl, h1⟩; have H1 := hid h1; clear h1)
      | (go_at_call 21; refine (vNew_long B pa l.length cap _ M H1.out.m H1.out.ok.n1 h64).mono ?_; rintro e w3 ⟨rfl, rfl⟩)
      | (go_at_call 22; refine (rvNew_long b pa l.length cap _ h64).mono ?_; rintro e w4 ⟨rfl, rfl⟩))
    go_ret
    exact ⟨rfl, H1.out.grown⟩
  · have h64' : l.length ≤ 64 := by omega
    clear h64
    go_enter Try.func5, Try.ntmps5
    go_wp2_with (first
      | (go_at_call 20; refine HB1.out.mono ?_; rintro e w1 ⟨B, b, L, rfl, h1⟩; have H1 := hid h1; have hB1 := h1.m.lt; have hB0 := h1.farB; clear h1)
      | (go_at_call 21; refine (vNew B pa cap l _ M H1.out.m H1.out.ok.n1 h64' (HP.out.grown H1.out.grown)).mono ?_; rintro e w3 ⟨rfl, ⟨f3, hv3⟩, g3⟩; have HV3 := hid hv3; have H3 := hid (H1.out.more g3); have hs3 := hv3.top.lt; clear hv3 g3)
      | (go_at_call 22; refine (rvNew b pa l.length cap _ h64').mono ?_; rintro e w4 ⟨rfl, hr4, g4⟩; have HR4 := hid hr4; have HV4 := hid (HV3.out.grown g4); have H4 := hid (H3.out.more g4); clear hr4 g4))
    obtain ⟨S, hS⟩ : ∃ S : Nat → Prop, (fun k => w1.heap.size + 2 ≤ k ∧ k < w3.heap.size) = S := ⟨_, rfl⟩
    have HX := hid (show VX w w4 (w1.heap.size + 1) w1.heap.size B S l 0 M w3.heap.size b pa cap 0 M from by
      have gs := H1.out.grown.size
      subst hS
      refine ⟨⟨_, HV4.out⟩, H4.out.m, HR4.out, ⟨L, H4.out.r, fun q hq => ?_⟩, H4.out.grown, by omega, by omega, ?_, by omega, by omega, by omega⟩
      · have hq1 := H1.out.r.lt hq
        exact ⟨H1.out.far q hq, by omega, fun e => H1.out.r.off H1.out.m (e ▸ hq), fun e => by rcases e with e | e | e <;> (try have e' := e.1) <;> omega⟩
      · rintro (e | e | e)
        · omega
        · omega
        · exact Nat.lt_irrefl _ e.2)
    obtain ⟨U, hU⟩ : ∃ U, w3.heap.size = U := ⟨_, rfl⟩
    obtain ⟨V, hV⟩ : ∃ V, w1.heap.size + 1 = V := ⟨_, rfl⟩
    obtain ⟨G, hG⟩ : ∃ G, w1.heap.size = G := ⟨_, rfl⟩
    have HOk := hid H1.out.ok
    rw [hU, hV, hG] at HX
    rw [hU, hV]
    clear HV3 H3 HR4 HV4 H4 hU hV hG hS hs3 hB1 hB0
    go_loopw [14] (fun x wr => ∃ (i n' : Nat) (M' : Mach), x = .int .i64 i ∧ i ≤ leno ∧ n' ≤ i ∧ M'.ok n ∧ VX w wr V G B S l n' M' U b pa cap n' M') (fun x _ => leno - (intOf x).toNat)
    case atStart => exact ⟨0, 0, M, rfl, by omega, by omega, HOk.out, HX.out⟩
    case round =>
      clear HX HOk
      obtain ⟨i, n', M', rfl, hi, hn', hok, hvx⟩ := hrel
      have HX := hid hvx; have HOk := hid hok
      clear hvx hok
      have hi0 : (0 : Int) ≤ i := by omega
      by_cases hil : i < leno
      · have hil' : (i : Int) < leno := by omega
        obtain ⟨bo, oo, x0, xi, xo, xn, xv, rfl, hbo, d0, d1, d2, d3, d4, ⟨qp, ql, qc, rfl, hin, hll⟩, _, _, wo, wn⟩ := HOp.out i hil
        have hxo : xo ≤ 9223372036854775807 := (bounds_i64 wo).2
        have hxn : xn ≤ 9223372036854775807 := (bounds_i64 wn).2
        have gw := HX.out.g
        have k0 := gw.cell d0 (by simp)
        have k1 := gw.cell d1 (by simp)
        have k2 := gw.cell d2 (by simp)
        have k3 := gw.cell d3 (by simp)
        have k4 := gw.cell d4 (by simp)
        have heq := neq_mach B
        have HXd := hid (HX.out.more (grownBy_drew wr none))
        have HIn := hid hin
        clear d0 d1 d2 d3 d4 gw hin wo wn
        go_wp2
        go_region_with (first
          | (go_at_call 23; refine (play_any w _ V G B S l n' M' n U b pa cap x0 xi xo xn qp qc ql HXd.out HOk.out HP.out h64' (by omega) hxo hxn hll HIn.out).mono ?_; rintro e w5 ⟨rfl, n5, M5, hn5, hok5, h5⟩; have HX5 := hid h5; have HOk5 := hid hok5; have hc5 := h5.r.c2; have hq5 : ((n5 : Int) != (n5 : Int)) = false := (by simp); have hq6 : ((restN l n5 : Int) != (restN l n5 : Int)) = false := (by simp); clear h5 hok5 k0 k1 k2 k3 k4)
          | (go_at_call 24; obtain ⟨fv, hfv⟩ := HX5.out.v; refine (vReads _ _ _ _ _ _ _ fv _ hfv).mono ?_; rintro e w6 ⟨rfl, rfl⟩; clear hfv)
          | (go_at_call 25; obtain ⟨fv, hfv⟩ := HX5.out.v; refine (vRest _ _ _ _ _ _ _ fv _ hfv h64').mono ?_; rintro e w7 ⟨rfl, g7⟩; have HX7 := hid (HX5.out.more g7); clear hfv g7)
          | (go_at_call 26; refine (rvRest U b pa cap l n5 _ HX7.out.r (HP.out.grown HX7.out.g) h64').mono ?_; rintro e w8 ⟨rfl, g8⟩; have HX8 := hid (HX7.out.more g8); clear g8)
          | (go_at_call 27; obtain ⟨fv, hfv⟩ := HX8.out.v; refine (vMachine _ _ _ _ _ _ _ fv _ hfv).mono ?_; rintro e w9 ⟨rfl, rfl⟩; clear hfv))
        all_goals go_wp2
        all_goals go_roundw
        all_goals first | exact ⟨i + 1, n5, M5, by go_num, by omega, by omega, HOk5.out, HX8.out⟩ | (simp [intOf]; omega)
      · obtain rfl : i = leno := by omega
        have hge : (i : Int) ≤ i := by omega
        obtain ⟨L9, hL9, _⟩ := HX.out.k
        have HL9 := hid hL9
        clear hL9
        go_wp2_with (go_at_call 28; refine (same_yes B b M' L9 n _ HX.out.m HL9.out HOk.out).mono ?_; rintro e w9 ⟨rfl, g9⟩; have HG9 := hid (HX.out.g.trans g9); clear g9)
        go_ret
        exact ⟨rfl, HG9.out⟩

theorem main {H : Type} {enc : TypeId × Value → H} (v0 v1 v2 : Value) (W : World) (c0 : Flat.Came enc Try.prog W 0 (fun _ => true) true 43 v0) (c1 : Flat.Came enc Try.prog W 0 (fun _ => true) true 44 v1) (c2 : Flat.Came enc Try.prog W 0 (fun _ => true) true 45 v2) :
    Calls Try.prog 5 #[v0, v1, v2] W fun e w' => e = .returned (.bool true) ∧ W.grownBy w' none := by
  obtain ⟨ps, ss, cs, rfl, hss, hs⟩ := open_starts c0
  obtain ⟨pa, l, cap, rfl, hl, hp⟩ := open_pokes c1
  obtain ⟨po, leno, capo, rfl, hlo, hop⟩ := open_vops c2
  exact walk ps cs ss pa cap l po leno capo W hs hss hp hl hlo hop

theorem own : ownKnob Try.prog.godebug = none := by kernel_rfl
theorem laidOut : laidOutB Try.prog = true := by kernel_rfl

set_option maxRecDepth 100000 in
theorem lifted (os : Os) (started : os.Started) (H : Type) (enc : TypeId × Value → H) :
    ReturnsInHanded {} Try.checked os 5 .any (Rows.viewPlaysSpec.pre6 enc Try.prog Try.f5 Rows.viewPlaysRow.domain false) (Rows.viewPlaysSpec.post enc Try.prog Try.f5 false true false false) := by
  refine returnsInHanded_of_change_sized (C := Try.checked) own started (by kernel_rfl) Try.func5
    (ChangeSpec.witness6 (enc := enc) (C := Try.checked) false ⟨#[], #[.slice none 0 0, .slice none 0 0, .slice none 0 0], []⟩ 8 (by kernel_rfl) (by kernel_rfl) (by kernel_rfl) (by kernel_rfl)) ?_
  intro W base args ds gs before hval0 hW _ hsz0 _
  have hsz : (DataW.weightsEach Try.prog (Try.f5.params.toList ++ Rows.viewPlaysSpec.plain.varTypes Try.prog) (ds ++ gs)).all (· ≤ reachBytes) = true := hsz0
  clear hsz0
  have hval : ∀ (j : Nat) t v, Try.f5.params[j]? = some t → args[j]? = some v → Value.okWide Try.prog W .any base t v := hval0
  have hW' := hW
  obtain ⟨p, q, hA0, hV, rfl, hfz, hnd⟩ := hW
  have hA : DataW.TrodAll enc Try.prog W 0 (fun _ => true) true Try.f5.params.toList args.toList ds p := hA0
  rw [Try.params5] at hA hval hsz
  obtain ⟨v0, vs0, d0, ds0, p0, q0, hargs, rfl, rfl, h0, r0⟩ := trodAll_cons hA
  obtain ⟨v1, vs1, d1, ds1, p1, q1, rfl, rfl, rfl, h1, r1⟩ := trodAll_cons r0
  obtain ⟨v2, vs2, d2, ds2, p2, q2, rfl, rfl, rfl, h2, r2⟩ := trodAll_cons r1
  obtain ⟨rfl, rfl, rfl⟩ := trodAll_nil r2
  obtain rfl : args = #[v0, v1, v2] := by cases args; simp_all
  obtain ⟨rfl, rfl⟩ := trodVars_none hV
  obtain ⟨ps0, ln0, cp0, rfl⟩ := okWide_slice Try.underlying43 (hval 0 43 v0 rfl rfl)
  have k0 := h0
  have lt0 : ∀ x ∈ p0, x.block < W.heap.size := by obtain ⟨m, hm⟩ := k0; exact DataW.trod_lt m _ _ _ hm
  have c0 : Flat.Came enc Try.prog W 0 (fun _ => true) true 43 (.slice ps0 ln0 cp0) := by
    obtain ⟨fuel, hf⟩ := h0
    exact ⟨fuel, _, hf, fun n hn => by
      have := List.all_eq_true.1 hsz n (DataW.weights_mem_each (j := 0) rfl rfl n hn)
      simpa using this⟩
  obtain ⟨ps1, ln1, cp1, rfl⟩ := okWide_slice Try.underlying44 (hval 1 44 v1 rfl rfl)
  have k1 := h1
  have lt1 : ∀ x ∈ p1, x.block < W.heap.size := by obtain ⟨m, hm⟩ := k1; exact DataW.trod_lt m _ _ _ hm
  have c1 : Flat.Came enc Try.prog W 0 (fun _ => true) true 44 (.slice ps1 ln1 cp1) := by
    obtain ⟨fuel, hf⟩ := h1
    exact ⟨fuel, _, hf, fun n hn => by
      have := List.all_eq_true.1 hsz n (DataW.weights_mem_each (j := 1) rfl rfl n hn)
      simpa using this⟩
  obtain ⟨ps2, ln2, cp2, rfl⟩ := okWide_slice Try.underlying45 (hval 2 45 v2 rfl rfl)
  have k2 := h2
  have lt2 : ∀ x ∈ p2, x.block < W.heap.size := by obtain ⟨m, hm⟩ := k2; exact DataW.trod_lt m _ _ _ hm
  have c2 : Flat.Came enc Try.prog W 0 (fun _ => true) true 45 (.slice ps2 ln2 cp2) := by
    obtain ⟨fuel, hf⟩ := h2
    exact ⟨fuel, _, hf, fun n hn => by
      have := List.all_eq_true.1 hsz n (DataW.weights_mem_each (j := 2) rfl rfl n hn)
      simpa using this⟩
  clear hA0 hval0
  refine (main (.slice ps0 ln0 cp0) (.slice ps1 ln1 cp1) (.slice ps2 ln2 cp2) W c0 c1 c2).mono fun e W' ⟨he, hg⟩ => ?_
  subst he
  have bel := below_grown hg
  simp only [List.append_nil, List.nil_append] at hW'
  exact ⟨_, rfl, _, _, _, [], _, [], hW', trodAll_mk1 (shut_bool Try.underlying4 _), (trodAll_cons_mk (Below.trod laidOut (by kernel_rfl) (of_decide_eq_true (by kernel_rfl)) k0 bel lt0) (trodAll_cons_mk (Below.trod laidOut (by kernel_rfl) (of_decide_eq_true (by kernel_rfl)) k1 bel lt1) (trodAll_cons_mk (Below.trod laidOut (by kernel_rfl) (of_decide_eq_true (by kernel_rfl)) k2 bel lt2) trodAll_mk0))), rfl, bel.frame _, fun h => by cases h⟩

theorem proved : Rows.ViewPlaysSaid :=
  OpenClaim.holds_of_wide 5 Try.f5 rfl rfl rfl rfl rfl rfl rfl ⟨rfl, rfl, rfl, rfl, rfl⟩ rfl rfl rfl rfl rfl (by kernel_rfl) Try.func5 (by kernel_rfl)
    (of_decide_eq_true (by kernel_rfl)) (by unfold Func.isWrapper; first | (rw [if_pos (by decide +kernel)]; kernel_rfl) | (rw [if_neg (by decide +kernel)]; exact ⟨rfl, rfl⟩))
    (fun os started H enc _ => lifted os started H enc)
#print axioms proved
end Go.Proofs.Ytmpogcpnpaoplaa.lawVPlays
