/-
  law02.play: Write on both sides.
-/
import Derived.Test.YtmpogcpnpaoplaaVZ
import Derived.Test.YtmpogcpnpaoplaaVLate
namespace Go.Proofs.Ytmpogcpnpaoplaa
open Go.RowKit
set_option maxHeartbeats 1200000

theorem bcells_nil : bcells [] = [] := List.eq_nil_of_length_eq_zero (by rw [bcells_len]; rfl)
theorem own_isBytes {W : World} {base B : Nat} {v : Value} {l : List UInt8} {M : Mach} (h : W.ownsRow base 5 1 v l.length (bcells l)) (hM : PM W B M) : IsBytes W B v l := by
  by_cases hl : l = []
  · subst hl
    obtain ⟨p, c, rfl⟩ := ownsRow_slice h
    exact .inl ⟨⟨_, _, rfl⟩, rfl⟩
  · obtain ⟨m, hm⟩ : ∃ m, l.length = m + 1 := ⟨l.length - 1, by have := List.length_pos_iff.2 hl; omega⟩
    have h' := h
    rw [hm] at h'
    obtain ⟨g, cap, rfl⟩ := ownsRow_succ h'
    refine .inr ⟨⟨g, 0, none⟩, cap, by rw [hm], ?_, fun k x hx => ?_⟩
    · rintro rfl
      rcases h.2 with ⟨e, _⟩ | ⟨g', cap', cur, e, _, hg, _⟩
      · cases e
      · injection e with e1 _ _
        cases e1
        rw [show W.heap[g]? = _ from hM] at hg; cases hg
    · have hk := (List.getElem?_eq_some_iff.1 hx).1
      have e : (⟨g, 0, none⟩ : Addr).add k = ⟨g, k, none⟩ := by unfold Addr.add; split <;> simp_all
      rw [e, h'.cellAt k (by omega), bcells_get, hx]
      rfl
theorem run_append_in (X : World) (base : Nat) (ty : TypeId) (i0 : TypeInfo) (hi : Try.prog.info? 5 = some i0) (hz0 : i0.zero = some (.int .u8 0)) (hz1 : i0.size = 1) (hz2 : i0.bytes = 1) (v : Value) (hown : X.ownsRow base 5 1 v 0 [])
    (pa : Option Addr) (cap : Nat) (l : List UInt8) (hl : l.length * 1 ≤ 140737488355328) (hb : base ≤ X.heap.size) (hs : ∀ k, k < l.length → ∃ sb so, pa = some ⟨sb, so, none⟩ ∧ X.cell? ⟨sb, so + k, none⟩ = some (.int .u8 (l.getD k 0).toNat)) :
    ∃ v' Y, (Builtin.append_ #[31, 31] ty #[v, .slice pa l.length cap]).run Try.prog X = .ok v' Y ∧ Y.ownsRow base 5 1 v' l.length (bcells l) ∧ X.grownBy Y v.ownBlock := by
  cases pa with
  | none =>
    have hl0 : l = [] := by
      cases l with
      | nil => rfl
      | cons a r => obtain ⟨_, _, e, _⟩ := hs 0 (by simp); cases e
    subst hl0
    refine ⟨v, X, ?_, by rw [bcells_nil]; exact hown, World.grownBy.refl _ _⟩
    rcases hown.2 with ⟨rfl, _⟩ | ⟨g, c, cur, rfl, _⟩
    · simp [Builtin.append_, run_underlying Try.underlying31, sizeOf, typeInfo, hi, Builtin.lenOf, Builtin.firstCells]
    · simp [Builtin.append_, run_underlying Try.underlying31, sizeOf, typeInfo, hi, Builtin.lenOf, Builtin.firstCells, storeCells]
  | some ad =>
    obtain ⟨v', Y, hr, h2, h3, _⟩ := run_append_own (P := Try.prog) X base 31 ty 5 i0 (.int .u8 0) 1 1 Try.underlying31 hi hz0 hz1 hz2 rfl (by decide) v 0 [] hown ad l.length cap (bcells l) (by rw [bcells_len]; omega) (fun k u hu => by
      rw [bcells_get] at hu
      cases hx : l[k]? with
      | none => rw [hx] at hu; cases hu
      | some x =>
        rw [hx] at hu; cases hu
        have hk := (List.getElem?_eq_some_iff.1 hx).1
        obtain ⟨sb, so, e, hc⟩ := hs k hk
        cases e
        have e : (⟨sb, so, none⟩ : Addr).add k = ⟨sb, so + k, none⟩ := by unfold Addr.add; split <;> simp_all
        rw [e, hc]
        simp [List.getD, hx]) (bcells_one l) (by unfold maxLen; omega) (by omega) hb
    exact ⟨v', Y, hr, by simpa using h2, h3⟩
theorem step_append_in {ops : Array Oper} {o : Oper} {a : Act} {X : World} {K : Act → World → Prop} {Q : Exit → Act → World → Prop} {E : Prop} (hgd : o.guard = none) (s x : Operand)
    (ho : o.op = .call { callee := .builtin .append, args := #[s, x], argTypes := #[31, 31] }) (base : Nat) (i0 : TypeInfo) (hi : Try.prog.info? 5 = some i0) (hz0 : i0.zero = some (.int .u8 0)) (hz1 : i0.size = 1) (hz2 : i0.bytes = 1)
    (v : Value) (hs : a.eval s = v) (hown : X.ownsRow base 5 1 v 0 []) (pa : Option Addr) (cap : Nat) (l : List UInt8) (hx : a.eval x = .slice pa l.length cap) (hl : l.length * 1 ≤ 140737488355328) (hb : base ≤ X.heap.size)
    (hsrc : ∀ k, k < l.length → ∃ sb so, pa = some ⟨sb, so, none⟩ ∧ X.cell? ⟨sb, so + k, none⟩ = some (.int .u8 (l.getD k 0).toNat))
    (h : ∀ v' Y, Y.ownsRow base 5 1 v' l.length (bcells l) → X.grownBy Y v.ownBlock → K (a.put o.dst v') Y) :
    if Region.wanted o (yielded ops a.tmps) = true then Oper.wp Try.prog o a X K Q else E := by
  have hw : Region.wanted o (yielded ops a.tmps) = true := by simp [Region.wanted, hgd]
  rw [if_pos hw]
  obtain ⟨v', Y, hr, h2, h3⟩ := run_append_in X base o.type i0 hi hz0 hz1 hz2 v hown pa cap l hl hb hsrc
  unfold Oper.wp execOp
  simp only [ho, resolve, invoke, builtin, Sem.run_bind, Sem.run_pure, Result.andThen_ok, List.map_toArray, List.map_cons, List.map_nil, hs, hx, hr]
  exact h v' Y h2 h3


section
variable {w0 w W : World} {V G B : Nat} {S : Nat → Prop} {l : List PokeV} {n : Nat} {M : Mach} {U b : Nat} {pa : Option Addr} {cap n' : Nat} {M' : Mach}
theorem VX.vwrite (h : VX w0 w V G B S l n M U b pa cap n' M') {M2 : Mach} (hm : PM W B M2) (hg : w.grownBy W (some B)) : VX w0 W V G B S l n M2 U b pa cap n' M' := by
  obtain ⟨f, hf⟩ := h.v
  obtain ⟨L, hL, hk⟩ := h.k
  have hc : Chg (fun k => k = B) w W := Chg.of hg (by rintro j e; exact .inl (Option.some.inj e).symm)
  refine ⟨⟨f, hf.chg hc (fun q hq e => ?_)⟩, hm, Row.chg h.r hc h.UB, ⟨L, hL.chg hc (fun q hq e => (hk q hq).2.2.1 e), hk⟩, hc.grown h.g (by rintro q rfl; exact h.V0.2.2), h.U0, h.UB, h.UV, h.V0⟩
  subst e
  rcases hq with e | e | e
  · exact hf.VB e.symm
  · exact hf.GB e.symm
  · exact hf.sB e
theorem VX.rwrite (h : VX w0 w V G B S l n M U b pa cap n' M') {M2 : Mach} {L : Lay} (hk : ∀ q, L.foot b q → w0.heap.size ≤ q ∧ q ≠ U ∧ q ≠ B ∧ ¬ vfoot V G S q) {L' : Lay} (hm : RM W b M2 L') (hc : Chg (L.foot b) w W) (hf : ∀ k, L'.foot b k → L.foot b k ∨ w.heap.size ≤ k) : VX w0 W V G B S l n M U b pa cap n' M2 := by
  obtain ⟨f, hvv⟩ := h.v
  have hsz := h.g.size
  have hUl : U < w.heap.size := Row.lt h.r
  have hBl := h.m.lt
  refine ⟨⟨f, hvv.chg hc (fun q hq e => (hk q e).2.2.2 hq)⟩, h.m.chg hc (fun e => (hk B e).2.2.1 rfl), Row.chg h.r hc (fun e => (hk U e).2.1 rfl), ⟨L', hm, fun q hq => ?_⟩, hc.grown h.g (fun q e => (hk q e).1), h.U0, h.UB, h.UV, h.V0⟩
  rcases hf q hq with e | e
  · exact hk q e
  · exact ⟨by omega, by omega, by omega, fun e' => by have := hvv.foot_lt e'; omega⟩
end
set_option maxRecDepth 100000 in
theorem play2 (w0 w : World) (V G B : Nat) (S : Nat → Prop) (l : List PokeV) (n : Nat) (M : Mach) (X : Int) (U b : Nat) (pa : Option Addr) (cap : Nat) (x i off nn : Int) (pb : Option Addr) (cb : Nat) (lb : List UInt8) (h : VX w0 w V G B S l n M U b pa cap n M) (hok : M.ok X) (ho : off ≤ 9223372036854775807) (hlb : lb.length ≤ 140737488351232) (hin : InBytes w0 pb lb)
    (x0 : (x == 0) = false) (x1 : (x == 1) = false) :
    Calls Try.prog 23 #[.pointer (some ⟨V, 0, none⟩), .pointer (some ⟨U, 0, none⟩), .agg #[.int .i64 x, .int .i64 i, .int .i64 off, .int .i64 nn, .slice pb lb.length cb]] w fun e w' => e = .returned (.bool true) ∧ VX w0 w' V G B S l n (M.write i off lb).2 U b pa cap n (M.write i off lb).2 := by
  obtain ⟨W, hW, hg, hs, hrow⟩ := box5v w (.int .i64 x) (.int .i64 i) (.int .i64 off) (.int .i64 nn) (.slice pb lb.length cb)
  obtain ⟨l1, l2, l3⟩ := h.lt
  have H := hid (h.more hg); have HOk := hid hok
  have HIn := hid hin
  have HBx := hid (show w.heap.size ≠ B by omega)
  obtain ⟨L, hL, hk⟩ := h.k
  have HL := hid (hL.grown hg); have HK := hid hk
  have HX := hid (show ¬ L.foot b w.heap.size from fun h => Nat.lt_irrefl _ (hL.lt h))
  have hfr : ((M.write i off lb).1 == (M.write i off lb).1) = true := by simp
  have c0 : W.cell? ⟨w.heap.size, 0, none⟩ = some (.int .i64 x) := hrow.cell (k := 0) (by omega)
  have c1 : W.cell? ⟨w.heap.size, 1, none⟩ = some (.int .i64 i) := hrow.cell (k := 1) (by omega)
  have c2 : W.cell? ⟨w.heap.size, 2, none⟩ = some (.int .i64 off) := hrow.cell (k := 2) (by omega)
  have c4 : W.cell? ⟨w.heap.size, 4, none⟩ = some (.slice pb lb.length cb) := hrow.cell (k := 4) (by omega)
  have cU := H.out.r.c0
  have hmax : lb.length ≤ 9223372036854775807 := by omega
  obtain ⟨i0, hi, hz0, hz1, hz2⟩ := info_parts info_u8
  have Hi := hid hi; have Hz0 := hid hz0; have Hz1 := hid hz1; have Hz2 := hid hz2
  clear h hok hg hrow hin hL hk hi hz0 hz1 hz2 hs
  go_enter Try.func23, Try.ntmps23
  go_wp2
  have H0 := hid (H.out.more (grownBy_drew W none))
  have HG0 := hid ((grownBy_drew W none).trans (World.grownBy_alloc W.drew (.cells #[] 5) none))
  have H0a := hid (H.out.more HG0.out)
  have HbA := hid (show W.heap.size ≤ (W.drew.alloc (.cells #[] 5)).heap.size by simp)
  go_region_held3 (fun w' => w'.cell? ⟨w.heap.size, 1, none⟩ = some (.int .i64 i) ∧ w'.cell? ⟨w.heap.size, 2, none⟩ = some (.int .i64 off) ∧ w'.cell? ⟨w.heap.size, 4, none⟩ = some (.slice pb lb.length cb) ∧ w'.cell? ⟨U, 0, none⟩ = some (.pointer (some ⟨b, 0, none⟩))) (first | exact ⟨by assumption, by assumption, by assumption, by assumption⟩ | go_keep)
    (first
      | (go_at_call 33; obtain ⟨fv, hfv⟩ := HA.out.v; refine (vWrite _ _ _ _ _ _ _ fv i off _ lb _ M X hfv HA.out.m HOk.out ho (own_isBytes HAo.out HA.out.m) hmax).mono ?_; rintro e wp ⟨rfl, h1, g1⟩; have HP := hid (HA.out.vwrite h1 g1); have kU := HP.out.r.c0; have HPL := hid (HAL.out.chg (S := fun k => k = B) (Chg.of g1 (by rintro j e; exact .inl (Option.some.inj e).symm)) (fun q hq e => (HK.out q hq).2.2.1 e)); have k1 := g1.cell (a := ⟨w.heap.size, 1, none⟩) (by assumption) (by simpa using HBx.out); have k2 := g1.cell (a := ⟨w.heap.size, 2, none⟩) (by assumption) (by simpa using HBx.out); have k4 := g1.cell (a := ⟨w.heap.size, 4, none⟩) (by assumption) (by simpa using HBx.out); clear h1 g1 hfv)
      | (go_at_call 51; refine (rWrite b i off pb cb lb _ M L HPL.out hmax (HIn.out.apart HP.out.g (fun k hk => (HK.out k hk).1))).mono ?_; rintro e w2 ⟨rfl, L2, h1, hn1, hc1, hf1⟩; have HE := hid (HP.out.rwrite HK.out h1 hc1 hf1); have kU := HE.out.r.c0; have k1 := hc1.cell (a := ⟨w.heap.size, 1, none⟩) (by assumption) HX.out; have k2 := hc1.cell (a := ⟨w.heap.size, 2, none⟩) (by assumption) HX.out; have k4 := hc1.cell (a := ⟨w.heap.size, 4, none⟩) (by assumption) HX.out; clear h1 hn1 hc1 hf1)
      | (refine step_append_in (by rfl) _ _ (by rfl) W.heap.size i0 Hi.out Hz0.out Hz1.out Hz2.out _ (by rfl) (World.ownsRow_made W.drew #[] 0 (Nat.le_refl _) (by unfold maxLen; omega) (by simp)) pb cb lb (by rfl) (by omega) HbA.out (fun k hk => (HIn.out.grown H0a.out.g).at hk) ?_; intro v' wa hown hgrow; have hga := ((World.grownBy_alloc W.drew (.cells #[] 5) none).andThen hgrow (fun j hj => by cases hj; exact .inl (Nat.le_refl _))); have HA := hid (H0.out.more hga); have kU := HA.out.r.c0; have HAL := hid ((HL.out.grown (grownBy_drew W none)).grown hga); have HAo := hid hown; have k1 := ((grownBy_drew W none).trans hga).cell (a := ⟨w.heap.size, 1, none⟩) c1 (by simp); have k2 := ((grownBy_drew W none).trans hga).cell (a := ⟨w.heap.size, 2, none⟩) c2 (by simp); have k4 := ((grownBy_drew W none).trans hga).cell (a := ⟨w.heap.size, 4, none⟩) c4 (by simp); clear hown hgrow hga))
  all_goals go_wp2
  all_goals go_ret
  all_goals exact ⟨rfl, HE.out⟩
end Go.Proofs.Ytmpogcpnpaoplaa
