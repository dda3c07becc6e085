/-
  Contract of play: Write.
-/
import Derived.Test.YtmemeaaffbalbaaPlayC
namespace Go.Proofs.Ytmemeaaffbalbaa
open Go.RowKit
set_option maxHeartbeats 1000000

/-- between W and X: phys is Mp, ref is Mr -/
structure Mid (W X : World) (B b : Nat) (L : Lay) (Mp Mr : Mach) (L' : Lay) : Prop where
  pm : PM X B Mp
  rm : RM X b Mr L'
  ch : Chg (both B b L) W X
  ft : ∀ k, L'.foot b k → L.foot b k ∨ W.heap.size ≤ k
theorem Mid.grow {W X Y : World} {B b : Nat} {L L' : Lay} {Mp Mr : Mach} (h : Mid W X B b L Mp Mr L') (hg : X.grownBy Y none) : Mid W Y B b L Mp Mr L' :=
  ⟨h.pm.grown hg (by simp), h.rm.grown hg, h.ch.trans (Chg.of0 (S := both B b L) hg) fun _ h => .inl h, h.ft⟩
theorem Mid.off {W X : World} {B b : Nat} {L L' : Lay} {Mp Mr : Mach} (h : Mid W X B b L Mp Mr L') : ¬ L'.foot b B := h.rm.off h.pm
theorem Mid.phys {W X Y : World} {B b : Nat} {L L' : Lay} {Mp Mr Mp' : Mach} (h : Mid W X B b L Mp Mr L') (hm : PM Y B Mp') (hg : X.grownBy Y (some B)) : Mid W Y B b L Mp' Mr L' :=
  ⟨hm, h.rm.keep h.pm hg, h.ch.trans (Chg.of (S := both B b L) hg fun j e => .inl (.inl (Option.some.inj e).symm)) fun _ h => .inl h, h.ft⟩
theorem Mid.ref {W X Y : World} {B b : Nat} {L L' L2 : Lay} {Mp Mr Mr' : Mach} (h : Mid W X B b L Mp Mr L') (hm : RM Y b Mr' L2) (hc : Chg (L'.foot b) X Y) (hf : ∀ k, L2.foot b k → L'.foot b k ∨ X.heap.size ≤ k) : Mid W Y B b L Mp Mr' L2 :=
  ⟨h.pm.chg hc h.off, hm, h.ch.trans hc fun k hk => (h.ft k hk).elim (fun h => .inl (.inr h)) .inr, fun k hk => (hf k hk).elim (h.ft k) fun h' => .inr (Nat.le_trans h.ch.size h')⟩
theorem Mid.done {w W X : World} {B b : Nat} {L L' : Lay} {M M' : Mach} {T : Int} (h : Mid W X B b L M' M' L') (hg : w.grownBy W none) (hok : M'.ok (T + 1)) (hn : M'.n = M.n) : Played B b M L T w X :=
  ⟨M', L', ⟨h.pm, h.rm⟩, hok, hn, (Chg.of0 (S := both B b L) hg).trans h.ch fun _ h => .inl h, fun k hk => (h.ft k hk).elim .inl fun h' => .inr (Nat.le_trans hg.size h')⟩

theorem ownsRow_chg {S : Nat → Prop} {W Y : World} {base : Nat} {e : TypeId} {size n : Nat} {v : Value} {xs : List Value} (h : W.ownsRow base e size v n xs) (hc : Chg S W Y) (hS : ∀ k, S k → k < base) : Y.ownsRow base e size v n xs := by
  refine ⟨h.1, ?_⟩
  rcases h.2 with h2 | ⟨g, cap, cur, rfl, hb, hg, r⟩
  · exact .inl h2
  · exact .inr ⟨g, cap, cur, rfl, hb, (hc.block g (Array.getElem?_eq_some_iff.1 hg).1 fun h' => by have := hS g h'; omega).trans hg, r⟩
theorem bcells_nil : bcells [] = [] := List.eq_nil_of_length_eq_zero (by rw [bcells_len]; rfl)
theorem own_isBytes {W : World} {base B : Nat} {v : Value} {l : List UInt8} {M : Mach} (h : W.ownsRow base 5 1 v l.length (bcells l)) (hM : PM W B M) : IsBytes W B v l := by
  by_cases hl : l = []
  · subst hl
    obtain ⟨p, c, rfl⟩ := ownsRow_slice h
    exact .inl ⟨⟨_, _, rfl⟩, rfl⟩
  · obtain ⟨m, hm⟩ : ∃ m, l.length = m + 1 := ⟨l.length - 1, by have := List.length_pos_iff.2 hl; omega⟩
    have h' := h
    rw [hm] at h'
    obtain ⟨g, cap, rfl⟩ := ownsRow_succ h'
    refine .inr ⟨⟨g, 0, none⟩, cap, by rw [hm], ?_, fun k x hx => ?_⟩
    · rintro rfl
      rcases h.2 with ⟨e, _⟩ | ⟨g', cap', cur, e, _, hg, _⟩
      · cases e
      · injection e with e1 _ _
        cases e1
        rw [show W.heap[g]? = _ from hM] at hg; cases hg
    · have hk := (List.getElem?_eq_some_iff.1 hx).1
      have e : (⟨g, 0, none⟩ : Addr).add k = ⟨g, k, none⟩ := by unfold Addr.add; split <;> simp_all
      rw [e, h'.cellAt k (by omega), bcells_get, hx]
      rfl
/-- bytes that lie in W apart from both machines -/
def Src (W : World) (B b : Nat) (L : Lay) (pa : Option Addr) (l : List UInt8) : Prop :=
  ∀ k, k < l.length → ∃ sb so, pa = some ⟨sb, so, none⟩ ∧ ¬ both B b L sb ∧ sb < W.heap.size ∧ W.cell? ⟨sb, so + k, none⟩ = some (.int .u8 (l.getD k 0).toNat)
theorem Src.apart {W X : World} {B b : Nat} {L L' : Lay} {Mp Mr : Mach} {pa : Option Addr} {l : List UInt8} (h : Src W B b L pa l) (hm : Mid W X B b L Mp Mr L') : Apart X L' b pa l := fun k hk => by
  obtain ⟨sb, so, e, hn, hlt, hc⟩ := h k hk
  exact ⟨sb, so, e, fun h' => (hm.ft sb h').elim (fun h => hn (.inr h)) (by omega), hm.ch.cell hc hn⟩
theorem Src.at {W X : World} {B b : Nat} {L L' : Lay} {Mp Mr : Mach} {pa : Option Addr} {l : List UInt8} (h : Src W B b L pa l) (hm : Mid W X B b L Mp Mr L') : ∀ k, k < l.length → ∃ sb so, pa = some ⟨sb, so, none⟩ ∧ X.cell? ⟨sb, so + k, none⟩ = some (.int .u8 (l.getD k 0).toNat) := fun k hk => by
  obtain ⟨sb, so, e, hn, _, hc⟩ := h k hk
  exact ⟨sb, so, e, hm.ch.cell hc hn⟩
theorem Mid.own {W X Y : World} {B b : Nat} {L L' : Lay} {Mp Mr : Mach} {row : Option Nat} (h : Mid W X B b L Mp Mr L') (hg : X.grownBy Y row) (hr : ∀ j, row = some j → W.heap.size ≤ j ∧ j ≠ B ∧ ¬ L'.foot b j) : Mid W Y B b L Mp Mr L' :=
  ⟨h.pm.grown hg (fun e => (hr B e.symm).2.1 rfl), h.rm.chg (S := fun k => row = some k) (Chg.of hg fun j e => .inl e) (fun k hk e => (hr k e).2.2 hk), h.ch.trans (Chg.of (S := fun k => row = some k) hg fun j e => .inl e) fun k e => .inr (hr k e).1, h.ft⟩
theorem run_append_in (X : World) (base : Nat) (ty : TypeId) (i0 : TypeInfo) (hi : Try.prog.info? 5 = some i0) (hz0 : i0.zero = some (.int .u8 0)) (hz1 : i0.size = 1) (hz2 : i0.bytes = 1) (v : Value) (hown : X.ownsRow base 5 1 v 0 [])
    (pa : Option Addr) (cap : Nat) (l : List UInt8) (hl : l.length * 1 ≤ 140737488355328) (hb : base ≤ X.heap.size) (hs : ∀ k, k < l.length → ∃ sb so, pa = some ⟨sb, so, none⟩ ∧ X.cell? ⟨sb, so + k, none⟩ = some (.int .u8 (l.getD k 0).toNat)) :
    ∃ v' Y, (Builtin.append_ #[31, 31] ty #[v, .slice pa l.length cap]).run Try.prog X = .ok v' Y ∧ Y.ownsRow base 5 1 v' l.length (bcells l) ∧ X.grownBy Y v.ownBlock := by
  cases pa with
  | none =>
    have hl0 : l = [] := by
      cases l with
      | nil => rfl
      | cons a r => obtain ⟨_, _, e, _⟩ := hs 0 (by simp); cases e
    subst hl0
    refine ⟨v, X, ?_, by rw [bcells_nil]; exact hown, World.grownBy.refl _ _⟩
    rcases hown.2 with ⟨rfl, _⟩ | ⟨g, c, cur, rfl, _⟩
    · simp [Builtin.append_, run_underlying Try.underlying31, sizeOf, typeInfo, hi, Builtin.lenOf, Builtin.firstCells]
    · simp [Builtin.append_, run_underlying Try.underlying31, sizeOf, typeInfo, hi, Builtin.lenOf, Builtin.firstCells, storeCells]
  | some ad =>
    obtain ⟨v', Y, hr, h2, h3, _⟩ := run_append_own (P := Try.prog) X base 31 ty 5 i0 (.int .u8 0) 1 1 Try.underlying31 hi hz0 hz1 hz2 rfl (by decide) v 0 [] hown ad l.length cap (bcells l) (by rw [bcells_len]; omega) (fun k u hu => by
      rw [bcells_get] at hu
      cases hx : l[k]? with
      | none => rw [hx] at hu; cases hu
      | some x =>
        rw [hx] at hu; cases hu
        have hk := (List.getElem?_eq_some_iff.1 hx).1
        obtain ⟨sb, so, e, hc⟩ := hs k hk
        cases e
        have e : (⟨sb, so, none⟩ : Addr).add k = ⟨sb, so + k, none⟩ := by unfold Addr.add; split <;> simp_all
        rw [e, hc]
        simp [List.getD, hx]) (bcells_one l) (by unfold maxLen; omega) (by omega) hb
    exact ⟨v', Y, hr, by simpa using h2, h3⟩
theorem step_append_in {ops : Array Oper} {o : Oper} {a : Act} {X : World} {K : Act → World → Prop} {Q : Exit → Act → World → Prop} {E : Prop} (hgd : o.guard = none) (s x : Operand)
    (ho : o.op = .call { callee := .builtin .append, args := #[s, x], argTypes := #[31, 31] }) (base : Nat) (i0 : TypeInfo) (hi : Try.prog.info? 5 = some i0) (hz0 : i0.zero = some (.int .u8 0)) (hz1 : i0.size = 1) (hz2 : i0.bytes = 1)
    (v : Value) (hs : a.eval s = v) (hown : X.ownsRow base 5 1 v 0 []) (pa : Option Addr) (cap : Nat) (l : List UInt8) (hx : a.eval x = .slice pa l.length cap) (hl : l.length * 1 ≤ 140737488355328) (hb : base ≤ X.heap.size)
    (hsrc : ∀ k, k < l.length → ∃ sb so, pa = some ⟨sb, so, none⟩ ∧ X.cell? ⟨sb, so + k, none⟩ = some (.int .u8 (l.getD k 0).toNat))
    (h : ∀ v' Y, Y.ownsRow base 5 1 v' l.length (bcells l) → X.grownBy Y v.ownBlock → K (a.put o.dst v') Y) :
    if Region.wanted o (yielded ops a.tmps) = true then Oper.wp Try.prog o a X K Q else E := by
  have hw : Region.wanted o (yielded ops a.tmps) = true := by simp [Region.wanted, hgd]
  rw [if_pos hw]
  obtain ⟨v', Y, hr, h2, h3⟩ := run_append_in X base o.type i0 hi hz0 hz1 hz2 v hown pa cap l hl hb hsrc
  unfold Oper.wp execOp
  simp only [ho, resolve, invoke, builtin, Sem.run_bind, Sem.run_pure, Result.andThen_ok, List.map_toArray, List.map_cons, List.map_nil, hs, hx, hr]
  exact h v' Y h2 h3

set_option maxRecDepth 100000 in
theorem play_write (B b : Nat) (x a c d : Int) (pa : Option Addr) (cap : Nat) (l : List UInt8) (w : World) (M : Mach) (L : Lay) (T : Int) (hP : Pair w B b M L) (hok : M.ok T) (hc : c ≤ 9223372036854775807) (hl : l.length ≤ 140737488351232) (hsrc : Src w B b L pa l)
    (x0 : (x == 0) = false) (x1 : (x == 1) = false) (x2 : (x == 2) = false) (x3 : (x == 3) = false) (x4 : (x == 4) = false) (x5 : (x == 5) = false) :
    Calls Try.prog 17 #[.pointer (some ⟨B, 0, none⟩), .pointer (some ⟨b, 0, none⟩), .agg #[.int .i64 x, .int .i64 a, .int .i64 c, .int .i64 d, .slice pa l.length cap]] w fun e w' => e = .returned (.bool true) ∧ Played B b M L T w w' := by
  obtain ⟨W, hW, hg, hs, hrow⟩ := box5 w (.int .i64 x) (.int .i64 a) (.int .i64 c) (.int .i64 d) (.slice pa l.length cap)
  have HP := hid (hP.grown hg)
  have HG := hid hg
  have hBx : B ≠ w.heap.size := Nat.ne_of_lt hP.m.lt
  have hbx : ¬ L.foot b w.heap.size := fun h => Nat.lt_irrefl _ (hP.r.lt h)
  have HX := hid (show ¬ both B b L w.heap.size from fun h => h.elim (fun e => hBx e.symm) hbx)
  have HL := hid (show ∀ k, L.foot b k → k < W.heap.size from fun k h => HP.out.r.lt h)
  have HS := hid (show Src W B b L pa l from fun k hk => by
    obtain ⟨sb, so, e, h1, h2, h3⟩ := hsrc k hk
    exact ⟨sb, so, e, h1, by omega, hg.cell h3 (by simp)⟩)
  have hfr : ((M.write a c l).1 == (M.write a c l).1) = true := by simp
  have HO := hid (show (M.write a c l).2.ok (T + 1) from (Mach.write_ok hok a c l).mono (by omega))
  have c0 : W.cell? ⟨w.heap.size, 0, none⟩ = some (.int .i64 x) := hrow.cell (k := 0) (by omega)
  have c1 : W.cell? ⟨w.heap.size, 1, none⟩ = some (.int .i64 a) := hrow.cell (k := 1) (by omega)
  have c2 : W.cell? ⟨w.heap.size, 2, none⟩ = some (.int .i64 c) := hrow.cell (k := 2) (by omega)
  have c4 : W.cell? ⟨w.heap.size, 4, none⟩ = some (.slice pa l.length cap) := hrow.cell (k := 4) (by omega)
  have hmax : l.length ≤ 9223372036854775807 := by omega
  obtain ⟨i0, hi, hz0, hz1, hz2⟩ := info_parts info_u8
  have Hi := hid hi; have Hz0 := hid hz0; have Hz1 := hid hz1; have Hz2 := hid hz2
  clear hP hg hrow hsrc hi hz0 hz1 hz2 hs
  go_enter Try.func17, Try.ntmps17
  go_wp2
  have H0 := hid (show Mid W W.drew B b L M M L from ⟨(HP.out.grown (grownBy_drew W none)).m, (HP.out.grown (grownBy_drew W none)).r, Chg.of0 (grownBy_drew W none), fun _ h => .inl h⟩)
  have H0a := hid (H0.out.grow (World.grownBy_alloc W.drew (.cells #[] 5) none))
  have HsA := hid (show (W.drew.alloc (.cells #[] 5)).heap.size = W.heap.size + 1 by simp)
  have HbA := hid (show W.heap.size ≤ (W.drew.alloc (.cells #[] 5)).heap.size by simp)
  have HBl := hid (show W.heap.size ≠ B from (Nat.ne_of_lt HP.out.m.lt).symm)
  go_region_held3 (fun w' => w'.cell? ⟨w.heap.size, 1, none⟩ = some (.int .i64 a) ∧ w'.cell? ⟨w.heap.size, 2, none⟩ = some (.int .i64 c) ∧ w'.cell? ⟨w.heap.size, 4, none⟩ = some (.slice pa l.length cap)) (first | exact ⟨by assumption, by assumption, by assumption⟩ | go_keep)
    (first
      | (go_at_call 15; refine (Write_any B a c _ l _ M T HA.out.pm hok hc (own_isBytes HAo.out HA.out.pm) hmax).mono ?_; rintro e wp ⟨rfl, h1, g1⟩; have HAP := hid (HA.out.phys h1 g1); have k1 := HAP.out.ch.cell (a := ⟨w.heap.size, 1, none⟩) c1 HX.out; have k2 := HAP.out.ch.cell (a := ⟨w.heap.size, 2, none⟩) c2 HX.out; have k4 := HAP.out.ch.cell (a := ⟨w.heap.size, 4, none⟩) c4 HX.out; clear h1 g1)
      | (go_at_call 51; refine (rWrite b a c pa cap l _ M L HAP.out.rm hmax (HS.out.apart HAP.out)).mono ?_; rintro e w2 ⟨rfl, L2, h1, hn1, hc1, hf1⟩; have HE := hid (HAP.out.ref h1 hc1 hf1); have k1 := HE.out.ch.cell (a := ⟨w.heap.size, 1, none⟩) c1 HX.out; have k2 := HE.out.ch.cell (a := ⟨w.heap.size, 2, none⟩) c2 HX.out; have k4 := HE.out.ch.cell (a := ⟨w.heap.size, 4, none⟩) c4 HX.out; have HF := hid (Mid.done (T := T) HE.out HG.out HO.out (Mach.write_n M a c l)); clear h1 hn1 hc1 hf1)
      | (refine step_append_in (by rfl) _ _ (by rfl) W.heap.size i0 Hi.out Hz0.out Hz1.out Hz2.out _ (by rfl) (World.ownsRow_made W.drew #[] 0 (Nat.le_refl _) (by unfold maxLen; omega) (by simp)) pa cap l (by rfl) (by omega) HbA.out (HS.out.at H0a.out) ?_; intro v' wa hown hgrow; have HA := hid (H0.out.grow ((World.grownBy_alloc W.drew (.cells #[] 5) none).andThen hgrow (fun j hj => by cases hj; exact .inl (Nat.le_refl _)))); have HAo := hid hown; have k1 := HA.out.ch.cell (a := ⟨w.heap.size, 1, none⟩) c1 HX.out; have k2 := HA.out.ch.cell (a := ⟨w.heap.size, 2, none⟩) c2 HX.out; have k4 := HA.out.ch.cell (a := ⟨w.heap.size, 4, none⟩) c4 HX.out; clear hown hgrow))
  all_goals go_wp2
  all_goals go_ret
  all_goals exact ⟨rfl, HF.out⟩
end Go.Proofs.Ytmemeaaffbalbaa
