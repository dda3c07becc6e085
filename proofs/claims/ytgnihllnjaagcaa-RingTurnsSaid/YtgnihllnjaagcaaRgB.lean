/-
  Package ring: Look, Take, Answer of the back end, over a view.
-/
import Derived.Test.YtgnihllnjaagcaaRgOne
import Derived.Deep.RegionHeld3
set_option linter.unusedSimpArgs false
set_option linter.unusedVariables false
namespace Go.Proofs.Ytgnihllnjaagcaa
open Go.RowKit
set_option maxHeartbeats 1200000

/-- what a call that reads leaves -/
structure RgRead (w : World) (V G B : Nat) (S : Nat → Prop) (l : List PokeV) (n T : Nat) (M : Mach) (K : Nat) (g : Rg) (w' : World) : Prop where
  view : ∃ f, VV w' V G B S l (n + 1) T f
  mach : PM w' B (M.rews (due l n))
  back : RB w' K g
  chg : Chg (fun k => k = V ∨ k = G ∨ k = B ∨ k = K) w w'
/-- the back end's block lies apart from the view's -/
structure RgK (K V G B : Nat) (S : Nat → Prop) : Prop where
  kv : ¬ vfoot V G S K
  kb : K ≠ B
theorem RgK.off {K V G B : Nat} {S : Nat → Prop} (h : RgK K V G B S) : ¬ (K = V ∨ K = G ∨ K = B) := by
  rintro (e | e | e)
  · exact h.kv (.inl e)
  · exact h.kv (.inr (.inl e))
  · exact h.kb e
theorem VRead.back {w w' : World} {V G B : Nat} {S : Nat → Prop} {l : List PokeV} {n T : Nat} {M : Mach} {K : Nat} {g : Rg} (h : VRead w V G B S l n T M w') (hK : RB w K g) (hk : RgK K V G B S) : RgRead w V G B S l n T M K g w' :=
  ⟨h.view, h.mach, hK.chg h.chg hk.off, h.chg.mono fun k e => by rcases e with e | e | e; (exact .inl e); (exact .inr (.inl e)); (exact .inr (.inr (.inl e)))⟩
theorem VV.setK {w : World} {V G B : Nat} {S : Nat → Prop} {l : List PokeV} {n T : Nat} {f : Int → Option Value} (h : VV w V G B S l n T f) {K : Nat} (hk : RgK K V G B S) (k : Nat) (v : Value) : VV (w.setCell ⟨K, k, none⟩ v) V G B S l n T f :=
  h.chg (S' := fun q => q = K) (Chg.of (grownBy_setCell w K k none v) fun j e => .inl (Option.some.inj e).symm) fun q hq e => hk.kv (e ▸ hq)
theorem RgRead.setSn {w w' : World} {V G B : Nat} {S : Nat → Prop} {l : List PokeV} {n T : Nat} {M : Mach} {K : Nat} {g : Rg} (h : RgRead w V G B S l n T M K g w') (hk : RgK K V G B S) (x : Int) : RgRead w V G B S l n T M K { g with sn := x } (w'.setCell ⟨K, 4, none⟩ (.int .u16 x)) := by
  obtain ⟨f, hf⟩ := h.view
  exact ⟨⟨f, hf.setK hk _ _⟩, h.mach.setOther _ (fun e => hk.kb e.symm) _, h.back.setSn x, h.chg.trans (Chg.of (S := fun q => q = K) (grownBy_setCell w' K 4 none _) fun j e => .inl (Option.some.inj e).symm) fun k e => .inl (.inr (.inr (.inr e)))⟩
theorem RgRead.more {w w' W : World} {V G B : Nat} {S : Nat → Prop} {l : List PokeV} {n T : Nat} {M : Mach} {K : Nat} {g : Rg} (h : RgRead w V G B S l n T M K g w') (hg : w'.grownBy W none) : RgRead w V G B S l n T M K g W := by
  obtain ⟨f, hf⟩ := h.view
  exact ⟨⟨f, hf.grown hg⟩, h.mach.grown hg (by simp), h.back.grown hg (by simp), h.chg.trans (Chg.of0 (S := fun _ => False) hg) fun _ e => e.elim⟩

theorem RgRead.pre {w w1 w' : World} {V G B : Nat} {S : Nat → Prop} {l : List PokeV} {n T : Nat} {M : Mach} {K : Nat} {g : Rg} (hg : w.grownBy w1 none) (h : RgRead w1 V G B S l n T M K g w') : RgRead w V G B S l n T M K g w' :=
  ⟨h.view, h.mach, h.back, (Chg.of0 hg).trans h.chg fun _ e => .inl e⟩
theorem FreshB.pre {w W w' : World} {b : List UInt8} {v : Value} (h : FreshB W b v w') (hs : w.heap.size ≤ W.heap.size) : FreshB w b v w' := by
  obtain ⟨q, c, e, hk⟩ := h
  refine ⟨q, c, e, ?_⟩
  rcases hk with h | ⟨g, e, ⟨hg1, hg2⟩, hb⟩
  · exact .inl h
  · exact .inr ⟨g, e, ⟨Nat.le_trans hs hg1, hg2⟩, hb⟩
theorem rgSees (V G B : Nat) (S : Nat → Prop) (l : List PokeV) (n T : Nat) (f : Int → Option Value) (K : Nat) (g : Rg) (w : World) (h : VV w V G B S l n T f) (hK : RB w K g) :
    Calls Try.prog 87 #[.pointer (some ⟨K, 0, none⟩), .pointer (some ⟨V, 0, none⟩)] w fun e w' => e = .returned (.bool true) ∧ w.grownBy w' none := by
  have H := hid (rgExists K g w hK)
  have HV := hid (vMachine V G B S l n T f w h)
  clear h hK
  go_enter Try.func87, Try.ntmps87
  go_wp2_with (first
    | (go_at_call 83; refine H.out.mono ?_; rintro e w' ⟨rfl, rfl⟩)
    | (go_at_call 26; refine HV.out.mono ?_; rintro e w' ⟨rfl, rfl⟩))
  all_goals go_ret
  all_goals exact ⟨rfl, World.grownBy.refl _ _⟩

section
variable (V G B : Nat) (S : Nat → Prop) (l : List PokeV) (n T : Nat) (f : Int → Option Value) (K : Nat) (g : Rg) (w : World) (M : Mach) (X : Int)
set_option maxRecDepth 100000 in
theorem rgLook (h : VV w V G B S l n T f) (hM : PM w B M) (hok : M.ok X) (hK : RB w K g) (hk : RgK K V G B S) (hg : g.ok) (hf : ∀ p ∈ l, p.fits) (hn : (n : Int) < 9223372036854775807) (hll : l.length ≤ 64) :
    Calls Try.prog 44 #[.pointer (some ⟨K, 0, none⟩), .pointer (some ⟨V, 0, none⟩)] w fun e w' =>
      e = .returned (.tuple #[.int .i64 (g.look ((M.rews (due l n)).read g.mfn 0 2)).1, .bool (g.look ((M.rews (due l n)).read g.mfn 0 2)).2.1, .int .i64 (g.look ((M.rews (due l n)).read g.mfn 0 2)).2.2.1]) ∧ RgRead w V G B S l n T M K (g.look ((M.rews (due l n)).read g.mfn 0 2)).2.2.2 w' := by
  have HS := hid (rgSees V G B S l n T f K g w h hK)
  have HW := hid (fun (W : World) (hgr : w.grownBy W none) => vWord V G B S l n T f g.mfn 0 W M X (h.grown hgr) (hM.grown hgr (by simp)) hok hf hn hll (by omega))
  have HKW := hid (fun (W : World) (hgr : w.grownBy W none) => hK.grown hgr (by simp))
  have HK := hid hk
  obtain ⟨r, hr⟩ : ∃ r, (M.rews (due l n)).read g.mfn 0 2 = r := ⟨_, rfl⟩
  rw [hr] at HW ⊢
  have c0 := hK.c0
  clear h hM hok hf hn hll
  by_cases he : r.2 = 0
  · obtain ⟨a, c, ha⟩ : ∃ a c, ringAhead (wordOf r) g.tk = (a, c) := ⟨_, _, rfl⟩
    have hi := ringAhead_in (wordOf r) g.tk
    rw [ha] at hi
    have ha0 : 0 ≤ a := hi.1
    have ha8 : a ≤ 8 := hi.2
    have e1 : g.look r = (a, c, 0, { g with sn := IntKind.u16.wrap (g.tk + a) }) := by unfold Rg.look; rw [if_pos he, ha]
    rw [e1]
    have HE := hid he
    have HA := hid (fun W => rgAhead (wordOf r) g.tk W)
    rw [ha] at HA
    clear he hi ha e1 hr hK hk hg
    go_enter Try.func44, Try.ntmps44
    go_wp2_with (first
      | (go_at_call 87; refine HS.out.mono ?_; rintro e w1 ⟨rfl, g1⟩; have HW1 := hid (HW.out _ g1); have HK1 := hid (HKW.out _ g1); have G1 := hid g1; have c01 := HK1.out.c0; clear g1 c0)
      | (go_at_call 76; refine HW1.out.mono ?_; rw [HE.out]; rintro e w2 ⟨rfl, h2⟩; have HR := hid (VRead.back h2 HK1.out HK.out); have d1 := HR.out.back.c1; have d4 := Row.frozen HR.out.back 4; have d5 := HR.out.back.c4; clear h2 c01)
      | (go_at_call 39; refine (HA.out _).mono ?_; rintro e w3 ⟨rfl, rfl⟩))
    go_ret3
    exact ⟨rfl, (HR.out.setSn HK.out _).pre G1.out⟩
  · have e1 : g.look r = (0, false, r.2, g) := by unfold Rg.look; rw [if_neg he]
    rw [e1]
    have hne : (r.2 != 0) = true := by simpa using he
    clear he e1 hr hK hk hg
    go_enter Try.func44, Try.ntmps44
    go_wp2_with (first
      | (go_at_call 87; refine HS.out.mono ?_; rintro e w1 ⟨rfl, g1⟩; have HW1 := hid (HW.out _ g1); have HK1 := hid (HKW.out _ g1); have G1 := hid g1; have c01 := HK1.out.c0; clear g1 c0)
      | (go_at_call 76; refine HW1.out.mono ?_; rintro e w2 ⟨rfl, h2⟩; have HR := hid (VRead.back h2 HK1.out HK.out); clear h2 c01))
    go_ret3
    exact ⟨rfl, HR.out.pre G1.out⟩
set_option maxRecDepth 100000 in
theorem rgTake_no (h : VV w V G B S l n T f) (hK : RB w K g) (hc : g.can = false) :
    Calls Try.prog 45 #[.pointer (some ⟨K, 0, none⟩), .pointer (some ⟨V, 0, none⟩)] w fun e w' => e = .returned (.tuple #[.slice none 0 0, .int .i64 5]) ∧ w.grownBy w' none := by
  have HS := hid (rgSees V G B S l n T f K g w h hK)
  have HW := hid (fun (W : World) (hgr : w.grownBy W none) => rgWaiting K g W (hK.grown hgr (by simp)))
  have HO := hid (fun (W : World) (hgr : w.grownBy W none) => rgOpen K g W (hK.grown hgr (by simp)))
  clear h hK
  rcases Rg.can_no hc with h0 | ⟨h0, h8⟩
  · rw [h0] at HW
    clear hc h0
    go_enter Try.func45, Try.ntmps45
    go_wp2_with (first
      | (go_at_call 87; refine HS.out.mono ?_; rintro e w1 ⟨rfl, g1⟩; have G1 := hid g1; clear g1)
      | (go_at_call 35; refine (HW.out _ G1.out).mono ?_; rintro e w2 ⟨rfl, g2⟩; have G2 := hid (G1.out.trans g2); clear g2))
    go_ret2
    exact ⟨rfl, G2.out⟩
  · have hb : (g.wait == 0) = false := by simp [h0]
    rw [h8] at HO
    clear hc h0 h8
    go_enter Try.func45, Try.ntmps45
    go_wp2_with (first
      | (go_at_call 87; refine HS.out.mono ?_; rintro e w1 ⟨rfl, g1⟩; have G1 := hid g1; clear g1)
      | (go_at_call 35; refine (HW.out _ G1.out).mono ?_; rintro e w2 ⟨rfl, g2⟩; have G2 := hid (G1.out.trans g2); clear g2)
      | (go_at_call 88; refine (HO.out _ G2.out).mono ?_; rintro e w3 ⟨rfl, g3⟩; have G3 := hid (G2.out.trans g3); clear g3))
    go_ret2
    exact ⟨rfl, G3.out⟩
set_option maxRecDepth 100000 in
theorem rgTake_yes (h : VV w V G B S l n T f) (hM : PM w B M) (hok : M.ok X) (hK : RB w K g) (hk : RgK K V G B S) (hg : g.ok) (hf : ∀ p ∈ l, p.fits) (hn : (n : Int) < 9223372036854775807) (hll : l.length ≤ 64) (hc : g.can = true) :
    Calls Try.prog 45 #[.pointer (some ⟨K, 0, none⟩), .pointer (some ⟨V, 0, none⟩)] w fun e w' =>
      ∃ v, e = .returned (.tuple #[v, .int .i64 ((M.rews (due l n)).read g.mfn g.reqAt 16).2]) ∧ FreshB w ((M.rews (due l n)).read g.mfn g.reqAt 16).1 v w' ∧ RgRead w V G B S l n T M K g.took w' := by
  have HS := hid (rgSees V G B S l n T f K g w h hK)
  have HW := hid (fun (W : World) (hgr : w.grownBy W none) => rgWaiting K g W (hK.grown hgr (by simp)))
  have HO := hid (fun (W : World) (hgr : w.grownBy W none) => rgOpen K g W (hK.grown hgr (by simp)))
  have HP := hid (fun W => rgPlaceQ g.tk W hg.t0 hg.t1)
  have HR := hid (fun (W : World) (hgr : w.grownBy W none) => vRead V G B S l n T f g.mfn g.reqAt 16 (W.setCell ⟨K, 1, none⟩ (.int .u16 (IntKind.u16.wrap (g.tk + 1)))) M X ((h.grown hgr).setK hk _ _) ((hM.grown hgr (by simp)).setOther _ (fun e => hk.kb e.symm) _) hok hf hn hll (by unfold Rg.reqAt; omega))
  have HT := hid (fun (W W' : World) (hgr : w.grownBy W none) (hr : VRead (W.setCell ⟨K, 1, none⟩ (.int .u16 (IntKind.u16.wrap (g.tk + 1)))) V G B S l n T M W') => show RgRead w V G B S l n T M K g.took W' from by
    have hb := (hK.grown hgr (by simp)).setTk (IntKind.u16.wrap (g.tk + 1))
    have hr2 := hr.back hb hk
    exact ⟨hr2.view, hr2.mach, hr2.back, ((Chg.of0 (S := fun k => k = V ∨ k = G ∨ k = B ∨ k = K) hgr).trans (Chg.of (S := fun k => k = V ∨ k = G ∨ k = B ∨ k = K) (grownBy_setCell W K 1 none (.int .u16 (IntKind.u16.wrap (g.tk + 1)))) fun j e => .inl (.inr (.inr (.inr (Option.some.inj e).symm)))) fun _ e => .inl e).trans hr2.chg fun _ e => .inl e⟩)
  have HKW := hid (fun (W : World) (hgr : w.grownBy W none) => hK.grown hgr (by simp))
  have HSz := hid (fun (W : World) (hgr : w.grownBy W none) => show w.heap.size ≤ (W.setCell ⟨K, 1, none⟩ (.int .u16 (IntKind.u16.wrap (g.tk + 1)))).heap.size from by simpa using hgr.size)
  obtain ⟨h0, h8⟩ := Rg.can_yes hc
  have hb : (g.wait == 0) = false := by simp [h0]
  have hb8 : (g.opn == 8) = false := by simp [h8]
  have hat : 16 + 16 * (g.tk % 8) = g.reqAt := rfl
  rw [hat] at HP
  clear h hM hok hK hk hf hn hll hc h0 h8 hat
  generalize (M.rews (due l n)).read g.mfn g.reqAt 16 = r at *
  obtain ⟨x, hx⟩ : ∃ x, g.reqAt = x := ⟨_, rfl⟩
  rw [hx] at HP HR
  clear hx
  go_enter Try.func45, Try.ntmps45
  go_wp2_with (first
    | (go_at_call 87; refine HS.out.mono ?_; rintro e w1 ⟨rfl, g1⟩; have G1 := hid g1; clear g1)
    | (go_at_call 35; refine (HW.out _ G1.out).mono ?_; rintro e w2 ⟨rfl, g2⟩; have G2 := hid (G1.out.trans g2); clear g2)
    | (go_at_call 88; refine (HO.out _ G2.out).mono ?_; rintro e w3 ⟨rfl, g3⟩; have G3 := hid (G2.out.trans g3); have d1 := (HKW.out _ G3.out).c1; clear g3)
    | (go_at_call 85; refine (HP.out _).mono ?_; rintro e w4 ⟨rfl, g4⟩; have G4 := hid (G3.out.trans g4); have d1 := (HKW.out _ G4.out).c1; have d0 := (HKW.out _ G4.out).c0; have d9 := Row.frozen (HKW.out _ G4.out) 1; clear g4)
    | (go_at_call 74; refine (HR.out _ G4.out).mono ?_; rintro e w5 ⟨v, rfl, hb5, hr5⟩; have HB5 := hid (hb5.pre (HSz.out _ G4.out)); have HT5 := hid (HT.out _ _ G4.out hr5); clear hb5 hr5))
  go_ret2
  exact ⟨v, rfl, HB5.out, HT5.out⟩
set_option maxRecDepth 100000 in
theorem rgAnswer_len (h : VV w V G B S l n T f) (hK : RB w K g) (hg : g.ok) (pa : Option Addr) (k cap : Nat) (hk : k ≠ 8) :
    Calls Try.prog 46 #[.pointer (some ⟨K, 0, none⟩), .pointer (some ⟨V, 0, none⟩), .slice pa k cap] w fun e w' => e = .returned (.int .i64 1) ∧ w.grownBy w' none := by
  have HS := hid (rgSees V G B S l n T f K g w h hK)
  have HKW := hid (fun (W : World) (hgr : w.grownBy W none) => hK.grown hgr (by simp))
  have HP := hid (fun W => rgPlaceS g.ld W hg.l0 hg.l1)
  have hb : ((k : Int) != 8) = true := by simp; omega
  clear h hK hk
  go_enter Try.func46, Try.ntmps46
  go_wp2_with (first
    | (go_at_call 87; refine HS.out.mono ?_; rintro e w1 ⟨rfl, g1⟩; have G1 := hid g1; have d2 := (HKW.out _ G1.out).c2; clear g1)
    | (go_at_call 89; refine (HP.out _).mono ?_; rintro e w4 ⟨rfl, g4⟩; have G4 := hid (G1.out.trans g4); clear g4))
  go_ret
  exact ⟨rfl, G4.out⟩
set_option maxRecDepth 100000 in
theorem rgAnswer_none (h : VV w V G B S l n T f) (hK : RB w K g) (hg : g.ok) (pa : Option Addr) (k cap : Nat) (hk : k = 8) (h0 : g.opn = 0) :
    Calls Try.prog 46 #[.pointer (some ⟨K, 0, none⟩), .pointer (some ⟨V, 0, none⟩), .slice pa k cap] w fun e w' => e = .returned (.int .i64 5) ∧ w.grownBy w' none := by
  subst hk
  have HS := hid (rgSees V G B S l n T f K g w h hK)
  have HKW := hid (fun (W : World) (hgr : w.grownBy W none) => hK.grown hgr (by simp))
  have HP := hid (fun W => rgPlaceS g.ld W hg.l0 hg.l1)
  have HO := hid (fun (W : World) (hgr : w.grownBy W none) => rgOpen K g W (hK.grown hgr (by simp)))
  rw [h0] at HO
  clear h hK h0
  go_enter Try.func46, Try.ntmps46
  go_wp2_with (first
    | (go_at_call 87; refine HS.out.mono ?_; rintro e w1 ⟨rfl, g1⟩; have G1 := hid g1; have d2 := (HKW.out _ G1.out).c2; clear g1)
    | (go_at_call 88; refine (HO.out _ G4.out).mono ?_; rintro e w3 ⟨rfl, g3⟩; have G3 := hid (G4.out.trans g3); clear g3)
    | (go_at_call 89; refine (HP.out _).mono ?_; rintro e w4 ⟨rfl, g4⟩; have G4 := hid (G1.out.trans g4); clear g4))
  go_ret
  exact ⟨rfl, G3.out⟩
theorem two16_bytes {w : World} {gq B : Nat} {y : Int} (h : Row w gq 5 2 (fun k => .int .u8 ((two16 y).getD k 0).toNat)) (hne : gq ≠ B) : IsBytes w B (.slice (some ⟨gq, 0, none⟩) 2 2) (two16 y) :=
  .inr ⟨⟨gq, 0, none⟩, 2, rfl, hne, fun k x hx => by
    obtain ⟨hk, rfl⟩ := List.getElem?_eq_some_iff.1 hx
    have hk2 : k < 2 := hk
    have e : (⟨gq, 0, none⟩ : Addr).add k = ⟨gq, k, none⟩ := by unfold Addr.add; split <;> simp_all
    rw [e, h.cell hk2]
    simp [List.getD, List.getElem?_eq_getElem hk]⟩
/-- what an answer leaves -/
structure RgAns (w : World) (B K : Nat) (M : Mach) (g : Rg) (w' : World) : Prop where
  mach : PM w' B M
  back : RB w' K g
  chg : Chg (fun k => k = B ∨ k = K) w w'
theorem IsBytes.chg {S : Nat → Prop} {w w' : World} {b : Nat} {pa : Option Addr} {n c : Nat} {l : List UInt8} (h : IsBytes w b (.slice pa n c) l) (hc : Chg S w w') (hS : ∀ a, pa = some a → l ≠ [] → ¬ S a.block) : IsBytes w' b (.slice pa n c) l := by
  rcases h with h | ⟨a, cap, e, hb, hce⟩
  · exact .inl h
  · refine .inr ⟨a, cap, e, hb, fun k x hx => hc.cell (hce k x hx) ?_⟩
    injection e with e1 _ _
    have : (a.add k).block = a.block := by unfold Addr.add; split <;> rfl
    rw [this]
    exact hS a e1 (fun e => by rw [e] at hx; cases hx)
set_option maxRecDepth 100000 in
theorem rgAnswer_yes (h : VV w V G B S l n T f) (hM : PM w B M) (hok : M.ok X) (hK : RB w K g) (hk : RgK K V G B S) (hg : g.ok) (pa : Option Addr) (cap : Nat) (b : List UInt8) (hb : IsBytes w B (.slice pa b.length cap) b) (hl : b.length = 8) (ho : g.opn ≠ 0) :
    Calls Try.prog 46 #[.pointer (some ⟨K, 0, none⟩), .pointer (some ⟨V, 0, none⟩), .slice pa 8 cap] w fun e w' =>
      e = .returned (.int .i64 0) ∧ RgAns w B K (g.answer M b).2.1 (g.answer M b).2.2 w' := by
  have e1 : g.answer M b = (0, ((M.write g.mfn g.rspAt b).2.write g.mfn 2 (two16 g.laid.ld)).2, g.laid) := by unfold Rg.answer; rw [if_neg (by omega), if_neg ho]
  rw [e1]
  have HS := hid (rgSees V G B S l n T f K g w h hK)
  have HKW := hid (fun (W : World) (hgr : w.grownBy W none) => hK.grown hgr (by simp))
  have HP := hid (fun W => rgPlaceS g.ld W hg.l0 hg.l1)
  have HO := hid (fun (W : World) (hgr : w.grownBy W none) => rgOpen K g W (hK.grown hgr (by simp)))
  have hob : (g.opn == 0) = false := by simp [ho]
  have HLo := hid (Rg.laid_ok hg ho)
  have hat : 144 + 8 * (g.ld % 8) = g.rspAt := rfl
  have HX := hid (show g.rspAt ≤ 9223372036854775807 by unfold Rg.rspAt; omega)
  rw [hat] at HP
  rw [hl] at hb
  have HBy := hid hb; have HLn := hid hl; have HH := hid h; have HM := hid hM; have HOk := hid hok; have HRk := hid hk
  have HV1 := hid (fun (W : World) (hgr : w.grownBy W none) => vWrite V G B S l n T f g.mfn g.rspAt (.slice pa 8 cap) b W M X (h.grown hgr) (hM.grown hgr (by simp)) hok HX.out (hb.grown (grow_any hgr _)) (by omega))
  obtain ⟨M1, hM1⟩ : ∃ M1, (M.write g.mfn g.rspAt b).2 = M1 := ⟨_, rfl⟩
  have HOk1 := hid (show M1.ok X from hM1 ▸ Mach.write_ok hok _ _ _)
  rw [hM1] at HV1 ⊢
  obtain ⟨r1, hr1⟩ : ∃ r1, (M.write g.mfn g.rspAt b).1 = r1 := ⟨_, rfl⟩
  rw [hr1] at HV1
  obtain ⟨x, hx⟩ : ∃ x, g.rspAt = x := ⟨_, rfl⟩
  rw [hx] at HP HV1
  clear h hM hok hK hk hb hl ho hat hM1 hr1 hx e1
  go_enter Try.func46, Try.ntmps46
  go_wp2_with (first
    | (go_at_call 87; refine HS.out.mono ?_; rintro e w1 ⟨rfl, g1⟩; have G1 := hid g1; have d2 := (HKW.out _ G1.out).c2; clear g1)
    | (go_at_call 88; refine (HO.out _ G4.out).mono ?_; rintro e w3 ⟨rfl, g3⟩; have G3 := hid (G4.out.trans g3); have d0 := (HKW.out _ G3.out).c0; clear g3)
    | (go_at_call 89; refine (HP.out _).mono ?_; rintro e w4 ⟨rfl, g4⟩; have G4 := hid (G1.out.trans g4); clear g4)
    | (go_at_call 78; refine (HV1.out _ G3.out).mono ?_; rintro e w5 ⟨rfl, hm5, g5⟩; have G5 := hid g5; have HM5 := hid hm5; have HK5 := hid ((HKW.out _ G3.out).grown g5 (by simpa using HRk.out.kb)); have d6 := HK5.out.c2; have d7 := Row.frozen HK5.out 2; have d8 := HK5.out.c0; clear hm5 g5))
  have HV6 := hid ((((HH.out.grown G3.out).mach G5.out).setK HRk.out 2 (.int .u16 (IntKind.u16.wrap (g.ld + 1)))).grown (grownBy_drew _ none))
  have HM6 := hid (((HM5.out.setOther ⟨K, 2, none⟩ (fun e => HRk.out.kb e.symm) (.int .u16 (IntKind.u16.wrap (g.ld + 1))))).grown (grownBy_drew _ none) (by simp))
  have HK6 := hid (show RB _ K g.laid from (HK5.out.setLd (IntKind.u16.wrap (g.ld + 1))).grown (grownBy_drew _ none) (by simp))
  have HC6 := hid (show Chg (fun k => k = B ∨ k = K) w _ from (((Chg.of0 (S := fun k => k = B ∨ k = K) G3.out).trans (Chg.of (S := fun k => k = B ∨ k = K) G5.out fun j e => .inl (.inl (Option.some.inj e).symm)) fun _ e => .inl e).trans (Chg.of (S := fun k => k = B ∨ k = K) (grownBy_setCell w5 K 2 none (.int .u16 (IntKind.u16.wrap (g.ld + 1)))) fun j e => .inl (.inr (Option.some.inj e).symm)) fun _ e => .inl e).trans (Chg.of0 (S := fun k => k = B ∨ k = K) (grownBy_drew _ none)) fun _ e => .inl e)
  obtain ⟨y, hy⟩ : ∃ y, IntKind.u16.wrap (g.ld + 1) = y := ⟨_, rfl⟩
  have hy0 : 0 ≤ y := hy ▸ HLo.out.l0
  have hy1 : y ≤ 65535 := hy ▸ HLo.out.l1
  have HY := hid (show g.laid.ld = y from hy)
  rw [hy] at HV6 HM6 HK6 HC6 ⊢
  obtain ⟨W6, hW6⟩ : ∃ W6, w5.setCell ⟨K, 2, none⟩ (.int .u16 y) = W6 := ⟨_, rfl⟩
  rw [hW6] at HV6 HM6 HK6 HC6 ⊢
  have q0 : W6.drew.cell? ⟨K, 0, none⟩ = some (.int .i64 g.mfn) := HK6.out.c0
  have q2 : W6.drew.cell? ⟨K, 2, none⟩ = some (.int .u16 y) := HY.out ▸ HK6.out.c2
  clear hW6 hy d0 d2 d6 d7 d8 hob
  go_region_held3 (fun w' => w'.cell? ⟨K, 0, none⟩ = some (.int .i64 g.mfn) ∧ w'.cell? ⟨K, 2, none⟩ = some (.int .u16 y)) (first | exact ⟨by assumption, by assumption⟩ | go_keep)
    (first
      | (go_at_call 86; refine (rgWord y _ hy0 hy1).mono ?_; rintro e w7 ⟨gq, hgq, rfl, hr7, g7⟩; have k0 := g7.cell q0 (by simp); have k2 := g7.cell q2 (by simp); have G7 := hid g7; have HB7 := hid (two16_bytes hr7 (show gq ≠ B from fun e => by have := HM6.out.lt; omega)); clear g7 hr7)
      | (go_at_call 78; refine (vWrite V G B S l n T f g.mfn 2 _ (two16 y) _ M1 X (HV6.out.grown G7.out) (HM6.out.grown G7.out (by simp)) HOk1.out (by omega) HB7.out (by rw [two16_len]; omega)).mono ?_; rintro e w8 ⟨rfl, hm8, g8⟩; have HM8 := hid hm8; have HK8 := hid ((HK6.out.grown G7.out (by simp)).grown g8 (by simpa using HRk.out.kb)); have HC8 := hid ((HC6.out.trans (Chg.of0 (S := fun k => k = B ∨ k = K) G7.out) fun _ e => .inl e).trans (Chg.of (S := fun k => k = B ∨ k = K) g8 fun j e => .inl (.inl (Option.some.inj e).symm)) fun _ e => .inl e); have k0 := HK8.out.c0; have k2 := (HY.out ▸ HK8.out.c2 : w8.cell? ⟨K, 2, none⟩ = some (.int .u16 y)); clear hm8 g8))
  go_wp2
  go_ret
  exact ⟨rfl, by rw [HY.out]; exact HM8.out, HK8.out, HC8.out⟩
theorem rgAnswer_yes' (h : VV w V G B S l n T f) (hM : PM w B M) (hok : M.ok X) (hK : RB w K g) (hk : RgK K V G B S) (hg : g.ok) (pa : Option Addr) (cap : Nat) (b : List UInt8) (hb : IsBytes w B (.slice pa 8 cap) b) (hl : b.length = 8) (ho : g.opn ≠ 0) :
    Calls Try.prog 46 #[.pointer (some ⟨K, 0, none⟩), .pointer (some ⟨V, 0, none⟩), .slice pa b.length cap] w fun e w' =>
      e = .returned (.int .i64 0) ∧ RgAns w B K (g.answer M b).2.1 (g.answer M b).2.2 w' := by
  have h1 := rgAnswer_yes V G B S l n T f K g w M X h hM hok hK hk hg pa cap b (by rw [hl]; exact hb) hl ho
  rw [hl]
  exact h1
end
end Go.Proofs.Ytgnihllnjaagcaa
