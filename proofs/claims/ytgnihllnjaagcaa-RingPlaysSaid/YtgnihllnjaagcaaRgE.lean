/-
  Both back ends side by side, each over its own view.
-/
import Derived.Test.YtgnihllnjaagcaaRgB
import Derived.Test.YtgnihllnjaagcaaRgOne
set_option linter.unusedSimpArgs false
set_option linter.unusedVariables false
namespace Go.Proofs.Ytgnihllnjaagcaa
open Go.RowKit
set_option maxHeartbeats 1200000

/-- both machines and both back ends, between two calls -/
structure RS (w0 w : World) (B b K C : Nat) (M : Mach) (g : Rg) : Prop where
  m : PM w B M
  r : ∃ L, RM w b M L ∧ ∀ q, L.foot b q → w0.heap.size ≤ q
  k : RB w K g
  c : RC w C g
  far : w0.heap.size ≤ B ∧ w0.heap.size ≤ K ∧ w0.heap.size ≤ C
  g : w0.grownBy w none
theorem RS.more {w0 w W : World} {B b K C : Nat} {M : Mach} {g : Rg} (h : RS w0 w B b K C M g) (hg : w.grownBy W none) : RS w0 W B b K C M g := by
  obtain ⟨L, hL, hf⟩ := h.r
  exact ⟨h.m.grown hg (by simp), ⟨L, hL.grown hg, hf⟩, h.k.grown hg (by simp), h.c.grown hg (by simp), h.far, h.g.trans hg⟩
/-- in the midst of a call: views V and U, the two sides apart -/
structure RX (w0 w : World) (V G B : Nat) (S : Nat → Prop) (l : List PokeV) (n : Nat) (M : Mach) (U b : Nat) (pa : Option Addr) (cap n' : Nat) (M' : Mach) (K C : Nat) (g g' : Rg) : Prop where
  v : ∃ f, VV w V G B S l n l.length f
  m : PM w B M
  u : RV w U b pa l.length cap n'
  r : ∃ L, RM w b M' L ∧ ∀ q, L.foot b q → w0.heap.size ≤ q ∧ ¬ vfoot V G S q
  k : RB w K g
  c : RC w C g'
  far : w0.heap.size ≤ B ∧ w0.heap.size ≤ K ∧ w0.heap.size ≤ C
  farV : w0.heap.size ≤ V ∧ w0.heap.size ≤ G ∧ w0.heap.size ≤ U
  kv : ¬ vfoot V G S K
  cv : ¬ vfoot V G S C
  uv : ¬ vfoot V G S U
  g : w0.grownBy w none
section
variable {w0 w W : World} {V G B : Nat} {S : Nat → Prop} {l : List PokeV} {n : Nat} {M M2 : Mach} {U b : Nat} {pa : Option Addr} {cap n' : Nat} {M' : Mach} {K C : Nat} {g g' g2 : Rg}
theorem RX.rs (h : RX w0 w V G B S l n M U b pa cap n' M K C g g) : RS w0 w B b K C M g := by
  obtain ⟨L, hL, hf⟩ := h.r
  exact ⟨h.m, ⟨L, hL, fun q hq => (hf q hq).1⟩, h.k, h.c, h.far, h.g⟩
theorem RX.more (h : RX w0 w V G B S l n M U b pa cap n' M' K C g g') (hg : w.grownBy W none) : RX w0 W V G B S l n M U b pa cap n' M' K C g g' := by
  obtain ⟨L, hL, hf⟩ := h.r
  obtain ⟨f, hv⟩ := h.v
  exact ⟨⟨f, hv.grown hg⟩, h.m.grown hg (by simp), h.u.grown hg, ⟨L, hL.grown hg, hf⟩, h.k.grown hg (by simp), h.c.grown hg (by simp), h.far, h.farV, h.kv, h.cv, h.uv, h.g.trans hg⟩
theorem RX.kb (h : RX w0 w V G B S l n M U b pa cap n' M' K C g g') : K ≠ B := (Row.pm_ne h.k h.m (by decide)).symm
theorem RX.cb (h : RX w0 w V G B S l n M U b pa cap n' M' K C g g') : C ≠ B := (Row.pm_ne h.c h.m (by decide)).symm
theorem RX.ub (h : RX w0 w V G B S l n M U b pa cap n' M' K C g g') : U ≠ B := (Row.pm_ne h.u h.m (by decide)).symm
theorem RX.kc (h : RX w0 w V G B S l n M U b pa cap n' M' K C g g') : K ≠ C := Row.type_ne h.k h.c (by decide)
theorem RX.ku (h : RX w0 w V G B S l n M U b pa cap n' M' K C g g') : K ≠ U := Row.type_ne h.k h.u (by decide)
theorem RX.cu (h : RX w0 w V G B S l n M U b pa cap n' M' K C g g') : C ≠ U := Row.type_ne h.c h.u (by decide)
theorem RX.rgk (h : RX w0 w V G B S l n M U b pa cap n' M' K C g g') : RgK K V G B S := ⟨h.kv, h.kb⟩
/-- the program's side has turned -/
theorem RX.left (h : RX w0 w V G B S l n M U b pa cap n' M' K C g g') {m : Nat} (hv : ∃ f, VV W V G B S l m l.length f) (hm : PM W B M2) (hk : RB W K g2) (hc : Chg (fun k => k = V ∨ k = G ∨ k = B ∨ k = K) w W) : RX w0 W V G B S l m M2 U b pa cap n' M' K C g2 g' := by
  obtain ⟨L, hL, hf⟩ := h.r
  have hkb := h.kb
  refine ⟨hv, hm, Row.chg h.u hc ?_, ⟨L, hL.chg hc fun q hq e => ?_, hf⟩, hk, h.c.chg hc ?_, h.far, h.farV, h.kv, h.cv, h.uv, hc.grown h.g ?_⟩
  · rintro (e | e | e | e)
    · exact h.uv (.inl e)
    · exact h.uv (.inr (.inl e))
    · exact h.ub e
    · exact h.ku e.symm
  · rcases e with e | e | e | e
    · exact (hf q hq).2 (.inl e)
    · exact (hf q hq).2 (.inr (.inl e))
    · exact hL.off h.m (e ▸ hq)
    · exact hL.offRow h.k (by decide) (by decide) (by decide) (by decide) (e ▸ hq)
  · rintro (e | e | e | e)
    · exact h.cv (.inl e)
    · exact h.cv (.inr (.inl e))
    · exact h.cb e
    · exact h.kc e.symm
  · rintro q (rfl | rfl | rfl | rfl)
    · exact h.farV.1
    · exact h.farV.2.1
    · exact h.far.1
    · exact h.far.2.1
theorem RX.ref (h : RX w0 w V G B S l n M U b pa cap n' M' K C g g') {L : Lay} (hL : RM w b M' L) (hf : ∀ q, L.foot b q → w0.heap.size ≤ q ∧ ¬ vfoot V G S q) (hc : Chg (fun k => k = V ∨ k = G ∨ k = B ∨ k = K) w W) : RM W b M' L :=
  hL.chg hc fun q hq e => by
    rcases e with e | e | e | e
    · exact (hf q hq).2 (.inl e)
    · exact (hf q hq).2 (.inr (.inl e))
    · exact hL.off h.m (e ▸ hq)
    · exact hL.offRow h.k (by decide) (by decide) (by decide) (by decide) (e ▸ hq)
theorem RX.read (h : RX w0 w V G B S l n M U b pa cap n' M' K C g g') (hr : RgRead w V G B S l n l.length M K g2 W) : RX w0 W V G B S l (n + 1) (M.rews (due l n)) U b pa cap n' M' K C g2 g' :=
  h.left hr.view hr.mach hr.back hr.chg
/-- the reference's side has turned -/
theorem RX.right (h : RX w0 w V G B S l n M U b pa cap n' M' K C g g') {L : Lay} (hL : RM w b M' L) (hf : ∀ q, L.foot b q → w0.heap.size ≤ q ∧ ¬ vfoot V G S q) {m : Nat} (hu : RV W U b pa l.length cap m) (hm : ∃ L', RM W b M2 L' ∧ L'.n = L.n ∧ ∀ q, L'.foot b q → L.foot b q ∨ w.heap.size ≤ q) (hc' : RC W C g2) (hc : Chg (fun q => q = U ∨ L.foot b q ∨ q = C) w W) : RX w0 W V G B S l n M U b pa cap m M2 K C g g2 := by
  obtain ⟨f, hv⟩ := h.v
  obtain ⟨L', hL', _, hf'⟩ := hm
  have hsz := h.g.size
  refine ⟨⟨f, hv.chg hc fun q hq e => ?_⟩, h.m.chg hc ?_, hu, ⟨L', hL', fun q hq => ?_⟩, h.k.chg hc ?_, hc', h.far, h.farV, h.kv, h.cv, h.uv, hc.grown h.g ?_⟩
  · rcases e with rfl | e | rfl
    · exact h.uv hq
    · exact (hf q e).2 hq
    · exact h.cv hq
  · rintro (e | e | e)
    · exact h.ub e.symm
    · exact hL.off h.m e
    · exact h.cb e.symm
  · rcases hf' q hq with e | e
    · exact hf q e
    · exact ⟨by omega, fun e' => by have := hv.foot_lt e'; omega⟩
  · rintro (e | e | e)
    · exact h.ku e
    · exact hL.offRow h.k (by decide) (by decide) (by decide) (by decide) e
    · exact h.kc e
  · rintro q (rfl | e | rfl)
    · exact h.farV.2.2
    · exact (hf q e).1
    · exact h.far.2.2
theorem RX.ans (h : RX w0 w V G B S l n M U b pa cap n' M' K C g g') (ha : RgAns w B K M2 g2 W) : RX w0 W V G B S l n M2 U b pa cap n' M' K C g2 g' := by
  obtain ⟨f, hv⟩ := h.v
  refine h.left ⟨f, hv.chg ha.chg fun q hq e => ?_⟩ ha.mach ha.back (ha.chg.mono fun k e => e.elim (fun e => .inr (.inr (.inl e))) fun e => .inr (.inr (.inr e)))
  rcases e with rfl | rfl
  · rcases hq with e | e | e
    · exact hv.VB e.symm
    · exact hv.GB e.symm
    · exact hv.sB e
  · exact h.kv hq
theorem RX.rans (h : RX w0 w V G B S l n M U b pa cap n' M' K C g g') {L : Lay} (hL : RM w b M' L) (hf : ∀ q, L.foot b q → w0.heap.size ≤ q ∧ ¬ vfoot V G S q) (ha : RcAns w b L M2 C g2 W) : RX w0 W V G B S l n M U b pa cap n' M2 K C g g2 :=
  h.right hL hf (Row.chg h.u ha.chg fun e => e.elim (hL.offRow h.u (by decide) (by decide) (by decide) (by decide)) fun e => h.cu e.symm) ha.m ha.c (ha.chg.mono fun q e => .inr e)
theorem RX.refAns (h : RX w0 w V G B S l n M U b pa cap n' M' K C g g') {L : Lay} (hL : RM w b M' L) (ha : RgAns w B K M2 g2 W) : RM W b M' L :=
  hL.chg ha.chg fun q hq e => by
    rcases e with e | e
    · exact hL.off h.m (e ▸ hq)
    · exact hL.offRow h.k (by decide) (by decide) (by decide) (by decide) (e ▸ hq)
end
end Go.Proofs.Ytgnihllnjaagcaa
