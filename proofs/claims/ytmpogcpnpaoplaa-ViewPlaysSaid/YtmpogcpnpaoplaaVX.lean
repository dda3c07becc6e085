/-
  Both views side by side, each over its own machine.
-/
import Derived.Test.YtmpogcpnpaoplaaVRefE
namespace Go.Proofs.Ytmpogcpnpaoplaa
open Go.RowKit
set_option maxHeartbeats 1200000

structure VX (w0 w : World) (V G B : Nat) (S : Nat → Prop) (l : List PokeV) (n : Nat) (M : Mach) (U b : Nat) (pa : Option Addr) (cap n' : Nat) (M' : Mach) : Prop where
  v : ∃ f, VV w V G B S l n l.length f
  m : PM w B M
  r : RV w U b pa l.length cap n'
  k : ∃ L, RM w b M' L ∧ ∀ q, L.foot b q → w0.heap.size ≤ q ∧ q ≠ U ∧ q ≠ B ∧ ¬ vfoot V G S q
  g : w0.grownBy w none
  U0 : w0.heap.size ≤ U
  UB : U ≠ B
  UV : ¬ vfoot V G S U
  V0 : w0.heap.size ≤ V ∧ w0.heap.size ≤ G ∧ w0.heap.size ≤ B
section
variable {w0 w W : World} {V G B : Nat} {S : Nat → Prop} {l : List PokeV} {n : Nat} {M : Mach} {U b : Nat} {pa : Option Addr} {cap n' : Nat} {M' : Mach}
theorem VX.more (h : VX w0 w V G B S l n M U b pa cap n' M') (hg : w.grownBy W none) : VX w0 W V G B S l n M U b pa cap n' M' := by
  obtain ⟨f, hf⟩ := h.v
  obtain ⟨L, hL, hk⟩ := h.k
  exact ⟨⟨f, hf.grown hg⟩, h.m.grown hg (by simp), h.r.grown hg, ⟨L, hL.grown hg, hk⟩, h.g.trans hg, h.U0, h.UB, h.UV, h.V0⟩
theorem VX.vread (h : VX w0 w V G B S l n M U b pa cap n' M') (hr : VRead w V G B S l n l.length M W) : VX w0 W V G B S l (n + 1) (M.rews (due l n)) U b pa cap n' M' := by
  obtain ⟨L, hL, hk⟩ := h.k
  obtain ⟨v1, v2, v3⟩ := h.V0
  refine ⟨hr.view, hr.mach, Row.chg h.r hr.chg (fun e => ?_), ⟨L, hL.chg hr.chg (fun q hq e => ?_), hk⟩, hr.chg.grown h.g (fun q e => ?_), h.U0, h.UB, h.UV, h.V0⟩
  · rcases e with e | e | e
    · exact h.UV (.inl e)
    · exact h.UV (.inr (.inl e))
    · exact h.UB e
  · obtain ⟨_, _, k2, k3⟩ := hk q hq
    rcases e with e | e | e
    · exact k3 (.inl e)
    · exact k3 (.inr (.inl e))
    · exact k2 e
  · rcases e with rfl | rfl | rfl <;> assumption
theorem VX.rread (h : VX w0 w V G B S l n M U b pa cap n' M') {M2 : Mach} {L : Lay} (hL : RM w b M' L) (hk : ∀ q, L.foot b q → w0.heap.size ≤ q ∧ q ≠ U ∧ q ≠ B ∧ ¬ vfoot V G S q) (hr : RVRead w U b pa l.length cap (n' + 1 : Nat) L M2 W) : VX w0 W V G B S l n M U b pa cap (n' + 1) M2 := by
  obtain ⟨hv, L', hm, hn, hc, hf⟩ := hr
  obtain ⟨f, hvv⟩ := h.v
  have hsz := h.g.size
  have hUl : U < w.heap.size := Row.lt h.r
  have hBl := h.m.lt
  refine ⟨⟨f, hvv.chg hc (fun q hq e => ?_)⟩, (hc.block B hBl (fun e => ?_)).trans h.m, hv, ⟨L', hm, fun q hq => ?_⟩, hc.grown h.g (fun q e => ?_), h.U0, h.UB, h.UV, h.V0⟩
  · rcases e with rfl | e
    · exact h.UV hq
    · exact (hk q e).2.2.2 hq
  · rcases e with e | e
    · exact h.UB e.symm
    · exact (hk B e).2.2.1 rfl
  · rcases hf q hq with e | e
    · exact hk q e
    · exact ⟨by omega, by omega, by omega, fun e' => by have := hvv.foot_lt e'; omega⟩
  · rcases e with rfl | e
    · exact h.U0
    · exact (hk q e).1
end
structure OpV where
  what : Int
  i : Int
  off : Int
  n : Int
  l : List UInt8
end Go.Proofs.Ytmpogcpnpaoplaa
