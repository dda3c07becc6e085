/-
  Both machines side by side.
-/
import Derived.Test.YtnplkifohocekaaDoorPhysK
import Derived.Test.YtnplkifohocekaaDoorRefJ
set_option linter.unusedSimpArgs false
set_option linter.unusedVariables false
namespace Go.Proofs.YtnplkifohocekaaDoor
open Go.RowKit
set_option maxHeartbeats 2000000

theorem Mach.alloc_vn (M : Mach) (o : Int) : (M.alloc o).2.2.n = M.n := by unfold Mach.alloc; (repeat' split) <;> rfl
theorem Mach.give_vn (M : Mach) (i t : Int) : (M.give i t).2.n = M.n := by unfold Mach.give; (repeat' split) <;> rfl
theorem Mach.get_vn (M : Mach) (i o k : Int) : (M.get i o k).2.n = M.n := by unfold Mach.get Mach.take; (repeat' split) <;> rfl
theorem upTo_ok' (n : Nat) (h1 : 1 ≤ n) (h2 : n ≤ 256) : (upTo n n).ok 0 := ⟨by show (1 : Int) ≤ n; omega, by show (n : Int) ≤ 256; omega, fun i hi => by
  have h : i < n := by simp only [upTo] at hi; omega
  show ((if i < n then blankFr else zeroFr).ok ∧ (if i < n then blankFr else zeroFr).tot ≤ 0)
  rw [if_pos h]; exact ⟨blankFr_ok, by decide⟩⟩
/-- both machines, made behind w -/
structure Bg (w W : World) (B b : Nat) (M : Mach) (L : Lay) (T : Int) : Prop where
  m : PM W B M
  r : RM W b M L
  ok : M.ok T
  farB : w.heap.size ≤ B
  far : ∀ k, L.foot b k → w.heap.size ≤ k
  grown : w.grownBy W none
theorem Bg.more {w W W' : World} {B b : Nat} {M : Mach} {L : Lay} {T : Int} (h : Bg w W B b M L T) (hg : W.grownBy W' none) : Bg w W' B b M L T := ⟨h.m.grown hg (by simp), h.r.grown hg, h.ok, h.farB, h.far, h.grown.trans hg⟩
theorem grown_own {w W W' : World} {B : Nat} (h : w.grownBy W none) (g : W.grownBy W' (some B)) (hB : w.heap.size ≤ B) : w.grownBy W' none :=
  (Chg.of (S := fun k => w.heap.size ≤ k) g fun j e => .inl (by cases e; exact hB)).grown h fun _ h => h
theorem Bg.step {w W w1 w2 : World} {B b : Nat} {M M' : Mach} {L L' : Lay} {T T' : Int} (h : Bg w W B b M L T) (h1 : PM w1 B M') (g1 : W.grownBy w1 (some B)) (h2 : RM w2 b M' L') (c2 : Chg (L.foot b) w1 w2) (f2 : ∀ k, L'.foot b k → L.foot b k ∨ w1.heap.size ≤ k) (hok : M'.ok T') : Bg w w2 B b M' L' T' :=
  ⟨h1.chg c2 (h.r.off h.m), h2, hok, h.farB, fun k hk => (f2 k hk).elim (h.far k) (fun h' => Nat.le_trans (Nat.le_trans h.grown.size g1.size) h'), c2.grown (grown_own h.grown g1 h.farB) h.far⟩
theorem Bg.r1 {w W w1 : World} {B b : Nat} {M : Mach} {L : Lay} {T : Int} (h : Bg w W B b M L T) (g1 : W.grownBy w1 (some B)) : RM w1 b M L := h.r.keep h.m g1
theorem InBytes.grown {w w' : World} {pa : Option Addr} {l : List UInt8} (h : InBytes w pa l) (hg : w.grownBy w' none) : InBytes w' pa l := by
  rcases h with h | ⟨b, o, e, hb, hc⟩
  · exact .inl h
  · exact .inr ⟨b, o, e, Nat.lt_of_lt_of_le hb hg.size, fun k hk => hg.cell (hc k hk) (by simp)⟩
/-- bytes that came in, apart from what was made later -/
theorem InBytes.apart {w W : World} {pa : Option Addr} {l : List UInt8} (h : InBytes w pa l) (hg : w.grownBy W none) {L : Lay} {b : Nat} (far : ∀ k, L.foot b k → w.heap.size ≤ k) : Apart W L b pa l := fun k hk => by
  rcases h with h | ⟨sb, so, e, hb, hc⟩
  · rw [h] at hk; simp at hk
  · exact ⟨sb, so, e, fun h' => by have := far _ h'; omega, hg.cell (hc k hk) (by simp)⟩
/-- bytes that came in, as bytes apart from a block -/
theorem InBytes.is' {w : World} {pa : Option Addr} {l : List UInt8} (h : InBytes w pa l) (B : Nat) (hB : ∀ b o, pa = some ⟨b, o, none⟩ → l ≠ [] → b ≠ B) (cap : Nat) : IsBytes w B (.slice pa l.length cap) l := by
  by_cases h0 : l = []
  · subst h0; exact .inl ⟨⟨_, _, rfl⟩, rfl⟩
  rcases h with h | ⟨b, o, e, hb, hc⟩
  · exact absurd h h0
  · subst e
    refine .inr ⟨_, _, rfl, hB b o rfl h0, fun k x hx => ?_⟩
    obtain ⟨hk, rfl⟩ := List.getElem?_eq_some_iff.1 hx
    have e : (⟨b, o, none⟩ : Addr).add k = ⟨b, o + k, none⟩ := by unfold Addr.add; split <;> simp_all
    rw [e, hc k hk]
    simp [List.getD, List.getElem?_eq_getElem hk]
theorem InBytes.far {w W : World} {pa : Option Addr} {l : List UInt8} (h : InBytes w pa l) (hg : w.grownBy W none) {B : Nat} (hB : w.heap.size ≤ B) (cap : Nat) : IsBytes W B (.slice pa l.length cap) l := by
  refine (h.grown hg).is' B (fun b o e h0 => ?_) cap
  rcases h with h | ⟨b', o', e', hb, _⟩
  · exact absurd h h0
  · rw [e'] at e; cases e; omega
end Go.Proofs.YtnplkifohocekaaDoor
