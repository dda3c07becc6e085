/-
  Package view: contract of New.
-/
import Derived.Test.YtnplkifohocekaaDoorViewB
set_option linter.unusedSimpArgs false
set_option linter.unusedVariables false
namespace Go.Proofs.YtnplkifohocekaaDoor
open Go.RowKit
set_option maxHeartbeats 1000000

def nilS : Value := .slice none 0 0
/-- New under way: k rewrites laid -/
structure NV (w wr : World) (B : Nat) (l : List PokeV) (f : Int → Option Value) (k : Nat) (C : Nat → Prop) : Prop where
  top : Row wr (w.heap.size + 1) 118 3 (vtop B w.heap.size 0)
  map : VMapV wr w.heap.size k f
  grown : w.grownBy wr none
  size : w.heap.size + 2 ≤ wr.heap.size
  has : ∀ t : Int, 0 ≤ t → ∃ cls, wr.ownsRow (w.heap.size + 2) 1 1 ((f t).getD nilS) (due l t).length cls ∧ (∀ j (h : j < (due l t).length), ∃ cv, cls[j]? = some cv ∧ Clo wr C B cv (due l t)[j]) ∧ ((f t).isSome = true ↔ 0 < (due l t).length)
  apart : ∀ t t' g, t ≠ t' → ((f t).getD nilS).ownBlock = some g → ((f t').getD nilS).ownBlock ≠ some g
  hC : ∀ k, C k → w.heap.size + 2 ≤ k ∧ k < wr.heap.size
  rows : ∀ t g, ((f t).getD nilS).ownBlock = some g → ¬ C g ∧ g < wr.heap.size
  neg : ∀ t, t < 0 → f t = none
theorem NV.more {w wr W : World} {B : Nat} {l : List PokeV} {f : Int → Option Value} {k : Nat} {C : Nat → Prop} (h : NV w wr B l f k C) (hg : wr.grownBy W none) : NV w W B l f k C :=
  ⟨h.top.grown hg (by simp), h.map.grown hg (by simp), h.grown.trans hg, Nat.le_trans h.size hg.size, fun t ht => by
    obtain ⟨cls, h1, h2, h3⟩ := h.has t ht
    exact ⟨cls, h1.kept hg (none_row' _), fun j hj => by obtain ⟨cv, e, hc⟩ := h2 j hj; exact ⟨cv, e, hc.chg (S' := fun _ => False) (Chg.of0 hg) fun _ _ e => e⟩, h3⟩,
    h.apart, fun k hk => ⟨(h.hC k hk).1, Nat.lt_of_lt_of_le (h.hC k hk).2 hg.size⟩, fun t g e => ⟨(h.rows t g e).1, Nat.lt_of_lt_of_le (h.rows t g e).2 hg.size⟩, h.neg⟩
theorem NV.skip {w wr : World} {B : Nat} {l : List PokeV} {f : Int → Option Value} {k : Nat} {C : Nat → Prop} (h : NV w wr B l f k C) {p : PokeV} (hp : p.t < 0) : NV w wr B (l ++ [p]) f (k + 1) C :=
  ⟨h.top, h.map.mono (by omega), h.grown, h.size, fun t ht => by rw [due_snoc_no (show p.t ≠ t by omega)]; exact h.has t ht, h.apart, h.hC, h.rows, h.neg⟩
/-- one more rewrite: its closure (W0 to W1), the row that holds it (W1 to W3), the map (W3 to W4) -/
theorem NV.step {w W0 W1 W2 W3 W4 : World} {B : Nat} {l : List PokeV} {f : Int → Option Value} {k : Nat} {C : Nat → Prop} (h : NV w W0 B l f k C) {p : PokeV} (hp : 0 ≤ p.t) {cv : Value} {cls : List Value} {g c : Nat}
    (g1 : W0.grownBy W1 none) (hcl : Clo W1 (fun k => W0.heap.size ≤ k ∧ k < W1.heap.size) B cv p) (g2 : W1.grownBy W2 none) (hs2 : W2.heap.size = W1.heap.size + 1)
    (hc : W0.ownsRow (w.heap.size + 2) 1 1 ((f p.t).getD nilS) (due l p.t).length cls) (hcc : ∀ j (h : j < (due l p.t).length), ∃ cv, cls[j]? = some cv ∧ Clo W0 C B cv (due l p.t)[j])
    (h3 : W3.ownsRow (w.heap.size + 2) 1 1 (.slice (some ⟨g, 0, none⟩) ((due l p.t).length + 1) c) ((due l p.t).length + 1) (cls ++ [cv])) (g3 : W2.grownBy W3 ((f p.t).getD nilS).ownBlock) (hat : ((f p.t).getD nilS).ownBlock = some g ∨ g = W2.heap.size)
    (h4 : VMapV W4 w.heap.size (k + 1) (fun i => if i = p.t then some (.slice (some ⟨g, 0, none⟩) ((due l p.t).length + 1) c) else f i)) (g4 : W3.grownBy W4 (some w.heap.size)) :
    NV w W4 B (l ++ [p]) (fun i => if i = p.t then some (.slice (some ⟨g, 0, none⟩) ((due l p.t).length + 1) c) else f i) (k + 1) (fun k => C k ∨ (W0.heap.size ≤ k ∧ k < W1.heap.size)) := by
  have hsz := h.size
  have hold : ∀ q, ((f p.t).getD nilS).ownBlock = some q → w.heap.size + 2 ≤ q ∧ q < W0.heap.size := fun q hq => hc.lt q hq
  have hg3 : g < W3.heap.size := (h3.lt g rfl).2
  have s1 := g1.size; have s3 := g3.size; have s4 := g4.size
  -- what is kept of closures
  have keep : ∀ (S : Nat → Prop) (v : Value) (q : PokeV) (W : World), W.grownBy W2 none → Clo W S B v q → (∀ x, S x → w.heap.size + 2 ≤ x) → (∀ x, S x → ((f p.t).getD nilS).ownBlock ≠ some x) → Clo W4 S B v q := fun S v q W hW hcl hb hr => by
    have a := hcl.chg (S' := fun _ => False) (Chg.of0 hW) fun _ _ e => e
    have b := a.chg (S' := fun x => ((f p.t).getD nilS).ownBlock = some x) (Chg.of g3 fun j e => .inl e) fun x hx e => hr x hx e
    exact b.chg (S' := fun x => x = w.heap.size) (Chg.of g4 fun j e => .inl (Option.some.inj e).symm) fun x hx e => by have := hb x hx; omega
  have hrow : ∀ x, C x → ((f p.t).getD nilS).ownBlock ≠ some x := fun x hx e => (h.rows _ _ e).1 hx
  have hnew : ∀ x, (W0.heap.size ≤ x ∧ x < W1.heap.size) → ((f p.t).getD nilS).ownBlock ≠ some x := fun x hx e => by have := (hold x e).2; omega
  have hG : ∀ q, w.heap.size + 2 ≤ q → some q ≠ some w.heap.size := fun q hq e => by have := Option.some.inj e; omega
  refine ⟨?_, h4, ?_, by omega, fun t ht => ?_, fun t t' q hne e => ?_, fun x hx => ?_, fun t q e => ?_, fun t ht => ?_⟩
  · have a := (h.top.grown g1 (by simp)).grown g2 (by simp)
    have b := a.grown g3 (fun e => by have := (hold _ e.symm).1; omega)
    exact b.grown g4 (by simp)
  · exact (Chg.of (S := fun x => w.heap.size ≤ x) g4 (fun j e => .inl (by cases e; exact Nat.le_refl _))).grown
      ((Chg.of (S := fun x => w.heap.size ≤ x) g3 (fun j e => .inl (by have := (hold j e).1; omega))).grown ((h.grown.trans g1).trans g2) fun _ h => h) fun _ h => h
  · by_cases e : t = p.t
    · subst e
      rw [due_snoc_yes rfl]
      refine ⟨cls ++ [cv], ?_, fun j hj => ?_, ?_⟩
      · simp only [if_pos, Option.getD_some, List.length_append, List.length_cons, List.length_nil]
        exact h3.kept g4 (.inr (by show some g ≠ _; exact hG g (h3.lt g rfl).1))
      · by_cases hl : j < (due l p.t).length
        · obtain ⟨c0, e0, hc0⟩ := hcc j hl
          refine ⟨c0, by rw [List.getElem?_append_left (by have := hc.1; omega)]; exact e0, ?_⟩
          rw [List.getElem_append_left hl]
          exact (keep C _ _ W0 (g1.trans g2) hc0 (fun x hx => (h.hC x hx).1) hrow).mono fun x hx => .inl hx
        · have hj' : j = (due l p.t).length := by simp at hj; omega
          subst hj'
          have hcl' := hc.1
          refine ⟨cv, by rw [List.getElem?_append_right (by omega)]; simp [hcl'], ?_⟩
          rw [List.getElem_append_right (by omega)]
          simp only [Nat.sub_self, List.getElem_cons_zero]
          exact (keep _ _ _ W1 g2 hcl (fun x hx => by omega) hnew).mono fun x hx => .inr hx
      · simp
    · rw [due_snoc_no (fun e' => e e'.symm)]
      obtain ⟨cl, o1, o2, o3⟩ := h.has t ht
      simp only [if_neg e]
      refine ⟨cl, ?_, fun j hj => ?_, o3⟩
      · have a := (o1.kept g1 (none_row' _)).kept g2 (none_row' _)
        have hno : ((f t).getD nilS).ownBlock = none ∨ ((f t).getD nilS).ownBlock ≠ ((f p.t).getD nilS).ownBlock := by
          cases hb : ((f t).getD nilS).ownBlock with
          | none => exact .inl rfl
          | some q => exact .inr fun e' => h.apart t p.t q e hb e'.symm
        have b := a.kept g3 hno
        refine b.kept g4 ?_
        cases hb : ((f t).getD nilS).ownBlock with
        | none => exact .inl rfl
        | some q => exact .inr (hG q (o1.lt q hb).1)
      · obtain ⟨c0, e0, hc0⟩ := o2 j hj
        exact ⟨c0, e0, (keep C _ _ W0 (g1.trans g2) hc0 (fun x hx => (h.hC x hx).1) hrow).mono fun x hx => .inl hx⟩
  · have key : ∀ t, t ≠ p.t → ((f t).getD nilS).ownBlock ≠ some g := fun t ht e => by
      rcases hat with h' | h'
      · exact h.apart t p.t g ht e h'
      · have := (h.rows t g e).2; omega
    by_cases e1 : t = p.t
    · simp only [if_pos e1, Option.getD_some] at e
      have e2 : t' ≠ p.t := fun e2 => hne (e1.trans e2.symm)
      simp only [if_neg e2]
      have : g = q := by simpa [Value.ownBlock] using e
      subst this
      exact key t' e2
    · simp only [if_neg e1] at e
      by_cases e2 : t' = p.t
      · simp only [if_pos e2, Option.getD_some]
        intro e3
        have : g = q := by simpa [Value.ownBlock] using e3
        subst this
        exact key t e1 e
      · simp only [if_neg e2]
        exact h.apart t t' q hne e
  · rcases hx with hx | hx
    · have := h.hC x hx; omega
    · omega
  · by_cases e1 : t = p.t
    · simp only [if_pos e1, Option.getD_some] at e
      have : g = q := by simpa [Value.ownBlock] using e
      subst this
      refine ⟨fun hC => ?_, by omega⟩
      rcases hat with h' | h'
      · rcases hC with hC | hC
        · exact (h.rows _ _ h').1 hC
        · have := (hold _ h').2; omega
      · rcases hC with hC | hC
        · have := (h.hC _ hC).2; omega
        · omega
    · simp only [if_neg e1] at e
      obtain ⟨r1, r2⟩ := h.rows t q e
      refine ⟨fun hC => ?_, by omega⟩
      rcases hC with hC | hC
      · exact r1 hC
      · omega
  · show (if t = p.t then _ else f t) = none
    rw [if_neg (by omega)]
    exact h.neg t ht
/-- what New leaves -/
theorem NV.done {w wr : World} {B : Nat} {l : List PokeV} {f : Int → Option Value} {k : Nat} {C : Nat → Prop} (h : NV w wr B l f k C) (hB : B < w.heap.size) : VV wr (w.heap.size + 1) w.heap.size B (fun k => w.heap.size + 2 ≤ k ∧ k < wr.heap.size) l 0 k f := by
  refine ⟨h.top, h.map, by omega, by omega, by omega, by omega, by omega, fun k hk => hk.2, fun t _ => ?_, fun g hg => ?_⟩
  · obtain ⟨cls, h1, h2, h3⟩ := h.has t (by omega)
    cases hf : f t with
    | none =>
      have : ¬ 0 < (due l t).length := fun hp => by rw [hf] at h3; simpa using h3.2 hp
      exact .inl ⟨rfl, List.eq_nil_of_length_eq_zero (by omega)⟩
    | some v =>
      rw [hf] at h1 h3
      have hp := h3.1 rfl
      obtain ⟨n, hn⟩ : ∃ n, (due l t).length = n + 1 := ⟨(due l t).length - 1, by omega⟩
      have h1' := h1
      rw [hn] at h1'
      obtain ⟨g, c, e, hb, hr⟩ := ownsRow_row h1'
      simp only [Option.getD_some] at e
      refine .inr ⟨g, c, fun j => cls.getD j undef, by rw [e, hn], ⟨hb, hr.lt⟩, by rw [hn]; simpa using hr, fun j hj => ?_⟩
      obtain ⟨cv, e0, hc⟩ := h2 j hj
      have : cls.getD j undef = cv := by simp [List.getD, e0]
      show Clo wr _ B (cls.getD j undef) _
      rw [this]
      exact hc.mono fun x hx => h.hC x hx
  · have : ¬ g < 0 := fun hneg => by rw [h.neg g hneg] at hg; cases hg
    omega
end Go.Proofs.YtnplkifohocekaaDoor
