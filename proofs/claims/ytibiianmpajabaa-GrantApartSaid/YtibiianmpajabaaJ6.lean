/-
  Package view: contract of Rest (a range over a map in any order).
-/
import Derived.Test.YtibiianmpajabaaViewB
import Derived.Carry
import Derived.Deep.Cut
import Derived.Deep.AppendLies
import Derived.Test.YtibiianmpajabaaPhysK
import Derived.Test.YtibiianmpajabaaJ8
import Derived.Test.YtibiianmpajabaaOpen
import Derived.StillTailTactics
set_option linter.unusedSimpArgs false
set_option linter.unusedVariables false
namespace Go.Proofs.Ytibiianmpajabaa
open Go.RowKit
set_option maxHeartbeats 1000000

/-- how many rewrites are not done yet -/
def restN (l : List PokeV) (n : Nat) : Nat := (l.filter fun p => decide ((n : Int) ≤ p.t)).length
def cntL (l : List PokeV) (n : Nat) (left : Int → Bool) : Nat := (l.filter fun p => decide ((n : Int) ≤ p.t) && !left p.t).length
theorem cnt_step {l : List PokeV} {n : Nat} {left : Int → Bool} {x : Int} (hx : left x = true) (hn : (n : Int) ≤ x) : cntL l n (fun g => left g && decide (g ≠ x)) = cntL l n left + (due l x).length := by
  induction l with
  | nil => rfl
  | cons p l ih =>
    unfold cntL due at ih ⊢
    by_cases e : p.t = x
    · have h1 : (decide ((n : Int) ≤ p.t) && !(left p.t && decide (p.t ≠ x))) = true := by simp [e, hn]
      have h2 : (decide ((n : Int) ≤ p.t) && !left p.t) = false := by simp [e, hx]
      have h3 : (p.t == x) = true := by simp [e]
      rw [List.filter_cons_of_pos (by simpa using h1), List.filter_cons_of_neg (by rw [h2]; simp), List.filter_cons_of_pos (by simpa using h3), List.length_cons, List.length_cons, ih]
      omega
    · have h3 : (p.t == x) = false := by simp [e]
      have h1 : (decide ((n : Int) ≤ p.t) && !(left p.t && decide (p.t ≠ x))) = (decide ((n : Int) ≤ p.t) && !left p.t) := by simp [e]
      have hr : (List.filter (fun p => p.t == x) (p :: l)) = List.filter (fun p => p.t == x) l := List.filter_cons_of_neg (by rw [h3]; simp)
      rw [hr]
      by_cases h2 : (decide ((n : Int) ≤ p.t) && !left p.t) = true
      · rw [List.filter_cons_of_pos (by rw [h1]; exact h2), List.filter_cons_of_pos (by exact h2), List.length_cons, List.length_cons, ih]
        omega
      · rw [List.filter_cons_of_neg (by rw [h1]; exact h2), List.filter_cons_of_neg (by exact h2), ih]
theorem cnt_end {l : List PokeV} {n : Nat} {left : Int → Bool} (h : ∀ g, left g = false) : cntL l n left = restN l n := by
  unfold cntL restN; simp [h]
theorem cnt_le (l : List PokeV) (n : Nat) (left : Int → Bool) : cntL l n left ≤ l.length := List.length_filter_le _ _
theorem due_mem {l : List PokeV} {p : PokeV} {x : Int} (h : p ∈ l) (e : p.t = x) : p ∈ due l x := by simp [due, h, e]
theorem vv_start {w : World} {V G B : Nat} {S : Nat → Prop} {l : List PokeV} {n T : Nat} {f : Int → Option Value} (h : VV w V G B S l n T f) : cntL l n (fun g => (f g).isSome) = 0 := by
  unfold cntL
  rw [List.length_eq_zero_iff, List.filter_eq_nil_iff]
  intro p hp hc
  simp only [Bool.and_eq_true, decide_eq_true_eq, Bool.not_eq_true'] at hc
  obtain ⟨t, ht⟩ : ∃ t : Nat, p.t = t := ⟨p.t.toNat, by omega⟩
  have hd := h.due t (by omega)
  have hm := due_mem hp ht
  rcases hd with ⟨_, e⟩ | ⟨g, c, cl, e, _⟩
  · rw [e] at hm; cases hm
  · rw [ht, e] at hc; simp at hc
theorem vv_entry {w : World} {V G B : Nat} {S : Nat → Prop} {l : List PokeV} {n T : Nat} {f : Int → Option Value} (h : VV w V G B S l n T f) {x : Int} {c : Value} (hx : f x = some c) : (n : Int) ≤ x ∧ ∃ g cp, c = .slice (some ⟨g, 0, none⟩) (due l x).length cp := by
  have hn := h.off x (by rw [hx]; rfl)
  obtain ⟨t, rfl⟩ : ∃ t : Nat, x = t := ⟨x.toNat, by omega⟩
  refine ⟨hn, ?_⟩
  rcases h.due t (by omega) with ⟨e, _⟩ | ⟨g, cp, cl, e, _⟩
  · rw [hx] at e; cases e
  · rw [hx] at e; cases e; exact ⟨g, cp, rfl⟩
set_option maxRecDepth 100000 in
theorem vRest (V G B : Nat) (S : Nat → Prop) (l : List PokeV) (n T : Nat) (f : Int → Option Value) (w : World) (h : VV w V G B S l n T f) (hll : l.length ≤ 64) :
    Calls Try.prog 24 #[.pointer (some ⟨V, 0, none⟩)] w fun e w' => e = .returned (.int .i64 (restN l n)) ∧ w.grownBy w' none := by
  have c0 := h.c0; have c1 := h.c1
  have H := hid h
  have HMp := hid h.map
  clear h
  go_enter Try.func24, Try.ntmps24
  go_wp2_with (first
    | (go_at_call 85; refine (vmade_yes _ _ _ c0).mono ?_; rintro e w1 ⟨rfl, rfl⟩)
    | (at_range; refine VM.wpList_range_vmap _ rfl _ 113 rfl 3 160 vint_key Try.underlying113 (.slice none 0 0) G T f rfl HMp.out ?_; intro w0 hrg0 hg0 hs0; have HRg := hid hrg0; have HG := hid hg0; clear hrg0 hg0 hs0))
  go_frame
  clear c0 c1
  go_loopw [3] (fun c wr => ∃ left : Int → Bool, c = .int .i64 (cntL l n left) ∧ VM.VRange Try.prog 3 (.slice none 0 0) wr G w.heap.size T f left ∧ w.grownBy wr none) (fun _ wr => wr.rangeLeft G w.heap.size)
  case atStart => exact ⟨_, by rw [vv_start H.out]; rfl, HRg.out, HG.out⟩
  case round =>
    obtain ⟨left, rfl, hrg, hgw⟩ := hrel
    have HGw := hid hgw
    clear hgw
    go_wp2_with (at_next; refine VM.wpList_next_vmap _ rfl _ rfl 3 vint_key Try.underlying3 (.slice none 0 0) G w.heap.size T f left rfl hrg ?_ ?_)
    · intro hl0
      have HC := hid (cnt_end (l := l) (n := n) hl0)
      clear hl0
      go_wp2
      go_ret
      exact ⟨by rw [← HC.out]; rfl, HGw.out⟩
    · intro x c w1 hwx hlx hfx hrg1 hlt hg1 hs1 hen
      obtain ⟨hnx, g, cp, rfl⟩ := vv_entry H.out hfx
      have HSt := hid (cnt_step (l := l) hlx hnx)
      have HG1 := hid (HGw.out.andThen hg1 (fun j hj => by cases hj; exact .inl (Nat.le_refl _)))
      have HR1 := hid hrg1
      have HLt := hid hlt
      have b1 := cnt_le l n left
      have b2 : (due l x).length ≤ l.length := List.length_filter_le _ _
      clear hlx hfx hrg1 hlt hg1 hs1 hwx hrg
      go_wp2
      go_roundw
      case rel => exact ⟨fun g => left g && decide (g ≠ x), by rw [HSt.out]; go_num, by have h := HR1.out; simpa using h, HG1.out⟩
      case measure => exact HLt.out
end Go.Proofs.Ytibiianmpajabaa

/-
  Package view: contract of New.
-/
set_option linter.unusedSimpArgs false
set_option linter.unusedVariables false
namespace Go.Proofs.Ytibiianmpajabaa
open Go.RowKit
set_option maxHeartbeats 1000000

def nilS : Value := .slice none 0 0
/-- New under way: k rewrites laid -/
structure NV (w wr : World) (B : Nat) (l : List PokeV) (f : Int → Option Value) (k : Nat) (C : Nat → Prop) : Prop where
  top : Row wr (w.heap.size + 1) 115 3 (vtop B w.heap.size 0)
  map : VMapV wr w.heap.size k f
  grown : w.grownBy wr none
  size : w.heap.size + 2 ≤ wr.heap.size
  has : ∀ t : Int, 0 ≤ t → ∃ cls, wr.ownsRow (w.heap.size + 2) 1 1 ((f t).getD nilS) (due l t).length cls ∧ (∀ j (h : j < (due l t).length), ∃ cv, cls[j]? = some cv ∧ Clo wr C B cv (due l t)[j]) ∧ ((f t).isSome = true ↔ 0 < (due l t).length)
  apart : ∀ t t' g, t ≠ t' → ((f t).getD nilS).ownBlock = some g → ((f t').getD nilS).ownBlock ≠ some g
  hC : ∀ k, C k → w.heap.size + 2 ≤ k ∧ k < wr.heap.size
  rows : ∀ t g, ((f t).getD nilS).ownBlock = some g → ¬ C g ∧ g < wr.heap.size
  neg : ∀ t, t < 0 → f t = none
theorem NV.more {w wr W : World} {B : Nat} {l : List PokeV} {f : Int → Option Value} {k : Nat} {C : Nat → Prop} (h : NV w wr B l f k C) (hg : wr.grownBy W none) : NV w W B l f k C :=
  ⟨h.top.grown hg (by simp), h.map.grown hg (by simp), h.grown.trans hg, Nat.le_trans h.size hg.size, fun t ht => by
    obtain ⟨cls, h1, h2, h3⟩ := h.has t ht
    exact ⟨cls, h1.kept hg (none_row' _), fun j hj => by obtain ⟨cv, e, hc⟩ := h2 j hj; exact ⟨cv, e, hc.chg (S' := fun _ => False) (Chg.of0 hg) fun _ _ e => e⟩, h3⟩,
    h.apart, fun k hk => ⟨(h.hC k hk).1, Nat.lt_of_lt_of_le (h.hC k hk).2 hg.size⟩, fun t g e => ⟨(h.rows t g e).1, Nat.lt_of_lt_of_le (h.rows t g e).2 hg.size⟩, h.neg⟩
theorem NV.skip {w wr : World} {B : Nat} {l : List PokeV} {f : Int → Option Value} {k : Nat} {C : Nat → Prop} (h : NV w wr B l f k C) {p : PokeV} (hp : p.t < 0) : NV w wr B (l ++ [p]) f (k + 1) C :=
  ⟨h.top, h.map.mono (by omega), h.grown, h.size, fun t ht => by rw [due_snoc_no (show p.t ≠ t by omega)]; exact h.has t ht, h.apart, h.hC, h.rows, h.neg⟩
/-- one more rewrite: its closure (W0 to W1), the row that holds it (W1 to W3), the map (W3 to W4) -/
theorem NV.step {w W0 W1 W2 W3 W4 : World} {B : Nat} {l : List PokeV} {f : Int → Option Value} {k : Nat} {C : Nat → Prop} (h : NV w W0 B l f k C) {p : PokeV} (hp : 0 ≤ p.t) {cv : Value} {cls : List Value} {g c : Nat}
    (g1 : W0.grownBy W1 none) (hcl : Clo W1 (fun k => W0.heap.size ≤ k ∧ k < W1.heap.size) B cv p) (g2 : W1.grownBy W2 none) (hs2 : W2.heap.size = W1.heap.size + 1)
    (hc : W0.ownsRow (w.heap.size + 2) 1 1 ((f p.t).getD nilS) (due l p.t).length cls) (hcc : ∀ j (h : j < (due l p.t).length), ∃ cv, cls[j]? = some cv ∧ Clo W0 C B cv (due l p.t)[j])
    (h3 : W3.ownsRow (w.heap.size + 2) 1 1 (.slice (some ⟨g, 0, none⟩) ((due l p.t).length + 1) c) ((due l p.t).length + 1) (cls ++ [cv])) (g3 : W2.grownBy W3 ((f p.t).getD nilS).ownBlock) (hat : ((f p.t).getD nilS).ownBlock = some g ∨ g = W2.heap.size)
    (h4 : VMapV W4 w.heap.size (k + 1) (fun i => if i = p.t then some (.slice (some ⟨g, 0, none⟩) ((due l p.t).length + 1) c) else f i)) (g4 : W3.grownBy W4 (some w.heap.size)) :
    NV w W4 B (l ++ [p]) (fun i => if i = p.t then some (.slice (some ⟨g, 0, none⟩) ((due l p.t).length + 1) c) else f i) (k + 1) (fun k => C k ∨ (W0.heap.size ≤ k ∧ k < W1.heap.size)) := by
  have hsz := h.size
  have hold : ∀ q, ((f p.t).getD nilS).ownBlock = some q → w.heap.size + 2 ≤ q ∧ q < W0.heap.size := fun q hq => hc.lt q hq
  have hg3 : g < W3.heap.size := (h3.lt g rfl).2
  have s1 := g1.size; have s3 := g3.size; have s4 := g4.size
  -- what is kept of closures
  have keep : ∀ (S : Nat → Prop) (v : Value) (q : PokeV) (W : World), W.grownBy W2 none → Clo W S B v q → (∀ x, S x → w.heap.size + 2 ≤ x) → (∀ x, S x → ((f p.t).getD nilS).ownBlock ≠ some x) → Clo W4 S B v q := fun S v q W hW hcl hb hr => by
    have a := hcl.chg (S' := fun _ => False) (Chg.of0 hW) fun _ _ e => e
    have b := a.chg (S' := fun x => ((f p.t).getD nilS).ownBlock = some x) (Chg.of g3 fun j e => .inl e) fun x hx e => hr x hx e
    exact b.chg (S' := fun x => x = w.heap.size) (Chg.of g4 fun j e => .inl (Option.some.inj e).symm) fun x hx e => by have := hb x hx; omega
  have hrow : ∀ x, C x → ((f p.t).getD nilS).ownBlock ≠ some x := fun x hx e => (h.rows _ _ e).1 hx
  have hnew : ∀ x, (W0.heap.size ≤ x ∧ x < W1.heap.size) → ((f p.t).getD nilS).ownBlock ≠ some x := fun x hx e => by have := (hold x e).2; omega
  have hG : ∀ q, w.heap.size + 2 ≤ q → some q ≠ some w.heap.size := fun q hq e => by have := Option.some.inj e; omega
  refine ⟨?_, h4, ?_, by omega, fun t ht => ?_, fun t t' q hne e => ?_, fun x hx => ?_, fun t q e => ?_, fun t ht => ?_⟩
  · have a := (h.top.grown g1 (by simp)).grown g2 (by simp)
    have b := a.grown g3 (fun e => by have := (hold _ e.symm).1; omega)
    exact b.grown g4 (by simp)
  · exact (Chg.of (S := fun x => w.heap.size ≤ x) g4 (fun j e => .inl (by cases e; exact Nat.le_refl _))).grown
      ((Chg.of (S := fun x => w.heap.size ≤ x) g3 (fun j e => .inl (by have := (hold j e).1; omega))).grown ((h.grown.trans g1).trans g2) fun _ h => h) fun _ h => h
  · by_cases e : t = p.t
    · subst e
      rw [due_snoc_yes rfl]
      refine ⟨cls ++ [cv], ?_, fun j hj => ?_, ?_⟩
      · simp only [if_pos, Option.getD_some, List.length_append, List.length_cons, List.length_nil]
        exact h3.kept g4 (.inr (by show some g ≠ _; exact hG g (h3.lt g rfl).1))
      · by_cases hl : j < (due l p.t).length
        · obtain ⟨c0, e0, hc0⟩ := hcc j hl
          refine ⟨c0, by rw [List.getElem?_append_left (by have := hc.1; omega)]; exact e0, ?_⟩
          rw [List.getElem_append_left hl]
          exact (keep C _ _ W0 (g1.trans g2) hc0 (fun x hx => (h.hC x hx).1) hrow).mono fun x hx => .inl hx
        · have hj' : j = (due l p.t).length := by simp at hj; omega
          subst hj'
          have hcl' := hc.1
          refine ⟨cv, by rw [List.getElem?_append_right (by omega)]; simp [hcl'], ?_⟩
          rw [List.getElem_append_right (by omega)]
          simp only [Nat.sub_self, List.getElem_cons_zero]
          exact (keep _ _ _ W1 g2 hcl (fun x hx => by omega) hnew).mono fun x hx => .inr hx
      · simp
    · rw [due_snoc_no (fun e' => e e'.symm)]
      obtain ⟨cl, o1, o2, o3⟩ := h.has t ht
      simp only [if_neg e]
      refine ⟨cl, ?_, fun j hj => ?_, o3⟩
      · have a := (o1.kept g1 (none_row' _)).kept g2 (none_row' _)
        have hno : ((f t).getD nilS).ownBlock = none ∨ ((f t).getD nilS).ownBlock ≠ ((f p.t).getD nilS).ownBlock := by
          cases hb : ((f t).getD nilS).ownBlock with
          | none => exact .inl rfl
          | some q => exact .inr fun e' => h.apart t p.t q e hb e'.symm
        have b := a.kept g3 hno
        refine b.kept g4 ?_
        cases hb : ((f t).getD nilS).ownBlock with
        | none => exact .inl rfl
        | some q => exact .inr (hG q (o1.lt q hb).1)
      · obtain ⟨c0, e0, hc0⟩ := o2 j hj
        exact ⟨c0, e0, (keep C _ _ W0 (g1.trans g2) hc0 (fun x hx => (h.hC x hx).1) hrow).mono fun x hx => .inl hx⟩
  · have key : ∀ t, t ≠ p.t → ((f t).getD nilS).ownBlock ≠ some g := fun t ht e => by
      rcases hat with h' | h'
      · exact h.apart t p.t g ht e h'
      · have := (h.rows t g e).2; omega
    by_cases e1 : t = p.t
    · simp only [if_pos e1, Option.getD_some] at e
      have e2 : t' ≠ p.t := fun e2 => hne (e1.trans e2.symm)
      simp only [if_neg e2]
      have : g = q := by simpa [Value.ownBlock] using e
      subst this
      exact key t' e2
    · simp only [if_neg e1] at e
      by_cases e2 : t' = p.t
      · simp only [if_pos e2, Option.getD_some]
        intro e3
        have : g = q := by simpa [Value.ownBlock] using e3
        subst this
        exact key t e1 e
      · simp only [if_neg e2]
        exact h.apart t t' q hne e
  · rcases hx with hx | hx
    · have := h.hC x hx; omega
    · omega
  · by_cases e1 : t = p.t
    · simp only [if_pos e1, Option.getD_some] at e
      have : g = q := by simpa [Value.ownBlock] using e
      subst this
      refine ⟨fun hC => ?_, by omega⟩
      rcases hat with h' | h'
      · rcases hC with hC | hC
        · exact (h.rows _ _ h').1 hC
        · have := (hold _ h').2; omega
      · rcases hC with hC | hC
        · have := (h.hC _ hC).2; omega
        · omega
    · simp only [if_neg e1] at e
      obtain ⟨r1, r2⟩ := h.rows t q e
      refine ⟨fun hC => ?_, by omega⟩
      rcases hC with hC | hC
      · exact r1 hC
      · omega
  · show (if t = p.t then _ else f t) = none
    rw [if_neg (by omega)]
    exact h.neg t ht
/-- what New leaves -/
theorem NV.done {w wr : World} {B : Nat} {l : List PokeV} {f : Int → Option Value} {k : Nat} {C : Nat → Prop} (h : NV w wr B l f k C) (hB : B < w.heap.size) : VV wr (w.heap.size + 1) w.heap.size B (fun k => w.heap.size + 2 ≤ k ∧ k < wr.heap.size) l 0 k f := by
  refine ⟨h.top, h.map, by omega, by omega, by omega, by omega, by omega, fun k hk => hk.2, fun t _ => ?_, fun g hg => ?_⟩
  · obtain ⟨cls, h1, h2, h3⟩ := h.has t (by omega)
    cases hf : f t with
    | none =>
      have : ¬ 0 < (due l t).length := fun hp => by rw [hf] at h3; simpa using h3.2 hp
      exact .inl ⟨rfl, List.eq_nil_of_length_eq_zero (by omega)⟩
    | some v =>
      rw [hf] at h1 h3
      have hp := h3.1 rfl
      obtain ⟨n, hn⟩ : ∃ n, (due l t).length = n + 1 := ⟨(due l t).length - 1, by omega⟩
      have h1' := h1
      rw [hn] at h1'
      obtain ⟨g, c, e, hb, hr⟩ := ownsRow_row h1'
      simp only [Option.getD_some] at e
      refine .inr ⟨g, c, fun j => cls.getD j undef, by rw [e, hn], ⟨hb, hr.lt⟩, by rw [hn]; simpa using hr, fun j hj => ?_⟩
      obtain ⟨cv, e0, hc⟩ := h2 j hj
      have : cls.getD j undef = cv := by simp [List.getD, e0]
      show Clo wr _ B (cls.getD j undef) _
      rw [this]
      exact hc.mono fun x hx => h.hC x hx
  · have : ¬ g < 0 := fun hneg => by rw [h.neg g hneg] at hg; cases hg
    omega
end Go.Proofs.Ytibiianmpajabaa

/-
  Package view: contract of New, walked.
-/
set_option linter.unusedSimpArgs false
set_option linter.unusedVariables false
namespace Go.Proofs.Ytibiianmpajabaa
open Go.RowKit
set_option maxHeartbeats 2000000

/-- rewrites that came in -/
def PokesIn (w : World) (pa : Option Addr) (l : List PokeV) : Prop := ∀ j (h : j < l.length), ∃ b off qa cap, pa = some ⟨b, off, none⟩ ∧ b < w.heap.size ∧
  w.cell? ⟨b, off + j * 4, none⟩ = some (.int .i64 l[j].t) ∧ w.cell? ⟨b, off + j * 4 + 1, none⟩ = some (.int .i64 l[j].i) ∧ w.cell? ⟨b, off + j * 4 + 2, none⟩ = some (.int .i64 l[j].off) ∧ w.cell? ⟨b, off + j * 4 + 3, none⟩ = some (.slice qa l[j].l.length cap) ∧
  l[j].fits ∧ InBytes w qa l[j].l
theorem PokesIn.grown {w w' : World} {pa : Option Addr} {l : List PokeV} (h : PokesIn w pa l) (hg : w.grownBy w' none) : PokesIn w' pa l := fun j hj => by
  obtain ⟨b, off, qa, cap, e, hb, d0, d1, d2, d3, hf, hi⟩ := h j hj
  refine ⟨b, off, qa, cap, e, Nat.lt_of_lt_of_le hb hg.size, hg.cell d0 (by simp), hg.cell d1 (by simp), hg.cell d2 (by simp), hg.cell d3 (by simp), hf, ?_⟩
  rcases hi with h | ⟨b, o, e, hb, hc⟩
  · exact .inl h
  · exact .inr ⟨b, o, e, Nat.lt_of_lt_of_le hb hg.size, fun k hk => hg.cell (hc k hk) (by simp)⟩
theorem info_fn : (Try.prog.info? 1).map (fun i => (i.zero, i.size, i.bytes)) = some (some .nilFunc, 1, 8) := by kernel_rfl
theorem vNew_long (B : Nat) (pa : Option Addr) (n cap : Nat) (w : World) (M : Mach) (hM : PM w B M) (hn1 : 1 ≤ M.n) (hl : 64 < n) :
    Calls Try.prog 20 #[.pointer (some ⟨B, 0, none⟩), .slice pa n cap] w fun e w' => e = .returned (.tuple #[.pointer none, .int .i64 2]) ∧ w = w' := by
  have hz : (M.n == 0) = false := by simp; omega
  have hl' : (64 : Int) < n := by omega
  have HS := hid (Size_yes B M.n w hn1 hM.size)
  clear hM
  go_enter Try.func20, Try.ntmps20
  go_wp2_with (go_at_call 49; refine HS.out.mono ?_; rintro e w' ⟨rfl, rfl⟩)
  go_ret2
  exact ⟨rfl, rfl⟩
set_option maxRecDepth 100000 in
theorem vNew (B : Nat) (pa : Option Addr) (cap : Nat) (l : List PokeV) (w : World) (M : Mach) (hM : PM w B M) (hn1 : 1 ≤ M.n) (hl : l.length ≤ 64) (hp : PokesIn w pa l) :
    Calls Try.prog 20 #[.pointer (some ⟨B, 0, none⟩), .slice pa l.length cap] w fun e w' => e = .returned (.tuple #[.pointer (some ⟨w.heap.size + 1, 0, none⟩), .int .i64 0]) ∧
      (∃ f, VV w' (w.heap.size + 1) w.heap.size B (fun k => w.heap.size + 2 ≤ k ∧ k < w'.heap.size) l 0 l.length f) ∧ w.grownBy w' none := by
  obtain ⟨i0, hi, hz0, hz1, hz2⟩ := info_parts info_fn
  have Hi := hid hi; have Hz0 := hid hz0; have Hz1 := hid hz1; have Hz2 := hid hz2
  clear hi hz0 hz1 hz2
  have hz : (M.n == 0) = false := by simp; omega
  have hl' : (l.length : Int) ≤ 64 := by omega
  have HS := hid (Size_yes B M.n w hn1 hM.size)
  have HM := hid hM
  have HP := hid hp
  have hmm := @run_makeMap Try.prog
  obtain ⟨W0, hW0, hNV⟩ : ∃ W0, (w.alloc (.map #[] 0)).alloc (.cells #[.pointer (some ⟨B, 0, none⟩), .map (some w.heap.size), .int .i64 0] 115) = W0 ∧ NV w W0 B [] (fun _ => none) 0 (fun _ => False) := by
    have hg := (World.grownBy_alloc w (.map #[] 0) none).trans (World.grownBy_alloc (w.alloc (.map #[] 0)) (.cells #[.pointer (some ⟨B, 0, none⟩), .map (some w.heap.size), .int .i64 0] 115) none)
    have hs : (w.alloc (.map #[] 0)).heap.size = w.heap.size + 1 := by simp
    refine ⟨_, rfl, ⟨?_, (VM.VMap.made w _ _ _).alloc _, hg, by simp, fun t _ => ⟨[], World.ownsRow_nil _ _ _ _, fun j hj => by simp [due] at hj, by simp [due]⟩, fun t t' g _ e => by simp [nilS, Value.ownBlock] at e, fun k hk => hk.elim, fun t g e => by simp [nilS, Value.ownBlock] at e, fun _ _ => rfl⟩⟩
    rw [← hs]
    exact ⟨_, heap_alloc_new _ _, by simp, fun k hk => by match k, hk with | 0, _ => rfl | 1, _ => rfl | 2, _ => rfl⟩
  have HNV := hid hNV
  clear hM hp hNV
  go_enter Try.func20, Try.ntmps20
  go_wp2_with (go_at_call 49; refine HS.out.mono ?_; rintro e w' ⟨rfl, rfl⟩)
  clear hW0
  go_loopw [21] (fun x wr => ∃ (k : Nat) (f : Int → Option Value) (C : Nat → Prop), x = .int .i64 k ∧ k ≤ l.length ∧ NV w wr B (l.take k) f k C) (fun x _ => l.length - (intOf x).toNat)
  case atStart => exact ⟨0, _, _, rfl, by omega, HNV.out⟩
  case round =>
    obtain ⟨k, f, C, rfl, hk, hnv⟩ := hrel
    have HN := hid hnv
    clear hnv HNV
    have hk0 : (0 : Int) ≤ k := by omega
    by_cases hkl : k < l.length
    · have hkl' : (k : Int) < l.length := by omega
      obtain ⟨b, off, qa, qc, rfl, hb, d0, d1, d2, d3, hf, hin⟩ := (HP.out.grown HN.out.grown) k hkl
      have HTk := hid (show l.take (k + 1) = l.take k ++ [l[k]] by rw [List.take_succ_eq_append_getElem hkl])
      generalize l[k] = p at *
      have HF := hid hf
      have HIn := hid hin
      clear hf hin
      by_cases hneg : p.t < 0
      · have hneg' : ¬ 0 ≤ p.t := by omega
        go_wp2
        go_roundw
        case rel => exact ⟨k + 1, f, C, by go_num, by omega, by rw [HTk.out]; exact (HN.out.skip hneg).more (World.grownBy_alloc _ _ none)⟩
        case measure => simp [intOf]; omega
      · have hpos : 0 ≤ p.t := by omega
        go_upto_region 10 with (fail)
        obtain ⟨X, hX⟩ : ∃ X, wr.alloc (.cells #[.int .i64 p.t, .int .i64 p.i, .int .i64 p.off, .slice qa p.l.length qc] 159) = X := ⟨_, rfl⟩
        have gX : wr.grownBy X.drew none := (hX ▸ World.grownBy_alloc wr _ none : wr.grownBy X none).trans (grownBy_drew X none)
        have q0 : X.drew.cell? ⟨wr.heap.size, 0, none⟩ = some (.int .i64 p.t) := by rw [← hX]; simp [go_sem]
        have q1 : X.drew.cell? ⟨wr.heap.size, 1, none⟩ = some (.int .i64 p.i) := by rw [← hX]; simp [go_sem]
        have q2 : X.drew.cell? ⟨wr.heap.size, 2, none⟩ = some (.int .i64 p.off) := by rw [← hX]; simp [go_sem]
        have q3 : X.drew.cell? ⟨wr.heap.size, 3, none⟩ = some (.slice qa p.l.length qc) := by rw [← hX]; simp [go_sem]
        rw [hX]
        clear hX d0 d1 d2 d3
        have hXN := HN.out.more gX
        have q4 : X.drew.cell? ⟨w.heap.size + 1, 1, none⟩ = some (.map (some w.heap.size)) := hXN.top.cell (k := 1) (by omega)
        obtain ⟨cls, hown, hcc, _⟩ := hXN.has p.t hpos
        have hnb : ∀ q, ((f p.t).getD nilS).ownBlock = some q → w.heap.size + 2 ≤ q := fun q hq => (hown.lt q hq).1
        have hk0' := hXN.map.look X.drew vint_key Try.underlying3 Try.underlying113 (vzero _) HF.out.1
        have HXN := hid hXN
        have HOwn := hid hown
        have HCc := hid hcc
        have HIn1 := hid (show InBytes X.drew qa p.l from by
          rcases HIn.out with h | ⟨b, o, e, hlt, hc⟩
          · exact .inl h
          · exact .inr ⟨b, o, e, Nat.lt_of_lt_of_le hlt gX.size, fun k hk => gX.cell (hc k hk) (by simp)⟩)
        have HNb := hid (show some w.heap.size ≠ ((f p.t).getD nilS).ownBlock from fun e => by have := hnb _ e.symm; omega)
        have HNw := hid (show some (w.heap.size + 1) ≠ ((f p.t).getD nilS).ownBlock from fun e => by have := hnb _ e.symm; omega)
        have HNr := hid (show some wr.heap.size ≠ ((f p.t).getD nilS).ownBlock from fun e => (by have := (HN.out.rows _ _ e.symm).2; omega))
        have hdl : (due (l.take k) p.t).length ≤ 64 := Nat.le_trans (List.length_filter_le _ _) (by simp; omega)
        have hkm : k < maxLen := by unfold maxLen; omega
        clear hXN hown hcc hnb
        generalize hv0 : (f p.t).getD nilS = v0 at *
        have hk0 : (Instr.lookup 113 (.map (some w.heap.size)) (.int .i64 p.t) false).run Try.prog X.drew = .ok v0 X.drew := hv0 ▸ hk0'
        have HV0 := hid hv0
        have HVz := hid (show (f p.t).getD (.slice none 0 0) = v0 from hv0)
        clear hk0' hv0
        go_region_held3 (fun w' => w'.cell? ⟨w.heap.size + 1, 1, none⟩ = some (.map (some w.heap.size)) ∧ w'.cell? ⟨wr.heap.size, 0, none⟩ = some (.int .i64 p.t) ∧ w'.cell? ⟨wr.heap.size, 1, none⟩ = some (.int .i64 p.i) ∧ w'.cell? ⟨wr.heap.size, 2, none⟩ = some (.int .i64 p.off) ∧ w'.cell? ⟨wr.heap.size, 3, none⟩ = some (.slice qa p.l.length qc)) (first | exact ⟨by assumption, by assumption, by assumption, by assumption, by assumption⟩ | go_keep)
          (first
            | ((with_reducible refine (vRewrite B p qa qc _ HF.out HIn1.out).mono ?_); rintro e W1 ⟨cv, rfl, hclo, g1⟩; have hclo2 := hclo; obtain ⟨mi, pi, bi, qq, cq, ecv, -⟩ := hclo2; subst ecv; have HClo := hid hclo; have G1 := hid g1; have W2s := hid (show (W1.alloc (.cells #[.func (.func 131) #[] #[.pointer (some ⟨mi, 0, none⟩), .pointer (some ⟨pi, 0, none⟩), .pointer (some ⟨bi, 0, none⟩)]] 1)).heap.size = W1.heap.size + 1 by simp); have G2 := hid (World.grownBy_alloc W1 (.cells #[.func (.func 131) #[] #[.pointer (some ⟨mi, 0, none⟩), .pointer (some ⟨pi, 0, none⟩), .pointer (some ⟨bi, 0, none⟩)]] 1) none); have r4 := g1.cell q4 (by simp); have r0 := g1.cell q0 (by simp); have r1 := g1.cell q1 (by simp); have r2 := g1.cell q2 (by simp); have r3 := g1.cell q3 (by simp); have HO2 := hid ((HOwn.out.kept g1 (none_row' _)).kept G2.out (none_row' _)); have HM2 := hid ((HXN.out.map.grown g1 (by simp)).grown G2.out (by simp)); have hk1 := (HXN.out.map.grown g1 (by simp)).look W1 vint_key Try.underlying3 Try.underlying113 (vzero _) HF.out.1; rw [HVz.out] at hk1; have hk2 := HM2.out.look _ vint_key Try.underlying3 Try.underlying113 (vzero _) HF.out.1; rw [HVz.out] at hk2; have HB2 := hid (show w.heap.size + 2 ≤ W1.heap.size from Nat.le_trans HXN.out.size g1.size); have HNv := hid (show ∀ j u, [Value.func (.func 131) #[] #[.pointer (some ⟨mi, 0, none⟩), .pointer (some ⟨pi, 0, none⟩), .pointer (some ⟨bi, 0, none⟩)]][j]? = some u → (W1.alloc (.cells #[.func (.func 131) #[] #[.pointer (some ⟨mi, 0, none⟩), .pointer (some ⟨pi, 0, none⟩), .pointer (some ⟨bi, 0, none⟩)]] 1)).cell? ((⟨W1.heap.size, 0, none⟩ : Addr).add j) = some u from World.news_of_block (heap_alloc_new W1 _)); clear hclo g1)
            | (refine step_append_lies _ (by rfl) _ _ 160 (by rfl) (w.heap.size + 2) 1 i0 .nilFunc 1 8 Try.underlying160 Hi.out Hz0.out Hz1.out Hz2.out rfl (by decide) v0 (due (l.take k) p.t).length cls (by rfl) HO2.out ⟨W1.heap.size, 0, none⟩ 1 1 [.func (.func 131) #[] #[.pointer (some ⟨mi, 0, none⟩), .pointer (some ⟨pi, 0, none⟩), .pointer (some ⟨bi, 0, none⟩)]] (by rfl) (by rfl) HNv.out (by simp [Value.oneCell']) (by omega) (by unfold maxLen; omega) (by omega) (by rw [W2s.out]; have := HB2.out; omega) (W1.heap.size + 1) W2s.out ?_; intro g c w3 hown3 hgrow hat hlt; obtain ⟨w4, hrun, h4, g4⟩ := VM.VMap.store w3 (HM2.out.grown hgrow HNb.out) vint_key Try.underlying3 Try.underlying113 hkm HF.out.1 (.slice (some ⟨g, 0, none⟩) ((due (l.take k) p.t).length + 1) c); have t4 := hgrow.cell (G2.out.cell r4 (by simp)) HNw.out; have t0 := hgrow.cell (G2.out.cell r0 (by simp)) HNr.out; have t1 := hgrow.cell (G2.out.cell r1 (by simp)) HNr.out; have t2 := hgrow.cell (G2.out.cell r2 (by simp)) HNr.out; have t3 := hgrow.cell (G2.out.cell r3 (by simp)) HNr.out; have HWr := hid (show wr.heap.size ≠ w.heap.size by have := HN.out.size; omega); have u4 := g4.cell t4 (by simp); have u0 := g4.cell t0 (by simp; exact HWr.out); have u1 := g4.cell t1 (by simp; exact HWr.out); have u2 := g4.cell t2 (by simp; exact HWr.out); have u3 := g4.cell t3 (by simp; exact HWr.out); have H3 := hid hown3; have G3 := hid hgrow; have HAt := hid hat; have H4 := hid h4; have G4 := hid g4; clear hown3 hgrow hat hlt h4 g4))
        all_goals
          have HSt := hid (HXN.out.step hpos G1.out HClo.out G2.out W2s.out (by rw [HV0.out]; exact HOwn.out) HCc.out H3.out (by rw [HV0.out]; exact G3.out) (by rw [HV0.out, W2s.out]; exact HAt.out) H4.out G4.out)
          clear r0 r1 r2 r3 r4 t0 t1 t2 t3 t4 u0 u1 u2 u3 u4 q0 q1 q2 q3 q4 hk0 hk1 hk2 hrun
          go_wp2
          go_roundw
          case rel => exact ⟨k + 1, _, _, by go_num, by omega, by rw [HTk.out]; exact HSt.out⟩
          case measure => simp [intOf]; omega
    · obtain rfl : k = l.length := by omega
      have hge : (l.length : Int) ≤ l.length := by omega
      go_wp2
      go_ret2
      have := HN.out
      rw [List.take_length] at this
      exact ⟨rfl, ⟨f, this.done HM.out.lt⟩, this.grown⟩
end Go.Proofs.Ytibiianmpajabaa

/-
  Both machines side by side.
-/
set_option linter.unusedSimpArgs false
set_option linter.unusedVariables false
namespace Go.Proofs.Ytibiianmpajabaa
open Go.RowKit
set_option maxHeartbeats 2000000

theorem Mach.alloc_vn (M : Mach) (o : Int) : (M.alloc o).2.2.n = M.n := by unfold Mach.alloc; (repeat' split) <;> rfl
theorem Mach.give_vn (M : Mach) (i t : Int) : (M.give i t).2.n = M.n := by unfold Mach.give; (repeat' split) <;> rfl
theorem Mach.get_vn (M : Mach) (i o k : Int) : (M.get i o k).2.n = M.n := by unfold Mach.get Mach.take; (repeat' split) <;> rfl
theorem upTo_ok' (n : Nat) (h1 : 1 ≤ n) (h2 : n ≤ 256) : (upTo n n).ok 0 := ⟨by show (1 : Int) ≤ n; omega, by show (n : Int) ≤ 256; omega, fun i hi => by
  have h : i < n := by simp only [upTo] at hi; omega
  show ((if i < n then blankFr else zeroFr).ok ∧ (if i < n then blankFr else zeroFr).tot ≤ 0)
  rw [if_pos h]; exact ⟨blankFr_ok, by decide⟩⟩
/-- both machines, made behind w -/
structure Bg (w W : World) (B b : Nat) (M : Mach) (L : Lay) (T : Int) : Prop where
  m : PM W B M
  r : RM W b M L
  ok : M.ok T
  farB : w.heap.size ≤ B
  far : ∀ k, L.foot b k → w.heap.size ≤ k
  grown : w.grownBy W none
theorem Bg.more {w W W' : World} {B b : Nat} {M : Mach} {L : Lay} {T : Int} (h : Bg w W B b M L T) (hg : W.grownBy W' none) : Bg w W' B b M L T := ⟨h.m.grown hg (by simp), h.r.grown hg, h.ok, h.farB, h.far, h.grown.trans hg⟩
theorem grown_own {w W W' : World} {B : Nat} (h : w.grownBy W none) (g : W.grownBy W' (some B)) (hB : w.heap.size ≤ B) : w.grownBy W' none :=
  (Chg.of (S := fun k => w.heap.size ≤ k) g fun j e => .inl (by cases e; exact hB)).grown h fun _ h => h
theorem Bg.step {w W w1 w2 : World} {B b : Nat} {M M' : Mach} {L L' : Lay} {T T' : Int} (h : Bg w W B b M L T) (h1 : PM w1 B M') (g1 : W.grownBy w1 (some B)) (h2 : RM w2 b M' L') (c2 : Chg (L.foot b) w1 w2) (f2 : ∀ k, L'.foot b k → L.foot b k ∨ w1.heap.size ≤ k) (hok : M'.ok T') : Bg w w2 B b M' L' T' :=
  ⟨h1.chg c2 (h.r.off h.m), h2, hok, h.farB, fun k hk => (f2 k hk).elim (h.far k) (fun h' => Nat.le_trans (Nat.le_trans h.grown.size g1.size) h'), c2.grown (grown_own h.grown g1 h.farB) h.far⟩
theorem Bg.r1 {w W w1 : World} {B b : Nat} {M : Mach} {L : Lay} {T : Int} (h : Bg w W B b M L T) (g1 : W.grownBy w1 (some B)) : RM w1 b M L := h.r.keep h.m g1
theorem InBytes.grown {w w' : World} {pa : Option Addr} {l : List UInt8} (h : InBytes w pa l) (hg : w.grownBy w' none) : InBytes w' pa l := by
  rcases h with h | ⟨b, o, e, hb, hc⟩
  · exact .inl h
  · exact .inr ⟨b, o, e, Nat.lt_of_lt_of_le hb hg.size, fun k hk => hg.cell (hc k hk) (by simp)⟩
/-- bytes that came in, apart from what was made later -/
theorem InBytes.apart {w W : World} {pa : Option Addr} {l : List UInt8} (h : InBytes w pa l) (hg : w.grownBy W none) {L : Lay} {b : Nat} (far : ∀ k, L.foot b k → w.heap.size ≤ k) : Apart W L b pa l := fun k hk => by
  rcases h with h | ⟨sb, so, e, hb, hc⟩
  · rw [h] at hk; simp at hk
  · exact ⟨sb, so, e, fun h' => by have := far _ h'; omega, hg.cell (hc k hk) (by simp)⟩
/-- bytes that came in, as bytes apart from a block -/
theorem InBytes.is' {w : World} {pa : Option Addr} {l : List UInt8} (h : InBytes w pa l) (B : Nat) (hB : ∀ b o, pa = some ⟨b, o, none⟩ → l ≠ [] → b ≠ B) (cap : Nat) : IsBytes w B (.slice pa l.length cap) l := by
  by_cases h0 : l = []
  · subst h0; exact .inl ⟨⟨_, _, rfl⟩, rfl⟩
  rcases h with h | ⟨b, o, e, hb, hc⟩
  · exact absurd h h0
  · subst e
    refine .inr ⟨_, _, rfl, hB b o rfl h0, fun k x hx => ?_⟩
    obtain ⟨hk, rfl⟩ := List.getElem?_eq_some_iff.1 hx
    have e : (⟨b, o, none⟩ : Addr).add k = ⟨b, o + k, none⟩ := by unfold Addr.add; split <;> simp_all
    rw [e, hc k hk]
    simp [List.getD, List.getElem?_eq_getElem hk]
theorem InBytes.far {w W : World} {pa : Option Addr} {l : List UInt8} (h : InBytes w pa l) (hg : w.grownBy W none) {B : Nat} (hB : w.heap.size ≤ B) (cap : Nat) : IsBytes W B (.slice pa l.length cap) l := by
  refine (h.grown hg).is' B (fun b o e h0 => ?_) cap
  rcases h with h | ⟨b', o', e', hb, _⟩
  · exact absurd h h0
  · rw [e'] at e; cases e; omega
end Go.Proofs.Ytibiianmpajabaa

/-
  Package tenementlaw02: begin.
-/
set_option linter.unusedSimpArgs false
set_option linter.unusedVariables false
namespace Go.Proofs.Ytibiianmpajabaa
open Go.RowKit
set_option maxHeartbeats 2000000

/-- what a frame begins with -/
structure StartV where
  owner : Int
  kind : Int
  l : List UInt8
instance : Inhabited StartV := ⟨⟨0, 0, []⟩⟩
def Mach.start (M : Mach) (i : Int) (s : StartV) : Mach := ((((M.alloc (-2)).2.2.give i s.owner).2.get i s.owner s.kind).2.write i 0 s.l).2
/-- the machine that begin makes, behind k rounds -/
def beginK (ss : List StartV) (n : Nat) : Nat → Mach
  | 0 => upTo ((n + 1 : Nat) : Int) (n + 1)
  | k + 1 => (beginK ss n k).start k (ss.getD k default)
theorem Mach.start_ok {M : Mach} {T : Int} (h : M.ok T) (i : Int) (s : StartV) : (M.start i s).ok (T + 1) :=
  Mach.write_ok (Mach.get_ok (Mach.give_ok (Mach.alloc_ok h _) _ _) _ _ _) _ _ _
theorem Mach.start_n (M : Mach) (i : Int) (s : StartV) : (M.start i s).n = M.n := by
  unfold Mach.start; rw [Mach.vwrite_n, Mach.get_vn, Mach.give_vn, Mach.alloc_vn]
theorem beginK_ok (ss : List StartV) (n : Nat) (hn : n ≤ 8) (k : Nat) : (beginK ss n k).ok k := by
  induction k with
  | zero => exact upTo_ok' (n + 1) (by omega) (by omega)
  | succ k ih => have := Mach.start_ok ih k (ss.getD k default); simpa [beginK] using this
theorem beginK_n (ss : List StartV) (n k : Nat) : (beginK ss n k).n = ((n + 1 : Nat) : Int) := by
  induction k with
  | zero => rfl
  | succ k ih => exact (Mach.start_n _ _ _).trans ih

/-- starts that came in -/
def StartsIn (w : World) (pa : Option Addr) (ss : List StartV) : Prop := ∀ j (h : j < ss.length), ∃ sb off qa cap, pa = some ⟨sb, off, none⟩ ∧ sb < w.heap.size ∧
  w.cell? ⟨sb, off + j * 3, none⟩ = some (.int .i64 ss[j].owner) ∧ w.cell? ⟨sb, off + j * 3 + 1, none⟩ = some (.int .i64 ss[j].kind) ∧ w.cell? ⟨sb, off + j * 3 + 2, none⟩ = some (.slice qa ss[j].l.length cap) ∧ InBytes w qa ss[j].l ∧ ss[j].l.length ≤ 140737488351232
theorem StartsIn.grown {w w' : World} {pa : Option Addr} {ss : List StartV} (h : StartsIn w pa ss) (hg : w.grownBy w' none) : StartsIn w' pa ss := fun j hj => by
  obtain ⟨sb, off, qa, cap, e, hb, d0, d1, d2, hi, hl⟩ := h j hj
  exact ⟨sb, off, qa, cap, e, Nat.lt_of_lt_of_le hb hg.size, hg.cell d0 (by simp), hg.cell d1 (by simp), hg.cell d2 (by simp), hi.grown hg, hl⟩
set_option maxRecDepth 100000 in
theorem vBegin (pa : Option Addr) (cap : Nat) (ss : List StartV) (n : Nat) (w : World) (hin : StartsIn w pa ss) (hn : n = min ss.length 8) (hss : ss.length ≤ 9223372036854775807) :
    Calls Try.prog 19 #[.slice pa ss.length cap] w fun e w' => ∃ B b L, e = .returned (.tuple #[.pointer (some ⟨B, 0, none⟩), .pointer (some ⟨b, 0, none⟩), .bool true]) ∧ Bg w w' B b (beginK ss n n) L n := by
  have hn8 : n ≤ 8 := by omega
  have hns : n ≤ ss.length := by omega
  have HIn := hid hin
  have en : ((n + 1 : Nat) : Int) = (n : Int) + 1 := by omega
  have HN1 := hid (fun w => en ▸ New_yes (n + 1) w (by omega) (by omega) : ∀ w : World, Calls Try.prog 11 #[.int .i64 ((n : Int) + 1)] w fun e w' => ∃ v, e = .returned (.tuple #[v, .int .i64 0]) ∧ NewMach w (upTo ((n + 1 : Nat) : Int) (n + 1)) v w')
  have HN2 := hid (fun w => en ▸ rNew_yes (n + 1) w (by omega) (by omega) : ∀ w : World, Calls Try.prog 12 #[.int .i64 ((n : Int) + 1)] w fun e w' => ∃ v, e = .returned (.tuple #[v, .int .i64 0]) ∧ NewRef w (upTo ((n + 1 : Nat) : Int) (n + 1)) v w')
  have hmin : (if 8 < (ss.length : Int) then (8 : Int) else (ss.length : Int)) = (n : Int) := by split <;> omega
  have hn0 : (0 : Int) ≤ n := by omega
  have hn8' : (n : Int) ≤ 8 := by omega
  have HNs := hid hns
  have HSs := hid hss
  clear hin en hn hss hns
  go_enter Try.func19, Try.ntmps19
  go_wp2_with (first
    | (go_at_call 11; refine (HN1.out _).mono ?_; rintro e w1 ⟨v, rfl, B, rfl, hB, hM1, hg1⟩; have HB := hid hB; have HM1 := hid hM1; have HG1 := hid hg1; clear hM1 hg1 hB)
    | (go_at_call 12; refine (HN2.out _).mono ?_; rintro e w2 ⟨v, rfl, b, L, rfl, hr, hg2, hf⟩; have HO := hid (Bg.mk (w := w) (HM1.out.grown hg2 (by simp)) hr (beginK_ok ss n hn8 0) HB.out (fun k hk => Nat.le_trans HG1.out.size (hf k hk)) (HG1.out.trans hg2)); clear hr hg2 hf))
  clear hmin
  go_loopw [10] (fun i wr => ∃ (k : Nat) (L : Lay), i = .int .i64 k ∧ k ≤ n ∧ Bg w wr B b (beginK ss n k) L k) (fun i _ => n - (intOf i).toNat)
  case atStart => exact ⟨0, L, rfl, by omega, HO.out⟩
  case round =>
    clear HO HM1 HG1 HB
    obtain ⟨k, L, rfl, hk, hbg⟩ := hrel
    have HO := hid hbg
    clear hbg
    have hk0 : (0 : Int) ≤ k := by omega
    by_cases hkn : k < n
    · have hkn' : (k : Int) < n := by omega
      have hks : k < ss.length := Nat.lt_of_lt_of_le hkn HNs.out
      have hks' : (k : Int) < ss.length := by omega
      obtain ⟨sb, off, qa, qc, rfl, hsb, d0, d1, d2, hby, hbl⟩ := HIn.out k hks
      have HBk := hid (show beginK ss n (k + 1) = (beginK ss n k).start k ss[k] by show (beginK ss n k).start k (ss.getD k default) = _; simp [List.getD, List.getElem?_eq_getElem hks])
      have hn2 := HO.out.ok.n2
      have HOk := hid HO.out.ok
      obtain ⟨M, hM⟩ : ∃ M, beginK ss n k = M := ⟨_, rfl⟩
      rw [hM] at HO HBk HOk hn2
      clear hM
      generalize ss[k] = s at *
      have HBy := hid hby
      have HBl := hid hbl
      have hBs : sb ≠ B := by have := HO.out.farB; omega
      have D0 := hid d0; have D1 := hid d1; have D2 := hid d2
      have HT := hid (show (k : Int) < 9223372036854775807 by omega)
      clear hby hbl d0 d1 d2
      have HOk1 := hid (Mach.alloc_ok HOk.out (-2))
      have HOk2 := hid (Mach.give_ok HOk1.out k s.owner)
      have HOk3 := hid (Mach.get_ok HOk2.out k s.owner s.kind)
      have HOk4 := hid (Mach.write_ok HOk3.out k 0 s.l)
      go_upto_region 13 with (first
        | (go_at_call 16; refine (Alloc_any B (-2) _ M k HO.out.m HOk.out).mono ?_; rintro e w3 ⟨rfl, h3, g3⟩; have HM3 := hid h3; have HG3 := hid g3; have HR3 := hid (HO.out.r1 g3); clear h3 g3)
        | (go_at_call 65; refine (rAlloc b (-2) _ M L HR3.out hn2).mono ?_; rintro e w4 ⟨rfl, L4, h4, hn4, c4, f4⟩; have HO4 := hid (HO.out.step HM3.out HG3.out h4 c4 f4 HOk1.out); have e0 := HO4.out.grown.cell D0.out (by simp); clear h4 hn4 c4 f4)
        | (go_at_call 67; refine (Give_any B k s.owner _ _ k HO4.out.m HOk1.out).mono ?_; rintro e w5 ⟨rfl, h5, g5⟩; have HM5 := hid h5; have HG5 := hid g5; have HR5 := hid (HO4.out.r1 g5); have e1 := g5.cell (a := ⟨sb, off + k * 3, none⟩) e0 (by simp; exact hBs); clear h5 g5)
        | (go_at_call 68; refine (rGive b k s.owner _ _ L4 HR5.out).mono ?_; rintro e w6 ⟨rfl, L6, h6, hn6, c6, f6⟩; have HO6 := hid (HO4.out.step HM5.out HG5.out h6 c6 f6 HOk2.out); have HO6d := hid (HO6.out.more (grownBy_drew _ none)); have e2 := HO6.out.grown.cell D0.out (by simp); have e3 := HO6.out.grown.cell D1.out (by simp); clear h6 hn6 c6 f6))
      have q5 : ((k : Int)).toNat = k := by omega
      go_still_tail 12, (by kernel_rfl)
      change wpList _ _ _ _ _ w6.drew
      go_upto_region 14 with (go_at_call 69; refine (Get_any B k s.owner s.kind _ _ k HO6d.out.m HOk2.out HT.out).mono ?_; rintro e w7 ⟨rfl, h7, g7⟩; have HM7 := hid ((PM.grown h7 (grownBy_drew w7 none) (by simp))); have HG7 := hid (g7.trans (grownBy_drew w7 (some B))); have HR7 := hid ((HO6d.out.r1 g7).grown (grownBy_drew w7 none)); have e4 := g7.cell (a := ⟨sb, off + k * 3, none⟩) (v := .int .i64 s.owner) (HO6d.out.grown.cell D0.out (by simp)) (by simp; exact hBs); have e5 := g7.cell (a := ⟨sb, off + k * 3 + 1, none⟩) (v := .int .i64 s.kind) (HO6d.out.grown.cell D1.out (by simp)) (by simp; exact hBs); clear h7 g7)
      go_still_tail 12, (by kernel_rfl)
      change wpList _ _ _ _ _ w7.drew
      clear q5
      go_wp2_with (first
        | (go_at_call 70; refine (rGet b k s.owner s.kind _ _ L6 k HR7.out HOk2.out HT.out).mono ?_; rintro e w8 ⟨rfl, L8, h8, hn8', c8, f8⟩; have HO8 := hid (HO6d.out.step HM7.out HG7.out h8 c8 f8 HOk3.out); have e6 := HO8.out.grown.cell D2.out (by simp); clear h8 hn8' c8 f8)
        | (go_at_call 15; refine (Write_any B k 0 _ s.l _ _ (k + 1) HO8.out.m HOk3.out (by omega) (HBy.out.far HO8.out.grown HO8.out.farB _) (by have := HBl.out; omega)).mono ?_; rintro e w9 ⟨rfl, h9, g9⟩; have HM9 := hid h9; have HG9 := hid g9; have HR9 := hid (HO8.out.r1 g9); have e7 := g9.cell (a := ⟨sb, off + k * 3 + 2, none⟩) e6 (by simp; exact hBs); clear h9 g9)
        | (go_at_call 74; refine (rWrite b k 0 qa qc s.l _ _ L8 HR9.out (by have := HBl.out; omega) (HBy.out.apart (grown_own HO8.out.grown HG9.out HO8.out.farB) HO8.out.far)).mono ?_; rintro e w10 ⟨rfl, L10, h10, hn10, c10, f10⟩; have HO10 := hid (HO8.out.step HM9.out HG9.out h10 c10 f10 HOk4.out); clear h10 hn10 c10 f10))
      go_roundw
      case rel => exact ⟨k + 1, L10, by go_num, by omega, by rw [HBk.out]; simpa [Mach.start] using HO10.out⟩
      case measure => simp [intOf]; omega
    · obtain rfl : k = n := by omega
      have hge : (k : Int) ≤ k := by omega
      go_wp2
      go_ret3
      exact ⟨B, b, L, rfl, HO.out⟩
end Go.Proofs.Ytibiianmpajabaa
