/-
  Package view: contract of Rest (a range over a map in any order).
-/
import Derived.Test.YtgnihllnjaagcaaViewB
set_option linter.unusedSimpArgs false
set_option linter.unusedVariables false
namespace Go.Proofs.Ytgnihllnjaagcaa
open Go.RowKit
set_option maxHeartbeats 1000000

/-- how many rewrites are not done yet -/
def restN (l : List PokeV) (n : Nat) : Nat := (l.filter fun p => decide ((n : Int) ≤ p.t)).length
def cntL (l : List PokeV) (n : Nat) (left : Int → Bool) : Nat := (l.filter fun p => decide ((n : Int) ≤ p.t) && !left p.t).length
theorem cnt_step {l : List PokeV} {n : Nat} {left : Int → Bool} {x : Int} (hx : left x = true) (hn : (n : Int) ≤ x) : cntL l n (fun g => left g && decide (g ≠ x)) = cntL l n left + (due l x).length := by
  induction l with
  | nil => rfl
  | cons p l ih =>
    unfold cntL due at ih ⊢
    by_cases e : p.t = x
    · have h1 : (decide ((n : Int) ≤ p.t) && !(left p.t && decide (p.t ≠ x))) = true := by simp [e, hn]
      have h2 : (decide ((n : Int) ≤ p.t) && !left p.t) = false := by simp [e, hx]
      have h3 : (p.t == x) = true := by simp [e]
      rw [List.filter_cons_of_pos (by simpa using h1), List.filter_cons_of_neg (by rw [h2]; simp), List.filter_cons_of_pos (by simpa using h3), List.length_cons, List.length_cons, ih]
      omega
    · have h3 : (p.t == x) = false := by simp [e]
      have h1 : (decide ((n : Int) ≤ p.t) && !(left p.t && decide (p.t ≠ x))) = (decide ((n : Int) ≤ p.t) && !left p.t) := by simp [e]
      have hr : (List.filter (fun p => p.t == x) (p :: l)) = List.filter (fun p => p.t == x) l := List.filter_cons_of_neg (by rw [h3]; simp)
      rw [hr]
      by_cases h2 : (decide ((n : Int) ≤ p.t) && !left p.t) = true
      · rw [List.filter_cons_of_pos (by rw [h1]; exact h2), List.filter_cons_of_pos (by exact h2), List.length_cons, List.length_cons, ih]
        omega
      · rw [List.filter_cons_of_neg (by rw [h1]; exact h2), List.filter_cons_of_neg (by exact h2), ih]
theorem cnt_end {l : List PokeV} {n : Nat} {left : Int → Bool} (h : ∀ g, left g = false) : cntL l n left = restN l n := by
  unfold cntL restN; simp [h]
theorem cnt_le (l : List PokeV) (n : Nat) (left : Int → Bool) : cntL l n left ≤ l.length := List.length_filter_le _ _
theorem due_mem {l : List PokeV} {p : PokeV} {x : Int} (h : p ∈ l) (e : p.t = x) : p ∈ due l x := by simp [due, h, e]
theorem vv_start {w : World} {V G B : Nat} {S : Nat → Prop} {l : List PokeV} {n T : Nat} {f : Int → Option Value} (h : VV w V G B S l n T f) : cntL l n (fun g => (f g).isSome) = 0 := by
  unfold cntL
  rw [List.length_eq_zero_iff, List.filter_eq_nil_iff]
  intro p hp hc
  simp only [Bool.and_eq_true, decide_eq_true_eq, Bool.not_eq_true'] at hc
  obtain ⟨t, ht⟩ : ∃ t : Nat, p.t = t := ⟨p.t.toNat, by omega⟩
  have hd := h.due t (by omega)
  have hm := due_mem hp ht
  rcases hd with ⟨_, e⟩ | ⟨g, c, cl, e, _⟩
  · rw [e] at hm; cases hm
  · rw [ht, e] at hc; simp at hc
theorem vv_entry {w : World} {V G B : Nat} {S : Nat → Prop} {l : List PokeV} {n T : Nat} {f : Int → Option Value} (h : VV w V G B S l n T f) {x : Int} {c : Value} (hx : f x = some c) : (n : Int) ≤ x ∧ ∃ g cp, c = .slice (some ⟨g, 0, none⟩) (due l x).length cp := by
  have hn := h.off x (by rw [hx]; rfl)
  obtain ⟨t, rfl⟩ : ∃ t : Nat, x = t := ⟨x.toNat, by omega⟩
  refine ⟨hn, ?_⟩
  rcases h.due t (by omega) with ⟨e, _⟩ | ⟨g, cp, cl, e, _⟩
  · rw [hx] at e; cases e
  · rw [hx] at e; cases e; exact ⟨g, cp, rfl⟩
set_option maxRecDepth 100000 in
theorem vRest (V G B : Nat) (S : Nat → Prop) (l : List PokeV) (n T : Nat) (f : Int → Option Value) (w : World) (h : VV w V G B S l n T f) (hll : l.length ≤ 64) :
    Calls Try.prog 24 #[.pointer (some ⟨V, 0, none⟩)] w fun e w' => e = .returned (.int .i64 (restN l n)) ∧ w.grownBy w' none := by
  have c0 := h.c0; have c1 := h.c1
  have H := hid h
  have HMp := hid h.map
  clear h
  go_enter Try.func24, Try.ntmps24
  go_wp2_with (first
    | (go_at_call 79; refine (vmade_yes _ _ _ c0).mono ?_; rintro e w1 ⟨rfl, rfl⟩)
    | (at_range; refine VM.wpList_range_vmap _ rfl _ 102 rfl 3 144 vint_key Try.underlying102 (.slice none 0 0) G T f rfl HMp.out ?_; intro w0 hrg0 hg0 hs0; have HRg := hid hrg0; have HG := hid hg0; clear hrg0 hg0 hs0))
  go_frame
  clear c0 c1
  go_loopw [3] (fun c wr => ∃ left : Int → Bool, c = .int .i64 (cntL l n left) ∧ VM.VRange Try.prog 3 (.slice none 0 0) wr G w.heap.size T f left ∧ w.grownBy wr none) (fun _ wr => wr.rangeLeft G w.heap.size)
  case atStart => exact ⟨_, by rw [vv_start H.out]; rfl, HRg.out, HG.out⟩
  case round =>
    obtain ⟨left, rfl, hrg, hgw⟩ := hrel
    have HGw := hid hgw
    clear hgw
    go_wp2_with (at_next; refine VM.wpList_next_vmap _ rfl _ rfl 3 vint_key Try.underlying3 (.slice none 0 0) G w.heap.size T f left rfl hrg ?_ ?_)
    · intro hl0
      have HC := hid (cnt_end (l := l) (n := n) hl0)
      clear hl0
      go_wp2
      go_ret
      exact ⟨by rw [← HC.out]; rfl, HGw.out⟩
    · intro x c w1 hwx hlx hfx hrg1 hlt hg1 hs1 hen
      obtain ⟨hnx, g, cp, rfl⟩ := vv_entry H.out hfx
      have HSt := hid (cnt_step (l := l) hlx hnx)
      have HG1 := hid (HGw.out.andThen hg1 (fun j hj => by cases hj; exact .inl (Nat.le_refl _)))
      have HR1 := hid hrg1
      have HLt := hid hlt
      have b1 := cnt_le l n left
      have b2 : (due l x).length ≤ l.length := List.length_filter_le _ _
      clear hlx hfx hrg1 hlt hg1 hs1 hwx hrg
      go_wp2
      go_roundw
      case rel => exact ⟨fun g => left g && decide (g ≠ x), by rw [HSt.out]; go_num, by have h := HR1.out; simpa using h, HG1.out⟩
      case measure => exact HLt.out
end Go.Proofs.Ytgnihllnjaagcaa
