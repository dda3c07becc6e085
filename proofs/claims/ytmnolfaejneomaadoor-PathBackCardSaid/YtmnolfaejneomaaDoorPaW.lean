/-
  Package path: the copy of a list of permissions.
-/
import Derived.Test.YtmnolfaejneomaaDoorPaO
import Derived.ProofKit
set_option linter.unusedSimpArgs false
set_option linter.unusedVariables false
namespace Go.Proofs.YtmnolfaejneomaaDoor
open Go.RowKit
def pcl (l : List PD) : List Value := l.flatMap fun d => [.int .i64 d.1, .bool d.2.1, .bool d.2.2]
theorem pcl_len (l : List PD) : (pcl l).length = l.length * 3 := by
  induction l with
  | nil => rfl
  | cons d r ih => simp only [pcl, List.flatMap_cons, List.length_append, List.length_cons, List.length_nil] at ih ⊢; omega
theorem pcl_get : ∀ (l : List PD) (j : Nat) (d : PD), l[j]? = some d → (pcl l)[j * 3]? = some (.int .i64 d.1) ∧ (pcl l)[j * 3 + 1]? = some (.bool d.2.1) ∧ (pcl l)[j * 3 + 2]? = some (.bool d.2.2)
  | [], j, d, h => by cases h
  | x :: r, 0, d, h => by
    obtain rfl : x = d := by simpa using h
    exact ⟨rfl, rfl, rfl⟩
  | x :: r, j + 1, d, h => by
    have := pcl_get r j d (by simpa using h)
    have e : ∀ i, (pcl (x :: r))[(j + 1) * 3 + i]? = (pcl r)[j * 3 + i]? := fun i => by
      rw [show (j + 1) * 3 + i = (j * 3 + i) + 3 by omega]
      rfl
    exact ⟨by have h0 := e 0; rw [Nat.add_zero, Nat.add_zero] at h0; rw [h0]; exact this.1, by rw [e 1]; exact this.2.1, by rw [e 2]; exact this.2.2⟩
theorem pcl_one (l : List PD) : ∀ u ∈ pcl l, u.oneCell' = true := by
  intro u hu
  obtain ⟨d, _, hd⟩ := List.mem_flatMap.1 hu
  simp only [List.mem_cons, List.not_mem_nil, or_false] at hd
  rcases hd with rfl | rfl | rfl <;> rfl
theorem pnews_at {w : World} {a : Addr} {l : List PD} (h : PG w (some a) l) : ∀ i u, (pcl l)[i]? = some u → (w.alloc (.cells #[] 56)).cell? (a.add i) = some u := by
  intro i u hu
  have hi := (List.getElem?_eq_some_iff.1 hu).1
  rw [pcl_len] at hi
  obtain ⟨d, hd⟩ : ∃ d, l[i / 3]? = some d := ⟨_, List.getElem?_eq_getElem (by omega)⟩
  obtain ⟨b, o, e, hlt, h0, h1, h2⟩ := h (i / 3) d hd
  cases e
  obtain ⟨g0, g1, g2⟩ := pcl_get l (i / 3) d hd
  have e : (⟨b, o, none⟩ : Addr).add i = ⟨b, o + i, none⟩ := by unfold Addr.add; split <;> simp_all
  rw [e, ((Below.refl w.heap.size w).alloc (Nat.le_refl _) _).cell (p := ⟨b, o + i, none⟩) hlt]
  have hr : i % 3 = 0 ∨ i % 3 = 1 ∨ i % 3 = 2 := by omega
  rcases hr with hr | hr | hr
  · have e1 : i = i / 3 * 3 := by omega
    rw [e1, g0] at hu; cases hu
    rw [e1]; exact h0
  · have e1 : i = i / 3 * 3 + 1 := by omega
    rw [e1, g1] at hu; cases hu
    rw [e1]; exact h1
  · have e1 : i = i / 3 * 3 + 2 := by omega
    rw [e1, g2] at hu; cases hu
    rw [e1]; exact h2
theorem pg_own {W : World} {base : Nat} {e : TypeId} {v : Value} {l : List PD} (h : W.ownsRow base e 3 v l.length (pcl l)) : ∃ p c, v = .slice p l.length c ∧ l.length ≤ c ∧ PG W p l := by
  have hh := h
  rcases h.2 with ⟨rfl, h0⟩ | ⟨g, cap, cur, rfl, hb, hg, hc, _⟩
  · have : l = [] := List.eq_nil_of_length_eq_zero h0
    subst this
    exact ⟨none, 0, rfl, Nat.le_refl _, fun j x hj => by cases hj⟩
  · refine ⟨_, _, rfl, hc, fun j d hj => ⟨g, 0, rfl, (Array.getElem?_eq_some_iff.1 hg).1, ?_⟩⟩
    have hk := (List.getElem?_eq_some_iff.1 hj).1
    obtain ⟨g0, g1, g2⟩ := pcl_get l j d hj
    refine ⟨?_, ?_, ?_⟩
    · rw [Nat.zero_add, hh.cellAt (j * 3) (by omega)]; exact g0
    · rw [Nat.zero_add, hh.cellAt (j * 3 + 1) (by omega)]; exact g1
    · rw [Nat.zero_add, hh.cellAt (j * 3 + 2) (by omega)]; exact g2
end Go.Proofs.YtmnolfaejneomaaDoor
