/-
  Package path: a slice of texts that came in, and its copy.
-/
import Derived.Test.YtmnolfaejneomaaDoorPaG
import Derived.Test.YtmnolfaejneomaaDoorOpen
set_option linter.unusedSimpArgs false
set_option linter.unusedVariables false
namespace Go.Proofs.YtmnolfaejneomaaDoor
open Go.RowKit
namespace Flat
open Go.ChangeShapes Go.WideShapes Go.ChangeAt Go.Deep
section
variable {H : Type} {enc : TypeId × Value → H} {P : Program} {w : World} {base : Nat} {spare : Nat → Bool} {held : Bool}
theorem Came.strings {ts te : TypeId} (hs : P.underlying ts = some (.slice te)) (he : P.underlying te = some .string) (hone : P.cellsOf te = 1) {v : Value} (h : Came enc P w base spare held ts v) :
    ∃ p len cap, v = .slice p len cap ∧ len * P.bytesOf te ≤ reachBytes ∧ len ≤ maxLen ∧ len ≤ cap ∧
      ∀ i, i < len → ∃ b off s, p = some ⟨b, off, none⟩ ∧ b < w.heap.size ∧ w.cell? ⟨b, off + i, none⟩ = some (.string s) ∧ s.size ≤ maxLen := by
  obtain ⟨fuel, x, h, hsz⟩ := h
  rcases open_slice hs h with ⟨hcs, _⟩ | ⟨a, len, cap, m, n, D, Pl, hcs, hlc, hl, hm, hmm, hx, hi⟩
  · simp only [List.cons.injEq, and_true] at hcs
    exact ⟨none, 0, 0, hcs, by simp [reachBytes], by unfold maxLen; omega, Nat.le_refl _, fun i hi => by omega⟩
  · simp only [List.cons.injEq, and_true] at hcs
    have hml : len ≤ m := by rw [hmm]; split <;> omega
    refine ⟨some a, len, cap, hcs, ?_, by omega, by omega, fun i hil => ?_⟩
    · have := hsz ((((List.range len).map D).length + ((List.range (m - len)).map fun j => D (len + j)).length) * P.bytesOf te) (by rw [hx]; simp [DataW.weights, hs])
      simp only [List.length_map, List.length_range] at this
      exact Nat.le_trans (Nat.mul_le_mul_right _ (by omega)) this
    · have one : ∀ i, i < len → ∃ s : ByteArray, w.cell? (a.add i) = some (.string s) ∧ s.size ≤ maxLen := fun i hil => by
        obtain ⟨cs', hc, ht⟩ := hi i (by omega)
        rw [hone] at hc
        obtain ⟨_, hcl, hat⟩ := World.cells?_some hc
        obtain ⟨s, rfl, _, hw⟩ := DataW.trod_string he ht
        have := hat 0 (by omega)
        have e0 : (a.add (i * 1)).add 0 = a.add i := by simp [Addr.add]
        rw [e0] at this
        exact ⟨s, this, hw⟩
      obtain ⟨v0, hv0, _⟩ := one 0 (by omega)
      obtain ⟨b, off, spot⟩ := a
      obtain rfl : spot = none := by
        have : w.cell? (⟨b, off, spot⟩ : Addr) = some (.string v0) := by simpa [Addr.add] using hv0
        exact World.cell?_spot this
      have eb : ∀ (o j : Nat), (⟨b, o, none⟩ : Addr).add j = ⟨b, o + j, none⟩ := fun o j => by unfold Addr.add; split <;> simp_all
      obtain ⟨s, hn, hw⟩ := one i hil
      rw [eb] at hn hv0
      exact ⟨b, off, s, rfl, World.block_lt_of_cell? w _ hn, hn, hw⟩
end
end Flat
theorem sg_of {w : World} {p : Option Addr} {len : Nat} (h : ∀ i, i < len → ∃ b off s, p = some ⟨b, off, none⟩ ∧ b < w.heap.size ∧ w.cell? ⟨b, off + i, none⟩ = some (.string s) ∧ s.size ≤ maxLen) :
    ∃ xs : List ByteArray, xs.length = len ∧ SG w p xs ∧ ∀ x ∈ xs, x.size ≤ maxLen := by
  have h' : ∀ i : Nat, ∃ s : ByteArray, i < len → ∃ b off, p = some ⟨b, off, none⟩ ∧ b < w.heap.size ∧ w.cell? ⟨b, off + i, none⟩ = some (.string s) ∧ s.size ≤ maxLen := fun i => by
    by_cases hi : i < len
    · obtain ⟨b, o, s, h⟩ := h i hi
      exact ⟨s, fun _ => ⟨b, o, h⟩⟩
    · exact ⟨⟨#[]⟩, fun h => absurd h hi⟩
  obtain ⟨f, hf⟩ := Classical.axiomOfChoice h'
  refine ⟨(List.range len).map f, by simp, fun j x hj => ?_, fun x hx => ?_⟩
  · have hlt : j < len := by have := (List.getElem?_eq_some_iff.1 hj).1; simpa using this
    obtain ⟨b, o, e, h1, h2, _⟩ := hf j hlt
    have : x = f j := by simp [hlt] at hj; exact hj.symm
    exact ⟨b, o, e, h1, by rw [this]; exact h2⟩
  · simp only [List.mem_map, List.mem_range] at hx
    obtain ⟨i, hi, rfl⟩ := hx
    obtain ⟨_, _, _, _, _, h⟩ := hf i hi
    exact h
theorem sg_own {W : World} {base : Nat} {e : TypeId} {v : Value} {xs : List ByteArray} (h : W.ownsRow base e 1 v xs.length (xs.map Value.string)) : ∃ p c, v = .slice p xs.length c ∧ xs.length ≤ c ∧ SG W p xs := by
  have hh := h
  rcases h.2 with ⟨rfl, h0⟩ | ⟨g, cap, cur, rfl, hb, hg, hc, _⟩
  · have : xs = [] := List.eq_nil_of_length_eq_zero h0
    subst this
    exact ⟨none, 0, rfl, Nat.le_refl _, fun j x hj => by cases hj⟩
  · refine ⟨_, _, rfl, hc, fun j x hj => ⟨g, 0, rfl, (Array.getElem?_eq_some_iff.1 hg).1, ?_⟩⟩
    have hk := (List.getElem?_eq_some_iff.1 hj).1
    rw [Nat.zero_add, hh.cellAt j (by omega)]
    simp [hj]
end Go.Proofs.YtmnolfaejneomaaDoor
