/-
  Package bus: bytes that came in; own bytes.
-/
import Derived.Test.YtbocbokkphlcbaaBsA
import Derived.Test.YtbocbokkphlcbaaLift
set_option linter.unusedSimpArgs false
set_option linter.unusedVariables false
namespace Go.Proofs.Ytbocbokkphlcbaa
open Go.RowKit Go.Lib
set_option maxHeartbeats 1000000
theorem exists_list {α : Type} (P : Nat → α → Prop) : ∀ n, (∀ i, i < n → ∃ a, P i a) → ∃ l : List α, l.length = n ∧ ∀ i (h : i < l.length), P i l[i]
  | 0, _ => ⟨[], rfl, fun i h => by simp at h⟩
  | n + 1, h => by
    obtain ⟨l, hl, hp⟩ := exists_list P n fun i hi => h i (by omega)
    obtain ⟨a, ha⟩ := h n (by omega)
    refine ⟨l ++ [a], by simp [hl], fun i hi => ?_⟩
    by_cases e : i < l.length
    · rw [List.getElem_append_left e]; exact hp i e
    · have : i = n := by simp at hi; omega
      subst this
      rw [List.getElem_append_right (by omega)]
      simpa using ha
theorem u8_bytes : Try.prog.bytesOf 5 = 1 := by kernel_rfl
theorem came_bytes {H : Type} {enc : TypeId × Value → H} {w : World} {v : Value} (h : Flat.Came enc Try.prog w 0 (fun _ => true) true 22 v) : ∃ pa l cap, v = .slice pa (List.length (α := UInt8) l) cap ∧ BA w pa l ∧ l.length ≤ 140737488351232 := by
  obtain ⟨p, len, cap, rfl, hl, _, hc⟩ := h.ints Try.underlying22 Try.underlying5 (by kernel_rfl)
  rw [u8_bytes, Nat.mul_one] at hl
  unfold reachBytes at hl
  obtain ⟨l, hll, hp⟩ := exists_list (fun i (x : UInt8) => ∃ b off, p = some ⟨b, off, none⟩ ∧ w.cell? ⟨b, off + i, none⟩ = some (.int .u8 x.toNat)) len fun i hi => by
    obtain ⟨b, off, n, e, _, hn, hw⟩ := hc i hi
    have hb := bounds_u8 hw
    have h256 : n.toNat < 256 := by omega
    have hx : (UInt8.ofNat n.toNat).toNat = n.toNat := UInt8.toNat_ofNat_of_lt' h256
    refine ⟨UInt8.ofNat n.toNat, b, off, e, ?_⟩
    rw [hn, hx, Int.toNat_of_nonneg hb.1]
  subst hll
  refine ⟨p, l, cap, rfl, fun k hk => ?_, by omega⟩
  obtain ⟨b, off, e, h2⟩ := hp k hk
  exact ⟨b, off, e, by rw [h2]; simp [List.getD, List.getElem?_eq_getElem hk]⟩
def bcellsB (l : List UInt8) : List Value := l.map fun x => .int .u8 x.toNat
theorem bcellsB_len (l : List UInt8) : (bcellsB l).length = l.length := by simp [bcellsB]
theorem bcellsB_get (l : List UInt8) (k : Nat) : (bcellsB l)[k]? = l[k]?.map fun x => .int .u8 x.toNat := by simp [bcellsB]
theorem bcellsB_one (l : List UInt8) : ∀ v ∈ bcellsB l, v.oneCell' = true := by
  intro v hv
  simp only [bcellsB, List.mem_map] at hv
  obtain ⟨x, _, rfl⟩ := hv
  rfl
attribute [irreducible] bcellsB
theorem BA.of_own {W : World} {base : Nat} {v : Value} {l : List UInt8} (h : W.ownsRow base 5 1 v l.length (bcellsB l)) : ∃ p c, v = .slice p l.length c ∧ l.length ≤ c ∧ BA W p l := by
  have hh := h
  rcases h.2 with ⟨rfl, h0⟩ | ⟨g, cap, cur, rfl, hb, hg, hc, _⟩
  · have : l = [] := List.eq_nil_of_length_eq_zero h0
    subst this
    exact ⟨none, 0, rfl, Nat.le_refl _, fun k hk => by cases hk⟩
  · refine ⟨_, _, rfl, hc, fun k hk => ⟨g, 0, rfl, ?_⟩⟩
    rw [Nat.zero_add, hh.cellAt k (by omega), bcellsB_get]
    simp [List.getD, List.getElem?_eq_getElem hk]
theorem own0 (w : World) (e : TypeId) (sz : Nat) : (w.alloc (.cells #[] e)).ownsRow w.heap.size e sz (.slice (some ⟨w.heap.size, 0, none⟩) 0 0) 0 [] :=
  ⟨by simp, .inr ⟨w.heap.size, 0, #[], rfl, Nat.le_refl _, heap_alloc_new w _, Nat.le_refl _, by decide, by simp, by simp⟩⟩
theorem alloc_le (w : World) (o : Obj) : w.heap.size ≤ (w.alloc o).heap.size := (World.grownBy_alloc w o none).size
theorem info_u8 : (Try.prog.info? 5).map (fun i => (i.zero, i.size, i.bytes)) = some (some (.int .u8 0), 1, 1) := by kernel_rfl
theorem news_at {w : World} {a : Addr} {l : List UInt8} (h : BA w (some a) l) : ∀ j u, (bcellsB l)[j]? = some u → (w.alloc (.cells #[] 5)).cell? (a.add j) = some u := by
  intro j u hu
  have hj := (List.getElem?_eq_some_iff.1 hu).1
  rw [bcellsB_len] at hj
  obtain ⟨g, o, e, hc⟩ := h j hj
  cases e
  have e : (⟨g, o, none⟩ : Addr).add j = ⟨g, o + j, none⟩ := by unfold Addr.add; split <;> simp_all
  rw [e, (World.grownBy_alloc w _ none).cell hc (by simp)]
  rw [bcellsB_get] at hu
  simpa [List.getD, List.getElem?_eq_getElem hj] using hu
end Go.Proofs.Ytbocbokkphlcbaa
