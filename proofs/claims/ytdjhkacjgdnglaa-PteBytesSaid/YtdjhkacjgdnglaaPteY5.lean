/-
  PteBytes: small lemmas on slices.
-/
import Derived.Test.YtdjhkacjgdnglaaPteY4
import Derived.Test.YtdjhkacjgdnglaaPteW
import Derived.Test.YtdjhkacjgdnglaaPteX
namespace Go.Proofs.Ytdjhkacjgdnglaa
open Go.RowKit Go.ChangeShapes Go.WideShapes Go.ChangeAt Go.Deep
theorem sb_of {W : World} {base B n : Nat} {v : Value} {l : List UInt8} (h : W.ownsRow base 5 1 v n (bcells l)) (hn : l.length = n) (hB : B < base) : SB W B v l := by
  subst hn
  rcases h.2 with ⟨rfl, h0⟩ | ⟨g, cap, cur, rfl, hbg, hg, hnc, _⟩
  · have : l = [] := List.eq_nil_of_length_eq_zero h0
    subst this
    exact ⟨none, 0, rfl, Nat.le_refl _, fun h => absurd rfl h⟩
  · refine ⟨some ⟨g, 0, none⟩, cap, rfl, hnc, fun _ => ⟨g, 0, rfl, by omega, (Array.getElem?_eq_some_iff.1 hg).1, fun k hk => ?_⟩⟩
    rw [Nat.zero_add, h.cellAt k (by omega), bcells_get, List.getElem?_eq_getElem hk]
    simp [List.getD, List.getElem?_eq_getElem hk]
theorem hin_sr {w W : World} {L : Lay} {b : Nat} {pa : Option Addr} {l : List UInt8} {cap : Nat} (h : InBytes w pa l) (hc : l.length ≤ cap) (hg : w.grownBy W none) (far : ∀ k, L.foot b k → w.heap.size ≤ k) : SR W L b (.slice pa l.length cap) l := by
  refine ⟨pa, cap, rfl, hc, fun hl => ?_⟩
  rcases h with h | ⟨sb, so, e, hb, hk⟩
  · exact absurd h hl
  · exact ⟨sb, so, e, fun h => by have := far _ h; omega, Nat.lt_of_lt_of_le hb hg.size, fun k hk' => hg.cell (hk k hk') (by simp)⟩
theorem in_cells {w W : World} {ad : Addr} {l : List UInt8} (h : InBytes w (some ad) l) (hg : w.grownBy W none) : ∀ j u, (bcells l)[j]? = some u → W.cell? (ad.add j) = some u := fun j u hu => by
  rw [bcells_get] at hu
  cases hj : l[j]? with
  | none => rw [hj] at hu; cases hu
  | some x =>
    rw [hj] at hu
    simp only [Option.map_some, Option.some.injEq] at hu
    subst hu
    obtain ⟨hlt, rfl⟩ := List.getElem?_eq_some_iff.1 hj
    obtain ⟨b, o, e, hc⟩ := h.at hlt
    cases e
    have e : (⟨b, o, none⟩ : Addr).add j = ⟨b, o + j, none⟩ := by unfold Addr.add; split <;> simp_all
    rw [e, hg.cell hc (by simp)]
    simp [List.getD, List.getElem?_eq_getElem hlt]
section
variable {H : Type} {enc : TypeId × Value → H} {w : World}
theorem came_room2 {v : Value} (h : Flat.Came enc Try.prog w 0 (fun _ => true) true 31 v) : ∃ pa l cap, v = .slice pa (List.length (α := UInt8) l) cap ∧ InBytes w pa l ∧ l.length ≤ 140737488351232 ∧ l.length ≤ cap ∧ (pa = none → l = [] ∧ cap = 0) := by
  have hb := h.ints Try.underlying31 Try.underlying5 (by kernel_rfl)
  obtain ⟨fuel, y, h, _⟩ := h
  obtain ⟨p, len, cap, e, hl, _, _⟩ := hb
  rw [u8_bytes, Nat.mul_one] at hl
  unfold reachBytes at hl
  rcases open_ints Try.underlying31 Try.underlying5 (by kernel_rfl) h with ⟨hcs, hy⟩ | ⟨x, len', c, zs, hcs, _, hl', hm, hz, hy, hcell, hwz⟩
  · simp only [List.cons.injEq, and_true] at hcs
    subst hcs
    exact ⟨none, [], 0, rfl, .inl rfl, by simp, by simp, fun _ => ⟨rfl, rfl⟩⟩
  · simp only [List.cons.injEq, and_true] at hcs
    subst hcs
    injection e with _ e2
    subst e2
    have hlz : len' ≤ zs.length := by rw [hz]; split <;> omega
    exact ⟨some x, asBytes zs len', c, by rw [asBytes_len _ _ hlz], asBytes_in hlz hcell hwz, by rw [asBytes_len _ _ hlz]; omega, by rw [asBytes_len _ _ hlz]; omega, fun h => by cases h⟩
end
end Go.Proofs.Ytdjhkacjgdnglaa
