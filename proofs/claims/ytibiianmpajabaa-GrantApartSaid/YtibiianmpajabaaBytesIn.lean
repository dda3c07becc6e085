/-
  Bytes that came in.
-/
import Derived.Test.YtibiianmpajabaaPhysK
import Derived.Test.YtibiianmpajabaaOpen
set_option linter.unusedSimpArgs false
set_option linter.unusedVariables false
namespace Go.Proofs.Ytibiianmpajabaa
open Go.RowKit Go.ChangeShapes Go.WideShapes Go.ChangeAt Go.Deep
set_option maxHeartbeats 1000000
theorem exists_list {α : Type} (P : Nat → α → Prop) : ∀ n, (∀ i, i < n → ∃ a, P i a) → ∃ l : List α, l.length = n ∧ ∀ i (h : i < l.length), P i l[i]
  | 0, _ => ⟨[], rfl, fun i h => by simp at h⟩
  | n + 1, h => by
    obtain ⟨l, hl, hp⟩ := exists_list P n fun i hi => h i (by omega)
    obtain ⟨a, ha⟩ := h n (by omega)
    refine ⟨l ++ [a], by simp [hl], fun i hi => ?_⟩
    by_cases e : i < l.length
    · rw [List.getElem_append_left e]; exact hp i e
    · have : i = n := by simp at hi; omega
      subst this
      rw [List.getElem_append_right (by omega)]
      simpa using ha
section
variable {H : Type} {enc : TypeId × Value → H} {w : World}
theorem u8_bytes : Try.prog.bytesOf 5 = 1 := by kernel_rfl
theorem came_bytes {v : Value} (h : Flat.Came enc Try.prog w 0 (fun _ => true) true 31 v) : ∃ pa l cap, v = .slice pa (List.length (α := UInt8) l) cap ∧ InBytes w pa l ∧ l.length ≤ 140737488351232 := by
  have hb := h.ints Try.underlying31 Try.underlying5 (by kernel_rfl)
  obtain ⟨fuel, y, h, _⟩ := h
  obtain ⟨p, len, cap, e, hl, _, _⟩ := hb
  rw [u8_bytes, Nat.mul_one] at hl
  unfold reachBytes at hl
  rcases open_ints Try.underlying31 Try.underlying5 (by kernel_rfl) h with ⟨hcs, hy⟩ | ⟨x, len', c, zs, hcs, _, hl', hm, hz, hy, hcell, hwz⟩
  · simp only [List.cons.injEq, and_true] at hcs
    subst hcs
    exact ⟨none, [], 0, rfl, .inl rfl, by simp⟩
  · simp only [List.cons.injEq, and_true] at hcs
    subst hcs
    injection e with _ e2
    subst e2
    have hlz : len' ≤ zs.length := by rw [hz]; split <;> omega
    exact ⟨some x, asBytes zs len', c, by rw [asBytes_len _ _ hlz], asBytes_in hlz hcell hwz, by rw [asBytes_len _ _ hlz]; omega⟩
end
end Go.Proofs.Ytibiianmpajabaa
