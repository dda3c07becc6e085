/-
  Package blk: Segments of both sides, of any bytes.
-/
import Derived.Test.YtfpemajbgnfflaaBkH
import Derived.Test.YtfpemajbgnfflaaBkI
set_option linter.unusedSimpArgs false
set_option linter.unusedVariables false
namespace Go.Proofs.Ytfpemajbgnfflaa.Bk
open Go.RowKit Gen
set_option maxHeartbeats 4000000
/-- what Segments leaves, read back -/
def SegsRead (w : World) (l : List UInt8) (e : Ending) (w' : World) : Prop := ∃ p c, e = .returned (.tuple #[.slice p (segsR l).1.length c, .int .i64 (segsR l).2]) ∧ SA w' p (segsR l).1 ∧ w.grownBy w' none
theorem SegsPost.read {w w' : World} {l : List UInt8} {e : Ending} (h : SegsPost w l e w') : SegsRead w l e w' := by
  obtain ⟨v, rfl, ho, hg⟩ := h
  obtain ⟨p, c, rfl, hs⟩ := OwnS.sa ho
  exact ⟨p, c, rfl, hs, hg⟩
theorem own_ba2 {w' : World} {base : Nat} {l : List UInt8} {v : Value} (h : w'.ownsRow base 5 1 v l.length (bcells l)) : ∃ p c, v = .slice p l.length c ∧ BA w' p l ∧ l.length ≤ c ∧ (p = none → c = 0) ∧ c ≤ 9223372036854775807 := by
  have hh := h
  rcases hh.2 with ⟨rfl, h0⟩ | ⟨g, cap, cur, rfl, hb, hg, hc, hm, _⟩
  · have : l = [] := List.eq_nil_of_length_eq_zero h0
    subst this
    exact ⟨none, 0, rfl, BA.nil _ _, Nat.le_refl _, fun _ => rfl, by omega⟩
  · refine ⟨_, _, rfl, fun k hk => ⟨g, 0, rfl, ?_⟩, hc, (fun e => by cases e), by unfold maxLen at hm; omega⟩
    rw [Nat.zero_add, h.cellAt k (by omega), bcells_at hk]
theorem bSegsW (l : List UInt8) (p : Option Addr) (c : Nat) (w : World) (hl : l.length ≤ 16777216) (h : BA w p l) (hc : l.length ≤ c) (hc63 : c ≤ 9223372036854775807) : Calls Try.prog 4 #[.slice p l.length c] w (SegsRead w l) := by
  by_cases ho : l.length % 2 = 1
  · exact (bSegs_odd l p c w (by omega) ho).mono fun e w' h => h.read
  · obtain ⟨b, o, hp⟩ : ∃ b o, 0 < l.length → p = some ⟨b, o, none⟩ := by
      by_cases h0 : 0 < l.length
      · obtain ⟨b, o, e⟩ := h.ptr h0
        exact ⟨b, o, fun _ => e⟩
      · exact ⟨0, 0, fun h => absurd h h0⟩
    exact (bSegs l p b o c w hl (by omega) hp hc hc63 h).mono fun e w' h => h.read
theorem rSegs_nil (p : Option Addr) (c : Nat) (w : World) : Calls Try.prog 5 #[.slice p 0 c] w (SegsPost w []) := by
  unfold SegsPost
  go_enter Try.func5, Try.ntmps5
  go_wp2
  go_loopw [4, 5] (fun v i wr => v = .slice none 0 0 ∧ i = .int .i64 0 ∧ wr = w) (fun _ _ _ => 0)
  case atStart => exact ⟨rfl, rfl, rfl⟩
  case round =>
    obtain ⟨rfl, rfl, rfl⟩ := hrel
    go_wp2
    go_ret2
    exact ⟨_, rfl, ownS_nil _ _, grownBy_refl _ _⟩
theorem rSegsW (l : List UInt8) (p : Option Addr) (c : Nat) (w : World) (hl : l.length ≤ 16777216) (h : BA w p l) : Calls Try.prog 5 #[.slice p l.length c] w (SegsRead w l) := by
  by_cases ho : l.length % 2 = 1
  · exact (rSegs_odd l p c w (by omega) ho).mono fun e w' h => h.read
  · by_cases h0 : 0 < l.length
    · obtain ⟨b, o, rfl⟩ := h.ptr h0
      exact (rSegs l b o c w hl (by omega) h).mono fun e w' h => h.read
    · have : l = [] := List.eq_nil_of_length_eq_zero (by omega)
      subst this
      exact (rSegs_nil p c w).mono fun e w' h => h.read
end Go.Proofs.Ytfpemajbgnfflaa.Bk
