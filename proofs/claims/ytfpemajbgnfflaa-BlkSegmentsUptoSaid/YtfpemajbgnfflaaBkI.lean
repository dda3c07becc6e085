/-
  Package blk: two rows of segments compared.
-/
import Derived.Test.YtfpemajbgnfflaaBkE
import Derived.Test.YtfpemajbgnfflaaBkD
set_option linter.unusedSimpArgs false
set_option linter.unusedVariables false
namespace Go.Proofs.Ytfpemajbgnfflaa.Bk
open Go.RowKit Gen
set_option maxHeartbeats 4000000

/-- the segments l stand from p on -/
def SA (w : World) (p : Option Addr) (l : List Seg) : Prop := ∀ (k : Nat) (s : Seg), l[k]? = some s → ∃ b o, p = some ⟨b, o, none⟩ ∧ w.cell? ⟨b, o + k * 3, none⟩ = some (.int .i64 s.ref) ∧ w.cell? ⟨b, o + k * 3 + 1, none⟩ = some (.int .i64 s.first) ∧ w.cell? ⟨b, o + k * 3 + 2, none⟩ = some (.int .i64 s.last)
theorem SA.grown {w w' : World} {p : Option Addr} {l : List Seg} (h : SA w p l) (hg : w.grownBy w' none) : SA w' p l := fun k s hk => by
  obtain ⟨b, o, e, h0, h1, h2⟩ := h k s hk
  exact ⟨b, o, e, hg.cell h0 (by simp), hg.cell h1 (by simp), hg.cell h2 (by simp)⟩
theorem SA.nil (w : World) (p : Option Addr) : SA w p [] := fun k s hk => by simp at hk
theorem OwnS.sa {w : World} {base : Nat} {v : Value} {l : List Seg} (h : OwnS w base v l) : ∃ p c, v = .slice p l.length c ∧ SA w p l := by
  have hh := h
  rcases hh.2 with ⟨rfl, h0⟩ | ⟨g, cap, cur, rfl, hb, hg, hc, _⟩
  · have : l = [] := List.eq_nil_of_length_eq_zero h0
    subst this
    exact ⟨none, 0, rfl, SA.nil _ _⟩
  · refine ⟨_, _, rfl, fun k s hk => ⟨g, 0, rfl, ?_⟩⟩
    have hkl := (List.getElem?_eq_some_iff.1 hk).1
    obtain ⟨h0, h1, h2⟩ := scells_get l k s hk
    rw [Nat.zero_add]
    exact ⟨by rw [h.cellAt (k * 3) (by omega), h0], by rw [h.cellAt (k * 3 + 1) (by omega), h1], by rw [h.cellAt (k * 3 + 2) (by omega), h2]⟩
set_option maxRecDepth 100000 in
theorem lSegs_eq (L : List Seg) (p q : Option Addr) (c d : Nat) (w : World) (hp : SA w p L) (hq : SA w q L) (hl : L.length ≤ 16777216) :
    Calls Try.prog 6 #[.slice p L.length c, .slice q L.length d] w fun e w' => e = .returned (.bool true) ∧ ∃ n, w' = w.drewN n := by
  have HP := hid hp
  have HQ := hid hq
  obtain ⟨n, hn⟩ : ∃ n, L.length = n := ⟨_, rfl⟩
  have HN := hid hn
  rw [hn] at hl
  rw [hn]
  have hb : ((n : Int) != n) = false := by simp
  clear hp hq hn
  go_enter Try.func6, Try.ntmps6
  go_wp2
  go_loopw [5] (fun i wr => ∃ k m : Nat, i = .int .i64 k ∧ k ≤ n ∧ wr = w.drewN m) (fun i _ => n - (intOf i).toNat)
  case atStart => exact ⟨0, 0, rfl, by omega, rfl⟩
  case round =>
    obtain ⟨k, m, rfl, hk, rfl⟩ := hrel
    by_cases hlt : k < n
    · have hlt' : (k : Int) < n := by omega
      have hk0 : (0 : Int) ≤ k := by omega
      obtain ⟨s, hs⟩ : ∃ s, L[k]? = some s := ⟨_, List.getElem?_eq_getElem (by rw [HN.out]; exact hlt)⟩
      obtain ⟨b1, o1, rfl, x0, x1, x2⟩ := HP.out k s hs
      obtain ⟨b2, o2, rfl, y0, y1, y2⟩ := HQ.out k s hs
      obtain ⟨r, f, g⟩ := s
      simp only at x0 x1 x2 y0 y1 y2
      clear hs
      go_wp2
      go_quiet (fail)
      go_wp2
      go_roundw
      case rel => exact ⟨k + 1, _, by go_num, hlt, rfl⟩
      case measure => simp [intOf]; omega
    · obtain rfl : k = n := by omega
      have hge : ¬ ((k : Int) < k) := by omega
      go_wp2
      go_ret
      exact ⟨rfl, _, rfl⟩
end Go.Proofs.Ytfpemajbgnfflaa.Bk
