/-
  Package grant: Unpack of both sides, of any bytes.
-/
import Derived.Test.YtaocnknofklmoaaGrE
import Derived.Test.YtaocnknofklmoaaBytesIn
set_option linter.unusedSimpArgs false
set_option linter.unusedVariables false
namespace Go.Proofs.Ytaocnknofklmoaa
open Go.RowKit
set_option maxHeartbeats 4000000
theorem gWd {g o c : Nat} {b : Nat → Nat} {w : World} (h : B8 w g o b) : ∀ w', w.grownBy w' none → WdAt g o c 0 ((b 0 + 256 * b 1 : Nat) : Int) w' ∧ WdAt g o c 2 ((b 2 + 256 * b 3 : Nat) : Int) w' ∧ WdAt g o c 4 ((b 4 + 256 * b 5 : Nat) : Int) w' := fun w' hg => by
  have h' := h.grown hg
  have drew : ∀ n, w'.grownBy (w'.drewN n) none := fun n => grownBy_drewN w' n none
  exact ⟨(gWordAt0 g o c b w' h').mono fun e w2 ⟨he, n, hw⟩ => ⟨he, hw ▸ drew n⟩, (gWordAt2 g o c b w' h').mono fun e w2 ⟨he, n, hw⟩ => ⟨he, hw ▸ drew n⟩, (gWordAt4 g o c b w' h').mono fun e w2 ⟨he, n, hw⟩ => ⟨he, hw ▸ drew n⟩⟩
theorem gPn8 (g o c : Nat) (b : Nat → Nat) (w : World) (h : B8 w g o b) : Calls Try.prog 40 #[.slice (some ⟨g, o, none⟩) 8 c] w fun e w' => e = .returned (.tuple #[(unG b).1.val, .int .i64 (unG b).2]) ∧ w.grownBy w' none := by
  rw [unP b h.lt]
  have l0 := h.lt 0 (by omega); have l1 := h.lt 1 (by omega); have l6 := h.lt 6 (by omega); have l7 := h.lt 7 (by omega)
  have c6 := h.c 6 (by omega); have c7 := h.c 7 (by omega)
  have hf : b 0 + 256 * b 1 < 65536 := by omega
  have H0 := fun w' hg => ((gWd (c := c) h) w' hg).1
  have H2 := fun w' hg => ((gWd (c := c) h) w' hg).2.1
  have H4 := fun w' hg => ((gWd (c := c) h) w' hg).2.2
  have e3 := and3 _ hf
  have e4 := and4 _ hf
  have e8 := and8 _ hf
  have hpk := fun w' => gPacks (gpV b) w' (by unfold gpV; simp only; split <;> omega)
  cases hs : decide ((b 0 + 256 * b 1) / 8 % 2 = 1) with
  | false =>
    rw [hs] at e8
    have ev : (gpV b).val = .agg #[.int .i64 ((b 0 + 256 * b 1) % 4 : Nat), .bool (decide ((b 0 + 256 * b 1) / 4 % 2 = 1)), .bool false, .int .i64 (b 2 + 256 * b 3 : Nat), .int .i64 (b 4 + 256 * b 5 : Nat), .int .i64 0, .int .i64 256] := by unfold gpV GV.val; rw [hs]; rfl
    rw [ev] at hpk
    by_cases hb : 15 < b 0 + 256 * b 1
    · rw [if_pos (.inl hb)]
      exact gPn_all_big g o c _ _ _ _ _ w H0 H2 H4 e3 e4 e8 (by simp; omega)
    · cases hp : packV (gpV b) with
      | false =>
        rw [hp] at hpk
        rw [if_pos (.inr rfl)]
        exact gPn_all_bad g o c _ _ _ _ _ w H0 H2 H4 e3 e4 e8 (by simp; omega) hpk
      | true =>
        rw [hp] at hpk
        rw [if_neg (by simp; omega), ev]
        exact gPn_all_ok g o c _ _ _ _ _ w H0 H2 H4 e3 e4 e8 (by simp; omega) hpk
  | true =>
    rw [hs] at e8
    have ev : (gpV b).val = .agg #[.int .i64 ((b 0 + 256 * b 1) % 4 : Nat), .bool (decide ((b 0 + 256 * b 1) / 4 % 2 = 1)), .bool true, .int .i64 (b 2 + 256 * b 3 : Nat), .int .i64 (b 4 + 256 * b 5 : Nat), .int .i64 (b 6 : Nat), .int .i64 ((b 7 : Nat) + 1)] := by unfold gpV GV.val; rw [hs]; simp
    rw [ev] at hpk
    by_cases hb : 15 < b 0 + 256 * b 1
    · rw [if_pos (.inl hb)]
      exact gPn_sub_big g o c _ _ _ _ _ _ _ w H0 H2 H4 e3 e4 e8 (by simp; omega) c6 c7 l6 l7
    · cases hp : packV (gpV b) with
      | false =>
        rw [hp] at hpk
        rw [if_pos (.inr rfl)]
        exact gPn_sub_bad g o c _ _ _ _ _ _ _ w H0 H2 H4 e3 e4 e8 (by simp; omega) hpk c6 c7 l6 l7
      | true =>
        rw [hp] at hpk
        rw [if_neg (by simp; omega), ev]
        exact gPn_sub_ok g o c _ _ _ _ _ _ _ w H0 H2 H4 e3 e4 e8 (by simp; omega) hpk c6 c7 l6 l7
/-- bytes that lie somewhere -/
def BG (w : World) (p : Option Addr) (l : List UInt8) : Prop := ∀ k, k < l.length → ∃ g o, p = some ⟨g, o, none⟩ ∧ w.cell? ⟨g, o + k, none⟩ = some (.int .u8 (l.getD k 0).toNat)
theorem BG.grown {w w' : World} {p : Option Addr} {l : List UInt8} (h : BG w p l) (hg : w.grownBy w' none) : BG w' p l := fun k hk => by
  obtain ⟨g, o, e, hc⟩ := h k hk
  exact ⟨g, o, e, hg.cell hc (by simp)⟩
theorem BG.b8 {w : World} {p : Option Addr} {l : List UInt8} (h : BG w p l) (hl : l.length = 8) : ∃ g o, p = some ⟨g, o, none⟩ ∧ B8 w g o (fun k => (l.getD k 0).toNat) := by
  obtain ⟨g, o, rfl, _⟩ := h 0 (by omega)
  refine ⟨g, o, rfl, fun k hk => ?_, fun k _ => UInt8.toNat_lt _⟩
  obtain ⟨g', o', e, hc⟩ := h k (by omega)
  cases e
  exact hc
def unpG (l : List UInt8) : GV × Int := if l.length = 8 then unG (fun k => (l.getD k 0).toNat) else (g0, 1)
theorem gPn (l : List UInt8) (p : Option Addr) (c : Nat) (w : World) (h : BG w p l) : Calls Try.prog 40 #[.slice p l.length c] w fun e w' => e = .returned (.tuple #[(unpG l).1.val, .int .i64 (unpG l).2]) ∧ w.grownBy w' none := by
  unfold unpG
  by_cases hl : l.length = 8
  · obtain ⟨g, o, rfl, hb⟩ := h.b8 hl
    rw [if_pos hl, hl]
    exact gPn8 g o c _ w hb
  · rw [if_neg hl]
    exact gPn_len p l.length c w hl
theorem gUn (l : List UInt8) (p : Option Addr) (c : Nat) (w : World) (h : BG w p l) : Calls Try.prog 41 #[.slice p l.length c] w fun e w' => e = .returned (.tuple #[(unpG l).1.val, .int .i64 (unpG l).2]) ∧ w.grownBy w' none := by
  unfold unpG
  by_cases hl : l.length = 8
  · obtain ⟨g, o, rfl, hb⟩ := h.b8 hl
    rw [if_pos hl, hl]
    exact gUn8 g o c _ w hb
  · rw [if_neg hl]
    exact gUn_len p l.length c w hl
theorem unpG_e (l : List UInt8) : (unpG l).2 = 0 ∨ (unpG l).2 = 1 ∨ (unpG l).2 = 60 := by
  unfold unpG
  split
  · unfold unG
    split
    · exact .inr (.inr rfl)
    · split
      · split
        · exact .inr (.inr rfl)
        · exact .inl rfl
      · exact .inl rfl
  · exact .inr (.inl rfl)
theorem BG.of_in {w : World} {p : Option Addr} {l : List UInt8} (h : InBytes w p l) : BG w p l := fun k hk => by
  rcases h with rfl | ⟨b, o, rfl, _, hc⟩
  · cases hk
  · exact ⟨b, o, rfl, hc k hk⟩
theorem BG.of_own {W : World} {base : Nat} {v : Value} {l : List UInt8} (h : W.ownsRow base 5 1 v l.length (bcells l)) : ∃ p c, v = .slice p l.length c ∧ l.length ≤ c ∧ BG W p l := by
  have hh := h
  rcases h.2 with ⟨rfl, h0⟩ | ⟨g, cap, cur, rfl, hb, hg, hc, _⟩
  · have : l = [] := List.eq_nil_of_length_eq_zero h0
    subst this
    exact ⟨none, 0, rfl, Nat.le_refl _, fun k hk => by cases hk⟩
  · refine ⟨_, _, rfl, hc, fun k hk => ⟨g, 0, rfl, ?_⟩⟩
    rw [Nat.zero_add, hh.cellAt k (by omega), bcells_get]
    simp [List.getD, List.getElem?_eq_getElem hk]
end Go.Proofs.Ytaocnknofklmoaa
