/-
  Package event: contracts of the small functions.
-/
import Derived.Test.YtjgikapoohibnaaEvM
import Derived.WalkKit
import Derived.WalkSpells
import Derived.WalkLawsBesides
import Derived.Handy
import Derived.BigQuiet
import Derived.Deep.QuietTactic
set_option linter.unusedSimpArgs false
set_option linter.unusedVariables false
namespace Go.Proofs.Ytjgikapoohibnaa
open Go.RowKit Gen
set_option maxHeartbeats 400000

theorem eIsDomain (d : Int) (w : World) : Calls Try.prog 41 #[.int .i64 d] w fun e w' => e = .returned (.bool (edOk d)) ∧ w = w' := by
  unfold edOk
  by_cases h0 : 0 ≤ d
  · by_cases h8 : d < 8
    · go_enter Try.func41, Try.ntmps41
      go_wp2
      go_ret
      exact ⟨by simp [h0, h8], rfl⟩
    · have h8' : 8 ≤ d := by omega
      go_enter Try.func41, Try.ntmps41
      go_wp2
      go_ret
      exact ⟨by simp [h0, h8], rfl⟩
  · have h0' : d < 0 := by omega
    have hz : (decide (0 ≤ d) && decide (d < 8)) = false := by simp [h0]
    rw [hz]
    clear hz
    go_enter Try.func41, Try.ntmps41
    go_wp2
    go_ret
    exact ⟨rfl, rfl⟩
theorem eIsPort (d : Int) (w : World) : Calls Try.prog 55 #[.int .i64 d] w fun e w' => e = .returned (.bool (epOk d)) ∧ w = w' := by
  unfold epOk
  by_cases h0 : 0 ≤ d
  · by_cases h8 : d < 32
    · go_enter Try.func55, Try.ntmps55
      go_wp2
      go_ret
      exact ⟨by simp [h0, h8], rfl⟩
    · have h8' : 32 ≤ d := by omega
      go_enter Try.func55, Try.ntmps55
      go_wp2
      go_ret
      exact ⟨by simp [h0, h8], rfl⟩
  · have h0' : d < 0 := by omega
    have hz : (decide (0 ≤ d) && decide (d < 32)) = false := by simp [h0]
    rw [hz]
    clear hz
    go_enter Try.func55, Try.ntmps55
    go_wp2
    go_ret
    exact ⟨rfl, rfl⟩
theorem eIsVirq (d : Int) (w : World) : Calls Try.prog 43 #[.int .i64 d] w fun e w' => e = .returned (.bool (evOk d)) ∧ w = w' := by
  unfold evOk
  by_cases h0 : 0 ≤ d
  · by_cases h8 : d < 4
    · go_enter Try.func43, Try.ntmps43
      go_wp2
      go_ret
      exact ⟨by simp [h0, h8], rfl⟩
    · have h8' : 4 ≤ d := by omega
      go_enter Try.func43, Try.ntmps43
      go_wp2
      go_ret
      exact ⟨by simp [h0, h8], rfl⟩
  · have h0' : d < 0 := by omega
    have hz : (decide (0 ≤ d) && decide (d < 4)) = false := by simp [h0]
    rw [hz]
    clear hz
    go_enter Try.func43, Try.ntmps43
    go_wp2
    go_ret
    exact ⟨rfl, rfl⟩
theorem rIsDomain (d : Int) (w : World) : Calls Try.prog 52 #[.int .i64 d] w fun e w' => e = .returned (.bool (edOk d)) ∧ w = w' := by
  unfold edOk
  by_cases h0 : 0 ≤ d
  · by_cases h8 : d < 8
    · go_enter Try.func52, Try.ntmps52
      go_wp2
      go_ret
      exact ⟨by simp [h0, h8], rfl⟩
    · have h8' : 8 ≤ d := by omega
      go_enter Try.func52, Try.ntmps52
      go_wp2
      go_ret
      exact ⟨by simp [h0, h8], rfl⟩
  · have h0' : d < 0 := by omega
    have hz : (decide (0 ≤ d) && decide (d < 8)) = false := by simp [h0]
    rw [hz]
    clear hz
    go_enter Try.func52, Try.ntmps52
    go_wp2
    go_ret
    exact ⟨rfl, rfl⟩

theorem edOk_yes {d : Nat} (h : d < 8) : edOk (d : Int) = true := by simp [edOk]; omega
theorem epOk_yes {d : Nat} (h : d < 32) : epOk (d : Int) = true := by simp [epOk]; omega
theorem evOk_yes {d : Nat} (h : d < 4) : evOk (d : Int) = true := by simp [evOk]; omega
/-- of -/
theorem eOf_nil (d : Int) (w : World) : Calls Try.prog 40 #[.pointer none, .int .i64 d] w fun e w' => e = .returned (.tuple #[.pointer none, .int .i64 7]) ∧ w = w' := by
  go_enter Try.func40, Try.ntmps40
  go_wp2
  go_ret2
  exact ⟨rfl, rfl⟩
theorem eOf_zero (X : Nat) (d : Int) (w : World) (h : w.cell? ⟨X, 0, none⟩ = some (.bool false)) : Calls Try.prog 40 #[.pointer (some ⟨X, 0, none⟩), .int .i64 d] w fun e w' => e = .returned (.tuple #[.pointer none, .int .i64 7]) ∧ w = w' := by
  go_enter Try.func40, Try.ntmps40
  go_wp2
  go_ret2
  exact ⟨rfl, rfl⟩
theorem eOf_no (X : Nat) (d : Int) (w : World) (hd : edOk d = false) (h : w.cell? ⟨X, 0, none⟩ = some (.bool true)) : Calls Try.prog 40 #[.pointer (some ⟨X, 0, none⟩), .int .i64 d] w fun e w' => e = .returned (.tuple #[.pointer none, .int .i64 1]) ∧ w = w' := by
  go_enter Try.func40, Try.ntmps40
  go_wp2_with (go_at_call 41; refine (eIsDomain d _).mono ?_; rintro e w' ⟨rfl, rfl⟩)
  go_ret2
  exact ⟨rfl, rfl⟩
theorem eOf_yes (X d : Nat) (w : World) (hd : d < 8) (h : w.cell? ⟨X, 0, none⟩ = some (.bool true)) : Calls Try.prog 40 #[.pointer (some ⟨X, 0, none⟩), .int .i64 d] w fun e w' => e = .returned (.tuple #[.pointer (some ⟨X, 1 + d * 193, none⟩), .int .i64 0]) ∧ w = w' := by
  have hok := edOk_yes hd
  have h0 : (0 : Int) ≤ d := by omega
  have h8 : (d : Int) < 8 := by omega
  go_enter Try.func40, Try.ntmps40
  go_wp2_with (go_at_call 41; refine (eIsDomain d _).mono ?_; rintro e w' ⟨rfl, rfl⟩)
  go_ret2
  exact ⟨rfl, rfl⟩
/-- at -/
theorem eAt_nil (d p : Int) (w : World) : Calls Try.prog 38 #[.pointer none, .int .i64 d, .int .i64 p] w fun e w' => e = .returned (.tuple #[.pointer none, .pointer none, .int .i64 7]) ∧ w = w' := by
  go_enter Try.func38, Try.ntmps38
  go_wp2_with (go_at_call 40; refine (eOf_nil d _).mono ?_; rintro e w' ⟨rfl, rfl⟩)
  go_ret3
  exact ⟨rfl, rfl⟩
theorem eAt_zero (X : Nat) (d p : Int) (w : World) (h : w.cell? ⟨X, 0, none⟩ = some (.bool false)) : Calls Try.prog 38 #[.pointer (some ⟨X, 0, none⟩), .int .i64 d, .int .i64 p] w fun e w' => e = .returned (.tuple #[.pointer none, .pointer none, .int .i64 7]) ∧ w = w' := by
  go_enter Try.func38, Try.ntmps38
  go_wp2_with (go_at_call 40; refine (eOf_zero X d _ h).mono ?_; rintro e w' ⟨rfl, rfl⟩)
  go_ret3
  exact ⟨rfl, rfl⟩
theorem eAt_no (X : Nat) (d p : Int) (w : World) (hn : ¬ (edOk d = true ∧ epOk p = true)) (h : w.cell? ⟨X, 0, none⟩ = some (.bool true)) : Calls Try.prog 38 #[.pointer (some ⟨X, 0, none⟩), .int .i64 d, .int .i64 p] w fun e w' => e = .returned (.tuple #[.pointer none, .pointer none, .int .i64 1]) ∧ w = w' := by
  cases hd : edOk d with
  | false =>
    have HO := hid (fun W (h : W.cell? ⟨X, 0, none⟩ = some (.bool true)) => eOf_no X d W hd h)
    clear hn
    go_enter Try.func38, Try.ntmps38
    go_wp2_with (go_at_call 40; refine (HO.out _ h).mono ?_; rintro e w' ⟨rfl, rfl⟩)
    go_ret3
    exact ⟨rfl, rfl⟩
  | true =>
    have hp : epOk p = false := by cases h : epOk p; rfl; exact absurd ⟨hd, h⟩ hn
    obtain ⟨d, rfl, hd'⟩ := edOk_nat hd
    have HO := hid (eOf_yes X d w hd' h)
    clear hn hd
    go_enter Try.func38, Try.ntmps38
    go_wp2_with (first
      | (go_at_call 40; refine HO.out.mono ?_; rintro e w' ⟨rfl, rfl⟩)
      | (go_at_call 55; refine (eIsPort p _).mono ?_; rintro e w' ⟨rfl, rfl⟩))
    go_ret3
    exact ⟨rfl, rfl⟩
theorem eAt_yes (X d n : Nat) (w : World) (hd : d < 8) (hn : n < 32) (h : w.cell? ⟨X, 0, none⟩ = some (.bool true)) : Calls Try.prog 38 #[.pointer (some ⟨X, 0, none⟩), .int .i64 d, .int .i64 n] w fun e w' => e = .returned (.tuple #[.pointer (some ⟨X, 1 + d * 193, none⟩), .pointer (some ⟨X, 1 + d * 193 + n * 6, none⟩), .int .i64 0]) ∧ w.grownBy w' none := by
  have HO := hid (eOf_yes X d w hd h)
  have hok := epOk_yes hn
  have h0 : (0 : Int) ≤ n := by omega
  have h8 : (n : Int) < 32 := by omega
  go_enter Try.func38, Try.ntmps38
  go_wp2_with (first
    | (go_at_call 40; refine HO.out.mono ?_; rintro e w' ⟨rfl, rfl⟩)
    | (go_at_call 55; refine (eIsPort n _).mono ?_; rintro e w' ⟨rfl, rfl⟩))
  go_region
  all_goals
    go_wp2
    go_ret3
    exact ⟨rfl, grownBy_drew _ _⟩
/-- used -/
theorem eUsed_nil (d p : Int) (w : World) : Calls Try.prog 45 #[.pointer none, .int .i64 d, .int .i64 p] w fun e w' => e = .returned (.tuple #[.pointer none, .pointer none, .int .i64 7]) ∧ w = w' := by
  go_enter Try.func45, Try.ntmps45
  go_wp2_with (go_at_call 38; refine (eAt_nil d p _).mono ?_; rintro e w' ⟨rfl, rfl⟩)
  go_ret3
  exact ⟨rfl, rfl⟩
theorem eUsed_zero (X : Nat) (d p : Int) (w : World) (h : w.cell? ⟨X, 0, none⟩ = some (.bool false)) : Calls Try.prog 45 #[.pointer (some ⟨X, 0, none⟩), .int .i64 d, .int .i64 p] w fun e w' => e = .returned (.tuple #[.pointer none, .pointer none, .int .i64 7]) ∧ w = w' := by
  go_enter Try.func45, Try.ntmps45
  go_wp2_with (go_at_call 38; refine (eAt_zero X d p _ h).mono ?_; rintro e w' ⟨rfl, rfl⟩)
  go_ret3
  exact ⟨rfl, rfl⟩
theorem eUsed_no (X : Nat) (d p : Int) (w : World) (hn : ¬ (edOk d = true ∧ epOk p = true)) (h : w.cell? ⟨X, 0, none⟩ = some (.bool true)) : Calls Try.prog 45 #[.pointer (some ⟨X, 0, none⟩), .int .i64 d, .int .i64 p] w fun e w' => e = .returned (.tuple #[.pointer none, .pointer none, .int .i64 1]) ∧ w = w' := by
  have HO := hid (eAt_no X d p w hn h)
  clear hn
  go_enter Try.func45, Try.ntmps45
  go_wp2_with (go_at_call 38; refine HO.out.mono ?_; rintro e w' ⟨rfl, rfl⟩)
  go_ret3
  exact ⟨rfl, rfl⟩
theorem eUsed_free (X d n : Nat) (w : World) (S : Ev) (hd : d < 8) (hn : n < 32) (h : EvAt w X S) (hk : (S.pt d n).k = 0) : Calls Try.prog 45 #[.pointer (some ⟨X, 0, none⟩), .int .i64 d, .int .i64 n] w fun e w' => e = .returned (.tuple #[.pointer none, .pointer none, .int .i64 70]) ∧ w.grownBy w' none := by
  have HO := hid (eAt_yes X d n w hd hn h.made)
  have c0 := h.k hd hn
  rw [hk] at c0
  clear hk
  go_enter Try.func45, Try.ntmps45
  go_wp2_with (go_at_call 38; refine HO.out.mono ?_; rintro e w' ⟨rfl, g1⟩; have HG1 := hid g1; have c1 := g1.cell c0 (by simp); clear g1 c0)
  go_ret3
  exact ⟨rfl, HG1.out⟩
theorem eUsed_yes (X d n : Nat) (w : World) (S : Ev) (hd : d < 8) (hn : n < 32) (h : EvAt w X S) (hk : (S.pt d n).k ≠ 0) : Calls Try.prog 45 #[.pointer (some ⟨X, 0, none⟩), .int .i64 d, .int .i64 n] w fun e w' => e = .returned (.tuple #[.pointer (some ⟨X, 1 + d * 193, none⟩), .pointer (some ⟨X, 1 + d * 193 + n * 6, none⟩), .int .i64 0]) ∧ w.grownBy w' none := by
  have HO := hid (eAt_yes X d n w hd hn h.made)
  have c0 := h.k hd hn
  have hb : ((S.pt d n).k == 0) = false := by simp [hk]
  clear hk
  go_enter Try.func45, Try.ntmps45
  go_wp2_with (go_at_call 38; refine HO.out.mono ?_; rintro e w' ⟨rfl, g1⟩; have HG1 := hid g1; have c1 := g1.cell c0 (by simp); clear g1 c0)
  go_ret3
  exact ⟨rfl, HG1.out⟩
/-- what a call leaves -/
def ELeft (X : Nat) (w : World) (S : Ev) (w' : World) : Prop := EvAt w' X S ∧ w.grownBy w' (some X)
theorem ELeft.same {X : Nat} {w : World} {S : Ev} (h : EvAt w X S) : ELeft X w S w := ⟨h, World.grownBy.refl _ _⟩
theorem ELeft.of {X : Nat} {w w' : World} {S : Ev} (h : EvAt w X S) (hg : w.grownBy w' none) : ELeft X w S w' := ⟨h.grow0 hg, grown_any hg _⟩
theorem ELeft.trans {X : Nat} {w w' w2 : World} {S S2 : Ev} (h : ELeft X w S w') (k : ELeft X w' S2 w2) : ELeft X w S2 w2 := ⟨k.1, h.2.trans k.2⟩
/-- pend -/
theorem ePend (X d n : Nat) (w : World) (S : Ev) (hd : d < 8) (hn : n < 32) (h : EvAt w X S) : Calls Try.prog 39 #[.pointer (some ⟨X, 1 + d * 193, none⟩), .int .i64 n] w fun e w' => e = .returned (.tuple #[]) ∧ ELeft X w (pendE S d n) w' := by
  have h0 : (0 : Int) ≤ n := by omega
  have h8 : (n : Int) < 32 := by omega
  have c4 := h.pe hd hn; have c5 := h.ma hd hn; have cu := h.up hd
  have f4 := h.fz (1 + d * 193 + n * 6 + 4); have fu := h.fz (1 + d * 193 + 192)
  have s1 := h.setPe hd hn true
  have H1 := hid s1
  have HG := hid (grownBy_setCell w X (1 + d * 193 + n * 6 + 4) none (.bool true))
  clear s1
  cases hm : (S.pt d n).ma with
  | true =>
    rw [hm] at c5
    have HE := hid (show pendE S d n = S.upd d n { S.pt d n with pe := true } by unfold pendE; rw [if_pos hm])
    clear hm h
    go_enter Try.func39, Try.ntmps39
    go_wp2
    first | go_end0 | ((try simp only [Exit.inBlock, Exit.then]); refine bodyPost_ret (results_none rfl _ _ _) rfl ?_)
    rw [HE.out]
    exact ⟨rfl, H1.out, HG.out⟩
  | false =>
    rw [hm] at c5
    have HE := hid (show pendE S d n = (S.upd d n { S.pt d n with pe := true }).setUp d true by unfold pendE; rw [if_neg (by simp [hm])])
    have H2 := hid (H1.out.setUp hd true)
    clear hm h
    go_enter Try.func39, Try.ntmps39
    go_wp2
    first | go_end0 | ((try simp only [Exit.inBlock, Exit.then]); refine bodyPost_ret (results_none rfl _ _ _) rfl ?_)
    rw [HE.out]
    exact ⟨rfl, H2.out, HG.out.trans (grownBy_setCell _ _ _ none _)⟩
end Go.Proofs.Ytjgikapoohibnaa
