/-
  Package path: inName, Name.
-/
import Derived.Test.YtmnolfaejneomaaDoorPaP
import Derived.Test.YtmnolfaejneomaaDoorChecked
import Derived.WalkKit
import Derived.Deep.QuietTactic
import Derived.BigQuiet
import Derived.Laws.RangeAny
import Derived.Below
set_option linter.unusedSimpArgs false
set_option linter.unusedVariables false
namespace Go.Proofs.YtmnolfaejneomaaDoor
open Go.RowKit
set_option maxHeartbeats 1000000
theorem inNameB_eq (r : Nat) : inNameB r = decide ((97 ≤ r ∧ r ≤ 122) ∨ (65 ≤ r ∧ r ≤ 90) ∨ (48 ≤ r ∧ r ≤ 57) ∨ r = 45 ∨ r = 95 ∨ r = 46 ∨ r = 64) := by
  rw [Bool.eq_iff_iff]
  simp only [inNameB, Bool.or_eq_true, Bool.and_eq_true, decide_eq_true_eq, beq_iff_eq]
  omega
theorem paIn (r : Nat) (w : World) : Calls Tryd.prog 38 #[.int .i32 r] w fun e w' => e = .returned (.bool (inNameB r)) ∧ w = w' := by
  by_cases h45 : r = 45
  · subst h45; go_enter Tryd.func38, Tryd.ntmps38; go_wp2; go_ret; exact ⟨rfl, rfl⟩
  by_cases h95 : r = 95
  · subst h95; go_enter Tryd.func38, Tryd.ntmps38; go_wp2; go_ret; exact ⟨rfl, rfl⟩
  by_cases h46 : r = 46
  · subst h46; go_enter Tryd.func38, Tryd.ntmps38; go_wp2; go_ret; exact ⟨rfl, rfl⟩
  by_cases h64 : r = 64
  · subst h64; go_enter Tryd.func38, Tryd.ntmps38; go_wp2; go_ret; exact ⟨rfl, rfl⟩
  have e1 : ((r : Int) == 45) = false := by simp; omega
  have e2 : ((r : Int) == 95) = false := by simp; omega
  have e3 : ((r : Int) == 46) = false := by simp; omega
  have e4 : ((r : Int) == 64) = false := by simp; omega
  go_enter Tryd.func38, Tryd.ntmps38
  go_wp2
  all_goals go_ret
  all_goals refine ⟨?_, rfl⟩
  all_goals first
    | (rw [show inNameB r = true by rw [inNameB_eq]; exact decide_eq_true (by omega)]; rfl)
    | (rw [show inNameB r = false by rw [inNameB_eq]; exact decide_eq_false (by omega)]; rfl)
def NmPost (s : ByteArray) (w : World) (e : Ending) (w' : World) : Prop := e = .returned (.tuple #[.int .i64 (nmV s.data.toList).1, .int .i64 (nmV s.data.toList).2]) ∧ Below w.heap.size w w'
theorem ne_nil {s : ByteArray} (h : s ≠ ⟨#[]⟩) : s.data.toList ≠ [] := by
  intro e
  apply h
  obtain ⟨⟨l⟩⟩ := s
  simp only at e
  rw [e]
theorem ne_empty {s : ByteArray} (h : s ≠ ⟨#[]⟩) : s.toList.isEmpty = false := by
  rw [ByteArray.toList_eq]
  cases hl : s.data.toList with
  | nil => exact absurd hl (ne_nil h)
  | cons _ _ => rfl
theorem drop_at (s : ByteArray) (pos : Nat) (h : pos < s.size) : s.data.toList.drop pos = s[pos] :: s.data.toList.drop (pos + 1) := by
  rw [List.drop_eq_getElem_cons (by simpa using h)]; rfl
theorem decode_in {s : ByteArray} {pos : Nat} (h : pos < s.size) : inNameB (Utf8.decode s pos).1 = inNameB (s[pos]'h).toNat := by
  by_cases ha : (s[pos]'h).toNat < 128
  · rw [decode_ascii s pos h ha]
  · rw [inNameB_high (decode_high s pos h (by omega)).1, inNameB_high (c := (s[pos]'h).toNat) (by omega)]
theorem decode_one {s : ByteArray} {pos : Nat} (h : pos < s.size) (hi : inNameB (s[pos]'h).toNat = true) : (Utf8.decode s pos).2 = 1 := by
  rw [decode_ascii s pos h (inNameB_low hi)]
theorem paName (s : ByteArray) (w : World) : Calls Tryd.prog 18 #[.string s] w (NmPost s w) := by
  by_cases hne : s = ⟨#[]⟩
  · subst hne
    go_enter Tryd.func18, Tryd.ntmps18
    go_wp2
    go_ret2
    exact ⟨rfl, Below.refl _ _⟩
  have n1 := ne_empty hne
  have n2 : nmV s.data.toList = nmGo s.data.toList 0 := by unfold nmV; rw [if_neg (ne_nil hne)]
  have N2 := hid n2
  clear n2
  go_enter Tryd.func18, Tryd.ntmps18
  go_wp2
  go_loopw [] (fun wr => ∃ pos : Nat, wr = w.iter s pos ∧ pos ≤ s.size ∧ pos ≤ 32 ∧ nmGo (s.data.toList.drop pos) pos = nmV s.data.toList) (fun wr => s.size - wr.iterPos w.heap.size)
  case atStart => exact ⟨0, rfl, Nat.zero_le _, Nat.zero_le _, by rw [N2.out]; rfl⟩
  case round =>
    obtain ⟨pos, rfl, hp, h32, hg⟩ := hrel
    have HG := hid hg
    clear hg
    by_cases hlt : pos < s.size
    · have hnx := fun ty => run_next_any (P := Tryd.prog) w s pos ty hlt
      have HD := hid (decode_in hlt)
      have H1 := hid (decode_one hlt)
      cases hin : inNameB (s[pos]'hlt).toNat with
      | true =>
        have D := HD.out.trans hin
        by_cases he : pos = 32
        · have e1 : ((pos : Int) == 32) = true := by simp; omega
          have HE := hid he
          clear he
          go_wp2_with (go_at_call 38; refine (paIn _ _).mono ?_; rintro e w' ⟨rfl, rfl⟩)
          go_ret2
          have hv : nmV s.data.toList = (pos, 2) := by rw [← HG.out, drop_at s pos hlt, nmGo, if_pos hin, if_pos HE.out]
          exact ⟨by rw [hv]; rfl, (Below.refl _ w).alloc (Nat.le_refl _) _⟩
        · have e1 : ((pos : Int) == 32) = false := by simp; omega
          go_wp2_with (go_at_call 38; refine (paIn _ _).mono ?_; rintro e w' ⟨rfl, rfl⟩)
          go_roundw
          case rel =>
            refine ⟨pos + 1, by rw [H1.out hin], by omega, by simp at e1; omega, ?_⟩
            rw [← HG.out, drop_at s pos hlt, nmGo, if_pos hin, if_neg (by simp at e1; omega)]
          case measure =>
            rw [H1.out hin]
            simp only [World.iterPos_iter]
            omega
      | false =>
        have D := HD.out.trans hin
        go_wp2_with (go_at_call 38; refine (paIn _ _).mono ?_; rintro e w' ⟨rfl, rfl⟩)
        go_ret2
        have hv : nmV s.data.toList = (pos, 90) := by rw [← HG.out, drop_at s pos hlt, nmGo, if_neg (by rw [hin]; decide)]
        exact ⟨by rw [hv]; rfl, (Below.refl _ w).alloc (Nat.le_refl _) _⟩
    · have hnx := fun ty => run_next_end (P := Tryd.prog) w s pos ty hlt
      go_wp2
      go_ret2
      have hv : nmV s.data.toList = (0, 0) := by rw [← HG.out, List.drop_of_length_le (by simpa using hlt)]; rfl
      exact ⟨by rw [hv]; rfl, (Below.refl _ w).alloc (Nat.le_refl _) _⟩
end Go.Proofs.YtmnolfaejneomaaDoor
