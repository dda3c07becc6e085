/-
  Package p2m: contracts of New, Set, Clear, Hole.
-/
import Derived.Test.YtbbaplcfhofeeaaK17
set_option linter.unusedSimpArgs false
set_option linter.unusedVariables false
namespace Go.Proofs.Ytbbaplcfhofeeaa
open Go.RowKit Gen
set_option maxHeartbeats 400000

/-- a map that a call made -/
def NewP (w : World) (M : Mp) (T : Nat) (v : Value) (w' : World) : Prop := ∃ b f p, v = .pointer (some ⟨b, 0, none⟩) ∧ PMap w' b f p M T ∧ w.grownBy w' none ∧ ∀ k, pfoot b f p k → w.heap.size ≤ k
/-- what a call leaves of the map -/
structure PLeft (b f p : Nat) (w : World) (M : Mp) (T : Nat) (w' : World) : Prop where
  map : PMap w' b f p M T
  chg : Chg (pfoot b f p) w w'

theorem pNew_no (n : Int) (w : World) (h : n < 0 ∨ 48 < n) : Calls Try.prog 41 #[.int .i64 n] w fun e w' => e = .returned (.tuple #[.pointer none, .int .i64 1]) ∧ w = w' := by
  by_cases h0 : n < 0
  · clear h
    go_enter Try.func41, Try.ntmps41
    go_wp2
    go_ret2
    exact ⟨rfl, rfl⟩
  · have h1 : 48 < n := by omega
    clear h
    go_enter Try.func41, Try.ntmps41
    go_wp2
    go_ret2
    exact ⟨rfl, rfl⟩
theorem pNew_yes (n : Nat) (w : World) (h : n ≤ 48) : Calls Try.prog 41 #[.int .i64 n] w fun e w' => ∃ v, e = .returned (.tuple #[v, .int .i64 0]) ∧ NewP w (.empty n) 0 v w' := by
  have h0 : (0 : Int) ≤ n := by omega
  have h1 : (n : Int) ≤ 48 := by omega
  have hmm := @run_makeMap Try.prog
  go_enter Try.func41, Try.ntmps41
  go_wp2
  go_ret2
  refine ⟨_, rfl, w.heap.size + 2, w.heap.size, w.heap.size + 1, rfl, ⟨?_, ?_, ?_, by omega⟩, ((World.grownBy_alloc w _ none).trans (World.grownBy_alloc _ _ none)).trans (World.grownBy_alloc _ _ none), fun k hk => by rcases hk with rfl | rfl | rfl <;> omega⟩
  · have e : ((w.alloc (.map #[] 0)).alloc (.map #[] 0)).heap.size = w.heap.size + 2 := by simp
    rw [← e]
    exact Row.new _ _ _ _ _ (by simp) fun k hk => by match k, hk with | 0, _ => rfl | 1, _ => rfl | 2, _ => rfl
  · exact ((IMap.made w _ _ _).alloc _).alloc _
  · have e : (w.alloc (.map #[] 0)).heap.size = w.heap.size + 1 := by simp
    rw [← e]
    exact (IMap.made (w.alloc (.map #[] 0)) _ _ _).alloc _

/-- Set -/
def Mp.setE (M : Mp) (g m : Int) : Mp × Int :=
  if (inPl M.n g && inFr m) = true then (if (M.fr g).isSome = true then (M, 30) else if (M.pl m).isSome = true then (M, 8) else (M.set g m, 0)) else (M, 1)
theorem Mp.setE_ok {M : Mp} (h : M.ok) (g m : Int) : (M.setE g m).1.ok := by
  unfold Mp.setE
  split
  · rename_i h1
    simp only [Bool.and_eq_true, inPl_yes, inFr_yes] at h1
    split
    · exact h
    · rename_i h2
      split
      · exact h
      · rename_i h3
        exact Mp.set_ok h h1.1.1 h1.1.2 h1.2.1 h1.2.2 (by simpa using h2) (by simpa using h3)
  · exact h
theorem pSet_nil (g m : Int) (w : World) : Calls Try.prog 42 #[.pointer none, .int .i64 g, .int .i64 m] w fun e w' => e = .returned (.int .i64 7) ∧ w = w' := by
  go_enter Try.func42, Try.ntmps42
  go_wp2_with (go_at_call 52; refine (pmade_nil _).mono ?_; rintro e w' ⟨rfl, rfl⟩)
  go_ret
  exact ⟨rfl, rfl⟩
theorem pSet_zero (b : Nat) (g m : Int) (w : World) (h : w.cell? ⟨b, 1, none⟩ = some (.map none)) : Calls Try.prog 42 #[.pointer (some ⟨b, 0, none⟩), .int .i64 g, .int .i64 m] w fun e w' => e = .returned (.int .i64 7) ∧ w = w' := by
  go_enter Try.func42, Try.ntmps42
  go_wp2_with (go_at_call 52; refine (pmade_zero _ _ h).mono ?_; rintro e w' ⟨rfl, rfl⟩)
  go_ret
  exact ⟨rfl, rfl⟩
theorem pSet_yes (b f p : Nat) (M : Mp) (T : Nat) (g m : Int) (hg : I64 g) (hm : I64 m) (hT : T < maxLen) (w : World) (h : PMap w b f p M T) :
    Calls Try.prog 42 #[.pointer (some ⟨b, 0, none⟩), .int .i64 g, .int .i64 m] w fun e w' => e = .returned (.int .i64 (M.setE g m).2) ∧ PLeft b f p w (M.setE g m).1 (T + 1) w' := by
  have c0 := h.c0
  have c1 := h.c1
  have c2 := h.c2
  have HF := hid h.fr
  have HP := hid h.pl
  have HG := hid hg
  have HM := hid hm
  have HT := hid hT
  have HH := hid h
  have hbf := h.bf
  have hbp := h.bp
  have hfp := h.ne
  clear h hg hm hT
  cases hp : inPl M.n g with
  | false =>
    have HV := hid (show M.setE g m = (M, 1) by unfold Mp.setE; rw [hp]; rfl)
    rw [HV.out]
    go_enter Try.func42, Try.ntmps42
    go_wp2_with (first
      | (go_at_call 52; refine (pmade_yes _ _ _ c1).mono ?_; rintro e w' ⟨rfl, rfl⟩)
      | (go_at_call 53; refine (isPlace_any b M.n g _ c0).mono ?_; rintro e w' ⟨rfl, rfl⟩))
    go_ret
    exact ⟨rfl, HH.out.mono (by omega), Chg.refl _ _⟩
  | true =>
  cases hq : inFr m with
  | false =>
    have HV := hid (show M.setE g m = (M, 1) by unfold Mp.setE; rw [hp, hq]; rfl)
    rw [HV.out]
    go_enter Try.func42, Try.ntmps42
    go_wp2_with (first
      | (go_at_call 52; refine (pmade_yes _ _ _ c1).mono ?_; rintro e w' ⟨rfl, rfl⟩)
      | (go_at_call 53; refine (isPlace_any b M.n g _ c0).mono ?_; rintro e w' ⟨rfl, rfl⟩)
      | (go_at_call 54; refine (isFrame_any m _).mono ?_; rintro e w' ⟨rfl, rfl⟩))
    go_ret
    exact ⟨rfl, HH.out.mono (by omega), Chg.refl _ _⟩
  | true =>
  cases hf : (M.fr g).isSome with
  | true =>
    have HV := hid (show M.setE g m = (M, 30) by unfold Mp.setE; rw [hp, hq, hf]; rfl)
    have HI := hid hf
    rw [HV.out]
    clear hf
    go_enter Try.func42, Try.ntmps42
    go_wp2_with (first
      | (go_at_call 52; refine (pmade_yes _ _ _ c1).mono ?_; rintro e w' ⟨rfl, rfl⟩)
      | (go_at_call 53; refine (isPlace_any b M.n g _ c0).mono ?_; rintro e w' ⟨rfl, rfl⟩)
      | (go_at_call 54; refine (isFrame_any m _).mono ?_; rintro e w' ⟨rfl, rfl⟩)
      | (at_lookup; refine wpList_lookup_imap _ rfl _ _ 115 rfl 3 3 int_key Try.underlying3 Try.underlying115 Try.underlying3 (int_zero _) f T M.fr rfl HF.out g rfl HG.out ?_; rw [HI.out]))
    go_ret
    exact ⟨rfl, HH.out.mono (by omega), Chg.refl _ _⟩
  | false =>
  cases hk : (M.pl m).isSome with
  | true =>
    have HV := hid (show M.setE g m = (M, 8) by unfold Mp.setE; rw [hp, hq, hf, hk]; rfl)
    have HI := hid hf
    have HJ := hid hk
    rw [HV.out]
    clear hf hk
    go_enter Try.func42, Try.ntmps42
    go_wp2_with (first
      | (go_at_call 52; refine (pmade_yes _ _ _ c1).mono ?_; rintro e w' ⟨rfl, rfl⟩)
      | (go_at_call 53; refine (isPlace_any b M.n g _ c0).mono ?_; rintro e w' ⟨rfl, rfl⟩)
      | (go_at_call 54; refine (isFrame_any m _).mono ?_; rintro e w' ⟨rfl, rfl⟩)
      | (at_lookup; refine wpList_lookup_imap _ rfl _ _ 115 rfl 3 3 int_key Try.underlying3 Try.underlying115 Try.underlying3 (int_zero _) f T M.fr rfl HF.out g rfl HG.out ?_; rw [HI.out])
      | (at_lookup; refine wpList_lookup_imap _ rfl _ _ 115 rfl 3 3 int_key Try.underlying3 Try.underlying115 Try.underlying3 (int_zero _) p T M.pl rfl HP.out m rfl HM.out ?_; rw [HJ.out]))
    go_ret
    exact ⟨rfl, HH.out.mono (by omega), Chg.refl _ _⟩
  | false =>
    have HV := hid (show M.setE g m = (M.set g m, 0) by unfold Mp.setE; rw [hp, hq, hf, hk]; rfl)
    have HI := hid hf
    have HJ := hid hk
    rw [HV.out]
    clear hf hk
    go_enter Try.func42, Try.ntmps42
    go_wp2_with (first
      | (go_at_call 52; refine (pmade_yes _ _ _ c1).mono ?_; rintro e w' ⟨rfl, rfl⟩)
      | (go_at_call 53; refine (isPlace_any b M.n g _ c0).mono ?_; rintro e w' ⟨rfl, rfl⟩)
      | (go_at_call 54; refine (isFrame_any m _).mono ?_; rintro e w' ⟨rfl, rfl⟩)
      | (at_lookup; refine wpList_lookup_imap _ rfl _ _ 115 rfl 3 3 int_key Try.underlying3 Try.underlying115 Try.underlying3 (int_zero _) f T M.fr rfl HF.out g rfl HG.out ?_; rw [HI.out])
      | (at_lookup; refine wpList_lookup_imap _ rfl _ _ 115 rfl 3 3 int_key Try.underlying3 Try.underlying115 Try.underlying3 (int_zero _) p T M.pl rfl HP.out m rfl HM.out ?_; rw [HJ.out])
      | (at_mapUpdate; refine wpList_mapUpdate_imap _ rfl _ _ _ 115 rfl 3 3 int_key Try.underlying3 Try.underlying115 Try.underlying3 f T M.fr rfl HF.out HT.out g m rfl rfl HG.out HM.out ?_; intro w1 h1 g1; have d2 := g1.cell c2 (by simp; omega); have HF1 := hid h1; have HP1 := hid (HP.out.grown g1 (by simp; omega)); have HR1 := hid (HH.out.top.grown g1 (by simp; omega)); have HG1 := hid g1; clear h1 g1)
      | (at_mapUpdate; refine wpList_mapUpdate_imap _ rfl _ _ _ 115 rfl 3 3 int_key Try.underlying3 Try.underlying115 Try.underlying3 p T M.pl rfl HP1.out HT.out m g rfl rfl HM.out HG.out ?_; intro w2 h2 g2; have HP2 := hid h2; have HF2 := hid (HF1.out.grown g2 (by simp; omega)); have HR2 := hid (HR1.out.grown g2 (by simp; omega)); have HG2 := hid g2; clear h2 g2))
    go_ret
    exact ⟨rfl, ⟨HR2.out, HF2.out, HP2.out, hfp⟩, (Chg.one HG1.out (.inr (.inl rfl))).trans (Chg.one HG2.out (S := pfoot b f p) (.inr (.inr rfl))) fun k hk => .inl hk⟩

/-- Clear -/
def Mp.clearE (M : Mp) (g : Int) : Mp × Int × Int := match M.getE g with | (m, 0) => (M.clr g m, m, 0) | (_, e) => (M, 0, e)
theorem Mp.getE_cases (M : Mp) (g : Int) : (∃ m, inPl M.n g = true ∧ M.fr g = some m ∧ M.getE g = (m, 0) ∧ M.clearE g = (M.clr g m, m, 0)) ∨ (inPl M.n g = true ∧ M.fr g = none ∧ M.getE g = (0, 6) ∧ M.clearE g = (M, 0, 6)) ∨ (inPl M.n g = false ∧ M.getE g = (0, 1) ∧ M.clearE g = (M, 0, 1)) := by
  unfold Mp.clearE Mp.getE
  cases h : inPl M.n g with
  | true =>
    cases hf : M.fr g with
    | some m => exact .inl ⟨m, rfl, rfl, rfl, rfl⟩
    | none => exact .inr (.inl ⟨rfl, rfl, rfl, rfl⟩)
  | false => exact .inr (.inr ⟨rfl, rfl, rfl⟩)
theorem Mp.clearE_ok {M : Mp} (h : M.ok) (g : Int) : (M.clearE g).1.ok := by
  rcases M.getE_cases g with ⟨m, _, hf, _, e⟩ | ⟨_, _, _, e⟩ | ⟨_, _, e⟩
  · rw [e]; exact Mp.clr_ok h hf
  · rw [e]; exact h
  · rw [e]; exact h
/-- Hole -/
def Mp.holeE (M : Mp) : Int × Int := match (List.range M.n).find? (fun k : Nat => (M.fr (k : Int)).isNone) with | some k => ((k : Int), 0) | none => (0, 6)
theorem Mp.holeE_at {M : Mp} {k : Nat} (hk : k < M.n) (hb : ∀ j : Nat, j < k → (M.fr j).isSome = true) (hn : (M.fr k).isSome = false) : M.holeE = ((k : Int), 0) := by
  unfold Mp.holeE
  have : (List.range M.n).find? (fun k : Nat => (M.fr (k : Int)).isNone) = some k := by
    rw [List.find?_range_eq_some]
    refine ⟨by cases h : M.fr k <;> simp_all, by simpa using hk, fun j hj => ?_⟩
    have := hb j hj
    cases h : M.fr j <;> simp_all
  rw [this]
theorem Mp.holeE_none {M : Mp} (hb : ∀ j : Nat, j < M.n → (M.fr j).isSome = true) : M.holeE = (0, 6) := by
  unfold Mp.holeE
  have : (List.range M.n).find? (fun k : Nat => (M.fr (k : Int)).isNone) = none := by
    rw [List.find?_range_eq_none]
    intro j hj
    have := hb j hj
    cases h : M.fr j <;> simp_all
  rw [this]
end Go.Proofs.Ytbbaplcfhofeeaa
