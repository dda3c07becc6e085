/-
  Package bridge: a port's cells set one by one; a queue set. By gen_brs.py.
-/
import Derived.Test.YtolfjbodgdjbjaaGreatBrA
set_option linter.unusedSimpArgs false
set_option linter.unusedVariables false
namespace Go.Proofs.YtolfjbodgdjbjaaGreat.Br
open Go.RowKit Gen Bk
section
variable {C : Nat → Prop} {lab lab' lab1 : Nat → Nat} {w w' w1 : World} {b g m : Nat} {lq : Nat → Lq} {S : Sw} {k : Nat} {s : Sd}
theorem PS.set_burst (h : PS lab w b g m lq (S.set k s)) (hn : S.n ≤ 8) (hk : k < S.n) (x : Nat) {y : Int} (hy : (x : Int) = y) : PS lab (w.setCell ⟨g, k * 13, none⟩ (.int .i64 y)) b g m lq (S.set k { s with burst := x }) ∧ w.grownBy (w.setCell ⟨g, k * 13, none⟩ (.int .i64 y)) (some g) :=
  ⟨h.setc (f := 0) hn hk (by omega) (by subst hy; rfl) (fun j hj hne => by
    match j, hj, hne with | 0, _, h => exact absurd rfl h | 1, _, _ => rfl | 2, _, _ => rfl | 3, _, _ => rfl | 4, _, _ => rfl | 5, _, _ => rfl | 6, _, _ => rfl | 7, _, _ => rfl | 8, _, _ => rfl | 9, _, _ => rfl | 10, _, _ => rfl | 11, _, _ => rfl | 12, _, _ => rfl) rfl, grownBy_setCell _ _ _ _ _⟩
theorem PS.at_burst (h : PS lab w b g m lq (S.set k s)) (hk : k < S.n) : w.cell? ⟨g, k * 13, none⟩ = some (.int .i64 s.burst) := h.ats (f := 0) hk (by omega)
theorem PS.set_rate (h : PS lab w b g m lq (S.set k s)) (hn : S.n ≤ 8) (hk : k < S.n) (x : Nat) {y : Int} (hy : (x : Int) = y) : PS lab (w.setCell ⟨g, k * 13 + 1, none⟩ (.int .i64 y)) b g m lq (S.set k { s with rate := x }) ∧ w.grownBy (w.setCell ⟨g, k * 13 + 1, none⟩ (.int .i64 y)) (some g) :=
  ⟨h.setc (f := 1) hn hk (by omega) (by subst hy; rfl) (fun j hj hne => by
    match j, hj, hne with | 0, _, _ => rfl | 1, _, h => exact absurd rfl h | 2, _, _ => rfl | 3, _, _ => rfl | 4, _, _ => rfl | 5, _, _ => rfl | 6, _, _ => rfl | 7, _, _ => rfl | 8, _, _ => rfl | 9, _, _ => rfl | 10, _, _ => rfl | 11, _, _ => rfl | 12, _, _ => rfl) rfl, grownBy_setCell _ _ _ _ _⟩
theorem PS.at_rate (h : PS lab w b g m lq (S.set k s)) (hk : k < S.n) : w.cell? ⟨g, k * 13 + 1, none⟩ = some (.int .i64 s.rate) := h.ats (f := 1) hk (by omega)
theorem PS.set_credit (h : PS lab w b g m lq (S.set k s)) (hn : S.n ≤ 8) (hk : k < S.n) (x : Nat) {y : Int} (hy : (x : Int) = y) : PS lab (w.setCell ⟨g, k * 13 + 2, none⟩ (.int .i64 y)) b g m lq (S.set k { s with credit := x }) ∧ w.grownBy (w.setCell ⟨g, k * 13 + 2, none⟩ (.int .i64 y)) (some g) :=
  ⟨h.setc (f := 2) hn hk (by omega) (by subst hy; rfl) (fun j hj hne => by
    match j, hj, hne with | 0, _, _ => rfl | 1, _, _ => rfl | 2, _, h => exact absurd rfl h | 3, _, _ => rfl | 4, _, _ => rfl | 5, _, _ => rfl | 6, _, _ => rfl | 7, _, _ => rfl | 8, _, _ => rfl | 9, _, _ => rfl | 10, _, _ => rfl | 11, _, _ => rfl | 12, _, _ => rfl) rfl, grownBy_setCell _ _ _ _ _⟩
theorem PS.at_credit (h : PS lab w b g m lq (S.set k s)) (hk : k < S.n) : w.cell? ⟨g, k * 13 + 2, none⟩ = some (.int .i64 s.credit) := h.ats (f := 2) hk (by omega)
theorem PS.set_taken (h : PS lab w b g m lq (S.set k s)) (hn : S.n ≤ 8) (hk : k < S.n) (x : Nat) {y : Int} (hy : (x : Int) = y) : PS lab (w.setCell ⟨g, k * 13 + 4, none⟩ (.int .i64 y)) b g m lq (S.set k { s with taken := x }) ∧ w.grownBy (w.setCell ⟨g, k * 13 + 4, none⟩ (.int .i64 y)) (some g) :=
  ⟨h.setc (f := 4) hn hk (by omega) (by subst hy; rfl) (fun j hj hne => by
    match j, hj, hne with | 0, _, _ => rfl | 1, _, _ => rfl | 2, _, _ => rfl | 3, _, _ => rfl | 4, _, h => exact absurd rfl h | 5, _, _ => rfl | 6, _, _ => rfl | 7, _, _ => rfl | 8, _, _ => rfl | 9, _, _ => rfl | 10, _, _ => rfl | 11, _, _ => rfl | 12, _, _ => rfl) rfl, grownBy_setCell _ _ _ _ _⟩
theorem PS.at_taken (h : PS lab w b g m lq (S.set k s)) (hk : k < S.n) : w.cell? ⟨g, k * 13 + 4, none⟩ = some (.int .i64 s.taken) := h.ats (f := 4) hk (by omega)
theorem PS.set_fw (h : PS lab w b g m lq (S.set k s)) (hn : S.n ≤ 8) (hk : k < S.n) (x : Nat) {y : Int} (hy : (x : Int) = y) : PS lab (w.setCell ⟨g, k * 13 + 5, none⟩ (.int .i64 y)) b g m lq (S.set k { s with fw := x }) ∧ w.grownBy (w.setCell ⟨g, k * 13 + 5, none⟩ (.int .i64 y)) (some g) :=
  ⟨h.setc (f := 5) hn hk (by omega) (by subst hy; rfl) (fun j hj hne => by
    match j, hj, hne with | 0, _, _ => rfl | 1, _, _ => rfl | 2, _, _ => rfl | 3, _, _ => rfl | 4, _, _ => rfl | 5, _, h => exact absurd rfl h | 6, _, _ => rfl | 7, _, _ => rfl | 8, _, _ => rfl | 9, _, _ => rfl | 10, _, _ => rfl | 11, _, _ => rfl | 12, _, _ => rfl) rfl, grownBy_setCell _ _ _ _ _⟩
theorem PS.at_fw (h : PS lab w b g m lq (S.set k s)) (hk : k < S.n) : w.cell? ⟨g, k * 13 + 5, none⟩ = some (.int .i64 s.fw) := h.ats (f := 5) hk (by omega)
theorem PS.set_mal (h : PS lab w b g m lq (S.set k s)) (hn : S.n ≤ 8) (hk : k < S.n) (x : Nat) {y : Int} (hy : (x : Int) = y) : PS lab (w.setCell ⟨g, k * 13 + 6, none⟩ (.int .i64 y)) b g m lq (S.set k { s with mal := x }) ∧ w.grownBy (w.setCell ⟨g, k * 13 + 6, none⟩ (.int .i64 y)) (some g) :=
  ⟨h.setc (f := 6) hn hk (by omega) (by subst hy; rfl) (fun j hj hne => by
    match j, hj, hne with | 0, _, _ => rfl | 1, _, _ => rfl | 2, _, _ => rfl | 3, _, _ => rfl | 4, _, _ => rfl | 5, _, _ => rfl | 6, _, h => exact absurd rfl h | 7, _, _ => rfl | 8, _, _ => rfl | 9, _, _ => rfl | 10, _, _ => rfl | 11, _, _ => rfl | 12, _, _ => rfl) rfl, grownBy_setCell _ _ _ _ _⟩
theorem PS.at_mal (h : PS lab w b g m lq (S.set k s)) (hk : k < S.n) : w.cell? ⟨g, k * 13 + 6, none⟩ = some (.int .i64 s.mal) := h.ats (f := 6) hk (by omega)
theorem PS.set_noCr (h : PS lab w b g m lq (S.set k s)) (hn : S.n ≤ 8) (hk : k < S.n) (x : Nat) {y : Int} (hy : (x : Int) = y) : PS lab (w.setCell ⟨g, k * 13 + 7, none⟩ (.int .i64 y)) b g m lq (S.set k { s with noCr := x }) ∧ w.grownBy (w.setCell ⟨g, k * 13 + 7, none⟩ (.int .i64 y)) (some g) :=
  ⟨h.setc (f := 7) hn hk (by omega) (by subst hy; rfl) (fun j hj hne => by
    match j, hj, hne with | 0, _, _ => rfl | 1, _, _ => rfl | 2, _, _ => rfl | 3, _, _ => rfl | 4, _, _ => rfl | 5, _, _ => rfl | 6, _, _ => rfl | 7, _, h => exact absurd rfl h | 8, _, _ => rfl | 9, _, _ => rfl | 10, _, _ => rfl | 11, _, _ => rfl | 12, _, _ => rfl) rfl, grownBy_setCell _ _ _ _ _⟩
theorem PS.at_noCr (h : PS lab w b g m lq (S.set k s)) (hk : k < S.n) : w.cell? ⟨g, k * 13 + 7, none⟩ = some (.int .i64 s.noCr) := h.ats (f := 7) hk (by omega)
theorem PS.set_dir (h : PS lab w b g m lq (S.set k s)) (hn : S.n ≤ 8) (hk : k < S.n) (x : Nat) {y : Int} (hy : (x : Int) = y) : PS lab (w.setCell ⟨g, k * 13 + 8, none⟩ (.int .i64 y)) b g m lq (S.set k { s with dir := x }) ∧ w.grownBy (w.setCell ⟨g, k * 13 + 8, none⟩ (.int .i64 y)) (some g) :=
  ⟨h.setc (f := 8) hn hk (by omega) (by subst hy; rfl) (fun j hj hne => by
    match j, hj, hne with | 0, _, _ => rfl | 1, _, _ => rfl | 2, _, _ => rfl | 3, _, _ => rfl | 4, _, _ => rfl | 5, _, _ => rfl | 6, _, _ => rfl | 7, _, _ => rfl | 8, _, h => exact absurd rfl h | 9, _, _ => rfl | 10, _, _ => rfl | 11, _, _ => rfl | 12, _, _ => rfl) rfl, grownBy_setCell _ _ _ _ _⟩
theorem PS.at_dir (h : PS lab w b g m lq (S.set k s)) (hk : k < S.n) : w.cell? ⟨g, k * 13 + 8, none⟩ = some (.int .i64 s.dir) := h.ats (f := 8) hk (by omega)
theorem PS.set_del (h : PS lab w b g m lq (S.set k s)) (hn : S.n ≤ 8) (hk : k < S.n) (x : Nat) {y : Int} (hy : (x : Int) = y) : PS lab (w.setCell ⟨g, k * 13 + 9, none⟩ (.int .i64 y)) b g m lq (S.set k { s with del := x }) ∧ w.grownBy (w.setCell ⟨g, k * 13 + 9, none⟩ (.int .i64 y)) (some g) :=
  ⟨h.setc (f := 9) hn hk (by omega) (by subst hy; rfl) (fun j hj hne => by
    match j, hj, hne with | 0, _, _ => rfl | 1, _, _ => rfl | 2, _, _ => rfl | 3, _, _ => rfl | 4, _, _ => rfl | 5, _, _ => rfl | 6, _, _ => rfl | 7, _, _ => rfl | 8, _, _ => rfl | 9, _, h => exact absurd rfl h | 10, _, _ => rfl | 11, _, _ => rfl | 12, _, _ => rfl) rfl, grownBy_setCell _ _ _ _ _⟩
theorem PS.at_del (h : PS lab w b g m lq (S.set k s)) (hk : k < S.n) : w.cell? ⟨g, k * 13 + 9, none⟩ = some (.int .i64 s.del) := h.ats (f := 9) hk (by omega)
theorem PS.set_noBuf (h : PS lab w b g m lq (S.set k s)) (hn : S.n ≤ 8) (hk : k < S.n) (x : Nat) {y : Int} (hy : (x : Int) = y) : PS lab (w.setCell ⟨g, k * 13 + 11, none⟩ (.int .i64 y)) b g m lq (S.set k { s with noBuf := x }) ∧ w.grownBy (w.setCell ⟨g, k * 13 + 11, none⟩ (.int .i64 y)) (some g) :=
  ⟨h.setc (f := 11) hn hk (by omega) (by subst hy; rfl) (fun j hj hne => by
    match j, hj, hne with | 0, _, _ => rfl | 1, _, _ => rfl | 2, _, _ => rfl | 3, _, _ => rfl | 4, _, _ => rfl | 5, _, _ => rfl | 6, _, _ => rfl | 7, _, _ => rfl | 8, _, _ => rfl | 9, _, _ => rfl | 10, _, _ => rfl | 11, _, h => exact absurd rfl h | 12, _, _ => rfl) rfl, grownBy_setCell _ _ _ _ _⟩
theorem PS.at_noBuf (h : PS lab w b g m lq (S.set k s)) (hk : k < S.n) : w.cell? ⟨g, k * 13 + 11, none⟩ = some (.int .i64 s.noBuf) := h.ats (f := 11) hk (by omega)
theorem PS.set_full (h : PS lab w b g m lq (S.set k s)) (hn : S.n ≤ 8) (hk : k < S.n) (x : Nat) {y : Int} (hy : (x : Int) = y) : PS lab (w.setCell ⟨g, k * 13 + 12, none⟩ (.int .i64 y)) b g m lq (S.set k { s with full := x }) ∧ w.grownBy (w.setCell ⟨g, k * 13 + 12, none⟩ (.int .i64 y)) (some g) :=
  ⟨h.setc (f := 12) hn hk (by omega) (by subst hy; rfl) (fun j hj hne => by
    match j, hj, hne with | 0, _, _ => rfl | 1, _, _ => rfl | 2, _, _ => rfl | 3, _, _ => rfl | 4, _, _ => rfl | 5, _, _ => rfl | 6, _, _ => rfl | 7, _, _ => rfl | 8, _, _ => rfl | 9, _, _ => rfl | 10, _, _ => rfl | 11, _, _ => rfl | 12, _, h => exact absurd rfl h) rfl, grownBy_setCell _ _ _ _ _⟩
theorem PS.at_full (h : PS lab w b g m lq (S.set k s)) (hk : k < S.n) : w.cell? ⟨g, k * 13 + 12, none⟩ = some (.int .i64 s.full) := h.ats (f := 12) hk (by omega)
theorem PS.at_q (h : PS lab w b g m lq (S.set k s)) (hk : k < S.n) : w.cell? ⟨g, k * 13 + 3, none⟩ = some (.slice (lq k).p s.q.length (lq k).c) := h.ats (f := 3) hk (by omega)
theorem PS.at_10 (h : PS lab w b g m lq (S.set k s)) (hk : k < S.n) : w.cell? ⟨g, k * 13 + 10, none⟩ = some (.int .i64 0) := h.ats (f := 10) hk (by omega)
def updL (lq : Nat → Lq) (k : Nat) (L : Lq) : Nat → Lq := fun i => if i = k then L else lq i
theorem updL_same (lq : Nat → Lq) (k : Nat) (L : Lq) : updL lq k L k = L := if_pos rfl
theorem updL_ne (lq : Nat → Lq) {k i : Nat} (L : Lq) (h : i ≠ k) : updL lq k L i = lq i := if_neg h
/-- a queue and its slice are set -/
theorem PS.setq (h : PS lab w b g m lq (S.set k s)) (hn : S.n ≤ 8) (hk : k < S.n) (st : St (fun l => l = 16 + k) lab w lab1 w1) {L : Lq} {ys : List Value} {q' : List (List UInt8)} (hq : QSl lab1 w1 (16 + k) L.p L.c ys) (hf : Frs lab1 w1 ys q') {v : Value} (hv : v = .slice L.p q'.length L.c) :
    PS lab1 (w1.setCell ⟨g, k * 13 + 3, none⟩ v) b g m (updL lq k L) (S.set k { s with q := q' }) ∧ St CP lab w lab1 (w1.setCell ⟨g, k * 13 + 3, none⟩ v) ∧ w1.cell? ⟨g, k * 13 + 3, none⟩ = some (.slice (lq k).p s.q.length (lq k).c) ∧ w1.frozen? ⟨g, k * 13 + 3, none⟩ = false := by
  have hS : (S.set k s).n = S.n := rfl
  have top := st.row h.top (by rw [h.lb]; omega)
  have sides := st.row h.sides (by rw [h.lg]; omega)
  have map := h.map.st st (by rw [h.lm]; omega)
  have lb := (st.keep _ h.top.lt).trans h.lb
  have lg := (st.keep _ h.sides.lt).trans h.lg
  have lm := (st.keep _ h.map.lt).trans h.lm
  have gg := grownBy_setCell w1 g (k * 13 + 3) none v
  have s2 : St (fun l => l = 2) lab1 w1 lab1 (w1.setCell ⟨g, k * 13 + 3, none⟩ v) := St.one gg lg
  refine ⟨⟨top.grown gg (by simp; exact fun e => h.gb e.symm), ?_, map.grown gg (by simp; exact h.mg), fun i hi => ?_, lb, lg, lm⟩, (st.mono fun l e => ?_).tr (s2.mono fun l e => ?_), ?_, sides.frozen _⟩
  · refine Row.set (k := k * 13 + 3) sides (by rw [gcell_at _ _ (by omega), Sw.set_at, updL_same, hv]; rfl) fun j hj hne => ?_
    obtain ⟨a, c, hc, rfl⟩ : ∃ a c, c < 13 ∧ j = a * 13 + c := ⟨j / 13, j % 13, by omega, by omega⟩
    rw [gcell_at _ _ hc, gcell_at _ _ hc]
    by_cases e : a = k
    · subst e
      rw [Sw.set_at, Sw.set_at, updL_same]
      have hc3 : c ≠ 3 := fun e => hne (by rw [e])
      match c, hc, hc3 with | 0, _, _ => rfl | 1, _, _ => rfl | 2, _, _ => rfl | 3, _, h => exact absurd rfl h | 4, _, _ => rfl | 5, _, _ => rfl | 6, _, _ => rfl | 7, _, _ => rfl | 8, _, _ => rfl | 9, _, _ => rfl | 10, _, _ => rfl | 11, _, _ => rfl | 12, _, _ => rfl
    · rw [Sw.set_ne _ _ e, Sw.set_ne _ _ e, updL_ne _ _ e]
  · by_cases e : i = k
    · subst e
      rw [Sw.set_at, updL_same]
      exact ⟨ys, hq.st s2 (by omega), hf.st s2 (by omega)⟩
    · obtain ⟨xs, h1, h2⟩ := h.qs i hi
      rw [Sw.set_ne _ _ e] at h2 ⊢
      rw [updL_ne _ _ e]
      exact ⟨xs, (h1.st st (by omega)).st s2 (by omega), (h2.st st (by omega)).st s2 (by omega)⟩
  · have hi : k < 8 := by omega
    exact ⟨by omega, by omega⟩
  · exact ⟨by omega, by omega⟩
  · exact st.cell (h.at_q hk) (by rw [h.lg]; omega)
/-- behind a call of the program's: the switch is S, only the program's blocks have changed -/
def Aft (lab : Nat → Nat) (w : World) (b g m : Nat) (S : Sw) (w' : World) : Prop := ∃ lab' lq', PS lab' w' b g m lq' S ∧ St CP lab w lab' w'
theorem PS.aft (h : PS lab w b g m lq S) : Aft lab w b g m S w := ⟨_, _, h, St.refl _ _ _⟩
theorem Aft.first {S' : Sw} (h : St CP lab w lab1 w1) (a : Aft lab1 w1 b g m S' w') : Aft lab w b g m S' w' := by
  obtain ⟨l, q, h1, h2⟩ := a
  exact ⟨l, q, h1, h.tr h2⟩
theorem Aft.grow0 {S' : Sw} (a : Aft lab w b g m S' w1) (hn : S'.n ≤ 8) (hg : w1.grownBy w' none) : Aft lab w b g m S' w' := by
  obtain ⟨l, q, h1, h2⟩ := a
  exact ⟨l, q, h1.grown hn hg, h2.tr (St.grown hg)⟩
/-- the queue of port k -/
theorem PS.qat (h : PS lab w b g m lq (S.set k s)) (hk : k < S.n) : ∃ xs, QSl lab w (16 + k) (lq k).p (lq k).c xs ∧ Frs lab w xs s.q := by
  have := h.qs k hk
  rw [Sw.set_at] at this
  exact this
end
end Go.Proofs.YtolfjbodgdjbjaaGreat.Br
