/-
  Ports of all domains in memory: the block of package event, the blocks of tenementref07. No walk here.
-/
import Derived.Test.YtjgikapoohibnaaEvP
import Derived.Test.YtjgikapoohibnaaGen
import Derived.Test.YtjgikapoohibnaaRows
set_option linter.unusedSimpArgs false
set_option linter.unusedVariables false
namespace Go.Proofs.Ytjgikapoohibnaa
open Go.RowKit Gen

def Prt.cell (q : Prt) : Nat → Value
  | 0 => .int .i64 q.k
  | 1 => .int .i64 q.r
  | 2 => .int .i64 q.p
  | 3 => .int .i64 q.v
  | 4 => .bool q.pe
  | _ => .bool q.ma
def Prt.val (q : Prt) : Value := .agg #[.int .i64 q.k, .int .i64 q.r, .int .i64 q.p, .int .i64 q.v, .bool q.pe, .bool q.ma]
def Ev.cell (S : Ev) : Nat → Value
  | 0 => .bool true
  | k + 1 => if k % 193 = 192 then .bool (S.up (k / 193)) else (S.pt (k / 193) (k % 193 / 6)).cell (k % 193 % 6)
theorem Ev.cell_pt (S : Ev) {d n f : Nat} (hn : n < 32) (hf : f < 6) : S.cell (1 + d * 193 + n * 6 + f) = (S.pt d n).cell f := by
  obtain ⟨m, hm⟩ : ∃ m, m = n * 6 + f := ⟨_, rfl⟩
  have hm2 : m < 192 := by omega
  rw [show 1 + d * 193 + n * 6 + f = (d * 193 + m) + 1 by omega]
  show (if (d * 193 + m) % 193 = 192 then _ else _) = _
  have e1 : (d * 193 + m) % 193 = m := by omega
  have e2 : (d * 193 + m) / 193 = d := by omega
  rw [e1, e2, if_neg (by omega), hm, show (n * 6 + f) / 6 = n by omega, show (n * 6 + f) % 6 = f by omega]
theorem Ev.cell_up (S : Ev) (d : Nat) : S.cell (1 + d * 193 + 192) = .bool (S.up d) := by
  rw [show 1 + d * 193 + 192 = (d * 193 + 192) + 1 by omega]
  show (if (d * 193 + 192) % 193 = 192 then _ else _) = _
  rw [if_pos (by omega), show (d * 193 + 192) / 193 = d by omega]
theorem Ev.split {k : Nat} (h : k < 1545) : k = 0 ∨ (∃ d, d < 8 ∧ k = 1 + d * 193 + 192) ∨ ∃ d n f, d < 8 ∧ n < 32 ∧ f < 6 ∧ k = 1 + d * 193 + n * 6 + f := by
  cases k with
  | zero => exact .inl rfl
  | succ k =>
    by_cases e : k % 193 = 192
    · exact .inr (.inl ⟨k / 193, by omega, by omega⟩)
    · exact .inr (.inr ⟨k / 193, k % 193 / 6, k % 193 % 6, by omega, by omega, by omega, by omega⟩)
/-- block X holds the events S -/
def EvAt (w : World) (X : Nat) (S : Ev) : Prop := Row w X 49 1545 S.cell
section
variable {w w' : World} {X : Nat} {S : Ev}
theorem EvAt.made (h : EvAt w X S) : w.cell? ⟨X, 0, none⟩ = some (.bool true) := Row.cell h (k := 0) (by omega)
theorem EvAt.at (h : EvAt w X S) {d n f : Nat} (hd : d < 8) (hn : n < 32) (hf : f < 6) : w.cell? ⟨X, 1 + d * 193 + n * 6 + f, none⟩ = some ((S.pt d n).cell f) := by
  rw [Row.cell h (k := 1 + d * 193 + n * 6 + f) (by omega), Ev.cell_pt S hn hf]
theorem EvAt.k (h : EvAt w X S) {d n : Nat} (hd : d < 8) (hn : n < 32) : w.cell? ⟨X, 1 + d * 193 + n * 6, none⟩ = some (.int .i64 (S.pt d n).k) := h.at (f := 0) hd hn (by omega)
theorem EvAt.r (h : EvAt w X S) {d n : Nat} (hd : d < 8) (hn : n < 32) : w.cell? ⟨X, 1 + d * 193 + n * 6 + 1, none⟩ = some (.int .i64 (S.pt d n).r) := h.at (f := 1) hd hn (by omega)
theorem EvAt.p (h : EvAt w X S) {d n : Nat} (hd : d < 8) (hn : n < 32) : w.cell? ⟨X, 1 + d * 193 + n * 6 + 2, none⟩ = some (.int .i64 (S.pt d n).p) := h.at (f := 2) hd hn (by omega)
theorem EvAt.v (h : EvAt w X S) {d n : Nat} (hd : d < 8) (hn : n < 32) : w.cell? ⟨X, 1 + d * 193 + n * 6 + 3, none⟩ = some (.int .i64 (S.pt d n).v) := h.at (f := 3) hd hn (by omega)
theorem EvAt.pe (h : EvAt w X S) {d n : Nat} (hd : d < 8) (hn : n < 32) : w.cell? ⟨X, 1 + d * 193 + n * 6 + 4, none⟩ = some (.bool (S.pt d n).pe) := h.at (f := 4) hd hn (by omega)
theorem EvAt.ma (h : EvAt w X S) {d n : Nat} (hd : d < 8) (hn : n < 32) : w.cell? ⟨X, 1 + d * 193 + n * 6 + 5, none⟩ = some (.bool (S.pt d n).ma) := h.at (f := 5) hd hn (by omega)
theorem EvAt.up (h : EvAt w X S) {d : Nat} (hd : d < 8) : w.cell? ⟨X, 1 + d * 193 + 192, none⟩ = some (.bool (S.up d)) := by
  rw [Row.cell h (k := 1 + d * 193 + 192) (by omega), Ev.cell_up]
theorem EvAt.fz (h : EvAt w X S) (k : Nat) : w.frozen? ⟨X, k, none⟩ = false := Row.frozen h k
theorem EvAt.lt (h : EvAt w X S) : X < w.heap.size := Row.lt h
theorem EvAt.grown {row : Option Nat} (h : EvAt w X S) (hg : w.grownBy w' row) (hr : some X ≠ row) : EvAt w' X S := Row.grown h hg hr
theorem EvAt.grow0 (h : EvAt w X S) (hg : w.grownBy w' none) : EvAt w' X S := h.grown hg (by simp)
theorem EvAt.chg {C : Nat → Prop} (h : EvAt w X S) (hc : Chg C w w') (hb : ¬ C X) : EvAt w' X S := Row.chg h hc hb
/-- one cell of a port is set -/
theorem EvAt.set (h : EvAt w X S) {d n f : Nat} (hd : d < 8) (hn : n < 32) (hf : f < 6) {v : Value} {q : Prt} (hv : q.cell f = v) (ho : ∀ g, g < 6 → g ≠ f → q.cell g = (S.pt d n).cell g) : EvAt (w.setCell ⟨X, 1 + d * 193 + n * 6 + f, none⟩ v) X (S.upd d n q) := by
  refine Row.set (k := 1 + d * 193 + n * 6 + f) h (by rw [Ev.cell_pt _ hn hf, Ev.upd_same, hv]) fun j hj hne => ?_
  rcases Ev.split hj with rfl | ⟨a, ha, rfl⟩ | ⟨a, b, c, ha, hb, hc, rfl⟩
  · rfl
  · rw [Ev.cell_up, Ev.cell_up, Ev.upd_up]
  · rw [Ev.cell_pt _ hb hc, Ev.cell_pt _ hb hc]
    by_cases e : a = d ∧ b = n
    · obtain ⟨rfl, rfl⟩ := e
      rw [Ev.upd_same, ho c hc (fun e => hne (by rw [e]))]
    · rw [Ev.upd_other _ _ _ _ _ _ e]
theorem EvAt.setK (h : EvAt w X S) {d n : Nat} (hd : d < 8) (hn : n < 32) (x : Int) : EvAt (w.setCell ⟨X, 1 + d * 193 + n * 6, none⟩ (.int .i64 x)) X (S.upd d n { S.pt d n with k := x }) :=
  h.set (f := 0) hd hn (by omega) rfl fun g _ hg => by match g, hg with | 0, h => exact absurd rfl h | 1, _ => rfl | 2, _ => rfl | 3, _ => rfl | 4, _ => rfl | k + 5, _ => rfl
theorem EvAt.setR (h : EvAt w X S) {d n : Nat} (hd : d < 8) (hn : n < 32) (x : Int) : EvAt (w.setCell ⟨X, 1 + d * 193 + n * 6 + 1, none⟩ (.int .i64 x)) X (S.upd d n { S.pt d n with r := x }) :=
  h.set (f := 1) hd hn (by omega) rfl fun g _ hg => by match g, hg with | 0, _ => rfl | 1, h => exact absurd rfl h | 2, _ => rfl | 3, _ => rfl | 4, _ => rfl | k + 5, _ => rfl
theorem EvAt.setP (h : EvAt w X S) {d n : Nat} (hd : d < 8) (hn : n < 32) (x : Int) : EvAt (w.setCell ⟨X, 1 + d * 193 + n * 6 + 2, none⟩ (.int .i64 x)) X (S.upd d n { S.pt d n with p := x }) :=
  h.set (f := 2) hd hn (by omega) rfl fun g _ hg => by match g, hg with | 0, _ => rfl | 1, _ => rfl | 2, h => exact absurd rfl h | 3, _ => rfl | 4, _ => rfl | k + 5, _ => rfl
theorem EvAt.setV (h : EvAt w X S) {d n : Nat} (hd : d < 8) (hn : n < 32) (x : Int) : EvAt (w.setCell ⟨X, 1 + d * 193 + n * 6 + 3, none⟩ (.int .i64 x)) X (S.upd d n { S.pt d n with v := x }) :=
  h.set (f := 3) hd hn (by omega) rfl fun g _ hg => by match g, hg with | 0, _ => rfl | 1, _ => rfl | 2, _ => rfl | 3, h => exact absurd rfl h | 4, _ => rfl | k + 5, _ => rfl
theorem EvAt.setPe (h : EvAt w X S) {d n : Nat} (hd : d < 8) (hn : n < 32) (x : Bool) : EvAt (w.setCell ⟨X, 1 + d * 193 + n * 6 + 4, none⟩ (.bool x)) X (S.upd d n { S.pt d n with pe := x }) :=
  h.set (f := 4) hd hn (by omega) rfl fun g _ hg => by match g, hg with | 0, _ => rfl | 1, _ => rfl | 2, _ => rfl | 3, _ => rfl | 4, h => exact absurd rfl h | k + 5, _ => rfl
theorem EvAt.setMa (h : EvAt w X S) {d n : Nat} (hd : d < 8) (hn : n < 32) (x : Bool) : EvAt (w.setCell ⟨X, 1 + d * 193 + n * 6 + 5, none⟩ (.bool x)) X (S.upd d n { S.pt d n with ma := x }) :=
  h.set (f := 5) hd hn (by omega) rfl fun g hg6 hg => by match g, hg6, hg with | 0, _, _ => rfl | 1, _, _ => rfl | 2, _, _ => rfl | 3, _, _ => rfl | 4, _, _ => rfl | 5, _, h => exact absurd rfl h | k + 6, h, _ => exact absurd h (by omega)
theorem EvAt.setUp (h : EvAt w X S) {d : Nat} (hd : d < 8) (x : Bool) : EvAt (w.setCell ⟨X, 1 + d * 193 + 192, none⟩ (.bool x)) X (S.setUp d x) := by
  refine Row.set (k := 1 + d * 193 + 192) h (by rw [Ev.cell_up, Ev.setUp_same]) fun j hj hne => ?_
  rcases Ev.split hj with rfl | ⟨a, ha, rfl⟩ | ⟨a, b, c, ha, hb, hc, rfl⟩
  · rfl
  · rw [Ev.cell_up, Ev.cell_up, Ev.setUp_other _ _ _ _ (by rintro rfl; exact hne rfl)]
  · rw [Ev.cell_pt _ hb hc, Ev.cell_pt _ hb hc, Ev.setUp_pt]
/-- a whole port is laid -/
def set6 (w : World) (b o : Nat) (q : Prt) : World := (((((w.setCell ⟨b, o, none⟩ (.int .i64 q.k)).setCell ⟨b, o + 1, none⟩ (.int .i64 q.r)).setCell ⟨b, o + 2, none⟩ (.int .i64 q.p)).setCell ⟨b, o + 3, none⟩ (.int .i64 q.v)).setCell ⟨b, o + 4, none⟩ (.bool q.pe)).setCell ⟨b, o + 5, none⟩ (.bool q.ma)
theorem EvAt.setAll (h : EvAt w X S) {d n : Nat} (hd : d < 8) (hn : n < 32) (q : Prt) : EvAt (set6 w X (1 + d * 193 + n * 6) q) X (S.upd d n q) := by
  have h6 := (((((h.setK hd hn q.k).setR hd hn q.r).setP hd hn q.p).setV hd hn q.v).setPe hd hn q.pe).setMa hd hn q.ma
  simp only [Ev.upd_upd, Ev.upd_same] at h6
  exact h6
theorem set6_grown (w : World) (b o : Nat) (q : Prt) : w.grownBy (set6 w b o q) (some b) :=
  ((((((grownBy_setCell w b o none _).trans (grownBy_setCell _ b (o + 1) none _)).trans (grownBy_setCell _ b (o + 2) none _)).trans (grownBy_setCell _ b (o + 3) none _)).trans (grownBy_setCell _ b (o + 4) none _)).trans (grownBy_setCell _ b (o + 5) none _))
end

/-! ### the reference's -/
structure ELay where
  fP : Nat
  cP : Nat
  fU : Nat
  cU : Nat
  g : Nat → Nat
  cg : Nat → Nat
def ELay.top (L : ELay) : Nat → Value
  | 0 => .slice (some ⟨L.fP, 0, none⟩) 8 L.cP
  | _ => .slice (some ⟨L.fU, 0, none⟩) 8 L.cU
def ELay.row (L : ELay) (i : Nat) : Value := .slice (some ⟨L.g i, 0, none⟩) 32 (L.cg i)
def ELay.foot (L : ELay) (Y k : Nat) : Prop := k = Y ∨ k = L.fP ∨ k = L.fU ∨ ∃ d, d < 8 ∧ k = L.g d
def prow (S : Ev) (d q : Nat) : Value := (S.pt d (q / 6)).cell (q % 6)
/-- block Y holds the reference's events S -/
structure RE (w : World) (Y : Nat) (S : Ev) (L : ELay) : Prop where
  top : Row w Y 64 2 L.top
  ps : Row w L.fP 65 8 L.row
  us : Row w L.fU 4 8 (fun d => .bool (S.up d))
  row : ∀ d, d < 8 → Row w (L.g d) 35 192 (prow S d)
  inj : ∀ i j, i < 8 → j < 8 → L.g i = L.g j → i = j
section
variable {w w' : World} {Y : Nat} {S : Ev} {L : ELay}
theorem RE.chg {C : Nat → Prop} (h : RE w Y S L) (hc : Chg C w w') (hS : ∀ k, L.foot Y k → ¬ C k) : RE w' Y S L :=
  ⟨h.top.chg hc (hS _ (.inl rfl)), h.ps.chg hc (hS _ (.inr (.inl rfl))), h.us.chg hc (hS _ (.inr (.inr (.inl rfl)))), fun d hd => (h.row d hd).chg hc (hS _ (.inr (.inr (.inr ⟨d, hd, rfl⟩)))), h.inj⟩
theorem RE.off {X : Nat} {S' : Ev} (h : RE w Y S L) (hX : EvAt w X S') : ¬ L.foot Y X := by
  rintro (e | e | e | ⟨d, hd, e⟩)
  · exact h.top.type_ne hX (by decide) e.symm
  · exact h.ps.type_ne hX (by decide) e.symm
  · exact h.us.type_ne hX (by decide) e.symm
  · exact (h.row d hd).type_ne hX (by decide) e.symm
theorem RE.lt (h : RE w Y S L) {k : Nat} (hk : L.foot Y k) : k < w.heap.size := by
  rcases hk with rfl | rfl | rfl | ⟨i, hi, rfl⟩
  · exact h.top.lt
  · exact h.ps.lt
  · exact h.us.lt
  · exact (h.row i hi).lt
theorem RE.grow0 (h : RE w Y S L) (hg : w.grownBy w' none) : RE w' Y S L := h.chg (C := fun _ => False) (Chg.of0 hg) fun _ _ e => e
theorem RE.keep {X : Nat} {S' : Ev} (h : RE w Y S L) (hX : EvAt w X S') (hg : w.grownBy w' (some X)) : RE w' Y S L :=
  h.chg (C := fun k => k = X) (Chg.one hg rfl) fun k hk e => h.off hX (e ▸ hk)
theorem RE.slP (h : RE w Y S L) : w.cell? ⟨Y, 0, none⟩ = some (.slice (some ⟨L.fP, 0, none⟩) 8 L.cP) := h.top.cell (k := 0) (by omega)
theorem RE.slU (h : RE w Y S L) : w.cell? ⟨Y, 1, none⟩ = some (.slice (some ⟨L.fU, 0, none⟩) 8 L.cU) := h.top.cell (k := 1) (by omega)
theorem RE.sl (h : RE w Y S L) {d : Nat} (hd : d < 8) : w.cell? ⟨L.fP, d, none⟩ = some (.slice (some ⟨L.g d, 0, none⟩) 32 (L.cg d)) := h.ps.cell hd
theorem RE.up (h : RE w Y S L) {d : Nat} (hd : d < 8) : w.cell? ⟨L.fU, d, none⟩ = some (.bool (S.up d)) := h.us.cell hd
theorem RE.at (h : RE w Y S L) {d n f : Nat} (hd : d < 8) (hn : n < 32) (hf : f < 6) : w.cell? ⟨L.g d, n * 6 + f, none⟩ = some ((S.pt d n).cell f) := by
  rw [(h.row d hd).cell (k := n * 6 + f) (by omega)]
  unfold prow
  rw [show (n * 6 + f) / 6 = n by omega, show (n * 6 + f) % 6 = f by omega]
theorem RE.k (h : RE w Y S L) {d n : Nat} (hd : d < 8) (hn : n < 32) : w.cell? ⟨L.g d, n * 6, none⟩ = some (.int .i64 (S.pt d n).k) := h.at (f := 0) hd hn (by omega)
theorem RE.r (h : RE w Y S L) {d n : Nat} (hd : d < 8) (hn : n < 32) : w.cell? ⟨L.g d, n * 6 + 1, none⟩ = some (.int .i64 (S.pt d n).r) := h.at (f := 1) hd hn (by omega)
theorem RE.p (h : RE w Y S L) {d n : Nat} (hd : d < 8) (hn : n < 32) : w.cell? ⟨L.g d, n * 6 + 2, none⟩ = some (.int .i64 (S.pt d n).p) := h.at (f := 2) hd hn (by omega)
theorem RE.v (h : RE w Y S L) {d n : Nat} (hd : d < 8) (hn : n < 32) : w.cell? ⟨L.g d, n * 6 + 3, none⟩ = some (.int .i64 (S.pt d n).v) := h.at (f := 3) hd hn (by omega)
theorem RE.pe (h : RE w Y S L) {d n : Nat} (hd : d < 8) (hn : n < 32) : w.cell? ⟨L.g d, n * 6 + 4, none⟩ = some (.bool (S.pt d n).pe) := h.at (f := 4) hd hn (by omega)
theorem RE.ma (h : RE w Y S L) {d n : Nat} (hd : d < 8) (hn : n < 32) : w.cell? ⟨L.g d, n * 6 + 5, none⟩ = some (.bool (S.pt d n).ma) := h.at (f := 5) hd hn (by omega)
theorem RE.fz (h : RE w Y S L) {d : Nat} (hd : d < 8) (k : Nat) : w.frozen? ⟨L.g d, k, none⟩ = false := (h.row d hd).frozen k
theorem RE.fzU (h : RE w Y S L) (k : Nat) : w.frozen? ⟨L.fU, k, none⟩ = false := h.us.frozen k
/-- one cell of a port is set -/
theorem RE.set (h : RE w Y S L) {d n f : Nat} (hd : d < 8) (hn : n < 32) (hf : f < 6) {v : Value} {q : Prt} (hv : q.cell f = v) (ho : ∀ g, g < 6 → g ≠ f → q.cell g = (S.pt d n).cell g) : RE (w.setCell ⟨L.g d, n * 6 + f, none⟩ v) Y (S.upd d n q) L := by
  refine ⟨h.top.setOther _ (h.top.type_ne (h.row d hd) (by decide)) _, h.ps.setOther _ (h.ps.type_ne (h.row d hd) (by decide)) _, h.us.setOther _ (h.us.type_ne (h.row d hd) (by decide)) _, fun a ha => ?_, h.inj⟩
  by_cases e : a = d
  · subst e
    refine (h.row a ha).set (k := n * 6 + f) ?_ fun j hj hne => ?_
    · unfold prow
      rw [show (n * 6 + f) / 6 = n by omega, show (n * 6 + f) % 6 = f by omega, Ev.upd_same, hv]
    · unfold prow
      by_cases e2 : j / 6 = n
      · rw [e2, Ev.upd_same, ho _ (by omega) (by omega)]
      · rw [Ev.upd_other _ _ _ _ _ _ (by simp [e2])]
  · refine ((h.row a ha).setOther _ (fun e2 => e (h.inj a d ha hd e2)) _).congr fun j hj => ?_
    unfold prow
    rw [Ev.upd_other _ _ _ _ _ _ (by simp [e])]
theorem RE.setK (h : RE w Y S L) {d n : Nat} (hd : d < 8) (hn : n < 32) (x : Int) : RE (w.setCell ⟨L.g d, n * 6, none⟩ (.int .i64 x)) Y (S.upd d n { S.pt d n with k := x }) L :=
  h.set (f := 0) hd hn (by omega) rfl fun g _ hg => by match g, hg with | 0, h => exact absurd rfl h | 1, _ => rfl | 2, _ => rfl | 3, _ => rfl | 4, _ => rfl | k + 5, _ => rfl
theorem RE.setR (h : RE w Y S L) {d n : Nat} (hd : d < 8) (hn : n < 32) (x : Int) : RE (w.setCell ⟨L.g d, n * 6 + 1, none⟩ (.int .i64 x)) Y (S.upd d n { S.pt d n with r := x }) L :=
  h.set (f := 1) hd hn (by omega) rfl fun g _ hg => by match g, hg with | 0, _ => rfl | 1, h => exact absurd rfl h | 2, _ => rfl | 3, _ => rfl | 4, _ => rfl | k + 5, _ => rfl
theorem RE.setP (h : RE w Y S L) {d n : Nat} (hd : d < 8) (hn : n < 32) (x : Int) : RE (w.setCell ⟨L.g d, n * 6 + 2, none⟩ (.int .i64 x)) Y (S.upd d n { S.pt d n with p := x }) L :=
  h.set (f := 2) hd hn (by omega) rfl fun g _ hg => by match g, hg with | 0, _ => rfl | 1, _ => rfl | 2, h => exact absurd rfl h | 3, _ => rfl | 4, _ => rfl | k + 5, _ => rfl
theorem RE.setV (h : RE w Y S L) {d n : Nat} (hd : d < 8) (hn : n < 32) (x : Int) : RE (w.setCell ⟨L.g d, n * 6 + 3, none⟩ (.int .i64 x)) Y (S.upd d n { S.pt d n with v := x }) L :=
  h.set (f := 3) hd hn (by omega) rfl fun g _ hg => by match g, hg with | 0, _ => rfl | 1, _ => rfl | 2, _ => rfl | 3, h => exact absurd rfl h | 4, _ => rfl | k + 5, _ => rfl
theorem RE.setPe (h : RE w Y S L) {d n : Nat} (hd : d < 8) (hn : n < 32) (x : Bool) : RE (w.setCell ⟨L.g d, n * 6 + 4, none⟩ (.bool x)) Y (S.upd d n { S.pt d n with pe := x }) L :=
  h.set (f := 4) hd hn (by omega) rfl fun g _ hg => by match g, hg with | 0, _ => rfl | 1, _ => rfl | 2, _ => rfl | 3, _ => rfl | 4, h => exact absurd rfl h | k + 5, _ => rfl
theorem RE.setMa (h : RE w Y S L) {d n : Nat} (hd : d < 8) (hn : n < 32) (x : Bool) : RE (w.setCell ⟨L.g d, n * 6 + 5, none⟩ (.bool x)) Y (S.upd d n { S.pt d n with ma := x }) L :=
  h.set (f := 5) hd hn (by omega) rfl fun g hg6 hg => by match g, hg6, hg with | 0, _, _ => rfl | 1, _, _ => rfl | 2, _, _ => rfl | 3, _, _ => rfl | 4, _, _ => rfl | 5, _, h => exact absurd rfl h | k + 6, h, _ => exact absurd h (by omega)
theorem RE.setUp (h : RE w Y S L) {d : Nat} (hd : d < 8) (x : Bool) : RE (w.setCell ⟨L.fU, d, none⟩ (.bool x)) Y (S.setUp d x) L := by
  refine ⟨h.top.setOther _ (h.top.type_ne h.us (by decide)) _, h.ps.setOther _ (h.ps.type_ne h.us (by decide)) _, h.us.set (k := d) (by simp [Ev.setUp_same]) fun j hj hne => ?_, fun a ha => (h.row a ha).setOther _ ((h.row a ha).type_ne h.us (by decide)) _, h.inj⟩
  simp only [Ev.setUp_other _ _ _ _ hne]
theorem RE.setAll (h : RE w Y S L) {d n : Nat} (hd : d < 8) (hn : n < 32) (q : Prt) : RE (set6 w (L.g d) (n * 6) q) Y (S.upd d n q) L := by
  have h6 := (((((h.setK hd hn q.k).setR hd hn q.r).setP hd hn q.p).setV hd hn q.v).setPe hd hn q.pe).setMa hd hn q.ma
  simp only [Ev.upd_upd, Ev.upd_same] at h6
  exact h6
end
end Go.Proofs.Ytjgikapoohibnaa
