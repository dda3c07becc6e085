/-
  The reference's switch (layer 14) in memory; its cells set one by one. By gen_brr.py.
-/
import Derived.Test.YtakofhhfdgankaaBrE
import Derived.Test.YtakofhhfdgankaaBrS
set_option linter.unusedSimpArgs false
set_option linter.unusedVariables false
namespace Go.Proofs.Ytakofhhfdgankaa.Br
open Go.RowKit Gen Bk
set_option maxHeartbeats 1000000

/-- the reference's labels -/
def CR (l : Nat) : Prop := 32 ≤ l ∧ l < 64
def Sd.rcell (s : Sd) (L : Lq) : Nat → Value
  | 0 => .int .i64 s.credit
  | 1 => .int .i64 s.burst
  | 2 => .int .i64 s.rate
  | 3 => .slice L.p s.q.length L.c
  | 4 => .int .i64 s.taken
  | 5 => .int .i64 s.fw
  | 6 => .int .i64 s.mal
  | 7 => .int .i64 s.noCr
  | 8 => .int .i64 s.dir
  | 9 => .int .i64 s.del
  | 10 => .int .i64 0
  | 11 => .int .i64 s.noBuf
  | _ => .int .i64 s.full
def rgcell (S : Sw) (lq : Nat → Lq) (k : Nat) : Value := (S.P (k / 13)).rcell (lq (k / 13)) (k % 13)
theorem rgcell_at (S : Sw) (lq : Nat → Lq) {k f : Nat} (hf : f < 13) : rgcell S lq (k * 13 + f) = (S.P k).rcell (lq k) f := by
  unfold rgcell
  rw [show (k * 13 + f) / 13 = k by omega, show (k * 13 + f) % 13 = f by omega]
def rtop (r n a ca : Nat) : Nat → Value
  | 0 => .slice (some ⟨r, 0, none⟩) n n
  | _ => .slice (some ⟨a, 0, none⟩) 256 ca
/-- where an address is; -1: nowhere -/
def atI (o : Option Nat) : Int := match o with | none => -1 | some p => p
/-- block y is the reference's switch S: its ports in block r, its addresses in block a -/
structure RS (lab : Nat → Nat) (w : World) (y r a ca : Nat) (lq : Nat → Lq) (S : Sw) : Prop where
  top : Row w y 69 2 (rtop r S.n a ca)
  ports : Row w r 81 (S.n * 13) (rgcell S lq)
  adr : Row w a 3 256 (fun k => .int .i64 (atI (S.A k)))
  qs : ∀ i, i < S.n → ∃ xs, QSl lab w (48 + i) (lq i).p (lq i).c xs ∧ Frs lab w xs (S.P i).q
  ly : lab y = 33
  lr : lab r = 34
  la : lab a = 35
  ca : 256 ≤ ca
section
variable {C : Nat → Prop} {lab lab' lab1 : Nat → Nat} {w w' w1 : World} {y r a ca : Nat} {lq : Nat → Lq} {S : Sw} {k : Nat} {s s' : Sd}
theorem RS.st (h : RS lab w y r a ca lq S) (hn : S.n ≤ 8) (s : St C lab w lab' w') (hC : ∀ l, l = 0 ∨ (32 ≤ l ∧ l < 64) → ¬ C l) : RS lab' w' y r a ca lq S :=
  ⟨s.row h.top (by rw [h.ly]; exact hC _ (by omega)), s.row h.ports (by rw [h.lr]; exact hC _ (by omega)), s.row h.adr (by rw [h.la]; exact hC _ (by omega)), fun i hi => by
    obtain ⟨xs, h1, h2⟩ := h.qs i hi
    exact ⟨xs, h1.st s (hC _ (by omega)), h2.st s (hC 0 (by omega))⟩, (s.keep _ h.top.lt).trans h.ly, (s.keep _ h.ports.lt).trans h.lr, (s.keep _ h.adr.lt).trans h.la, h.ca⟩
theorem RS.grown (h : RS lab w y r a ca lq S) (hn : S.n ≤ 8) (hg : w.grownBy w' none) : RS lab w' y r a ca lq S := h.st hn (C := fun _ => False) (St.grown hg) fun _ _ e => e
theorem RS.c0 (h : RS lab w y r a ca lq S) : w.cell? ⟨y, 0, none⟩ = some (.slice (some ⟨r, 0, none⟩) S.n S.n) := h.top.cell (k := 0) (by omega)
theorem RS.c1 (h : RS lab w y r a ca lq S) : w.cell? ⟨y, 1, none⟩ = some (.slice (some ⟨a, 0, none⟩) 256 ca) := h.top.cell (k := 1) (by omega)
theorem RS.ad (h : RS lab w y r a ca lq S) {x : Nat} (hx : x < 256) : w.cell? ⟨a, x, none⟩ = some (.int .i64 (atI (S.A x))) := h.adr.cell hx
theorem RS.at (h : RS lab w y r a ca lq S) {k f : Nat} (hk : k < S.n) (hf : f < 13) : w.cell? ⟨r, k * 13 + f, none⟩ = some ((S.P k).rcell (lq k) f) := by
  rw [h.ports.cell (k := k * 13 + f) (by omega), rgcell_at _ _ hf]
theorem RS.ats (h : RS lab w y r a ca lq (S.set k s)) {f : Nat} (hk : k < S.n) (hf : f < 13) : w.cell? ⟨r, k * 13 + f, none⟩ = some (s.rcell (lq k) f) := by
  have := h.at (k := k) (f := f) hk hf
  rw [Sw.set_at] at this
  exact this
theorem RS.fz (h : RS lab w y r a ca lq S) (k : Nat) : w.frozen? ⟨r, k, none⟩ = false := h.ports.frozen k
theorem RS.ry (h : RS lab w y r a ca lq S) : r ≠ y := fun e => by have h1 := h.lr; rw [e, h.ly] at h1; cases h1
theorem RS.ar (h : RS lab w y r a ca lq S) : a ≠ r := fun e => by have h1 := h.la; rw [e, h.lr] at h1; cases h1
theorem RS.ay (h : RS lab w y r a ca lq S) : a ≠ y := fun e => by have h1 := h.la; rw [e, h.ly] at h1; cases h1
theorem RS.self (h : RS lab w y r a ca lq S) (k : Nat) : RS lab w y r a ca lq (S.set k (S.P k)) := by rw [Sw.set_self]; exact h
theorem RS.str (h : RS lab w y r a ca lq S) (hg : w.grownBy w' (some r)) : St CR lab w lab w' := St.one hg (by rw [h.lr]; exact ⟨by omega, by omega⟩)
/-- one cell of a port is set -/
theorem RS.setc (h : RS lab w y r a ca lq (S.set k s)) (hn : S.n ≤ 8) (hk : k < S.n) {f : Nat} (hf : f < 13) {v : Value} (hv : s'.rcell (lq k) f = v) (ho : ∀ j, j < 13 → j ≠ f → s'.rcell (lq k) j = s.rcell (lq k) j) (hq : s'.q = s.q) :
    RS lab (w.setCell ⟨r, k * 13 + f, none⟩ v) y r a ca lq (S.set k s') := by
  have hg := grownBy_setCell w r (k * 13 + f) none v
  have st : St (fun l => l = 34) lab w lab (w.setCell ⟨r, k * 13 + f, none⟩ v) := St.one hg h.lr
  refine ⟨h.top.grown hg (by simp; exact fun e => h.ry e.symm), ?_, h.adr.grown hg (by simp; exact h.ar), fun i hi => ?_, h.ly, h.lr, h.la, h.ca⟩
  · refine Row.set (k := k * 13 + f) h.ports (by rw [rgcell_at _ _ hf, Sw.set_at, hv]) fun j hj hne => ?_
    obtain ⟨a, c, hc, rfl⟩ : ∃ a c, c < 13 ∧ j = a * 13 + c := ⟨j / 13, j % 13, by omega, by omega⟩
    rw [rgcell_at _ _ hc, rgcell_at _ _ hc]
    by_cases e : a = k
    · subst e
      rw [Sw.set_at, Sw.set_at]
      exact ho c hc (fun e => hne (by rw [e]))
    · rw [Sw.set_ne _ _ e, Sw.set_ne _ _ e]
  · obtain ⟨xs, h1, h2⟩ := h.qs i hi
    have hn' : i < S.n := hi
    refine ⟨xs, h1.st st (by omega), ?_⟩
    have h3 := h2.st st (by omega)
    by_cases e : i = k
    · subst e
      rw [Sw.set_at] at h3 ⊢
      rw [hq]
      exact h3
    · rw [Sw.set_ne _ _ e] at h3 ⊢
      exact h3
theorem RS.set_burst (h : RS lab w y r a ca lq (S.set k s)) (hn : S.n ≤ 8) (hk : k < S.n) (x : Nat) {z : Int} (hz : (x : Int) = z) : RS lab (w.setCell ⟨r, k * 13 + 1, none⟩ (.int .i64 z)) y r a ca lq (S.set k { s with burst := x }) ∧ w.grownBy (w.setCell ⟨r, k * 13 + 1, none⟩ (.int .i64 z)) (some r) :=
  ⟨h.setc (f := 1) hn hk (by omega) (by subst hz; rfl) (fun j hj hne => by
    match j, hj, hne with | 0, _, _ => rfl | 1, _, h => exact absurd rfl h | 2, _, _ => rfl | 3, _, _ => rfl | 4, _, _ => rfl | 5, _, _ => rfl | 6, _, _ => rfl | 7, _, _ => rfl | 8, _, _ => rfl | 9, _, _ => rfl | 10, _, _ => rfl | 11, _, _ => rfl | 12, _, _ => rfl) rfl, grownBy_setCell _ _ _ _ _⟩
theorem RS.at_burst (h : RS lab w y r a ca lq (S.set k s)) (hk : k < S.n) : w.cell? ⟨r, k * 13 + 1, none⟩ = some (.int .i64 s.burst) := h.ats (f := 1) hk (by omega)
theorem RS.set_rate (h : RS lab w y r a ca lq (S.set k s)) (hn : S.n ≤ 8) (hk : k < S.n) (x : Nat) {z : Int} (hz : (x : Int) = z) : RS lab (w.setCell ⟨r, k * 13 + 2, none⟩ (.int .i64 z)) y r a ca lq (S.set k { s with rate := x }) ∧ w.grownBy (w.setCell ⟨r, k * 13 + 2, none⟩ (.int .i64 z)) (some r) :=
  ⟨h.setc (f := 2) hn hk (by omega) (by subst hz; rfl) (fun j hj hne => by
    match j, hj, hne with | 0, _, _ => rfl | 1, _, _ => rfl | 2, _, h => exact absurd rfl h | 3, _, _ => rfl | 4, _, _ => rfl | 5, _, _ => rfl | 6, _, _ => rfl | 7, _, _ => rfl | 8, _, _ => rfl | 9, _, _ => rfl | 10, _, _ => rfl | 11, _, _ => rfl | 12, _, _ => rfl) rfl, grownBy_setCell _ _ _ _ _⟩
theorem RS.at_rate (h : RS lab w y r a ca lq (S.set k s)) (hk : k < S.n) : w.cell? ⟨r, k * 13 + 2, none⟩ = some (.int .i64 s.rate) := h.ats (f := 2) hk (by omega)
theorem RS.set_credit (h : RS lab w y r a ca lq (S.set k s)) (hn : S.n ≤ 8) (hk : k < S.n) (x : Nat) {z : Int} (hz : (x : Int) = z) : RS lab (w.setCell ⟨r, k * 13, none⟩ (.int .i64 z)) y r a ca lq (S.set k { s with credit := x }) ∧ w.grownBy (w.setCell ⟨r, k * 13, none⟩ (.int .i64 z)) (some r) :=
  ⟨h.setc (f := 0) hn hk (by omega) (by subst hz; rfl) (fun j hj hne => by
    match j, hj, hne with | 0, _, h => exact absurd rfl h | 1, _, _ => rfl | 2, _, _ => rfl | 3, _, _ => rfl | 4, _, _ => rfl | 5, _, _ => rfl | 6, _, _ => rfl | 7, _, _ => rfl | 8, _, _ => rfl | 9, _, _ => rfl | 10, _, _ => rfl | 11, _, _ => rfl | 12, _, _ => rfl) rfl, grownBy_setCell _ _ _ _ _⟩
theorem RS.at_credit (h : RS lab w y r a ca lq (S.set k s)) (hk : k < S.n) : w.cell? ⟨r, k * 13, none⟩ = some (.int .i64 s.credit) := h.ats (f := 0) hk (by omega)
theorem RS.set_taken (h : RS lab w y r a ca lq (S.set k s)) (hn : S.n ≤ 8) (hk : k < S.n) (x : Nat) {z : Int} (hz : (x : Int) = z) : RS lab (w.setCell ⟨r, k * 13 + 4, none⟩ (.int .i64 z)) y r a ca lq (S.set k { s with taken := x }) ∧ w.grownBy (w.setCell ⟨r, k * 13 + 4, none⟩ (.int .i64 z)) (some r) :=
  ⟨h.setc (f := 4) hn hk (by omega) (by subst hz; rfl) (fun j hj hne => by
    match j, hj, hne with | 0, _, _ => rfl | 1, _, _ => rfl | 2, _, _ => rfl | 3, _, _ => rfl | 4, _, h => exact absurd rfl h | 5, _, _ => rfl | 6, _, _ => rfl | 7, _, _ => rfl | 8, _, _ => rfl | 9, _, _ => rfl | 10, _, _ => rfl | 11, _, _ => rfl | 12, _, _ => rfl) rfl, grownBy_setCell _ _ _ _ _⟩
theorem RS.at_taken (h : RS lab w y r a ca lq (S.set k s)) (hk : k < S.n) : w.cell? ⟨r, k * 13 + 4, none⟩ = some (.int .i64 s.taken) := h.ats (f := 4) hk (by omega)
theorem RS.set_fw (h : RS lab w y r a ca lq (S.set k s)) (hn : S.n ≤ 8) (hk : k < S.n) (x : Nat) {z : Int} (hz : (x : Int) = z) : RS lab (w.setCell ⟨r, k * 13 + 5, none⟩ (.int .i64 z)) y r a ca lq (S.set k { s with fw := x }) ∧ w.grownBy (w.setCell ⟨r, k * 13 + 5, none⟩ (.int .i64 z)) (some r) :=
  ⟨h.setc (f := 5) hn hk (by omega) (by subst hz; rfl) (fun j hj hne => by
    match j, hj, hne with | 0, _, _ => rfl | 1, _, _ => rfl | 2, _, _ => rfl | 3, _, _ => rfl | 4, _, _ => rfl | 5, _, h => exact absurd rfl h | 6, _, _ => rfl | 7, _, _ => rfl | 8, _, _ => rfl | 9, _, _ => rfl | 10, _, _ => rfl | 11, _, _ => rfl | 12, _, _ => rfl) rfl, grownBy_setCell _ _ _ _ _⟩
theorem RS.at_fw (h : RS lab w y r a ca lq (S.set k s)) (hk : k < S.n) : w.cell? ⟨r, k * 13 + 5, none⟩ = some (.int .i64 s.fw) := h.ats (f := 5) hk (by omega)
theorem RS.set_mal (h : RS lab w y r a ca lq (S.set k s)) (hn : S.n ≤ 8) (hk : k < S.n) (x : Nat) {z : Int} (hz : (x : Int) = z) : RS lab (w.setCell ⟨r, k * 13 + 6, none⟩ (.int .i64 z)) y r a ca lq (S.set k { s with mal := x }) ∧ w.grownBy (w.setCell ⟨r, k * 13 + 6, none⟩ (.int .i64 z)) (some r) :=
  ⟨h.setc (f := 6) hn hk (by omega) (by subst hz; rfl) (fun j hj hne => by
    match j, hj, hne with | 0, _, _ => rfl | 1, _, _ => rfl | 2, _, _ => rfl | 3, _, _ => rfl | 4, _, _ => rfl | 5, _, _ => rfl | 6, _, h => exact absurd rfl h | 7, _, _ => rfl | 8, _, _ => rfl | 9, _, _ => rfl | 10, _, _ => rfl | 11, _, _ => rfl | 12, _, _ => rfl) rfl, grownBy_setCell _ _ _ _ _⟩
theorem RS.at_mal (h : RS lab w y r a ca lq (S.set k s)) (hk : k < S.n) : w.cell? ⟨r, k * 13 + 6, none⟩ = some (.int .i64 s.mal) := h.ats (f := 6) hk (by omega)
theorem RS.set_noCr (h : RS lab w y r a ca lq (S.set k s)) (hn : S.n ≤ 8) (hk : k < S.n) (x : Nat) {z : Int} (hz : (x : Int) = z) : RS lab (w.setCell ⟨r, k * 13 + 7, none⟩ (.int .i64 z)) y r a ca lq (S.set k { s with noCr := x }) ∧ w.grownBy (w.setCell ⟨r, k * 13 + 7, none⟩ (.int .i64 z)) (some r) :=
  ⟨h.setc (f := 7) hn hk (by omega) (by subst hz; rfl) (fun j hj hne => by
    match j, hj, hne with | 0, _, _ => rfl | 1, _, _ => rfl | 2, _, _ => rfl | 3, _, _ => rfl | 4, _, _ => rfl | 5, _, _ => rfl | 6, _, _ => rfl | 7, _, h => exact absurd rfl h | 8, _, _ => rfl | 9, _, _ => rfl | 10, _, _ => rfl | 11, _, _ => rfl | 12, _, _ => rfl) rfl, grownBy_setCell _ _ _ _ _⟩
theorem RS.at_noCr (h : RS lab w y r a ca lq (S.set k s)) (hk : k < S.n) : w.cell? ⟨r, k * 13 + 7, none⟩ = some (.int .i64 s.noCr) := h.ats (f := 7) hk (by omega)
theorem RS.set_dir (h : RS lab w y r a ca lq (S.set k s)) (hn : S.n ≤ 8) (hk : k < S.n) (x : Nat) {z : Int} (hz : (x : Int) = z) : RS lab (w.setCell ⟨r, k * 13 + 8, none⟩ (.int .i64 z)) y r a ca lq (S.set k { s with dir := x }) ∧ w.grownBy (w.setCell ⟨r, k * 13 + 8, none⟩ (.int .i64 z)) (some r) :=
  ⟨h.setc (f := 8) hn hk (by omega) (by subst hz; rfl) (fun j hj hne => by
    match j, hj, hne with | 0, _, _ => rfl | 1, _, _ => rfl | 2, _, _ => rfl | 3, _, _ => rfl | 4, _, _ => rfl | 5, _, _ => rfl | 6, _, _ => rfl | 7, _, _ => rfl | 8, _, h => exact absurd rfl h | 9, _, _ => rfl | 10, _, _ => rfl | 11, _, _ => rfl | 12, _, _ => rfl) rfl, grownBy_setCell _ _ _ _ _⟩
theorem RS.at_dir (h : RS lab w y r a ca lq (S.set k s)) (hk : k < S.n) : w.cell? ⟨r, k * 13 + 8, none⟩ = some (.int .i64 s.dir) := h.ats (f := 8) hk (by omega)
theorem RS.set_del (h : RS lab w y r a ca lq (S.set k s)) (hn : S.n ≤ 8) (hk : k < S.n) (x : Nat) {z : Int} (hz : (x : Int) = z) : RS lab (w.setCell ⟨r, k * 13 + 9, none⟩ (.int .i64 z)) y r a ca lq (S.set k { s with del := x }) ∧ w.grownBy (w.setCell ⟨r, k * 13 + 9, none⟩ (.int .i64 z)) (some r) :=
  ⟨h.setc (f := 9) hn hk (by omega) (by subst hz; rfl) (fun j hj hne => by
    match j, hj, hne with | 0, _, _ => rfl | 1, _, _ => rfl | 2, _, _ => rfl | 3, _, _ => rfl | 4, _, _ => rfl | 5, _, _ => rfl | 6, _, _ => rfl | 7, _, _ => rfl | 8, _, _ => rfl | 9, _, h => exact absurd rfl h | 10, _, _ => rfl | 11, _, _ => rfl | 12, _, _ => rfl) rfl, grownBy_setCell _ _ _ _ _⟩
theorem RS.at_del (h : RS lab w y r a ca lq (S.set k s)) (hk : k < S.n) : w.cell? ⟨r, k * 13 + 9, none⟩ = some (.int .i64 s.del) := h.ats (f := 9) hk (by omega)
theorem RS.set_noBuf (h : RS lab w y r a ca lq (S.set k s)) (hn : S.n ≤ 8) (hk : k < S.n) (x : Nat) {z : Int} (hz : (x : Int) = z) : RS lab (w.setCell ⟨r, k * 13 + 11, none⟩ (.int .i64 z)) y r a ca lq (S.set k { s with noBuf := x }) ∧ w.grownBy (w.setCell ⟨r, k * 13 + 11, none⟩ (.int .i64 z)) (some r) :=
  ⟨h.setc (f := 11) hn hk (by omega) (by subst hz; rfl) (fun j hj hne => by
    match j, hj, hne with | 0, _, _ => rfl | 1, _, _ => rfl | 2, _, _ => rfl | 3, _, _ => rfl | 4, _, _ => rfl | 5, _, _ => rfl | 6, _, _ => rfl | 7, _, _ => rfl | 8, _, _ => rfl | 9, _, _ => rfl | 10, _, _ => rfl | 11, _, h => exact absurd rfl h | 12, _, _ => rfl) rfl, grownBy_setCell _ _ _ _ _⟩
theorem RS.at_noBuf (h : RS lab w y r a ca lq (S.set k s)) (hk : k < S.n) : w.cell? ⟨r, k * 13 + 11, none⟩ = some (.int .i64 s.noBuf) := h.ats (f := 11) hk (by omega)
theorem RS.set_full (h : RS lab w y r a ca lq (S.set k s)) (hn : S.n ≤ 8) (hk : k < S.n) (x : Nat) {z : Int} (hz : (x : Int) = z) : RS lab (w.setCell ⟨r, k * 13 + 12, none⟩ (.int .i64 z)) y r a ca lq (S.set k { s with full := x }) ∧ w.grownBy (w.setCell ⟨r, k * 13 + 12, none⟩ (.int .i64 z)) (some r) :=
  ⟨h.setc (f := 12) hn hk (by omega) (by subst hz; rfl) (fun j hj hne => by
    match j, hj, hne with | 0, _, _ => rfl | 1, _, _ => rfl | 2, _, _ => rfl | 3, _, _ => rfl | 4, _, _ => rfl | 5, _, _ => rfl | 6, _, _ => rfl | 7, _, _ => rfl | 8, _, _ => rfl | 9, _, _ => rfl | 10, _, _ => rfl | 11, _, _ => rfl | 12, _, h => exact absurd rfl h) rfl, grownBy_setCell _ _ _ _ _⟩
theorem RS.at_full (h : RS lab w y r a ca lq (S.set k s)) (hk : k < S.n) : w.cell? ⟨r, k * 13 + 12, none⟩ = some (.int .i64 s.full) := h.ats (f := 12) hk (by omega)
theorem RS.at_q (h : RS lab w y r a ca lq (S.set k s)) (hk : k < S.n) : w.cell? ⟨r, k * 13 + 3, none⟩ = some (.slice (lq k).p s.q.length (lq k).c) := h.ats (f := 3) hk (by omega)
theorem RS.at_10 (h : RS lab w y r a ca lq (S.set k s)) (hk : k < S.n) : w.cell? ⟨r, k * 13 + 10, none⟩ = some (.int .i64 0) := h.ats (f := 10) hk (by omega)
/-- a port's queue and its slice have changed, and all its cells are laid: what is in block r is told -/
theorem RS.setAll (h : RS lab w y r a ca lq (S.set k s)) (hn : S.n ≤ 8) (hk : k < S.n) (st : St (fun l => l = 48 + k) lab w lab1 w1) {L : Lq} {ys : List Value} (hq : QSl lab1 w1 (48 + k) L.p L.c ys) (hf : Frs lab1 w1 ys s'.q) {w2 : World}
    (hg : w1.grownBy w2 (some r)) (hrow : Row w2 r 81 (S.n * 13) (fun j => if j / 13 = k then s'.rcell L (j % 13) else rgcell (S.set k s) lq j)) :
    RS lab1 w2 y r a ca (updL lq k L) (S.set k s') ∧ St CR lab w lab1 w2 := by
  have top := st.row h.top (by rw [h.ly]; omega)
  have adr := st.row h.adr (by rw [h.la]; omega)
  have ly := (st.keep _ h.top.lt).trans h.ly
  have lr := (st.keep _ h.ports.lt).trans h.lr
  have la := (st.keep _ h.adr.lt).trans h.la
  have s2 : St (fun l => l = 34) lab1 w1 lab1 w2 := St.one hg lr
  refine ⟨⟨top.grown hg (by simp; exact fun e => h.ry e.symm), hrow.congr fun j hj => ?_, adr.grown hg (by simp; exact h.ar), fun i hi => ?_, ly, lr, la, h.ca⟩, (st.mono fun l e => ⟨by omega, by omega⟩).tr (s2.mono fun l e => ⟨by omega, by omega⟩)⟩
  · unfold rgcell updL
    by_cases e : j / 13 = k
    · subst e
      rw [Sw.set_at, if_pos rfl, if_pos rfl]
    · rw [Sw.set_ne _ _ e, if_neg e, if_neg e, Sw.set_ne _ _ e]
  · have hn' : i < S.n := hi
    by_cases e : i = k
    · subst e
      rw [Sw.set_at]
      unfold updL
      rw [if_pos rfl]
      exact ⟨ys, hq.st s2 (by omega), hf.st s2 (by omega)⟩
    · obtain ⟨xs, h1, h2⟩ := h.qs i hi
      rw [Sw.set_ne _ _ e] at h2 ⊢
      unfold updL
      rw [if_neg e]
      exact ⟨xs, (h1.st st (by omega)).st s2 (by omega), (h2.st st (by omega)).st s2 (by omega)⟩
/-- an address is set -/
theorem RS.seta (h : RS lab w y r a ca lq S) (hn : S.n ≤ 8) {x : Nat} (hx : x < 256) (o : Option Nat) {v : Int} (hv : v = atI o) : RS lab (w.setCell ⟨a, x, none⟩ (.int .i64 v)) y r a ca lq { S with A := fun i => if i = x then o else S.A i } ∧ w.grownBy (w.setCell ⟨a, x, none⟩ (.int .i64 v)) (some a) := by
  have hg := grownBy_setCell w a x none (.int .i64 v)
  have st : St (fun l => l = 35) lab w lab (w.setCell ⟨a, x, none⟩ (.int .i64 v)) := St.one hg h.la
  refine ⟨⟨h.top.grown hg (by simp; exact fun e => h.ay e.symm), h.ports.grown hg (by simp; exact fun e => h.ar e.symm), ?_, fun i hi => ?_, h.ly, h.lr, h.la, h.ca⟩, hg⟩
  · refine Row.set (k := x) h.adr (by simp [hv]) fun j hj hne => ?_
    simp only [if_neg hne]
  · obtain ⟨xs, h1, h2⟩ := h.qs i hi
    have hn' : i < S.n := hi
    exact ⟨xs, h1.st st (by omega), h2.st st (by omega)⟩
theorem RS.qat (h : RS lab w y r a ca lq (S.set k s)) (hk : k < S.n) : ∃ xs, QSl lab w (48 + k) (lq k).p (lq k).c xs ∧ Frs lab w xs s.q := by
  have := h.qs k hk
  rw [Sw.set_at] at this
  exact this
def AftR (lab : Nat → Nat) (w : World) (y r a ca : Nat) (S : Sw) (w' : World) : Prop := ∃ lab' lq', RS lab' w' y r a ca lq' S ∧ St CR lab w lab' w'
theorem RS.aft (h : RS lab w y r a ca lq S) : AftR lab w y r a ca S w := ⟨_, _, h, St.refl _ _ _⟩
theorem AftR.first {S' : Sw} (h : St CR lab w lab1 w1) (x : AftR lab1 w1 y r a ca S' w') : AftR lab w y r a ca S' w' := by
  obtain ⟨l, q, h1, h2⟩ := x
  exact ⟨l, q, h1, h.tr h2⟩
theorem AftR.grow0 {S' : Sw} (x : AftR lab w y r a ca S' w1) (hn : S'.n ≤ 8) (hg : w1.grownBy w' none) : AftR lab w y r a ca S' w' := by
  obtain ⟨l, q, h1, h2⟩ := x
  exact ⟨l, q, h1.grown hn hg, h2.tr (St.grown hg)⟩
end
end Go.Proofs.Ytakofhhfdgankaa.Br
