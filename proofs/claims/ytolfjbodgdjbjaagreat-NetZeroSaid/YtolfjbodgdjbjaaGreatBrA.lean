/-
  Package bridge: a switch in memory; contracts of the small calls: made, side, malformed, isCredit, size, first, bad, grow.
-/
import Derived.Test.YtolfjbodgdjbjaaGreatRows
import Derived.Test.YtolfjbodgdjbjaaGreatBrP
import Derived.Test.YtolfjbodgdjbjaaGreatBkL
import Derived.WalkKit
import Derived.WalkSpells
import Derived.WalkLawsBesides
import Derived.Handy
import Derived.Carry
import Derived.BigQuiet
import Derived.Deep.QuietTactic
import Derived.Laws.Rows
set_option linter.unusedSimpArgs false
set_option linter.unusedVariables false
namespace Go.Proofs.YtolfjbodgdjbjaaGreat.Br
open Go.RowKit Gen Bk
set_option maxHeartbeats 1000000

/-- the program's labels -/
def CP (l : Nat) : Prop := 1 ≤ l ∧ l < 32
/-- bytes that nobody writes -/
def BU (lab : Nat → Nat) (w : World) (p : Option Addr) (l : List UInt8) : Prop := BA w p l ∧ ∀ a, p = some a → lab a.block = 0 ∧ a.block < w.heap.size
theorem BU.st {C : Nat → Prop} {lab lab' : Nat → Nat} {w w' : World} {p : Option Addr} {l : List UInt8} (h : BU lab w p l) (s : St C lab w lab' w') (hC : ¬ C 0) : BU lab' w' p l := by
  refine ⟨fun k hk => ?_, fun a e => ?_⟩
  · obtain ⟨b, o, e, h1⟩ := h.1 k hk
    exact ⟨b, o, e, s.cell h1 (by rw [(h.2 _ e).1]; exact hC)⟩
  · obtain ⟨h1, h2⟩ := h.2 a e
    exact ⟨(s.keep _ h2).trans h1, Nat.lt_of_lt_of_le h2 s.size⟩
/-- values that are the frames q -/
def Frs (lab : Nat → Nat) (w : World) : List Value → List (List UInt8) → Prop
  | [], [] => True
  | v :: xs, f :: q => (∃ p c, v = .slice p f.length c ∧ BU lab w p f) ∧ Frs lab w xs q
  | _, _ => False
section
variable {C : Nat → Prop} {lab lab' : Nat → Nat} {w w' : World}
theorem Frs.len : ∀ {xs : List Value} {q : List (List UInt8)}, Frs lab w xs q → xs.length = q.length
  | [], [], _ => rfl
  | _ :: xs, _ :: q, h => by simp [Frs.len h.2]
  | [], _ :: _, h => absurd h (by simp [Frs])
  | _ :: _, [], h => absurd h (by simp [Frs])
theorem Frs.st (s : St C lab w lab' w') (hC : ¬ C 0) : ∀ {xs : List Value} {q : List (List UInt8)}, Frs lab w xs q → Frs lab' w' xs q
  | [], [], _ => trivial
  | _ :: xs, _ :: q, h => ⟨by obtain ⟨p, c, e, hb⟩ := h.1; exact ⟨p, c, e, hb.st s hC⟩, Frs.st s hC h.2⟩
  | [], _ :: _, h => absurd h (by simp [Frs])
  | _ :: _, [], h => absurd h (by simp [Frs])
theorem Frs.snoc {v : Value} {f : List UInt8} (hv : ∃ p c, v = .slice p f.length c ∧ BU lab w p f) : ∀ {xs : List Value} {q : List (List UInt8)}, Frs lab w xs q → Frs lab w (xs ++ [v]) (q ++ [f])
  | [], [], _ => ⟨hv, trivial⟩
  | _ :: xs, _ :: q, h => ⟨h.1, Frs.snoc hv h.2⟩
  | [], _ :: _, h => absurd h (by simp [Frs])
  | _ :: _, [], h => absurd h (by simp [Frs])
end
/-- the slice of a queue -/
structure Lq where
  p : Option Addr
  c : Nat
def Sd.cell (s : Sd) (L : Lq) : Nat → Value
  | 0 => .int .i64 s.burst
  | 1 => .int .i64 s.rate
  | 2 => .int .i64 s.credit
  | 3 => .slice L.p s.q.length L.c
  | 4 => .int .i64 s.taken
  | 5 => .int .i64 s.fw
  | 6 => .int .i64 s.mal
  | 7 => .int .i64 s.noCr
  | 8 => .int .i64 s.dir
  | 9 => .int .i64 s.del
  | 10 => .int .i64 0
  | 11 => .int .i64 s.noBuf
  | _ => .int .i64 s.full
def gcell (S : Sw) (lq : Nat → Lq) (k : Nat) : Value := (S.P (k / 13)).cell (lq (k / 13)) (k % 13)
theorem gcell_at (S : Sw) (lq : Nat → Lq) {k f : Nat} (hf : f < 13) : gcell S lq (k * 13 + f) = (S.P k).cell (lq k) f := by
  unfold gcell
  rw [show (k * 13 + f) / 13 = k by omega, show (k * 13 + f) % 13 = f by omega]
def btop (g n m : Nat) : Nat → Value
  | 0 => .slice (some ⟨g, 0, none⟩) n n
  | _ => .map (some m)
/-- block b is the switch S: its ports in block g, its map in block m -/
structure PS (lab : Nat → Nat) (w : World) (b g m : Nat) (lq : Nat → Lq) (S : Sw) : Prop where
  top : Row w b 67 2 (btop g S.n m)
  sides : Row w g 149 (S.n * 13) (gcell S lq)
  map : M8 Tryz.prog 5 3 w m S.A
  qs : ∀ i, i < S.n → ∃ xs, QSl lab w (16 + i) (lq i).p (lq i).c xs ∧ Frs lab w xs (S.P i).q
  lb : lab b = 1
  lg : lab g = 2
  lm : lab m = 3
section
variable {C : Nat → Prop} {lab lab' : Nat → Nat} {w w' : World} {b g m : Nat} {lq : Nat → Lq} {S : Sw}
theorem Sw.set_self (S : Sw) (k : Nat) : S.set k (S.P k) = S := by
  unfold Sw.set
  congr 1
  funext i
  by_cases h : i = k
  · rw [if_pos h, h]
  · rw [if_neg h]
theorem PS.st (h : PS lab w b g m lq S) (hn : S.n ≤ 8) (s : St C lab w lab' w') (hC : ∀ l, l < 32 → ¬ C l) : PS lab' w' b g m lq S :=
  ⟨s.row h.top (by rw [h.lb]; exact hC 1 (by omega)), s.row h.sides (by rw [h.lg]; exact hC 2 (by omega)), h.map.st s (by rw [h.lm]; exact hC 3 (by omega)), fun i hi => by
    obtain ⟨xs, h1, h2⟩ := h.qs i hi
    exact ⟨xs, h1.st s (hC _ (by omega)), h2.st s (hC 0 (by omega))⟩, (s.keep _ h.top.lt).trans h.lb, (s.keep _ h.sides.lt).trans h.lg, (s.keep _ h.map.lt).trans h.lm⟩
theorem PS.grown (h : PS lab w b g m lq S) (hn : S.n ≤ 8) (hg : w.grownBy w' none) : PS lab w' b g m lq S := h.st hn (C := fun _ => False) (St.grown hg) fun _ _ e => e
theorem PS.c0 (h : PS lab w b g m lq S) : w.cell? ⟨b, 0, none⟩ = some (.slice (some ⟨g, 0, none⟩) S.n S.n) := h.top.cell (k := 0) (by omega)
theorem PS.c1 (h : PS lab w b g m lq S) : w.cell? ⟨b, 1, none⟩ = some (.map (some m)) := h.top.cell (k := 1) (by omega)
theorem PS.at (h : PS lab w b g m lq S) {k f : Nat} (hk : k < S.n) (hf : f < 13) : w.cell? ⟨g, k * 13 + f, none⟩ = some ((S.P k).cell (lq k) f) := by
  rw [h.sides.cell (k := k * 13 + f) (by omega), gcell_at _ _ hf]
theorem PS.ats {k : Nat} {s : Sd} (h : PS lab w b g m lq (S.set k s)) {f : Nat} (hk : k < S.n) (hf : f < 13) : w.cell? ⟨g, k * 13 + f, none⟩ = some (s.cell (lq k) f) := by
  have := h.at (k := k) (f := f) hk hf
  rw [Sw.set_at] at this
  exact this
theorem PS.fz (h : PS lab w b g m lq S) (k : Nat) : w.frozen? ⟨g, k, none⟩ = false := h.sides.frozen k
theorem PS.gb (h : PS lab w b g m lq S) : g ≠ b := fun e => by have h1 := h.lg; rw [e, h.lb] at h1; cases h1
theorem PS.mg (h : PS lab w b g m lq S) : m ≠ g := fun e => by have h1 := h.lm; rw [e, h.lg] at h1; cases h1
theorem PS.mb (h : PS lab w b g m lq S) : m ≠ b := fun e => by have h1 := h.lm; rw [e, h.lb] at h1; cases h1
theorem PS.cp (h : PS lab w b g m lq S) : CP (lab g) := by rw [h.lg]; exact ⟨by omega, by omega⟩
theorem PS.stg (h : PS lab w b g m lq S) (hg : w.grownBy w' (some g)) : St CP lab w lab w' := St.one hg h.cp
/-- one cell of a port is set -/
theorem PS.setc {k : Nat} {s s' : Sd} (h : PS lab w b g m lq (S.set k s)) (hn : S.n ≤ 8) (hk : k < S.n) {f : Nat} (hf : f < 13) {v : Value} (hv : s'.cell (lq k) f = v) (ho : ∀ j, j < 13 → j ≠ f → s'.cell (lq k) j = s.cell (lq k) j) (hq : s'.q = s.q) :
    PS lab (w.setCell ⟨g, k * 13 + f, none⟩ v) b g m lq (S.set k s') := by
  have hg := grownBy_setCell w g (k * 13 + f) none v
  have st : St (fun l => l = 2) lab w lab (w.setCell ⟨g, k * 13 + f, none⟩ v) := St.one hg h.lg
  refine ⟨h.top.grown hg (by simp; exact fun e => h.gb e.symm), ?_, h.map.grown hg (by simp; exact h.mg), fun i hi => ?_, h.lb, h.lg, h.lm⟩
  · refine Row.set (k := k * 13 + f) h.sides (by rw [gcell_at _ _ hf, Sw.set_at, hv]) fun j hj hne => ?_
    obtain ⟨a, c, hc, rfl⟩ : ∃ a c, c < 13 ∧ j = a * 13 + c := ⟨j / 13, j % 13, by omega, by omega⟩
    rw [gcell_at _ _ hc, gcell_at _ _ hc]
    by_cases e : a = k
    · subst e
      rw [Sw.set_at, Sw.set_at]
      exact ho c hc (fun e => hne (by rw [e]))
    · rw [Sw.set_ne _ _ e, Sw.set_ne _ _ e]
  · obtain ⟨xs, h1, h2⟩ := h.qs i hi
    refine ⟨xs, h1.st st (by omega), ?_⟩
    have h3 := h2.st st (by omega)
    by_cases e : i = k
    · subst e
      rw [Sw.set_at] at h3 ⊢
      rw [hq]
      exact h3
    · rw [Sw.set_ne _ _ e] at h3 ⊢
      exact h3
end
theorem neq_map (w : World) (r : Option Nat) : (binOp .neq 65 (.map r) (.map none)).run Tryz.prog w = .ok (.bool (!r.isNone)) w := run_neq_map_nil w _ _ _ r Tryz.underlying65
/-- what nobody made: nil, or no ports -/
def NoS (w : World) (p : Option Addr) : Prop := p = none ∨ ∃ b a c, p = some ⟨b, 0, none⟩ ∧ w.cell? ⟨b, 0, none⟩ = some (.slice a 0 c)
theorem bmade_no (p : Option Addr) (w : World) (h : NoS w p) : Calls Tryz.prog 50 #[.pointer p] w fun e w' => e = .returned (.bool false) ∧ w = w' := by
  rcases h with rfl | ⟨b, a, c, rfl, h⟩
  · go_enter Tryz.func50, Tryz.ntmps50
    go_wp2
    go_ret
    exact ⟨rfl, rfl⟩
  · go_enter Tryz.func50, Tryz.ntmps50
    go_wp2
    go_ret
    exact ⟨rfl, rfl⟩
theorem bmade_yes (b n : Nat) (a : Option Addr) (c : Nat) (w : World) (h : w.cell? ⟨b, 0, none⟩ = some (.slice a n c)) (hn : 1 ≤ n) : Calls Tryz.prog 50 #[.pointer (some ⟨b, 0, none⟩)] w fun e w' => e = .returned (.bool true) ∧ w = w' := by
  have h1 : (0 : Int) < n := by omega
  have h2 : decide (0 < n) = true := by simp <;> omega
  go_enter Tryz.func50, Tryz.ntmps50
  go_wp2
  go_ret
  exact ⟨by simp <;> omega, rfl⟩
theorem bside_none (p : Option Addr) (s : Int) (w : World) (h : NoS w p) : Calls Tryz.prog 66 #[.pointer p, .int .i64 s] w fun e w' => e = .returned (.tuple #[.pointer none, .int .i64 7]) ∧ w = w' := by
  have H := hid h
  clear h
  go_enter Tryz.func66, Tryz.ntmps66
  go_wp2_with (go_at_call 50; refine (bmade_no _ _ H.out).mono ?_; rintro e w' ⟨rfl, rfl⟩)
  go_ret2
  exact ⟨rfl, rfl⟩
section
variable {C : Nat → Prop} {lab lab' : Nat → Nat} {w w' : World} {b g m : Nat} {lq : Nat → Lq} {S : Sw}
theorem bside_no (h : PS lab w b g m lq S) (hn : 1 ≤ S.n) (s : Int) (hs : S.is s = false) : Calls Tryz.prog 66 #[.pointer (some ⟨b, 0, none⟩), .int .i64 s] w fun e w' => e = .returned (.tuple #[.pointer none, .int .i64 1]) ∧ w = w' := by
  have c0 := h.c0
  have hd := Sw.is_no hs
  have HN := hid hn
  clear hs h hn
  by_cases h0 : s < 0
  · clear hd
    go_enter Tryz.func66, Tryz.ntmps66
    go_wp2_with (go_at_call 50; refine (bmade_yes _ _ _ _ _ c0 HN.out).mono ?_; rintro e w' ⟨rfl, rfl⟩)
    go_ret2
    exact ⟨rfl, rfl⟩
  · have h1 : (S.n : Int) ≤ s := by omega
    clear hd
    go_enter Tryz.func66, Tryz.ntmps66
    go_wp2_with (go_at_call 50; refine (bmade_yes _ _ _ _ _ c0 HN.out).mono ?_; rintro e w' ⟨rfl, rfl⟩)
    go_ret2
    exact ⟨rfl, rfl⟩
theorem bside_yes (h : PS lab w b g m lq S) (k : Nat) (hk : k < S.n) (hn : S.n ≤ 8) : Calls Tryz.prog 66 #[.pointer (some ⟨b, 0, none⟩), .int .i64 (k : Int)] w fun e w' => e = .returned (.tuple #[.pointer (some ⟨g, k * 13, none⟩), .int .i64 0]) ∧ w = w' := by
  have c0 := h.c0
  have h0 : (0 : Int) ≤ k := by omega
  have h1 : (k : Int) < S.n := by omega
  have HN := hid (show 1 ≤ S.n by omega)
  clear h
  go_enter Tryz.func66, Tryz.ntmps66
  go_wp2_with (go_at_call 50; refine (bmade_yes _ _ _ _ _ c0 HN.out).mono ?_; rintro e w' ⟨rfl, rfl⟩)
  go_ret2
  exact ⟨rfl, rfl⟩
end
end Go.Proofs.YtolfjbodgdjbjaaGreat.Br
