/-
  Package bridge, for the laws: a switch that a law made, beside what was there ahead of it and what the law owns.
-/
import Derived.Test.YtakofhhfdgankaaBrN
import Derived.Test.YtakofhhfdgankaaBrF
set_option linter.unusedSimpArgs false
set_option linter.unusedVariables false
namespace Go.Proofs.Ytakofhhfdgankaa.Br
open Go.RowKit Gen Bk
set_option maxHeartbeats 1000000

/-- the law began in w0 (whose blocks have label 0 now, and are as they were); block b is the switch S -/
structure BV (w0 : World) (lab : Nat → Nat) (w : World) (b : Nat) (S : Sw) (T : Nat) : Prop where
  ps : ∃ g m lq, PS lab w b g m lq S
  ok : S.ok T
  l0 : ∀ k, k < w0.heap.size → lab k = 0
  g0 : w0.grownBy w none
/-- behind a call -/
def Nx (w0 : World) (lab : Nat → Nat) (w : World) (b : Nat) (S : Sw) (T : Nat) (w' : World) : Prop := ∃ lab', BV w0 lab' w' b S T ∧ St CP lab w lab' w'
section
variable {w0 w w' w1 : World} {lab lab' lab1 : Nat → Nat} {b : Nat} {S S' : Sw} {T T' : Nat}
theorem grown_st {C : Nat → Prop} (hg : w0.grownBy w none) (s : St C lab w lab' w') (l0 : ∀ k, k < w0.heap.size → lab k = 0) (hC : ¬ C 0) : w0.grownBy w' none ∧ ∀ k, k < w0.heap.size → lab' k = 0 :=
  ⟨s.chg.grown hg fun k hk => by
    rcases Nat.lt_or_ge k w0.heap.size with h | h
    · rw [l0 k h] at hk; exact absurd hk hC
    · exact h, fun k hk => (s.keep k (Nat.lt_of_lt_of_le hk hg.size)).trans (l0 k hk)⟩
theorem BV.st {C : Nat → Prop} (h : BV w0 lab w b S T) (s : St C lab w lab' w') (hC : ∀ l, l < 32 → ¬ C l) : BV w0 lab' w' b S T := by
  obtain ⟨g, m, lq, hp⟩ := h.ps
  obtain ⟨h1, h2⟩ := grown_st h.g0 s h.l0 (hC 0 (by omega))
  exact ⟨⟨g, m, lq, hp.st h.ok.n8 s hC⟩, h.ok, h2, h1⟩
theorem BV.more (h : BV w0 lab w b S T) (hg : w.grownBy w' none) : BV w0 lab w' b S T := h.st (C := fun _ => False) (St.grown hg) fun _ _ e => e
theorem BV.fresh0 (h : BV w0 lab w b S T) (hg : w.grownBy w' none) : BV w0 (lab0 lab w) w' b S T := h.st (C := fun _ => False) (lab0_st lab hg) fun _ _ e => e
/-- a block of the law's own -/
theorem BV.own (h : BV w0 lab w b S T) {k : Nat} (hk : lab k = 99) (hg : w.grownBy w' (some k)) : BV w0 lab w' b S T := h.st (C := fun l => l = 99) (St.one hg hk) fun l hl => by omega
theorem BV.new (h : BV w0 lab w b S T) (hg : w.grownBy w' none) : BV w0 (upd lab w.heap.size 99) w' b S T := h.st (C := fun _ => False) (St.upd hg (Nat.le_refl _) 99) fun _ _ e => e
theorem BV.mono (h : BV w0 lab w b S T) (hT : T ≤ T') (h62 : T' ≤ 2305843009213693952) : BV w0 lab w b S T' := ⟨h.ps, h.ok.mono hT h62, h.l0, h.g0⟩
theorem BV.aft (h : BV w0 lab w b S T) {g m : Nat} (ha : Aft lab w b g m S' w') (hok : S'.ok T') : Nx w0 lab w b S' T' w' := by
  obtain ⟨lab', lq', hp, hs⟩ := ha
  obtain ⟨h1, h2⟩ := grown_st h.g0 hs h.l0 (by unfold CP; omega)
  exact ⟨lab', ⟨⟨g, m, lq', hp⟩, hok, h2, h1⟩, hs⟩
theorem BV.nx (h : BV w0 lab w b S T) : Nx w0 lab w b S T w := ⟨lab, h, St.refl _ _ _⟩
theorem St.own99 {C : Nat → Prop} (s : St C lab w lab' w') {k : Nat} (hk : lab k = 99) (hlt : k < w.heap.size) (hC : ¬ C 99) : lab' k = 99 ∧ w'.heap[k]? = w.heap[k]? := ⟨(s.keep k hlt).trans hk, s.block hlt (by rw [hk]; exact hC)⟩
theorem not_CP0 : ¬ CP 0 := by unfold CP; omega
theorem not_CP99 : ¬ CP 99 := by unfold CP; omega
theorem BA.st {C : Nat → Prop} {p : Option Addr} {l : List UInt8} (h : BA w p l) (hl : ∀ a, p = some a → ¬ C (lab a.block)) (s : St C lab w lab' w') : BA w' p l := fun k hk => by
  obtain ⟨b, o, e, hc⟩ := h k hk
  have hne := hl _ e
  exact ⟨b, o, e, s.cell hc hne⟩
/-! ### the calls -/
theorem cPorts (h : BV w0 lab w b S T) : Calls Try.prog 26 #[.pointer (some ⟨b, 0, none⟩)] w fun e w' => e = .returned (.int .i64 S.n) ∧ w = w' := by
  obtain ⟨g, m, lq, hp⟩ := h.ps
  exact bPorts hp h.ok
theorem cCredit (h : BV w0 lab w b S T) (x : Int) : Calls Try.prog 15 #[.pointer (some ⟨b, 0, none⟩), .int .i64 x] w fun e w' => e = .returned (.int .i64 (S.creditE x : Nat)) ∧ w = w' := by
  obtain ⟨g, m, lq, hp⟩ := h.ps
  exact bCredit hp h.ok x
theorem cRate (h : BV w0 lab w b S T) (x y z : Int) : Calls Try.prog 22 #[.pointer (some ⟨b, 0, none⟩), .int .i64 x, .int .i64 y, .int .i64 z] w fun e w' => e = .returned (.int .i64 ((S.rateE x y z).2 : Nat)) ∧ Nx w0 lab w b (S.rateE x y z).1 T w' := by
  obtain ⟨g, m, lq, hp⟩ := h.ps
  refine (bRate hp h.ok x y z).mono ?_
  rintro e w' ⟨rfl, ha⟩
  exact ⟨rfl, h.aft ha (Sw.rate_ok h.ok x y z)⟩
theorem cTick (h : BV w0 lab w b S T) : Calls Try.prog 23 #[.pointer (some ⟨b, 0, none⟩)] w fun e w' => e = .returned (.int .i64 0) ∧ Nx w0 lab w b S.tick T w' := by
  obtain ⟨g, m, lq, hp⟩ := h.ps
  refine (bTick hp h.ok).mono ?_
  rintro e w' ⟨rfl, ha⟩
  exact ⟨rfl, h.aft ha (Sw.tick_ok h.ok)⟩
theorem cBad (h : BV w0 lab w b S T) (hT : T + 1 ≤ 2305843009213693952) (x : Int) : Calls Try.prog 24 #[.pointer (some ⟨b, 0, none⟩), .int .i64 x] w fun e w' => e = .returned (.int .i64 ((S.badE x).2 : Nat)) ∧ Nx w0 lab w b (S.badE x).1 (T + 1) w' := by
  obtain ⟨g, m, lq, hp⟩ := h.ps
  refine (bBad hp h.ok x).mono ?_
  rintro e w' ⟨rfl, ha⟩
  exact ⟨rfl, h.aft ha (Sw.bad_ok h.ok hT x)⟩
theorem cDone (h : BV w0 lab w b S T) (x : Int) (d : Bool) : Calls Try.prog 25 #[.pointer (some ⟨b, 0, none⟩), .int .i64 x, .bool d] w fun e w' => e = .returned (.int .i64 ((S.doneE x d).2 : Nat)) ∧ Nx w0 lab w b (S.doneE x d).1 T w' := by
  obtain ⟨g, m, lq, hp⟩ := h.ps
  refine (bDone hp h.ok x d).mono ?_
  rintro e w' ⟨rfl, ha⟩
  exact ⟨rfl, h.aft ha (Sw.done_ok h.ok x d)⟩
theorem cDown (h : BV w0 lab w b S T) (x : Int) : Calls Try.prog 16 #[.pointer (some ⟨b, 0, none⟩), .int .i64 x] w fun e w' => e = .returned (.int .i64 ((S.downE x).2 : Nat)) ∧ Nx w0 lab w b (S.downE x).1 T w' := by
  obtain ⟨g, m, lq, hp⟩ := h.ps
  refine (bDown hp h.ok x).mono ?_
  rintro e w' ⟨rfl, ha⟩
  exact ⟨rfl, h.aft ha (Sw.down_ok h.ok x)⟩
theorem cKnown (h : BV w0 lab w b S T) (x : Int) : Calls Try.prog 21 #[.pointer (some ⟨b, 0, none⟩), .int .i64 x] w fun e w' => e = .returned (.tuple #[.int .i64 ((S.knownE x).1 : Nat), .int .i64 ((S.knownE x).2 : Nat)]) ∧ w = w' := by
  obtain ⟨g, m, lq, hp⟩ := h.ps
  exact bKnown hp h.ok x
theorem cHead (h : BV w0 lab w b S T) (x : Int) : Calls Try.prog 20 #[.pointer (some ⟨b, 0, none⟩), .int .i64 x] w fun e w' => ∃ p c, e = .returned (.tuple #[.slice p (S.headE x).1.length c, .int .i64 ((S.headE x).2 : Nat)]) ∧ BA w' p (S.headE x).1 ∧ w.grownBy w' none := by
  obtain ⟨g, m, lq, hp⟩ := h.ps
  exact bHead hp h.ok x
theorem cCounts (h : BV w0 lab w b S T) (x : Int) : Calls Try.prog 14 #[.pointer (some ⟨b, 0, none⟩), .int .i64 x] w fun e w' => e = .returned (.tuple #[.agg (S.countsE x).1, .int .i64 ((S.countsE x).2 : Nat)]) ∧ w.grownBy w' none := by
  obtain ⟨g, m, lq, hp⟩ := h.ps
  exact bCounts hp h.ok x
theorem cSend (h : BV w0 lab w b S T) (hT : T + 1 ≤ 2305843009213693952) (x : Int) (p : Option Addr) (f : List UInt8) (c : Nat) (hb : BA w p f) (hl : ∀ a, p = some a → ¬ CP (lab a.block)) : Calls Try.prog 18 #[.pointer (some ⟨b, 0, none⟩), .int .i64 x, .slice p f.length c] w fun e w' => e = .returned (.int .i64 ((S.sendE x f).2 : Nat)) ∧ Nx w0 lab w b (S.sendE x f).1 (T + 1) w' := by
  obtain ⟨g, m, lq, hp⟩ := h.ps
  refine (bSend hp h.ok hT x p f c hb hl).mono ?_
  rintro e w' ⟨rfl, ha⟩
  exact ⟨rfl, h.aft ha (Sw.send_ok h.ok hT x f)⟩
/-- New, at the law's begin -/
theorem cNew (n : Nat) (h1 : 1 ≤ n) (h8 : n ≤ 8) (w : World) : Calls Try.prog 9 #[.int .i64 (n : Int)] w fun e w' => ∃ b lab, e = .returned (.tuple #[.pointer (some ⟨b, 0, none⟩), .int .i64 0]) ∧ BV w lab w' b (Sw.new n) 0 := by
  refine (bNew_yes (fun _ => 0) n h1 h8 w).mono ?_
  rintro e w' ⟨v, rfl, lab', b, g, m, lq, rfl, hp, hg, hl⟩
  exact ⟨b, lab', rfl, ⟨g, m, lq, hp⟩, Sw.new_ok h1 h8, hl, hg⟩
/-- a switch beside others: its labels are laid over those that are there -/
theorem cNewL (n : Nat) (h1 : 1 ≤ n) (h8 : n ≤ 8) (w : World) (lab : Nat → Nat) : Calls Try.prog 9 #[.int .i64 (n : Int)] w fun e w' => ∃ b lab' g m lq, e = .returned (.tuple #[.pointer (some ⟨b, 0, none⟩), .int .i64 0]) ∧ PS lab' w' b g m lq (Sw.new n) ∧ w.grownBy w' none ∧ ∀ k, k < w.heap.size → lab' k = lab k := by
  refine (bNew_yes lab n h1 h8 w).mono ?_
  rintro e w' ⟨v, rfl, lab', b, g, m, lq, rfl, hp, hg, hl⟩
  exact ⟨b, lab', g, m, lq, rfl, hp, hg, hl⟩
/-- awake -/
theorem cAwake (w : World) : Calls Try.prog 13 #[] w fun e w' => e = .returned (.bool true) ∧ w.grownBy w' none := by
  have HN := hid (cNew 3 (by omega) (by omega) w)
  go_enter Try.func13, Try.ntmps13
  go_wp2_with (first
    | (go_at_call 9; refine HN.out.mono ?_; rintro e w1 ⟨b, lab, rfl, h1⟩; have H1 := hid h1; clear h1)
    | (go_at_call 26; refine (cPorts H1.out).mono ?_; rintro e w2 ⟨rfl, rfl⟩))
  go_ret
  exact ⟨rfl, H1.out.g0⟩
end
end Go.Proofs.Ytakofhhfdgankaa.Br
