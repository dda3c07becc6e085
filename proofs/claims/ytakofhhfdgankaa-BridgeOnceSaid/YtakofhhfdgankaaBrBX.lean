/-
  Package bridge, for the laws: both sides, the program's switch and the reference's.
-/
import Derived.Test.YtakofhhfdgankaaBrQ
import Derived.Test.YtakofhhfdgankaaBrZ
import Derived.Test.YtakofhhfdgankaaBrZn
set_option linter.unusedSimpArgs false
set_option linter.unusedVariables false
namespace Go.Proofs.Ytakofhhfdgankaa.Br
open Go.RowKit Gen Bk
set_option maxHeartbeats 1000000

/-- the labels of both sides -/
def SX (l : Nat) : Prop := 1 ≤ l ∧ l < 64
/-- the law began in w0; block b is the program's switch S, block y the reference's S' -/
structure BX (w0 : World) (lab : Nat → Nat) (w : World) (b y : Nat) (S S' : Sw) (T : Nat) : Prop where
  ps : ∃ g m lq, PS lab w b g m lq S
  rs : ∃ r a ca lq, RS lab w y r a ca lq S'
  ok : S.ok T
  ok' : S'.ok T
  l0 : ∀ k, k < w0.heap.size → lab k = 0
  g0 : w0.grownBy w none
def NX (w0 : World) (lab : Nat → Nat) (w : World) (b y : Nat) (S S' : Sw) (T : Nat) (w' : World) : Prop := ∃ lab', BX w0 lab' w' b y S S' T ∧ St SX lab w lab' w'
section
variable {w0 w w' w1 : World} {lab lab' lab1 : Nat → Nat} {b y : Nat} {S S' S1 : Sw} {T T' : Nat}
theorem BX.st {C : Nat → Prop} (h : BX w0 lab w b y S S' T) (s : St C lab w lab' w') (hC : ∀ l, l < 64 → ¬ C l) : BX w0 lab' w' b y S S' T := by
  obtain ⟨g, m, lq, hp⟩ := h.ps
  obtain ⟨r, a, ca, lq', hr⟩ := h.rs
  obtain ⟨h1, h2⟩ := grown_st h.g0 s h.l0 (hC 0 (by omega))
  exact ⟨⟨g, m, lq, hp.st h.ok.n8 s fun l hl => hC l (by omega)⟩, ⟨r, a, ca, lq', hr.st h.ok'.n8 s fun l hl => hC l (by omega)⟩, h.ok, h.ok', h2, h1⟩
theorem BX.more (h : BX w0 lab w b y S S' T) (hg : w.grownBy w' none) : BX w0 lab w' b y S S' T := h.st (C := fun _ => False) (St.grown hg) fun _ _ e => e
theorem BX.own (h : BX w0 lab w b y S S' T) {k : Nat} (hk : lab k = 99) (hg : w.grownBy w' (some k)) : BX w0 lab w' b y S S' T := h.st (C := fun l => l = 99) (St.one hg hk) fun l hl => by omega
/-- all that is new is the law's own -/
def lab9 (lab : Nat → Nat) (w : World) : Nat → Nat := fun k => if k < w.heap.size then lab k else 99
theorem lab9_st {C : Nat → Prop} (lab : Nat → Nat) {w w' : World} (hg : w.grownBy w' none) : St C lab w (lab9 lab w) w' := ⟨fun k hk => if_pos hk, Chg.of0 hg⟩
theorem lab9_new (lab : Nat → Nat) (w : World) {k : Nat} (hk : w.heap.size ≤ k) : lab9 lab w k = 99 := if_neg (by omega)
theorem BX.fresh9 (h : BX w0 lab w b y S S' T) (hg : w.grownBy w' none) : BX w0 (lab9 lab w) w' b y S S' T := h.st (C := fun _ => False) (lab9_st lab hg) fun _ _ e => e
theorem BX.nx (h : BX w0 lab w b y S S' T) : NX w0 lab w b y S S' T w := ⟨lab, h, St.refl _ _ _⟩
theorem NX.grow (h : NX w0 lab w b y S S' T w1) (hg : w1.grownBy w' none) : NX w0 lab w b y S S' T w' := by
  obtain ⟨l, h1, h2⟩ := h
  exact ⟨l, h1.more hg, h2.tr (St.grown hg)⟩
theorem BX.aftP (h : BX w0 lab w b y S S' T) {g m : Nat} (ha : Aft lab w b g m S1 w') (hok : S1.ok T') (hT : T ≤ T') : NX w0 lab w b y S1 S' T' w' := by
  obtain ⟨lab', lq', hp, hs⟩ := ha
  obtain ⟨h1, h2⟩ := grown_st h.g0 hs h.l0 not_CP0
  obtain ⟨r, a, ca, lq, hr⟩ := h.rs
  exact ⟨lab', ⟨⟨g, m, lq', hp⟩, ⟨r, a, ca, lq, hr.st h.ok'.n8 hs (fun l hl => by unfold CP; omega)⟩, hok, h.ok'.mono hT hok.T62, h2, h1⟩, hs.mono fun l e => ⟨e.1, by have := e.2; omega⟩⟩
theorem BX.aftQ (h : BX w0 lab w b y S S' T) {r a ca : Nat} (ha : AftR lab w y r a ca S1 w') (hok : S1.ok T') (hT : T ≤ T') : NX w0 lab w b y S S1 T' w' := by
  obtain ⟨lab', lq', hr, hs⟩ := ha
  obtain ⟨h1, h2⟩ := grown_st h.g0 hs h.l0 (by unfold CR; omega)
  obtain ⟨g, m, lq, hp⟩ := h.ps
  exact ⟨lab', ⟨⟨g, m, lq, hp.st h.ok.n8 hs (fun l hl => by unfold CR; omega)⟩, ⟨r, a, ca, lq', hr⟩, h.ok.mono hT hok.T62, hok, h2, h1⟩, hs.mono fun l e => ⟨by have := e.1; omega, e.2⟩⟩
/-! ### the program's calls -/
theorem pRate (h : BX w0 lab w b y S S' T) (x u v : Int) : Calls Try.prog 22 #[.pointer (some ⟨b, 0, none⟩), .int .i64 x, .int .i64 u, .int .i64 v] w fun e w' => e = .returned (.int .i64 ((S.rateE x u v).2 : Nat)) ∧ NX w0 lab w b y (S.rateE x u v).1 S' T w' := by
  obtain ⟨g, m, lq, hp⟩ := h.ps
  refine (bRate hp h.ok x u v).mono ?_
  rintro e w' ⟨rfl, ha⟩
  exact ⟨rfl, h.aftP ha (Sw.rate_ok h.ok x u v) (Nat.le_refl _)⟩
theorem pTick (h : BX w0 lab w b y S S' T) : Calls Try.prog 23 #[.pointer (some ⟨b, 0, none⟩)] w fun e w' => e = .returned (.int .i64 0) ∧ NX w0 lab w b y S.tick S' T w' := by
  obtain ⟨g, m, lq, hp⟩ := h.ps
  refine (bTick hp h.ok).mono ?_
  rintro e w' ⟨rfl, ha⟩
  exact ⟨rfl, h.aftP ha (Sw.tick_ok h.ok) (Nat.le_refl _)⟩
theorem pBad (h : BX w0 lab w b y S S' T) (hT : T + 1 ≤ 2305843009213693952) (x : Int) : Calls Try.prog 24 #[.pointer (some ⟨b, 0, none⟩), .int .i64 x] w fun e w' => e = .returned (.int .i64 ((S.badE x).2 : Nat)) ∧ NX w0 lab w b y (S.badE x).1 S' (T + 1) w' := by
  obtain ⟨g, m, lq, hp⟩ := h.ps
  refine (bBad hp h.ok x).mono ?_
  rintro e w' ⟨rfl, ha⟩
  exact ⟨rfl, h.aftP ha (Sw.bad_ok h.ok hT x) (Nat.le_succ _)⟩
theorem pDone (h : BX w0 lab w b y S S' T) (x : Int) (d : Bool) : Calls Try.prog 25 #[.pointer (some ⟨b, 0, none⟩), .int .i64 x, .bool d] w fun e w' => e = .returned (.int .i64 ((S.doneE x d).2 : Nat)) ∧ NX w0 lab w b y (S.doneE x d).1 S' T w' := by
  obtain ⟨g, m, lq, hp⟩ := h.ps
  refine (bDone hp h.ok x d).mono ?_
  rintro e w' ⟨rfl, ha⟩
  exact ⟨rfl, h.aftP ha (Sw.done_ok h.ok x d) (Nat.le_refl _)⟩
theorem pDown (h : BX w0 lab w b y S S' T) (x : Int) : Calls Try.prog 16 #[.pointer (some ⟨b, 0, none⟩), .int .i64 x] w fun e w' => e = .returned (.int .i64 ((S.downE x).2 : Nat)) ∧ NX w0 lab w b y (S.downE x).1 S' T w' := by
  obtain ⟨g, m, lq, hp⟩ := h.ps
  refine (bDown hp h.ok x).mono ?_
  rintro e w' ⟨rfl, ha⟩
  exact ⟨rfl, h.aftP ha (Sw.down_ok h.ok x) (Nat.le_refl _)⟩
theorem pKnown (h : BX w0 lab w b y S S' T) (x : Int) : Calls Try.prog 21 #[.pointer (some ⟨b, 0, none⟩), .int .i64 x] w fun e w' => e = .returned (.tuple #[.int .i64 ((S.knownE x).1 : Nat), .int .i64 ((S.knownE x).2 : Nat)]) ∧ w = w' := by
  obtain ⟨g, m, lq, hp⟩ := h.ps
  exact bKnown hp h.ok x
theorem pHead (h : BX w0 lab w b y S S' T) (x : Int) : Calls Try.prog 20 #[.pointer (some ⟨b, 0, none⟩), .int .i64 x] w fun e w' => ∃ p c, e = .returned (.tuple #[.slice p (S.headE x).1.length c, .int .i64 ((S.headE x).2 : Nat)]) ∧ BA w' p (S.headE x).1 ∧ w.grownBy w' none := by
  obtain ⟨g, m, lq, hp⟩ := h.ps
  exact bHead hp h.ok x
theorem pCounts (h : BX w0 lab w b y S S' T) (x : Int) : Calls Try.prog 14 #[.pointer (some ⟨b, 0, none⟩), .int .i64 x] w fun e w' => e = .returned (.tuple #[.agg (S.countsE x).1, .int .i64 ((S.countsE x).2 : Nat)]) ∧ w.grownBy w' none := by
  obtain ⟨g, m, lq, hp⟩ := h.ps
  exact bCounts hp h.ok x
theorem pCredit (h : BX w0 lab w b y S S' T) (x : Int) : Calls Try.prog 15 #[.pointer (some ⟨b, 0, none⟩), .int .i64 x] w fun e w' => e = .returned (.int .i64 (S.creditE x : Nat)) ∧ w = w' := by
  obtain ⟨g, m, lq, hp⟩ := h.ps
  exact bCredit hp h.ok x
theorem pPorts (h : BX w0 lab w b y S S' T) : Calls Try.prog 26 #[.pointer (some ⟨b, 0, none⟩)] w fun e w' => e = .returned (.int .i64 S.n) ∧ w = w' := by
  obtain ⟨g, m, lq, hp⟩ := h.ps
  exact bPorts hp h.ok
theorem pSend (h : BX w0 lab w b y S S' T) (hT : T + 1 ≤ 2305843009213693952) (x : Int) (p : Option Addr) (f : List UInt8) (c : Nat) (hb : BA w p f) (hl : f ≠ [] → ∀ a, p = some a → ¬ CP (lab a.block)) : Calls Try.prog 18 #[.pointer (some ⟨b, 0, none⟩), .int .i64 x, .slice p f.length c] w fun e w' => e = .returned (.int .i64 ((S.sendE x f).2 : Nat)) ∧ NX w0 lab w b y (S.sendE x f).1 S' (T + 1) w' := by
  obtain ⟨g, m, lq, hp⟩ := h.ps
  have key : Calls Try.prog 18 #[.pointer (some ⟨b, 0, none⟩), .int .i64 x, .slice p f.length c] w fun e w' => e = .returned (.int .i64 ((S.sendE x f).2 : Nat)) ∧ Aft lab w b g m (S.sendE x f).1 w' := by
    by_cases hne : f = []
    · cases hx : S.is x with
      | false =>
        refine (bSend_no hp h.ok x _ hx).mono ?_
        rintro e w' ⟨rfl, rfl⟩
        have e1 : S.sendE x f = (S, 1) := by unfold Sw.sendE; rw [if_neg (by rw [hx]; simp)]
        rw [e1]
        exact ⟨rfl, hp.aft⟩
      | true =>
        obtain ⟨k, rfl, hk⟩ := Sw.is_yes hx
        have hf : malF f = true := by rw [hne]; rfl
        have e1 : S.sendE k f = (S.set k (S.P k).bad, 4) := by
          unfold Sw.sendE Sw.sendP
          rw [if_pos hx, Int.toNat_natCast, if_pos hf]
        rw [e1]
        exact bSend_mal hp h.ok k hk p f c hb hf
    · exact bSend hp h.ok hT x p f c hb (hl hne)
  refine key.mono ?_
  rintro e w' ⟨rfl, ha⟩
  exact ⟨rfl, h.aftP ha (Sw.send_ok h.ok hT x f) (Nat.le_succ _)⟩
/-! ### the reference's calls -/
theorem qRate (h : BX w0 lab w b y S S' T) (x u v : Int) : Calls Try.prog 27 #[.pointer (some ⟨y, 0, none⟩), .int .i64 x, .int .i64 u, .int .i64 v] w fun e w' => e = .returned (.int .i64 ((S'.rateE x u v).2 : Nat)) ∧ NX w0 lab w b y S (S'.rateE x u v).1 T w' := by
  obtain ⟨r, a, ca, lq, hr⟩ := h.rs
  refine (yRate hr h.ok' x u v).mono ?_
  rintro e w' ⟨rfl, ha⟩
  exact ⟨rfl, h.aftQ ha (Sw.rate_ok h.ok' x u v) (Nat.le_refl _)⟩
theorem qTick (h : BX w0 lab w b y S S' T) : Calls Try.prog 28 #[.pointer (some ⟨y, 0, none⟩)] w fun e w' => e = .returned (.tuple #[]) ∧ NX w0 lab w b y S S'.tick T w' := by
  obtain ⟨r, a, ca, lq, hr⟩ := h.rs
  refine (yTick hr h.ok').mono ?_
  rintro e w' ⟨rfl, ha⟩
  exact ⟨rfl, h.aftQ ha (Sw.tick_ok h.ok') (Nat.le_refl _)⟩
theorem qBad (h : BX w0 lab w b y S S' T) (hT : T + 1 ≤ 2305843009213693952) (x : Int) : Calls Try.prog 32 #[.pointer (some ⟨y, 0, none⟩), .int .i64 x] w fun e w' => e = .returned (.int .i64 ((S'.badE x).2 : Nat)) ∧ NX w0 lab w b y S (S'.badE x).1 (T + 1) w' := by
  obtain ⟨r, a, ca, lq, hr⟩ := h.rs
  refine (yBad hr h.ok' x).mono ?_
  rintro e w' ⟨rfl, ha⟩
  exact ⟨rfl, h.aftQ ha (Sw.bad_ok h.ok' hT x) (Nat.le_succ _)⟩
theorem qDone (h : BX w0 lab w b y S S' T) (x : Int) (d : Bool) : Calls Try.prog 30 #[.pointer (some ⟨y, 0, none⟩), .int .i64 x, .bool d] w fun e w' => e = .returned (.int .i64 ((S'.doneE x d).2 : Nat)) ∧ NX w0 lab w b y S (S'.doneE x d).1 T w' := by
  obtain ⟨r, a, ca, lq, hr⟩ := h.rs
  refine (yDone hr h.ok' x d).mono ?_
  rintro e w' ⟨rfl, ha⟩
  exact ⟨rfl, h.aftQ ha (Sw.done_ok h.ok' x d) (Nat.le_refl _)⟩
theorem qDown (h : BX w0 lab w b y S S' T) (x : Int) : Calls Try.prog 17 #[.pointer (some ⟨y, 0, none⟩), .int .i64 x] w fun e w' => e = .returned (.int .i64 ((S'.downE x).2 : Nat)) ∧ NX w0 lab w b y S (S'.downE x).1 T w' := by
  obtain ⟨r, a, ca, lq, hr⟩ := h.rs
  refine (yDown hr h.ok' x).mono ?_
  rintro e w' ⟨rfl, ha⟩
  exact ⟨rfl, h.aftQ ha (Sw.down_ok h.ok' x) (Nat.le_refl _)⟩
theorem qKnown (h : BX w0 lab w b y S S' T) (x : Int) : Calls Try.prog 31 #[.pointer (some ⟨y, 0, none⟩), .int .i64 x] w fun e w' => e = .returned (.tuple #[.int .i64 ((S'.knownE x).1 : Nat), .int .i64 ((S'.knownE x).2 : Nat)]) ∧ w = w' := by
  obtain ⟨r, a, ca, lq, hr⟩ := h.rs
  exact yKnown hr h.ok' x
theorem qHead (h : BX w0 lab w b y S S' T) (x : Int) : Calls Try.prog 29 #[.pointer (some ⟨y, 0, none⟩), .int .i64 x] w fun e w' => ∃ p c, e = .returned (.tuple #[.slice p (S'.headE x).1.length c, .int .i64 ((S'.headE x).2 : Nat)]) ∧ BA w' p (S'.headE x).1 ∧ w.grownBy w' none := by
  obtain ⟨r, a, ca, lq, hr⟩ := h.rs
  exact yHead hr h.ok' x
theorem qCounts (h : BX w0 lab w b y S S' T) (x : Int) : Calls Try.prog 33 #[.pointer (some ⟨y, 0, none⟩), .int .i64 x] w fun e w' => e = .returned (.tuple #[.agg (S'.countsE x).1, .int .i64 ((S'.countsE x).2 : Nat)]) ∧ w.grownBy w' none := by
  obtain ⟨r, a, ca, lq, hr⟩ := h.rs
  exact yCounts hr h.ok' x
theorem qIs (h : BX w0 lab w b y S S' T) (x : Int) : Calls Try.prog 34 #[.pointer (some ⟨y, 0, none⟩), .int .i64 x] w fun e w' => e = .returned (.bool (S'.is x)) ∧ w = w' := by
  obtain ⟨r, a, ca, lq, hr⟩ := h.rs
  exact yIs hr x
theorem qSend (h : BX w0 lab w b y S S' T) (hT : T + 1 ≤ 2305843009213693952) (x : Int) (p : Option Addr) (f : List UInt8) (c : Nat) (hb : BA w p f) (hl : f ≠ [] → ∀ a, p = some a → ¬ CR (lab a.block)) : Calls Try.prog 19 #[.pointer (some ⟨y, 0, none⟩), .int .i64 x, .slice p f.length c] w fun e w' => e = .returned (.int .i64 ((S'.sendE x f).2 : Nat)) ∧ NX w0 lab w b y S (S'.sendE x f).1 (T + 1) w' := by
  obtain ⟨r, a, ca, lq, hr⟩ := h.rs
  refine (ySend hr h.ok' hT x p f c hb hl).mono ?_
  rintro e w' ⟨rfl, ha⟩
  exact ⟨rfl, h.aftQ ha (Sw.send_ok h.ok' hT x f) (Nat.le_succ _)⟩
/-- both, at the law's begin -/
theorem qNew (h : BV w0 lab w b (Sw.new T') 0) (h1 : 1 ≤ T') (h8 : T' ≤ 8) : Calls Try.prog 10 #[.int .i64 (T' : Int)] w fun e w' => ∃ y lab', e = .returned (.tuple #[.pointer (some ⟨y, 0, none⟩), .int .i64 0]) ∧ BX w0 lab' w' b y (Sw.new T') (Sw.new T') 0 := by
  obtain ⟨g, m, lq, hp⟩ := h.ps
  refine (yNew_yes lab T' h1 h8 w).mono ?_
  rintro e w' ⟨y, lab', r, a, ca, lq', rfl, hr, hg, hl⟩
  have st : St (fun _ => False) lab w lab' w' := ⟨hl, Chg.of0 hg⟩
  obtain ⟨h2, h3⟩ := grown_st h.g0 st h.l0 (fun e => e)
  exact ⟨y, lab', rfl, ⟨g, m, lq, hp.st h8 st fun _ _ e => e⟩, ⟨r, a, ca, lq', hr⟩, Sw.new_ok h1 h8, Sw.new_ok h1 h8, h3, h2⟩
end
end Go.Proofs.Ytakofhhfdgankaa.Br
