/-
  Package bridge: law14.play, same.
-/
import Derived.Test.YtakofhhfdgankaaBrBX
import Derived.Deep.RegionHeld3
import Derived.Laws.OwnMore
set_option linter.unusedSimpArgs false
set_option linter.unusedVariables false
namespace Go.Proofs.Ytakofhhfdgankaa.Br
open Go.RowKit Gen Bk
set_option maxHeartbeats 4000000
set_option maxRecDepth 100000

/-- a call that came in -/
structure OpV where
  what : Int
  a : Int
  b : Int
  c : Int
  on : Bool
  p : Option Addr
  l : List UInt8
  cp : Nat
def OpV.val (o : OpV) : Value := .agg #[.int .i64 o.what, .int .i64 o.a, .int .i64 o.b, .int .i64 o.c, .bool o.on, .slice o.p o.l.length o.cp]
structure OpV.fits (o : OpV) (w0 : World) : Prop where
  ba : BA w0 o.p o.l
  len : o.l.length ≤ 140737488351232
  nil : o.p = none → o.cp = 0
/-- what a call does -/
def OpV.go (o : OpV) (S : Sw) : Sw :=
  if o.what = 0 then (S.sendE o.a o.l).1 else if o.what = 1 then (S.rateE o.a o.b o.c).1 else if o.what = 2 then S.tick else if o.what = 3 then S else if o.what = 4 then (S.doneE o.a o.on).1 else if o.what = 5 then S else if o.what = 6 then (S.downE o.a).1 else (S.badE o.a).1
/-- 'append([]byte{}, s...)' of any bytes -/
theorem wpList_append_any {ops : Array Oper} {rest : List Oper} {o : Oper} {a : Act} {w0 : World} {Q : Exit → Act → World → Prop} (hgd : o.guard = none) (x y : Operand)
    (hop : o.op = .call { callee := .builtin .append, args := #[x, y], argTypes := #[31, 31] })
    (hx : a.eval x = .slice (some ⟨w0.heap.size, 0, none⟩) 0 0) (p : Option Addr) (l : List UInt8) (c n : Nat) (hn : l.length = n) (hl : l.length ≤ 140737488351232) (hnil : p = none → c = 0) (hy : a.eval y = .slice p n c) (hb : BA w0 p l)
    (h : ∀ v w', NewB w0 l v w' → wpList Try.prog ops Q rest (a.put o.dst v) w') : wpList Try.prog ops Q (o :: rest) a (w0.alloc (.cells #[] 5)) := by
  subst hn
  cases p with
  | some ad => exact wpList_append_new hgd x y hop hx ad l c hl hy hb h
  | none =>
    have hz := hb.of_none
    subst hz
    have hc := hnil rfl
    subst hc
    obtain ⟨i0, hi, hz0, hz1, hz2⟩ := info_parts info_u8
    have HOn := own_made0 w0
    refine wpList_append_own_none hgd x y 31 hop w0.heap.size 5 i0 1 Try.underlying31 hi _ 0 (bcells []) hx HOn hy ?_
    exact h _ _ ⟨HOn, World.grownBy_alloc w0 _ none⟩
/-- the call in a box of the law's own -/
structure Box (lab : Nat → Nat) (w : World) (X : Nat) (o : OpV) : Prop where
  lb : lab X = 99
  lt : X < w.heap.size
  c0 : w.cell? ⟨X, 0, none⟩ = some (.int .i64 o.what)
  c1 : w.cell? ⟨X, 1, none⟩ = some (.int .i64 o.a)
  c2 : w.cell? ⟨X, 2, none⟩ = some (.int .i64 o.b)
  c3 : w.cell? ⟨X, 3, none⟩ = some (.int .i64 o.c)
  c4 : w.cell? ⟨X, 4, none⟩ = some (.bool o.on)
  c5 : w.cell? ⟨X, 5, none⟩ = some (.slice o.p o.l.length o.cp)
theorem not_SX99 : ¬ SX 99 := by unfold SX; omega
section
variable {w0 w w' w1 : World} {lab lab' lab1 : Nat → Nat} {b y : Nat} {S S' S1 : Sw} {T T' : Nat} {X : Nat} {o : OpV}
theorem Box.st (h : Box lab w X o) {C : Nat → Prop} (s : St C lab w lab' w') (hC : ¬ C 99) : Box lab' w' X o :=
  have n : ∀ j, ¬ C (lab (⟨X, j, none⟩ : Addr).block) := fun j => by show ¬ C (lab X); rw [h.lb]; exact hC
  ⟨(s.keep X h.lt).trans h.lb, Nat.lt_of_lt_of_le h.lt s.size, s.cell h.c0 (n 0), s.cell h.c1 (n 1), s.cell h.c2 (n 2), s.cell h.c3 (n 3), s.cell h.c4 (n 4), s.cell h.c5 (n 5)⟩
theorem Box.more (h : Box lab w X o) (hg : w.grownBy w' none) : Box lab w' X o := h.st (C := fun _ => False) (St.grown hg) fun e => e
theorem Box.new (lab : Nat → Nat) (w : World) (o : OpV) : Box (lab9 lab w) (w.alloc (.cells #[.int .i64 o.what, .int .i64 o.a, .int .i64 o.b, .int .i64 o.c, .bool o.on, .slice o.p o.l.length o.cp] 33)) w.heap.size o := by
  have hc : ∀ k, (w.alloc (.cells #[.int .i64 o.what, .int .i64 o.a, .int .i64 o.b, .int .i64 o.c, .bool o.on, .slice o.p o.l.length o.cp] 33)).cell? ⟨w.heap.size, k, none⟩ = _ := fun k => cell_of_row _ w.heap.size k _ _ _ (heap_alloc_new w _)
  exact ⟨lab9_new _ _ (Nat.le_refl _), by simp, hc 0, hc 1, hc 2, hc 3, hc 4, hc 5⟩
/-- all that stands through a call of play -/
structure BP (w0 : World) (lab : Nat → Nat) (w : World) (b y : Nat) (S S' : Sw) (T : Nat) (X : Nat) (o : OpV) : Prop where
  x : BX w0 lab w b y S S' T
  q : Box lab w X o
theorem BP.more (h : BP w0 lab w b y S S' T X o) (hg : w.grownBy w' none) : BP w0 lab w' b y S S' T X o := ⟨h.x.more hg, h.q.more hg⟩
theorem BP.nx (h : BP w0 lab w b y S S' T X o) (n : NX w0 lab w b y S1 S T' w') : True := trivial
theorem BP.next {Sa Sb : Sw} (h : BP w0 lab w b y S S' T X o) (n : NX w0 lab w b y Sa Sb T' w') : ∃ lab', BP w0 lab' w' b y Sa Sb T' X o ∧ St SX lab w lab' w' := by
  obtain ⟨l, h1, h2⟩ := n
  exact ⟨l, ⟨h1, h.q.st h2 not_SX99⟩, h2⟩
/-- Bad, the second of both -/
theorem qBadS (h : BX w0 lab w b y S S' (T + 1)) (h0 : S'.ok T) (hT : T + 1 ≤ 2305843009213693952) (x : Int) : Calls Try.prog 32 #[.pointer (some ⟨y, 0, none⟩), .int .i64 x] w fun e w' => e = .returned (.int .i64 ((S'.badE x).2 : Nat)) ∧ NX w0 lab w b y S (S'.badE x).1 (T + 1) w' := by
  obtain ⟨r, a, ca, lq, hr⟩ := h.rs
  refine (yBad hr h.ok' x).mono ?_
  rintro e w' ⟨rfl, ha⟩
  exact ⟨rfl, h.aftQ ha (Sw.bad_ok h0 hT x) (Nat.le_refl _)⟩
/-- play, but the frames -/
theorem lPlay_rest (h : BX w0 lab w b y S S T) (hT : T + 1 ≤ 2305843009213693952) (o : OpV) (h0 : o.what ≠ 0) :
    Calls Try.prog 11 #[.pointer (some ⟨b, 0, none⟩), .pointer (some ⟨y, 0, none⟩), o.val] w fun e w' => e = .returned (.bool true) ∧ NX w0 lab w b y (o.go S) (o.go S) (T + 1) w' := by
  obtain ⟨W1, hW1⟩ : ∃ W, w.alloc (.cells #[.int .i64 o.what, .int .i64 o.a, .int .i64 o.b, .int .i64 o.c, .bool o.on, .slice o.p o.l.length o.cp] 33) = W := ⟨_, rfl⟩
  have hg1 : w.grownBy W1 none := hW1 ▸ World.grownBy_alloc _ _ none
  have hq : Box (lab9 lab w) W1 w.heap.size o := hW1 ▸ Box.new lab w o
  have H := hid (show BP w0 (lab9 lab w) W1 b y S S T w.heap.size o from ⟨h.fresh9 hg1, hq⟩)
  have HF := hid (fun (Sa Sb : Sw) (T' : Nat) (w' : World) (lab' : Nat → Nat) (hx : BX w0 lab' w' b y Sa Sb T') (hs : St SX (lab9 lab w) W1 lab' w') => (⟨lab', hx, (lab9_st lab hg1).tr hs⟩ : NX w0 lab w b y Sa Sb T' w'))
  have HT := hid hT
  obtain ⟨L9, hL9⟩ : ∃ l, lab9 lab w = l := ⟨_, rfl⟩
  rw [hL9] at H HF hq
  have d0 := hq.c0
  have d1 := hq.c1
  have d2 := hq.c2
  have d3 := hq.c3
  have d4 := hq.c4
  obtain ⟨X, hX⟩ : ∃ X, w.heap.size = X := ⟨_, rfl⟩
  rw [hX] at H d0 d1 d2 d3 d4
  have HO := hid h.ok
  clear h hg1 hq hL9 hT
  have k0 : (o.what == 0) = false := by simpa using h0
  have k0n := h0
  clear h0
  by_cases e1 : o.what = 1
  · have hgo : o.go S = (S.rateE o.a o.b o.c).1 := by unfold OpV.go; rw [if_neg k0n]; rw [if_pos e1]
    rw [hgo]
    have HP := hid (fun (W : World) (l : Nat → Nat) (h : BX w0 l W b y S S T) => pRate h o.a o.b o.c)
    have HQ := hid (fun (W : World) (l : Nat → Nat) (Sa : Sw) (h : BX w0 l W b y Sa S T) => qRate h o.a o.b o.c)
    rw [e1] at d0
    clear hgo k0n e1
    obtain ⟨what, xa, xb, xc, on, p, l, cp⟩ := o
    simp only [OpV.val] at d0 d1 d2 d3 d4 hW1 HP HQ k0 ⊢
    obtain ⟨cd, hcd⟩ : ∃ c, (S.rateE xa xb xc).2 = c := ⟨_, rfl⟩
    obtain ⟨S1, hS1⟩ : ∃ c, (S.rateE xa xb xc).1 = c := ⟨_, rfl⟩
    rw [hcd, hS1] at HP HQ
    rw [hS1]
    clear hcd hS1
    go_enter Try.func11, Try.ntmps11
    go_wp2_with fail
    have Hd := hid (H.out.more (grownBy_drew W1 none))
    have f1 := Hd.out.q.c1
    have f2 := Hd.out.q.c2
    have f3 := Hd.out.q.c3
    simp only at f1 f2 f3
    go_region_held3 (fun W => W.cell? ⟨X, 1, none⟩ = some (.int .i64 xa) ∧ W.cell? ⟨X, 2, none⟩ = some (.int .i64 xb) ∧ W.cell? ⟨X, 3, none⟩ = some (.int .i64 xc)) (first | exact ⟨by assumption, by assumption, by assumption⟩ | go_keep)
      (first
        | (go_at_call 22; (with_reducible refine (HP.out _ _ Hd.out.x).mono ?_); rintro e w2 ⟨rfl, hn2⟩; obtain ⟨l2, p2, s2⟩ := Hd.out.next hn2; have H2 := hid p2; have S2 := hid s2; have r1 := p2.q.c1; have r2 := p2.q.c2; have r3 := p2.q.c3; clear hn2 p2 s2; simp only at r1 r2 r3)
        | (go_at_call 27; (with_reducible refine (HQ.out _ _ _ H2.out.x).mono ?_); rintro e w3 ⟨rfl, hn3⟩; obtain ⟨l3, p3, s3⟩ := H2.out.next hn3; have H3 := hid p3; have S3 := hid s3; have u1 := p3.q.c1; have u2 := p3.q.c2; have u3 := p3.q.c3; clear hn3 p3 s3; simp only at u1 u2 u3))
    all_goals go_wp2_with fail
    all_goals
      go_ret
      obtain ⟨l9, x9, s9⟩ := HF.out _ _ _ _ _ H3.out.x (((St.grown (grownBy_drew W1 none)).tr S2.out).tr S3.out)
      exact ⟨by simp, l9, ⟨x9.ps, x9.rs, x9.ok.mono (Nat.le_succ _) HT.out, x9.ok'.mono (Nat.le_succ _) HT.out, x9.l0, x9.g0⟩, s9⟩
  · have k1 : (o.what == 1) = false := by simpa using e1
    have k1n := e1
    clear e1
    by_cases e2 : o.what = 2
    · have hgo : o.go S = S.tick := by unfold OpV.go; rw [if_neg k0n]; rw [if_neg k1n]; rw [if_pos e2]
      rw [hgo]
      have HQ := hid (fun (W : World) (l : Nat → Nat) (h : BX w0 l W b y S S T) => qTick h)
      have HP := hid (fun (W : World) (l : Nat → Nat) (h : BX w0 l W b y S S.tick T) => pTick h)
      rw [e2] at d0
      clear hgo k0n k1n e2
      obtain ⟨what, xa, xb, xc, on, p, l, cp⟩ := o
      simp only [OpV.val] at d0 d1 d2 d3 d4 hW1 k0 k1 ⊢
      go_enter Try.func11, Try.ntmps11
      go_wp2_with (first
        | (go_at_call 28; (with_reducible refine (HQ.out _ _ H.out.x).mono ?_); rintro e w2 ⟨rfl, hn2⟩; obtain ⟨l2, p2, s2⟩ := H.out.next hn2; have H2 := hid p2; have S2 := hid s2; clear hn2 p2 s2)
        | (go_at_call 23; (with_reducible refine (HP.out _ _ H2.out.x).mono ?_); rintro e w3 ⟨rfl, hn3⟩; obtain ⟨l3, p3, s3⟩ := H2.out.next hn3; have H3 := hid p3; have S3 := hid s3; clear hn3 p3 s3))
      go_ret
      obtain ⟨l9, x9, s9⟩ := HF.out _ _ _ _ _ H3.out.x (S2.out.tr S3.out)
      exact ⟨by simp, l9, ⟨x9.ps, x9.rs, x9.ok.mono (Nat.le_succ _) HT.out, x9.ok'.mono (Nat.le_succ _) HT.out, x9.l0, x9.g0⟩, s9⟩
    · have k2 : (o.what == 2) = false := by simpa using e2
      have k2n := e2
      clear e2
      by_cases e3 : o.what = 3
      · have hgo : o.go S = S := by unfold OpV.go; rw [if_neg k0n]; rw [if_neg k1n]; rw [if_neg k2n]; rw [if_pos e3]
        rw [hgo]
        have HP := hid (fun (W : World) (l : Nat → Nat) (h : BX w0 l W b y S S T) => pHead h o.a)
        have HQ := hid (fun (W : World) (l : Nat → Nat) (h : BX w0 l W b y S S T) => qHead h o.a)
        rw [e3] at d0
        clear hgo k0n k1n k2n e3
        obtain ⟨what, xa, xb, xc, on, p, l, cp⟩ := o
        simp only [OpV.val] at d0 d1 d2 d3 d4 hW1 k0 k1 k2 HP HQ ⊢
        obtain ⟨cd, hcd⟩ : ∃ c, (S.headE xa).2 = c := ⟨_, rfl⟩
        obtain ⟨fh, hfh⟩ : ∃ c, (S.headE xa).1 = c := ⟨_, rfl⟩
        rw [hcd, hfh] at HP HQ
        clear hcd hfh
        go_enter Try.func11, Try.ntmps11
        go_wp2_with (first
          | (go_at_call 20; (with_reducible refine (HP.out _ _ H.out.x).mono ?_); rintro e w2 ⟨p2, c2, rfl, b2, g2⟩; have H2 := hid (H.out.more g2); have B2 := hid b2; have G2 := hid g2; have m1 := (H.out.more g2).q.c1; clear b2 g2; simp only at m1)
          | (go_at_call 29; (with_reducible refine (HQ.out _ _ H2.out.x).mono ?_); rintro e w3 ⟨p3, c3, rfl, b3, g3⟩; have H3 := hid (H2.out.more g3); have G3 := hid (G2.out.trans g3); have v1 := (B2.out.grown g3).string c2; have v2 := b3.string c3; clear b3 g3))
        go_ret
        obtain ⟨l9, x9, s9⟩ := HF.out _ _ _ _ _ H3.out.x (St.grown G3.out)
        exact ⟨by simp, l9, ⟨x9.ps, x9.rs, x9.ok.mono (Nat.le_succ _) HT.out, x9.ok'.mono (Nat.le_succ _) HT.out, x9.l0, x9.g0⟩, s9⟩
      · have k3 : (o.what == 3) = false := by simpa using e3
        have k3n := e3
        clear e3
        by_cases e4 : o.what = 4
        · have hgo : o.go S = (S.doneE o.a o.on).1 := by unfold OpV.go; rw [if_neg k0n]; rw [if_neg k1n]; rw [if_neg k2n]; rw [if_neg k3n]; rw [if_pos e4]
          rw [hgo]
          have HP := hid (fun (W : World) (l : Nat → Nat) (h : BX w0 l W b y S S T) => pDone h o.a o.on)
          have HQ := hid (fun (W : World) (l : Nat → Nat) (Sa : Sw) (h : BX w0 l W b y Sa S T) => qDone h o.a o.on)
          rw [e4] at d0
          clear hgo k0n k1n k2n k3n e4
          obtain ⟨what, xa, xb, xc, on, p, l, cp⟩ := o
          simp only [OpV.val] at d0 d1 d2 d3 d4 hW1 HP HQ k0 k1 k2 k3 ⊢
          obtain ⟨cd, hcd⟩ : ∃ c, (S.doneE xa on).2 = c := ⟨_, rfl⟩
          obtain ⟨S1, hS1⟩ : ∃ c, (S.doneE xa on).1 = c := ⟨_, rfl⟩
          rw [hcd, hS1] at HP HQ
          rw [hS1]
          clear hcd hS1
          go_enter Try.func11, Try.ntmps11
          go_wp2_with fail
          have Hd := hid (H.out.more (grownBy_drew W1 none))
          have f1 := Hd.out.q.c1
          have f4 := Hd.out.q.c4
          simp only at f1 f4
          go_region_held3 (fun W => W.cell? ⟨X, 1, none⟩ = some (.int .i64 xa) ∧ W.cell? ⟨X, 4, none⟩ = some (.bool on)) (first | exact ⟨by assumption, by assumption⟩ | go_keep)
            (first
              | (go_at_call 25; (with_reducible refine (HP.out _ _ Hd.out.x).mono ?_); rintro e w2 ⟨rfl, hn2⟩; obtain ⟨l2, p2, s2⟩ := Hd.out.next hn2; have H2 := hid p2; have S2 := hid s2; have r1 := p2.q.c1; have r4 := p2.q.c4; clear hn2 p2 s2; simp only at r1 r4)
              | (go_at_call 30; (with_reducible refine (HQ.out _ _ _ H2.out.x).mono ?_); rintro e w3 ⟨rfl, hn3⟩; obtain ⟨l3, p3, s3⟩ := H2.out.next hn3; have H3 := hid p3; have S3 := hid s3; have u1 := p3.q.c1; have u4 := p3.q.c4; clear hn3 p3 s3; simp only at u1 u4))
          all_goals go_wp2_with fail
          all_goals
            go_ret
            obtain ⟨l9, x9, s9⟩ := HF.out _ _ _ _ _ H3.out.x (((St.grown (grownBy_drew W1 none)).tr S2.out).tr S3.out)
            exact ⟨by simp, l9, ⟨x9.ps, x9.rs, x9.ok.mono (Nat.le_succ _) HT.out, x9.ok'.mono (Nat.le_succ _) HT.out, x9.l0, x9.g0⟩, s9⟩
        · have k4 : (o.what == 4) = false := by simpa using e4
          have k4n := e4
          clear e4
          by_cases e5 : o.what = 5
          · have hgo : o.go S = S := by unfold OpV.go; rw [if_neg k0n]; rw [if_neg k1n]; rw [if_neg k2n]; rw [if_neg k3n]; rw [if_neg k4n]; rw [if_pos e5]
            rw [hgo]
            have HP := hid (fun (W : World) (l : Nat → Nat) (h : BX w0 l W b y S S T) => pKnown h o.a)
            have HQ := hid (fun (W : World) (l : Nat → Nat) (h : BX w0 l W b y S S T) => qKnown h o.a)
            rw [e5] at d0
            clear hgo k0n k1n k2n k3n k4n e5
            obtain ⟨what, xa, xb, xc, on, p, l, cp⟩ := o
            simp only [OpV.val] at d0 d1 d2 d3 d4 hW1 k0 k1 k2 k3 k4 HP HQ ⊢
            obtain ⟨cd, hcd⟩ : ∃ c, (S.knownE xa).2 = c := ⟨_, rfl⟩
            obtain ⟨fh, hfh⟩ : ∃ c, (S.knownE xa).1 = c := ⟨_, rfl⟩
            rw [hcd, hfh] at HP HQ
            clear hcd hfh
            go_enter Try.func11, Try.ntmps11
            go_wp2_with (first
              | (go_at_call 21; (with_reducible refine (HP.out _ _ H.out.x).mono ?_); rintro e w2 ⟨rfl, rfl⟩)
              | (go_at_call 31; (with_reducible refine (HQ.out _ _ H.out.x).mono ?_); rintro e w3 ⟨rfl, rfl⟩))
            go_ret
            obtain ⟨l9, x9, s9⟩ := HF.out _ _ _ _ _ H.out.x (St.refl _ _ _)
            exact ⟨by simp, l9, ⟨x9.ps, x9.rs, x9.ok.mono (Nat.le_succ _) HT.out, x9.ok'.mono (Nat.le_succ _) HT.out, x9.l0, x9.g0⟩, s9⟩
          · have k5 : (o.what == 5) = false := by simpa using e5
            have k5n := e5
            clear e5
            by_cases e6 : o.what = 6
            · have hgo : o.go S = (S.downE o.a).1 := by unfold OpV.go; rw [if_neg k0n]; rw [if_neg k1n]; rw [if_neg k2n]; rw [if_neg k3n]; rw [if_neg k4n]; rw [if_neg k5n]; rw [if_pos e6]
              rw [hgo]
              have HP := hid (fun (W : World) (l : Nat → Nat) (h : BX w0 l W b y S S T) => pDown h o.a)
              have HQ := hid (fun (W : World) (l : Nat → Nat) (Sa : Sw) (h : BX w0 l W b y Sa S T) => qDown h o.a)
              rw [e6] at d0
              clear hgo k0n k1n k2n k3n k4n k5n e6
              obtain ⟨what, xa, xb, xc, on, p, l, cp⟩ := o
              simp only [OpV.val] at d0 d1 d2 d3 d4 hW1 HP HQ k0 k1 k2 k3 k4 k5 ⊢
              obtain ⟨cd, hcd⟩ : ∃ c, (S.downE xa).2 = c := ⟨_, rfl⟩
              obtain ⟨S1, hS1⟩ : ∃ c, (S.downE xa).1 = c := ⟨_, rfl⟩
              rw [hcd, hS1] at HP HQ
              rw [hS1]
              clear hcd hS1
              go_enter Try.func11, Try.ntmps11
              go_wp2_with fail
              have Hd := hid (H.out.more (grownBy_drew W1 none))
              have f1 := Hd.out.q.c1
              simp only at f1
              go_region_held3 (fun W => W.cell? ⟨X, 1, none⟩ = some (.int .i64 xa)) (first | assumption | go_keep)
                (first
                  | (go_at_call 16; (with_reducible refine (HP.out _ _ Hd.out.x).mono ?_); rintro e w2 ⟨rfl, hn2⟩; obtain ⟨l2, p2, s2⟩ := Hd.out.next hn2; have H2 := hid p2; have S2 := hid s2; have r1 := p2.q.c1; clear hn2 p2 s2; simp only at r1)
                  | (go_at_call 17; (with_reducible refine (HQ.out _ _ _ H2.out.x).mono ?_); rintro e w3 ⟨rfl, hn3⟩; obtain ⟨l3, p3, s3⟩ := H2.out.next hn3; have H3 := hid p3; have S3 := hid s3; have u1 := p3.q.c1; clear hn3 p3 s3; simp only at u1))
              all_goals go_wp2_with fail
              all_goals
                go_ret
                obtain ⟨l9, x9, s9⟩ := HF.out _ _ _ _ _ H3.out.x (((St.grown (grownBy_drew W1 none)).tr S2.out).tr S3.out)
                exact ⟨by simp, l9, ⟨x9.ps, x9.rs, x9.ok.mono (Nat.le_succ _) HT.out, x9.ok'.mono (Nat.le_succ _) HT.out, x9.l0, x9.g0⟩, s9⟩
            · have k6 : (o.what == 6) = false := by simpa using e6
              have k6n := e6
              clear e6
              have hgo : o.go S = (S.badE o.a).1 := by unfold OpV.go; rw [if_neg k0n]; rw [if_neg k1n]; rw [if_neg k2n]; rw [if_neg k3n]; rw [if_neg k4n]; rw [if_neg k5n]; rw [if_neg k6n]
              rw [hgo]
              have HP := hid (fun (W : World) (l : Nat → Nat) (h : BX w0 l W b y S S T) => pBad h HT.out o.a)
              have HQ := hid (fun (W : World) (l : Nat → Nat) (Sa : Sw) (h : BX w0 l W b y Sa S (T + 1)) => qBadS h HO.out HT.out o.a)
              clear hgo k0n k1n k2n k3n k4n k5n k6n
              obtain ⟨what, xa, xb, xc, on, p, l, cp⟩ := o
              simp only [OpV.val] at d0 d1 d2 d3 d4 hW1 HP HQ k0 k1 k2 k3 k4 k5 k6 ⊢
              obtain ⟨cd, hcd⟩ : ∃ c, (S.badE xa).2 = c := ⟨_, rfl⟩
              obtain ⟨S1, hS1⟩ : ∃ c, (S.badE xa).1 = c := ⟨_, rfl⟩
              rw [hcd, hS1] at HP HQ
              rw [hS1]
              clear hcd hS1
              go_enter Try.func11, Try.ntmps11
              go_wp2_with fail
              have Hd := hid (H.out.more (grownBy_drew W1 none))
              have f1 := Hd.out.q.c1
              simp only at f1
              go_region_held3 (fun W => W.cell? ⟨X, 1, none⟩ = some (.int .i64 xa)) (first | assumption | go_keep)
                (first
                  | (go_at_call 24; (with_reducible refine (HP.out _ _ Hd.out.x).mono ?_); rintro e w2 ⟨rfl, hn2⟩; obtain ⟨l2, p2, s2⟩ := Hd.out.next hn2; have H2 := hid p2; have S2 := hid s2; have r1 := p2.q.c1; clear hn2 p2 s2; simp only at r1)
                  | (go_at_call 32; (with_reducible refine (HQ.out _ _ _ H2.out.x).mono ?_); rintro e w3 ⟨rfl, hn3⟩; obtain ⟨l3, p3, s3⟩ := H2.out.next hn3; have H3 := hid p3; have S3 := hid s3; have u1 := p3.q.c1; clear hn3 p3 s3; simp only at u1))
              all_goals go_wp2_with fail
              all_goals
                go_ret
                obtain ⟨l9, x9, s9⟩ := HF.out _ _ _ _ _ H3.out.x (((St.grown (grownBy_drew W1 none)).tr S2.out).tr S3.out)
                exact ⟨by simp, l9, ⟨x9.ps, x9.rs, x9.ok, x9.ok', x9.l0, x9.g0⟩, s9⟩
end
end Go.Proofs.Ytakofhhfdgankaa.Br
