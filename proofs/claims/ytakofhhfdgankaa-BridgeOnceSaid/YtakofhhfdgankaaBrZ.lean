/-
  The reference's switch: Send. By gen_brz.py.
-/
import Derived.Test.YtakofhhfdgankaaBrYc
import Derived.Test.YtakofhhfdgankaaBrK
set_option linter.unusedSimpArgs false
set_option linter.unusedVariables false
namespace Go.Proofs.Ytakofhhfdgankaa.Br
open Go.RowKit Gen Bk
set_option maxHeartbeats 4000000
set_option maxRecDepth 100000

section
variable {C : Nat → Prop} {lab lab' lab1 : Nat → Nat} {w w' w1 : World} {y r a ca : Nat} {lq : Nat → Lq} {S : Sw} {k : Nat} {s s' : Sd} {T : Nat}
theorem Sw.dirW_one (S : Sw) (fr t : Nat) (f : List UInt8) (hA : S.A (f.getD 0 0).toNat = some t) (ht : t ≠ fr) (hn : t < S.n) : S.dirW fr f = S.set t ((S.P t).dirF f) := by
  unfold Sw.dirW Sw.dirK Sw.set tgt
  rw [hA]
  congr 1
  funext i
  by_cases e : i = t
  · subst e; simp [hn, ht]
  · simp [e]
theorem Sw.dirW_none (S : Sw) (fr : Nat) (f : List UInt8) (hA : S.A (f.getD 0 0).toNat = some fr) : S.dirW fr f = S := by
  have e : ∀ i, tgt S.A (f.getD 0 0).toNat fr i = false := fun i => by
    unfold tgt
    rw [hA]
    by_cases e : i = fr <;> simp [e]
  rw [← Sw.dirK_end S fr 0 f (Nat.zero_le _) (fun i _ _ => e i), Sw.dirK_zero]
theorem ba_st {p : Option Addr} {l : List UInt8} (h : BA w p l) (hl : ∀ a, p = some a → ¬ C (lab a.block)) (s : St C lab w lab' w') : BA w' p l := fun k hk => by
  obtain ⟨b, o, e, hc⟩ := h k hk
  have hne := hl _ e
  exact ⟨b, o, e, s.cell hc hne⟩
theorem ba_stn {p : Option Addr} {l : List UInt8} (h : BA w p l) (hl : l ≠ [] → ∀ a, p = some a → ¬ C (lab a.block)) (s : St C lab w lab' w') : BA w' p l := fun k hk => by
  obtain ⟨b, o, e, hc⟩ := h k hk
  have hne := hl (fun e => by rw [e] at hk; simp at hk) _ e
  exact ⟨b, o, e, s.cell hc hne⟩
theorem ySend_no (h : RS lab w y r a ca lq S) (x : Int) (v : Value) (hp : S.is x = false) : Calls Try.prog 19 #[.pointer (some ⟨y, 0, none⟩), .int .i64 x, v] w fun e w' => e = .returned (.int .i64 1) ∧ w = w' := by
  have H := hid (yIs h x)
  rw [hp] at H
  clear h hp
  go_enter Try.func19, Try.ntmps19
  go_wp2_with (go_at_call 34; refine H.out.mono ?_; rintro e w' ⟨rfl, rfl⟩)
  go_ret
  exact ⟨rfl, rfl⟩
theorem ySend_mal (h : RS lab w y r a ca lq S) (ok : S.ok T) (k : Nat) (hk : k < S.n) (p : Option Addr) (f : List UInt8) (c : Nat) (hb : BA w p f) (hl : f ≠ [] → ∀ a, p = some a → ¬ CR (lab a.block)) (hf : malF f = true) : Calls Try.prog 19 #[.pointer (some ⟨y, 0, none⟩), .int .i64 (k : Int), .slice p f.length c] w fun e w' => e = .returned (.int .i64 4) ∧ AftR lab w y r a ca (S.set k (S.P k).bad) w' := by
  have H := hid (yIs h k)
  rw [Sw.is_mk hk] at H
  have os := ok.sd k hk
  obtain ⟨s, hs⟩ : ∃ s, S.P k = s := ⟨_, rfl⟩
  have hp' := h.self k
  rw [hs] at hp' os ⊢
  have t1 := os.tk
  have t2 := os.tT
  have t3 := ok.T62
  have t4 : s.taken ≤ 2305843009213693952 := by omega
  have t5 : s.mal ≤ 2305843009213693952 := by omega
  have t6 : s.noCr ≤ 2305843009213693952 := by omega
  have t7 : s.fw ≤ 2305843009213693952 := by omega
  have t8 : s.credit ≤ 65536 := Nat.le_trans os.cb os.bu
  have n8 := ok.n8
  have k0 : (0 : Int) ≤ k := by omega
  have k1 : (k : Int) < S.n := by omega
  obtain ⟨q1, g1⟩ := hp'.set_taken n8 hk (s.taken + 1) (z := (s.taken : Int) + 1) (by omega)
  have c0 := h.c0
  have c4 := hp'.at_taken hk
  have fz := h.fz (k * 13 + 4)
  obtain ⟨W1, hW1⟩ : ∃ W, w.setCell ⟨r, k * 13 + 4, none⟩ (.int .i64 ((s.taken : Int) + 1)) = W := ⟨_, rfl⟩
  rw [hW1] at q1 g1
  have d0 : W1.cell? ⟨y, 0, none⟩ = some (.slice (some ⟨r, 0, none⟩) S.n S.n) := q1.c0
  have c6 := q1.at_mal hk
  have fz6 := q1.fz (k * 13 + 6)
  simp only at c6
  obtain ⟨q2, g2⟩ := q1.set_mal n8 hk (s.mal + 1) (z := (s.mal : Int) + 1) (by omega)
  have Q := hid (show AftR lab w y r a ca (S.set k s.bad) _ from ⟨_, _, q2, h.str (g1.trans g2)⟩)
  have hb1 := ba_stn hb hl (h.str g1)
  clear h ok os hs hp' q1 q2 g1 g2 t1 t2 t3 hl hb
  by_cases f0 : f.length < 2
  · have f0' : (f.length : Int) < 2 := by omega
    have b0 : decide ((f.length : Int) < 2) = true := by simp <;> omega
    clear hb1 hf
    go_enter Try.func19, Try.ntmps19
    go_wp2_with (go_at_call 34; refine H.out.mono ?_; rintro e w' ⟨rfl, rfl⟩)
    go_ret
    exact ⟨rfl, Q.out⟩
  · have b0 : decide ((f.length : Int) < 2) = false := by simp <;> omega
    by_cases f1 : 128 < f.length
    · have b1 : decide ((128 : Int) < f.length) = true := by simp <;> omega
      clear hb1 hf
      go_enter Try.func19, Try.ntmps19
      go_wp2_with (go_at_call 34; refine H.out.mono ?_; rintro e w' ⟨rfl, rfl⟩)
      go_ret
      exact ⟨rfl, Q.out⟩
    · have b1 : decide ((128 : Int) < f.length) = false := by simp <;> omega
      obtain ⟨fb, fo, rfl⟩ := hb1.ptr (by omega)
      have x1 := hb1.at (k := 1) (by omega)
      have f2 : (1 : Int) < f.length := by omega
      have hx : (f.getD 1 0).toNat = 255 := by
        simp only [malF, Bool.or_eq_true, decide_eq_true_eq] at hf
        omega
      rw [hx] at x1
      clear hb1 hf hx
      go_enter Try.func19, Try.ntmps19
      go_wp2_with (go_at_call 34; refine H.out.mono ?_; rintro e w' ⟨rfl, rfl⟩)
      go_ret
      exact ⟨rfl, Q.out⟩
theorem ySend_full (h : RS lab w y r a ca lq S) (ok : S.ok T) (k : Nat) (hk : k < S.n) (p : Option Addr) (f : List UInt8) (c : Nat) (hb : BA w p f) (hl : ∀ a, p = some a → ¬ CR (lab a.block)) (hf : malF f = false) (hc : (S.P k).credit < f.length) : Calls Try.prog 19 #[.pointer (some ⟨y, 0, none⟩), .int .i64 (k : Int), .slice p f.length c] w fun e w' => e = .returned (.int .i64 71) ∧ AftR lab w y r a ca (S.set k { S.P k with taken := (S.P k).taken + 1, noCr := (S.P k).noCr + 1 }) w' := by
  have H := hid (yIs h k)
  rw [Sw.is_mk hk] at H
  have os := ok.sd k hk
  obtain ⟨s, hs⟩ : ∃ s, S.P k = s := ⟨_, rfl⟩
  have hp' := h.self k
  rw [hs] at hp' os hc ⊢
  have t1 := os.tk
  have t2 := os.tT
  have t3 := ok.T62
  have t4 : s.taken ≤ 2305843009213693952 := by omega
  have t5 : s.mal ≤ 2305843009213693952 := by omega
  have t6 : s.noCr ≤ 2305843009213693952 := by omega
  have t7 : s.fw ≤ 2305843009213693952 := by omega
  have t8 : s.credit ≤ 65536 := Nat.le_trans os.cb os.bu
  have n8 := ok.n8
  have k0 : (0 : Int) ≤ k := by omega
  have k1 : (k : Int) < S.n := by omega
  obtain ⟨q1, g1⟩ := hp'.set_taken n8 hk (s.taken + 1) (z := (s.taken : Int) + 1) (by omega)
  have c0 := h.c0
  have c4 := hp'.at_taken hk
  have fz := h.fz (k * 13 + 4)
  obtain ⟨W1, hW1⟩ : ∃ W, w.setCell ⟨r, k * 13 + 4, none⟩ (.int .i64 ((s.taken : Int) + 1)) = W := ⟨_, rfl⟩
  rw [hW1] at q1 g1
  have d0 : W1.cell? ⟨y, 0, none⟩ = some (.slice (some ⟨r, 0, none⟩) S.n S.n) := q1.c0
  obtain ⟨f1, f2, f3⟩ := malF_no hf
  have hb1 := ba_st hb hl (h.str g1)
  obtain ⟨fb, fo, rfl⟩ := hb1.ptr (by omega)
  have x1 := hb1.at (k := 1) (by omega)
  have b0 : decide ((f.length : Int) < 2) = false := by simp <;> omega
  have b1 : decide ((128 : Int) < f.length) = false := by simp <;> omega
  have b2 : (1 : Int) < f.length := by omega
  have b3 : (((f.getD 1 0).toNat : Int) == 255) = false := by rw [beq_eq_false_iff_ne]; omega
  have c2 := q1.at_credit hk
  have c7 := q1.at_noCr hk
  have fz7 := q1.fz (k * 13 + 7)
  simp only at c2 c7
  obtain ⟨q2, g2⟩ := q1.set_noCr n8 hk (s.noCr + 1) (z := (s.noCr : Int) + 1) (by omega)
  have Q := hid (show AftR lab w y r a ca _ _ from ⟨_, _, q2, h.str (g1.trans g2)⟩)
  have hc' : (s.credit : Int) < f.length := by omega
  obtain ⟨x, hx⟩ : ∃ x, f.getD 1 0 = x := ⟨_, rfl⟩
  rw [hx] at x1 b3
  clear h ok os hs hp' q1 q2 g1 g2 t1 t2 t3 hl hb hb1 hf hc hx f1 f2 f3
  go_enter Try.func19, Try.ntmps19
  go_wp2_with (go_at_call 34; refine H.out.mono ?_; rintro e w' ⟨rfl, rfl⟩)
  go_ret
  exact ⟨rfl, Q.out⟩
set_option maxRecDepth 100000 in
theorem ySend_yes (h : RS lab w y r a ca lq S) (ok : S.ok T) (hT : T + 1 ≤ 2305843009213693952) (k : Nat) (hk : k < S.n) (p : Option Addr) (f : List UInt8) (c : Nat) (hb : BA w p f) (hl : ∀ a, p = some a → ¬ CR (lab a.block)) (hf : malF f = false) (hc : f.length ≤ (S.P k).credit) :
    Calls Try.prog 19 #[.pointer (some ⟨y, 0, none⟩), .int .i64 (k : Int), .slice p f.length c] w fun e w' => e = .returned (.int .i64 0) ∧ AftR lab w y r a ca (((S.set k { S.P k with taken := (S.P k).taken + 1, credit := (S.P k).credit - f.length, fw := (S.P k).fw + 1 }).learn (f.getD 1 0).toNat k).dirW k f) w' := by
  have H := hid (yIs h k)
  rw [Sw.is_mk hk] at H
  have os := ok.sd k hk
  obtain ⟨s, hs⟩ : ∃ s, S.P k = s := ⟨_, rfl⟩
  have hp' := h.self k
  rw [hs] at hp' os hc ⊢
  have t1 := os.tk
  have t2 := os.tT
  have t3 := ok.T62
  have t4 : s.taken ≤ 2305843009213693952 := by omega
  have t5 : s.mal ≤ 2305843009213693952 := by omega
  have t6 : s.noCr ≤ 2305843009213693952 := by omega
  have t7 : s.fw ≤ 2305843009213693952 := by omega
  have t8 : s.credit ≤ 65536 := Nat.le_trans os.cb os.bu
  have n8 := ok.n8
  have k0 : (0 : Int) ≤ k := by omega
  have k1 : (k : Int) < S.n := by omega
  obtain ⟨q1, g1⟩ := hp'.set_taken n8 hk (s.taken + 1) (z := (s.taken : Int) + 1) (by omega)
  have c0 := h.c0
  have c4 := hp'.at_taken hk
  have fz := h.fz (k * 13 + 4)
  obtain ⟨W1, hW1⟩ : ∃ W, w.setCell ⟨r, k * 13 + 4, none⟩ (.int .i64 ((s.taken : Int) + 1)) = W := ⟨_, rfl⟩
  rw [hW1] at q1 g1
  have d0 : W1.cell? ⟨y, 0, none⟩ = some (.slice (some ⟨r, 0, none⟩) S.n S.n) := q1.c0
  obtain ⟨f1, f2, f3⟩ := malF_no hf
  have hb1 := ba_st hb hl (h.str g1)
  obtain ⟨fb, fo, rfl⟩ := hb1.ptr (by omega)
  have x1 := hb1.at (k := 1) (by omega)
  have b0 : decide ((f.length : Int) < 2) = false := by simp <;> omega
  have b1 : decide ((128 : Int) < f.length) = false := by simp <;> omega
  have b2 : (1 : Int) < f.length := by omega
  have b3 : (((f.getD 1 0).toNat : Int) == 255) = false := by rw [beq_eq_false_iff_ne]; omega
  have ok3 : (S.set k { s with taken := s.taken + 1, credit := s.credit - f.length, fw := s.fw + 1 }).ok (T + 1) := (ok.mono (Nat.le_succ T) hT).set ⟨by simp only; omega, os.dr, by simp only; omega, Nat.le_succ_of_le os.dT, os.q4, by have := os.cb; simp only; omega, os.bu, os.ra, os.fr⟩
  have OK4 := hid (ok3.learn (a := (f.getD 1 0).toNat) (p := k) f3 hk)
  have e2 := q1.at_credit hk
  have ez2 := q1.fz (k * 13)
  simp only at e2
  have hc' : ¬ (s.credit : Int) < f.length := by omega
  obtain ⟨q2, g2⟩ := q1.set_credit n8 hk (s.credit - f.length) (z := (s.credit : Int) - f.length) (by omega)
  have hcn : ((s.credit - f.length : Nat) : Int) = (s.credit : Int) - f.length := by omega
  obtain ⟨W2, hW2⟩ : ∃ W, W1.setCell ⟨r, k * 13, none⟩ (.int .i64 ((s.credit : Int) - f.length)) = W := ⟨_, rfl⟩
  rw [hW2] at q2 g2
  have gD := grownBy_drew W2 (some r)
  have q2d := q2.grown n8 (grownBy_drew W2 none)
  have y2 : W2.drew.cell? ⟨y, 0, none⟩ = some (.slice (some ⟨r, 0, none⟩) S.n S.n) := q2d.c0
  have c5 := q2d.at_fw hk
  have fz5 := q2d.fz (k * 13 + 5)
  simp only at c5
  obtain ⟨q3, g3⟩ := q2d.set_fw n8 hk (s.fw + 1) (z := (s.fw : Int) + 1) (by omega)
  obtain ⟨W3, hW3⟩ : ∃ W, W2.drew.setCell ⟨r, k * 13 + 5, none⟩ (.int .i64 ((s.fw : Int) + 1)) = W := ⟨_, rfl⟩
  rw [hW3] at q3 g3
  simp only at q3
  have gg := ((g1.trans g2).trans gD).trans g3
  have st3 := h.str gg
  have hb3 := ba_st hb hl st3
  have x3 := hb3.at (k := 1) (by omega)
  have x30 := hb3.at (k := 0) (by omega)
  have y3 : W3.cell? ⟨y, 1, none⟩ = some (.slice (some ⟨a, 0, none⟩) 256 ca) := q3.c1
  have y30 : W3.cell? ⟨y, 0, none⟩ = some (.slice (some ⟨r, 0, none⟩) S.n S.n) := q3.c0
  have u256 := UInt8.toNat_lt (f.getD 1 0)
  have v256 := UInt8.toNat_lt (f.getD 0 0)
  have a3 := q3.ad (x := (f.getD 1 0).toNat) u256
  have az3 := q3.adr.frozen (f.getD 1 0).toNat
  have HKn := hid (yknown q3)
  obtain ⟨S3, hS3⟩ : ∃ S3, S.set k { s with taken := s.taken + 1, credit := s.credit - f.length, fw := s.fw + 1 } = S3 := ⟨_, rfl⟩
  have hn3 : S3.n = S.n := by rw [← hS3]; rfl
  rw [hS3] at q3 a3 OK4 HKn ⊢
  have hlR := hl
  have HLb := hid (show ¬ CR (lab fb) from hl _ rfl)
  have HB3 := hid hb3
  have R3 := hid q3
  have ST3 := hid st3
  have HN := hid hn3
  have HF := hid (And.intro f1 f2)
  obtain ⟨x, hx⟩ : ∃ x, f.getD 1 0 = x := ⟨_, rfl⟩
  obtain ⟨v, hv⟩ : ∃ v, f.getD 0 0 = v := ⟨_, rfl⟩
  have HV := hid hv
  rw [hx] at x1 x3 b3 a3 az3 u256 OK4 ⊢
  rw [hv] at x30 v256
  rw [Nat.add_zero] at x30
  have xv0 : (0 : Int) ≤ x.toNat := by omega
  have xv1 : (x.toNat : Int) < 256 := by omega
  have vv0 : (0 : Int) ≤ v.toNat := by omega
  have vv1 : (v.toNat : Int) < 256 := by omega
  have fl0 : (0 : Int) < f.length := by omega
  have fl128 : (f.length : Int) ≤ 128 := by omega
  obtain ⟨n, hnf⟩ : ∃ n, f.length = n := ⟨_, rfl⟩
  have HNf := hid hnf
  rw [hnf] at b0 b1 b2 hc' hcn hW2 fl0 fl128 ⊢
  have hcw := hcn
  clear h ok os hs hp' q1 q2 q2d q3 g1 g2 g3 gD gg st3 hb3 t1 t2 t3 hl hb hb1 hf hc hx hv hnf f1 f2 f3 ok3 hS3 hlR hn3 hcn
  have hA4 : ∃ S4, S3.learn x.toNat k = S4 := ⟨_, rfl⟩
  obtain ⟨S4, hS4⟩ := hA4
  have HS4 := hid hS4
  rw [hS4] at OK4 ⊢
  unfold Sw.learn at hS4
  have HW2 := hid hW2
  cases hAx : S3.A x.toNat with
  | some p0 =>
    rw [hAx] at a3
    simp only [atI] at a3
    have hp0 : (0 : Int) ≤ p0 := by omega
    rw [if_pos (.inl (by rw [hAx]; rfl))] at hS4
    clear hAx
    obtain ⟨q4, g4⟩ := R3.out.seta (by rw [HN.out]; exact n8) u256 (some k) (v := (k : Int)) rfl
    rw [hS4] at q4
    obtain ⟨W4, hW4⟩ : ∃ W, W3.setCell ⟨a, x.toNat, none⟩ (.int .i64 (k : Int)) = W := ⟨_, rfl⟩
    rw [hW4] at q4 g4
    have R4 := hid q4
    have ST4 := hid (ST3.out.tr (St.one g4 (show CR (lab a) by rw [R3.out.la]; exact ⟨by omega, by omega⟩)))
    have B4 := hid (ba_st HB3.out (fun a e => by cases e; exact HLb.out) (St.one (C := CR) (lab := lab) g4 (show CR (lab a) by rw [R3.out.la]; exact ⟨by omega, by omega⟩)))
    have x40 := B4.out.at (k := 0) (by have := HF.out.1; omega)
    rw [HV.out, Nat.add_zero] at x40
    have HN4 := hid (show S4.n = S.n from by rw [← HS4.out]; exact HN.out)
    have y4 : W4.cell? ⟨y, 1, none⟩ = some (.slice (some ⟨a, 0, none⟩) 256 ca) := R4.out.c1
    have y40 : W4.cell? ⟨y, 0, none⟩ = some (.slice (some ⟨r, 0, none⟩) S4.n S4.n) := R4.out.c0
    have z4 := R4.out.ad (x := v.toNat) v256
    have h255 := OK4.out.a255
    have hatn := OK4.out.at_ v.toNat
    have HD := hid (fun (W : World) (lab1 : Nat → Nat) (lq1 : Nat → Lq) (S1 : Sw) (j : Nat) (s1 : Sd) (h1 : RS lab1 W y r a ca lq1 (S1.set j s1)) (hj : j < S1.n) (h8 : S1.n ≤ 8) (hb1 : BA W (some ⟨fb, fo, none⟩) f) (e1 : s1.dir ≤ 2305843009213693952) (e2 : s1.full ≤ 2305843009213693952) => ydirect h1 h8 hj (some ⟨fb, fo, none⟩) f c hb1 HF.out.1 HF.out.2 e1 e2)
    rw [HNf.out] at HD
    have HDir := hid (fun (i : Nat) (hi : i < S4.n) => (by
      have o4 := OK4.out.sd i hi
      have := o4.dr
      have := o4.dT
      have := OK4.out.T62
      exact ⟨by omega, by omega⟩ : (S4.P i).dir ≤ 2305843009213693952 ∧ (S4.P i).full ≤ 2305843009213693952))
    have hn4 : S4.n = S.n := HN4.out
    cases hA : S4.A v.toNat with
    | some t =>
      rw [hA] at z4
      simp only [atI] at z4
      have htn : t < S4.n := hatn t hA
      have hv255 : ((v.toNat : Int) != 255) = true := by
        simp only [bne_iff_ne, ne_eq]
        intro e
        have : v.toNat = 255 := by omega
        rw [this, h255] at hA
        cases hA
      have htp : (0 : Int) ≤ t := by omega
      by_cases htk : t = k
      · have b9 : ((t : Int) != k) = false := by simp [htk]
        have eW : S4.dirW k f = S4 := S4.dirW_none k f (by rw [HV.out, hA, htk])
        rw [eW]
        clear hA hatn h255 htk eW
        go_enter Try.func19, Try.ntmps19
        go_wp2_with (go_at_call 34; refine H.out.mono ?_; rintro e w' ⟨rfl, rfl⟩)
        go_region
        go_wp2_with (first
          | (go_at_call 45; refine HKn.out.mono ?_; rintro e w' ⟨rfl, rfl⟩))
        go_ret
        exact ⟨rfl, lab, lq, R4.out, ST4.out⟩
      · have b9 : ((t : Int) != k) = true := by simp; omega
        have eW : S4.dirW k f = S4.set t ((S4.P t).dirF f) := S4.dirW_one k t f (by rw [HV.out, hA]) htk htn
        rw [eW]
        have HC := hid (HD.out W4 lab lq S4 t (S4.P t) (R4.out.self t) htn OK4.out.n8 B4.out (HDir.out t htn).1 (HDir.out t htn).2)
        clear hA hatn h255 htk eW
        go_enter Try.func19, Try.ntmps19
        go_wp2_with (go_at_call 34; refine H.out.mono ?_; rintro e w' ⟨rfl, rfl⟩)
        go_region
        go_wp2_with (first
          | (go_at_call 45; refine HKn.out.mono ?_; rintro e w' ⟨rfl, rfl⟩)
          | (go_at_call 46; refine HC.out.mono ?_; rintro e w5 ⟨rfl, ha⟩; have A5 := hid ha; clear ha))
        go_ret
        exact ⟨rfl, AftR.first ST4.out A5.out⟩
    | none =>
      rw [hA] at z4
      simp only [atI] at z4
      have HAn := hid hA
      clear hA hatn h255
      go_enter Try.func19, Try.ntmps19
      go_wp2_with (go_at_call 34; refine H.out.mono ?_; rintro e w' ⟨rfl, rfl⟩)
      go_region
      go_wp2_with (first
        | (go_at_call 45; refine HKn.out.mono ?_; rintro e w' ⟨rfl, rfl⟩))
      all_goals
        go_loopw [9] (fun i wr => ∃ (j : Nat) (lab1 : Nat → Nat) (lq1 : Nat → Lq), i = .int .i64 j ∧ j ≤ S4.n ∧ RS lab1 wr y r a ca lq1 (S4.dirK k j f) ∧ BA wr (some ⟨fb, fo, none⟩) f ∧ lab1 fb = lab fb ∧ St CR lab w lab1 wr) (fun i _ => S4.n - (intOf i).toNat)
        case atStart => exact ⟨0, lab, lq, rfl, by omega, by rw [Sw.dirK_zero]; exact R4.out, B4.out, rfl, ST4.out⟩
        case round =>
          clear z4 y4 y40
          obtain ⟨j, lab1, lq1, rfl, hj, hp, hb1, hlb, hst⟩ := hrel
          have P := hid hp
          have B1 := hid hb1
          have ST := hid hst
          have HLB := hid (show ¬ CR (lab1 fb) from by rw [hlb]; exact HLb.out)
          have HLE := hid hlb
          have c9 : wr.cell? ⟨y, 0, none⟩ = some (.slice (some ⟨r, 0, none⟩) S4.n S4.n) := hp.c0
          clear hp hb1 hst hlb
          have hj0 : (0 : Int) ≤ j := by omega
          have h8 := OK4.out.n8
          by_cases hlt : j < S4.n
          · have hlt' : (j : Int) < S4.n := by omega
            by_cases hfr : j = k
            · have hfr' : ((j : Int) != k) = false := by simp [hfr]
              have ht : tgt S4.A (f.getD 0 0).toNat k j = false := by unfold tgt; simp [hfr]
              clear hfr
              go_wp2_with fail
              go_roundw
              case rel => exact ⟨j + 1, lab1, lq1, by go_num, by omega, by rw [Sw.dirK_skip _ _ _ _ ht]; exact P.out, B1.out, HLE.out, ST.out⟩
              case measure => simp [intOf]; omega
            · have hfr' : ((j : Int) != k) = true := by simp; omega
              have ht : tgt S4.A (f.getD 0 0).toNat k j = true := by unfold tgt; rw [HV.out, HAn.out]; simp [hfr]
              have HC := hid (HD.out wr lab1 lq1 (S4.dirK k j f) j (S4.P j) (by have := P.out.self j; rw [Sw.dirK_at] at this; exact this) hlt h8 B1.out (HDir.out j hlt).1 (HDir.out j hlt).2)
              rw [← Sw.dirK_take _ _ _ _ ht] at HC
              clear hfr
              go_wp2_with (go_at_call 46; refine HC.out.mono ?_; rintro e w5 ⟨rfl, lab2, lq2, p2, st2⟩; have P2 := hid p2; have B2 := hid (ba_st B1.out (fun a e => by cases e; exact HLB.out) st2); have L2 := hid (show lab2 fb = lab fb from by (obtain ⟨_, _, e, hcc⟩ := B1.out 0 (by have := HF.out.1; omega); cases e; exact (st2.keep fb (World.block_lt_of_cell? _ _ hcc)).trans HLE.out)); have S2 := hid (ST.out.tr st2); clear p2 st2)
              go_roundw
              case rel => exact ⟨j + 1, lab2, lq2, by go_num, by omega, P2.out, B2.out, L2.out, S2.out⟩
              case measure => simp [intOf]; omega
          · obtain rfl : j = S4.n := by omega
            have hge : ¬ ((S4.n : Int) < S4.n) := by omega
            go_wp2_with fail
            go_ret
            exact ⟨rfl, lab1, lq1, P.out, ST.out⟩
  | none =>
    rw [hAx] at a3
    simp only [atI] at a3
    by_cases hcn : cnt S3.A 256 < 64
    · rw [if_pos (.inr hcn)] at hS4
      have hcn' : ((cnt S3.A 256 : Nat) : Int) < 64 := by omega
      clear hAx
      obtain ⟨q4, g4⟩ := R3.out.seta (by rw [HN.out]; exact n8) u256 (some k) (v := (k : Int)) rfl
      rw [hS4] at q4
      obtain ⟨W4, hW4⟩ : ∃ W, W3.setCell ⟨a, x.toNat, none⟩ (.int .i64 (k : Int)) = W := ⟨_, rfl⟩
      rw [hW4] at q4 g4
      have R4 := hid q4
      have ST4 := hid (ST3.out.tr (St.one g4 (show CR (lab a) by rw [R3.out.la]; exact ⟨by omega, by omega⟩)))
      have B4 := hid (ba_st HB3.out (fun a e => by cases e; exact HLb.out) (St.one (C := CR) (lab := lab) g4 (show CR (lab a) by rw [R3.out.la]; exact ⟨by omega, by omega⟩)))
      have x40 := B4.out.at (k := 0) (by have := HF.out.1; omega)
      rw [HV.out, Nat.add_zero] at x40
      have HN4 := hid (show S4.n = S.n from by rw [← HS4.out]; exact HN.out)
      have y4 : W4.cell? ⟨y, 1, none⟩ = some (.slice (some ⟨a, 0, none⟩) 256 ca) := R4.out.c1
      have y40 : W4.cell? ⟨y, 0, none⟩ = some (.slice (some ⟨r, 0, none⟩) S4.n S4.n) := R4.out.c0
      have z4 := R4.out.ad (x := v.toNat) v256
      have h255 := OK4.out.a255
      have hatn := OK4.out.at_ v.toNat
      have HD := hid (fun (W : World) (lab1 : Nat → Nat) (lq1 : Nat → Lq) (S1 : Sw) (j : Nat) (s1 : Sd) (h1 : RS lab1 W y r a ca lq1 (S1.set j s1)) (hj : j < S1.n) (h8 : S1.n ≤ 8) (hb1 : BA W (some ⟨fb, fo, none⟩) f) (e1 : s1.dir ≤ 2305843009213693952) (e2 : s1.full ≤ 2305843009213693952) => ydirect h1 h8 hj (some ⟨fb, fo, none⟩) f c hb1 HF.out.1 HF.out.2 e1 e2)
      rw [HNf.out] at HD
      have HDir := hid (fun (i : Nat) (hi : i < S4.n) => (by
        have o4 := OK4.out.sd i hi
        have := o4.dr
        have := o4.dT
        have := OK4.out.T62
        exact ⟨by omega, by omega⟩ : (S4.P i).dir ≤ 2305843009213693952 ∧ (S4.P i).full ≤ 2305843009213693952))
      have hn4 : S4.n = S.n := HN4.out
      cases hA : S4.A v.toNat with
      | some t =>
        rw [hA] at z4
        simp only [atI] at z4
        have htn : t < S4.n := hatn t hA
        have hv255 : ((v.toNat : Int) != 255) = true := by
          simp only [bne_iff_ne, ne_eq]
          intro e
          have : v.toNat = 255 := by omega
          rw [this, h255] at hA
          cases hA
        have htp : (0 : Int) ≤ t := by omega
        by_cases htk : t = k
        · have b9 : ((t : Int) != k) = false := by simp [htk]
          have eW : S4.dirW k f = S4 := S4.dirW_none k f (by rw [HV.out, hA, htk])
          rw [eW]
          clear hA hatn h255 htk eW
          go_enter Try.func19, Try.ntmps19
          go_wp2_with (go_at_call 34; refine H.out.mono ?_; rintro e w' ⟨rfl, rfl⟩)
          go_region
          go_wp2_with (first
            | (go_at_call 45; refine HKn.out.mono ?_; rintro e w' ⟨rfl, rfl⟩))
          go_ret
          exact ⟨rfl, lab, lq, R4.out, ST4.out⟩
        · have b9 : ((t : Int) != k) = true := by simp; omega
          have eW : S4.dirW k f = S4.set t ((S4.P t).dirF f) := S4.dirW_one k t f (by rw [HV.out, hA]) htk htn
          rw [eW]
          have HC := hid (HD.out W4 lab lq S4 t (S4.P t) (R4.out.self t) htn OK4.out.n8 B4.out (HDir.out t htn).1 (HDir.out t htn).2)
          clear hA hatn h255 htk eW
          go_enter Try.func19, Try.ntmps19
          go_wp2_with (go_at_call 34; refine H.out.mono ?_; rintro e w' ⟨rfl, rfl⟩)
          go_region
          go_wp2_with (first
            | (go_at_call 45; refine HKn.out.mono ?_; rintro e w' ⟨rfl, rfl⟩)
            | (go_at_call 46; refine HC.out.mono ?_; rintro e w5 ⟨rfl, ha⟩; have A5 := hid ha; clear ha))
          go_ret
          exact ⟨rfl, AftR.first ST4.out A5.out⟩
      | none =>
        rw [hA] at z4
        simp only [atI] at z4
        have HAn := hid hA
        clear hA hatn h255
        go_enter Try.func19, Try.ntmps19
        go_wp2_with (go_at_call 34; refine H.out.mono ?_; rintro e w' ⟨rfl, rfl⟩)
        go_region
        go_wp2_with (first
          | (go_at_call 45; refine HKn.out.mono ?_; rintro e w' ⟨rfl, rfl⟩))
        all_goals
          go_loopw [9] (fun i wr => ∃ (j : Nat) (lab1 : Nat → Nat) (lq1 : Nat → Lq), i = .int .i64 j ∧ j ≤ S4.n ∧ RS lab1 wr y r a ca lq1 (S4.dirK k j f) ∧ BA wr (some ⟨fb, fo, none⟩) f ∧ lab1 fb = lab fb ∧ St CR lab w lab1 wr) (fun i _ => S4.n - (intOf i).toNat)
          case atStart => exact ⟨0, lab, lq, rfl, by omega, by rw [Sw.dirK_zero]; exact R4.out, B4.out, rfl, ST4.out⟩
          case round =>
            clear z4 y4 y40
            obtain ⟨j, lab1, lq1, rfl, hj, hp, hb1, hlb, hst⟩ := hrel
            have P := hid hp
            have B1 := hid hb1
            have ST := hid hst
            have HLB := hid (show ¬ CR (lab1 fb) from by rw [hlb]; exact HLb.out)
            have HLE := hid hlb
            have c9 : wr.cell? ⟨y, 0, none⟩ = some (.slice (some ⟨r, 0, none⟩) S4.n S4.n) := hp.c0
            clear hp hb1 hst hlb
            have hj0 : (0 : Int) ≤ j := by omega
            have h8 := OK4.out.n8
            by_cases hlt : j < S4.n
            · have hlt' : (j : Int) < S4.n := by omega
              by_cases hfr : j = k
              · have hfr' : ((j : Int) != k) = false := by simp [hfr]
                have ht : tgt S4.A (f.getD 0 0).toNat k j = false := by unfold tgt; simp [hfr]
                clear hfr
                go_wp2_with fail
                go_roundw
                case rel => exact ⟨j + 1, lab1, lq1, by go_num, by omega, by rw [Sw.dirK_skip _ _ _ _ ht]; exact P.out, B1.out, HLE.out, ST.out⟩
                case measure => simp [intOf]; omega
              · have hfr' : ((j : Int) != k) = true := by simp; omega
                have ht : tgt S4.A (f.getD 0 0).toNat k j = true := by unfold tgt; rw [HV.out, HAn.out]; simp [hfr]
                have HC := hid (HD.out wr lab1 lq1 (S4.dirK k j f) j (S4.P j) (by have := P.out.self j; rw [Sw.dirK_at] at this; exact this) hlt h8 B1.out (HDir.out j hlt).1 (HDir.out j hlt).2)
                rw [← Sw.dirK_take _ _ _ _ ht] at HC
                clear hfr
                go_wp2_with (go_at_call 46; refine HC.out.mono ?_; rintro e w5 ⟨rfl, lab2, lq2, p2, st2⟩; have P2 := hid p2; have B2 := hid (ba_st B1.out (fun a e => by cases e; exact HLB.out) st2); have L2 := hid (show lab2 fb = lab fb from by (obtain ⟨_, _, e, hcc⟩ := B1.out 0 (by have := HF.out.1; omega); cases e; exact (st2.keep fb (World.block_lt_of_cell? _ _ hcc)).trans HLE.out)); have S2 := hid (ST.out.tr st2); clear p2 st2)
                go_roundw
                case rel => exact ⟨j + 1, lab2, lq2, by go_num, by omega, P2.out, B2.out, L2.out, S2.out⟩
                case measure => simp [intOf]; omega
            · obtain rfl : j = S4.n := by omega
              have hge : ¬ ((S4.n : Int) < S4.n) := by omega
              go_wp2_with fail
              go_ret
              exact ⟨rfl, lab1, lq1, P.out, ST.out⟩
    · rw [if_neg (by rw [hAx]; simpa using hcn)] at hS4
      have hcn' : ¬ ((cnt S3.A 256 : Nat) : Int) < 64 := by omega
      clear hAx
      have hS4e : S3 = S4 := hS4
      have R4 := hid (show RS lab W3 y r a ca lq S4 from hS4e ▸ R3.out)
      clear hS4e hS4 y30 y3
      have ST4 := ST3
      have B4 := HB3
      have HN4 := hid (show S4.n = S.n from by rw [← HS4.out]; exact HN.out)
      have y4 : W3.cell? ⟨y, 1, none⟩ = some (.slice (some ⟨a, 0, none⟩) 256 ca) := R4.out.c1
      have y40 : W3.cell? ⟨y, 0, none⟩ = some (.slice (some ⟨r, 0, none⟩) S4.n S4.n) := R4.out.c0
      have z4 := R4.out.ad (x := v.toNat) v256
      have h255 := OK4.out.a255
      have hatn := OK4.out.at_ v.toNat
      have HD := hid (fun (W : World) (lab1 : Nat → Nat) (lq1 : Nat → Lq) (S1 : Sw) (j : Nat) (s1 : Sd) (h1 : RS lab1 W y r a ca lq1 (S1.set j s1)) (hj : j < S1.n) (h8 : S1.n ≤ 8) (hb1 : BA W (some ⟨fb, fo, none⟩) f) (e1 : s1.dir ≤ 2305843009213693952) (e2 : s1.full ≤ 2305843009213693952) => ydirect h1 h8 hj (some ⟨fb, fo, none⟩) f c hb1 HF.out.1 HF.out.2 e1 e2)
      rw [HNf.out] at HD
      have HDir := hid (fun (i : Nat) (hi : i < S4.n) => (by
        have o4 := OK4.out.sd i hi
        have := o4.dr
        have := o4.dT
        have := OK4.out.T62
        exact ⟨by omega, by omega⟩ : (S4.P i).dir ≤ 2305843009213693952 ∧ (S4.P i).full ≤ 2305843009213693952))
      have hn4 : S4.n = S.n := HN4.out
      cases hA : S4.A v.toNat with
      | some t =>
        rw [hA] at z4
        simp only [atI] at z4
        have htn : t < S4.n := hatn t hA
        have hv255 : ((v.toNat : Int) != 255) = true := by
          simp only [bne_iff_ne, ne_eq]
          intro e
          have : v.toNat = 255 := by omega
          rw [this, h255] at hA
          cases hA
        have htp : (0 : Int) ≤ t := by omega
        by_cases htk : t = k
        · have b9 : ((t : Int) != k) = false := by simp [htk]
          have eW : S4.dirW k f = S4 := S4.dirW_none k f (by rw [HV.out, hA, htk])
          rw [eW]
          clear hA hatn h255 htk eW
          go_enter Try.func19, Try.ntmps19
          go_wp2_with (go_at_call 34; refine H.out.mono ?_; rintro e w' ⟨rfl, rfl⟩)
          go_region
          go_wp2_with (first
            | (go_at_call 45; refine HKn.out.mono ?_; rintro e w' ⟨rfl, rfl⟩))
          go_ret
          exact ⟨rfl, lab, lq, R4.out, ST4.out⟩
        · have b9 : ((t : Int) != k) = true := by simp; omega
          have eW : S4.dirW k f = S4.set t ((S4.P t).dirF f) := S4.dirW_one k t f (by rw [HV.out, hA]) htk htn
          rw [eW]
          have HC := hid (HD.out W3 lab lq S4 t (S4.P t) (R4.out.self t) htn OK4.out.n8 B4.out (HDir.out t htn).1 (HDir.out t htn).2)
          clear hA hatn h255 htk eW
          go_enter Try.func19, Try.ntmps19
          go_wp2_with (go_at_call 34; refine H.out.mono ?_; rintro e w' ⟨rfl, rfl⟩)
          go_region
          go_wp2_with (first
            | (go_at_call 45; refine HKn.out.mono ?_; rintro e w' ⟨rfl, rfl⟩)
            | (go_at_call 46; refine HC.out.mono ?_; rintro e w5 ⟨rfl, ha⟩; have A5 := hid ha; clear ha))
          go_ret
          exact ⟨rfl, AftR.first ST4.out A5.out⟩
      | none =>
        rw [hA] at z4
        simp only [atI] at z4
        have HAn := hid hA
        clear hA hatn h255
        go_enter Try.func19, Try.ntmps19
        go_wp2_with (go_at_call 34; refine H.out.mono ?_; rintro e w' ⟨rfl, rfl⟩)
        go_region
        go_wp2_with (first
          | (go_at_call 45; refine HKn.out.mono ?_; rintro e w' ⟨rfl, rfl⟩))
        all_goals
          go_loopw [9] (fun i wr => ∃ (j : Nat) (lab1 : Nat → Nat) (lq1 : Nat → Lq), i = .int .i64 j ∧ j ≤ S4.n ∧ RS lab1 wr y r a ca lq1 (S4.dirK k j f) ∧ BA wr (some ⟨fb, fo, none⟩) f ∧ lab1 fb = lab fb ∧ St CR lab w lab1 wr) (fun i _ => S4.n - (intOf i).toNat)
          case atStart => exact ⟨0, lab, lq, rfl, by omega, by rw [Sw.dirK_zero]; exact R4.out, B4.out, rfl, ST4.out⟩
          case round =>
            clear z4 y4 y40
            obtain ⟨j, lab1, lq1, rfl, hj, hp, hb1, hlb, hst⟩ := hrel
            have P := hid hp
            have B1 := hid hb1
            have ST := hid hst
            have HLB := hid (show ¬ CR (lab1 fb) from by rw [hlb]; exact HLb.out)
            have HLE := hid hlb
            have c9 : wr.cell? ⟨y, 0, none⟩ = some (.slice (some ⟨r, 0, none⟩) S4.n S4.n) := hp.c0
            clear hp hb1 hst hlb
            have hj0 : (0 : Int) ≤ j := by omega
            have h8 := OK4.out.n8
            by_cases hlt : j < S4.n
            · have hlt' : (j : Int) < S4.n := by omega
              by_cases hfr : j = k
              · have hfr' : ((j : Int) != k) = false := by simp [hfr]
                have ht : tgt S4.A (f.getD 0 0).toNat k j = false := by unfold tgt; simp [hfr]
                clear hfr
                go_wp2_with fail
                go_roundw
                case rel => exact ⟨j + 1, lab1, lq1, by go_num, by omega, by rw [Sw.dirK_skip _ _ _ _ ht]; exact P.out, B1.out, HLE.out, ST.out⟩
                case measure => simp [intOf]; omega
              · have hfr' : ((j : Int) != k) = true := by simp; omega
                have ht : tgt S4.A (f.getD 0 0).toNat k j = true := by unfold tgt; rw [HV.out, HAn.out]; simp [hfr]
                have HC := hid (HD.out wr lab1 lq1 (S4.dirK k j f) j (S4.P j) (by have := P.out.self j; rw [Sw.dirK_at] at this; exact this) hlt h8 B1.out (HDir.out j hlt).1 (HDir.out j hlt).2)
                rw [← Sw.dirK_take _ _ _ _ ht] at HC
                clear hfr
                go_wp2_with (go_at_call 46; refine HC.out.mono ?_; rintro e w5 ⟨rfl, lab2, lq2, p2, st2⟩; have P2 := hid p2; have B2 := hid (ba_st B1.out (fun a e => by cases e; exact HLB.out) st2); have L2 := hid (show lab2 fb = lab fb from by (obtain ⟨_, _, e, hcc⟩ := B1.out 0 (by have := HF.out.1; omega); cases e; exact (st2.keep fb (World.block_lt_of_cell? _ _ hcc)).trans HLE.out)); have S2 := hid (ST.out.tr st2); clear p2 st2)
                go_roundw
                case rel => exact ⟨j + 1, lab2, lq2, by go_num, by omega, P2.out, B2.out, L2.out, S2.out⟩
                case measure => simp [intOf]; omega
            · obtain rfl : j = S4.n := by omega
              have hge : ¬ ((S4.n : Int) < S4.n) := by omega
              go_wp2_with fail
              go_ret
              exact ⟨rfl, lab1, lq1, P.out, ST.out⟩
/-- Send -/
theorem ySend (h : RS lab w y r a ca lq S) (ok : S.ok T) (hT : T + 1 ≤ 2305843009213693952) (x : Int) (p : Option Addr) (f : List UInt8) (c : Nat) (hb : BA w p f) (hl : f ≠ [] → ∀ a, p = some a → ¬ CR (lab a.block)) :
    Calls Try.prog 19 #[.pointer (some ⟨y, 0, none⟩), .int .i64 x, .slice p f.length c] w fun e w' => e = .returned (.int .i64 ((S.sendE x f).2 : Nat)) ∧ AftR lab w y r a ca (S.sendE x f).1 w' := by
  unfold Sw.sendE
  cases hp : S.is x with
  | false =>
    refine (ySend_no h x _ hp).mono ?_
    rintro e w' ⟨rfl, rfl⟩
    exact ⟨rfl, h.aft⟩
  | true =>
    obtain ⟨k, rfl, hk⟩ := Sw.is_yes hp
    simp only [if_true, Int.toNat_natCast]
    unfold Sw.sendP
    cases hf : malF f with
    | true => exact ySend_mal h ok k hk p f c hb hl hf
    | false =>
      have hne : f ≠ [] := fun e => by rw [e] at hf; cases hf
      by_cases hc : (S.P k).credit < f.length
      · rw [if_neg (by simp), if_pos hc]
        exact ySend_full h ok k hk p f c hb (hl hne) hf hc
      · rw [if_neg (by simp), if_neg hc]
        exact ySend_yes h ok hT k hk p f c hb (hl hne) hf (by omega)
end
end Go.Proofs.Ytakofhhfdgankaa.Br
