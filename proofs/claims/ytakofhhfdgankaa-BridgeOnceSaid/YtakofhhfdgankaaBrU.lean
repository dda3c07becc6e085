/-
  The reference's switch: Rate, Tick, Head, Done.
-/
import Derived.Test.YtakofhhfdgankaaBrT
import Derived.Test.YtakofhhfdgankaaBrI
import Derived.Laws.AppendOwnNone
import Derived.Deep.RegionLaw
set_option linter.unusedSimpArgs false
set_option linter.unusedVariables false
namespace Go.Proofs.Ytakofhhfdgankaa.Br
open Go.RowKit Gen Bk
set_option maxHeartbeats 2000000

/-- 'append([]byte{}, s...)' -/
theorem wpList_append_new {ops : Array Oper} {rest : List Oper} {o : Oper} {a : Act} {w0 : World} {Q : Exit → Act → World → Prop} (hgd : o.guard = none) (x y : Operand)
    (hop : o.op = .call { callee := .builtin .append, args := #[x, y], argTypes := #[31, 31] })
    (hx : a.eval x = .slice (some ⟨w0.heap.size, 0, none⟩) 0 0) (ad : Addr) (l : List UInt8) (c : Nat) (hl : l.length ≤ 140737488351232) (hy : a.eval y = .slice (some ad) l.length c) (hb : BA w0 (some ad) l)
    (h : ∀ v w', NewB w0 l v w' → wpList Try.prog ops Q rest (a.put o.dst v) w') : wpList Try.prog ops Q (o :: rest) a (w0.alloc (.cells #[] 5)) := by
  obtain ⟨i0, hi, hz0, hz1, hz2⟩ := info_parts info_u8
  have HG0 := World.grownBy_alloc w0 (.cells #[] 5) none
  have HOn := World.ownsRow_made (base := w0.heap.size) (e := 5) (size := 1) w0 #[] 0 (Nat.le_refl _) (by unfold maxLen; omega) (by simp)
  refine wpList_append_own _ hgd x y 31 hop w0.heap.size 5 i0 (.int .u8 0) 1 1 Try.underlying31 hi hz0 hz1 hz2 rfl (by decide) _ 0 [] hx HOn ad l.length c (bcells l) hy (by rw [bcells_len, Nat.mul_one]) (news_ba (hb.grown HG0)) (bcells_one l) (by unfold maxLen; omega) (by omega) (by simp) ?_
  intro v' w1 hown' hgrow _
  simp only [Nat.zero_add, List.nil_append] at hown'
  exact h _ _ ⟨hown', HG0.andThen hgrow (fun j hj => .inl (HOn.lt j hj).1)⟩
section
variable {C : Nat → Prop} {lab lab' lab1 : Nat → Nat} {w w' w1 : World} {y r a ca : Nat} {lq : Nat → Lq} {S : Sw} {k : Nat} {s s' : Sd} {T : Nat}
/-- Rate -/
theorem yRate (h : RS lab w y r a ca lq S) (ok : S.ok T) (x u v : Int) : Calls Try.prog 27 #[.pointer (some ⟨y, 0, none⟩), .int .i64 x, .int .i64 u, .int .i64 v] w fun e w' => e = .returned (.int .i64 ((S.rateE x u v).2 : Nat)) ∧ AftR lab w y r a ca (S.rateE x u v).1 w' := by
  have H := hid (yIs h x)
  unfold Sw.rateE
  cases hp : S.is x with
  | false =>
    rw [hp] at H
    have A := hid h.aft
    clear h ok hp
    simp only [Bool.false_eq_true, if_false]
    go_enter Try.func27, Try.ntmps27
    go_wp2_with (go_at_call 34; refine H.out.mono ?_; rintro e w' ⟨rfl, rfl⟩)
    go_ret
    exact ⟨rfl, A.out⟩
  | true =>
    rw [hp] at H
    obtain ⟨k, rfl, hk⟩ := Sw.is_yes hp
    simp only [if_true, Int.toNat_natCast]
    by_cases hc : isCr u = true ∧ isCr v = true
    · rw [if_pos hc]
      obtain ⟨hy, hz⟩ := hc
      simp only [isCr, Bool.and_eq_true, decide_eq_true_eq] at hy hz
      have ey : ((u.toNat : Nat) : Int) = u := by omega
      have ez : ((v.toNat : Nat) : Int) = v := by omega
      have b1 : decide (u < 0) = false := by simp <;> omega
      have b2 : decide ((65536 : Int) < u) = false := by simp <;> omega
      have b3 : decide (v < 0) = false := by simp <;> omega
      have b4 : decide ((65536 : Int) < v) = false := by simp <;> omega
      have n8 := ok.n8
      have k0 : (0 : Int) ≤ k := by omega
      have k1 : (k : Int) < S.n := by omega
      have p0 := h.c0
      obtain ⟨q1, g1⟩ := (h.self k).set_burst n8 hk u.toNat ey
      have c0 := (h.self k).at_burst hk
      have fz0 := h.fz (k * 13 + 1)
      obtain ⟨W1, hW1⟩ : ∃ W, w.setCell ⟨r, k * 13 + 1, none⟩ (.int .i64 u) = W := ⟨_, rfl⟩
      rw [hW1] at q1 g1
      have p1 : W1.cell? ⟨y, 0, none⟩ = some (.slice (some ⟨r, 0, none⟩) S.n S.n) := q1.c0
      obtain ⟨q2, g2⟩ := q1.set_rate n8 hk v.toNat ez
      have c1 := q1.at_rate hk
      have fz1 := q1.fz (k * 13 + 2)
      obtain ⟨W2, hW2⟩ : ∃ W, W1.setCell ⟨r, k * 13 + 2, none⟩ (.int .i64 v) = W := ⟨_, rfl⟩
      rw [hW2] at q2 g2
      have p2 : W2.cell? ⟨y, 0, none⟩ = some (.slice (some ⟨r, 0, none⟩) S.n S.n) := q2.c0
      obtain ⟨q3, g3⟩ := q2.set_credit n8 hk u.toNat ey
      have c2 := q2.at_credit hk
      have fz2 := q2.fz (k * 13)
      have Q := hid (show AftR lab w y r a ca _ _ from ⟨_, _, q3, h.str ((g1.trans g2).trans g3)⟩)
      clear h ok hp q1 q2 q3 g1 g2 g3 hy hz ey ez
      simp only at c1 c2
      go_enter Try.func27, Try.ntmps27
      go_wp2_with (go_at_call 34; refine H.out.mono ?_; rintro e w' ⟨rfl, rfl⟩)
      go_ret
      exact ⟨rfl, Q.out⟩
    · rw [if_neg hc]
      have A := hid h.aft
      have hbad : u < 0 ∨ (0 ≤ u ∧ 65536 < u) ∨ ((0 ≤ u ∧ u ≤ 65536) ∧ v < 0) ∨ ((0 ≤ u ∧ u ≤ 65536) ∧ 0 ≤ v ∧ 65536 < v) := by
        simp only [isCr, Bool.and_eq_true, decide_eq_true_eq] at hc
        omega
      clear h ok hp hc
      rcases hbad with hb | ⟨hb, hb2⟩ | ⟨⟨hb, hb2⟩, hb3⟩ | ⟨⟨hb, hb2⟩, hb3, hb4⟩
      · have b1 : decide (u < 0) = true := by simp <;> omega
        go_enter Try.func27, Try.ntmps27
        go_wp2_with (go_at_call 34; refine H.out.mono ?_; rintro e w' ⟨rfl, rfl⟩)
        go_ret
        exact ⟨rfl, A.out⟩
      · have b1 : decide (u < 0) = false := by simp <;> omega
        have b2 : decide ((65536 : Int) < u) = true := by simp <;> omega
        go_enter Try.func27, Try.ntmps27
        go_wp2_with (go_at_call 34; refine H.out.mono ?_; rintro e w' ⟨rfl, rfl⟩)
        go_ret
        exact ⟨rfl, A.out⟩
      · have b1 : decide (u < 0) = false := by simp <;> omega
        have b2 : decide ((65536 : Int) < u) = false := by simp <;> omega
        have b3 : decide (v < 0) = true := by simp <;> omega
        go_enter Try.func27, Try.ntmps27
        go_wp2_with (go_at_call 34; refine H.out.mono ?_; rintro e w' ⟨rfl, rfl⟩)
        go_ret
        exact ⟨rfl, A.out⟩
      · have b1 : decide (u < 0) = false := by simp <;> omega
        have b2 : decide ((65536 : Int) < u) = false := by simp <;> omega
        have b3 : decide (v < 0) = false := by simp <;> omega
        have b4 : decide ((65536 : Int) < v) = true := by simp <;> omega
        go_enter Try.func27, Try.ntmps27
        go_wp2_with (go_at_call 34; refine H.out.mono ?_; rintro e w' ⟨rfl, rfl⟩)
        go_ret
        exact ⟨rfl, A.out⟩
/-- Tick -/
theorem yTick (h : RS lab w y r a ca lq S) (ok : S.ok T) : Calls Try.prog 28 #[.pointer (some ⟨y, 0, none⟩)] w fun e w' => e = .returned (.tuple #[]) ∧ AftR lab w y r a ca S.tick w' := by
  have OK := hid ok
  have H := hid h
  clear h ok
  go_enter Try.func28, Try.ntmps28
  go_wp2
  go_loopw [2] (fun i wr => ∃ j : Nat, i = .int .i64 j ∧ j ≤ S.n ∧ RS lab wr y r a ca lq (S.tickK j) ∧ St CR lab w lab wr) (fun i _ => S.n - (intOf i).toNat)
  case atStart => exact ⟨0, rfl, by omega, by rw [Sw.tickK_zero]; exact H.out, St.refl _ _ _⟩
  case round =>
    clear H
    obtain ⟨j, rfl, hj, hp, hst⟩ := hrel
    have P := hid hp
    have ST := hid hst
    have c0 : wr.cell? ⟨y, 0, none⟩ = some (.slice (some ⟨r, 0, none⟩) S.n S.n) := hp.c0
    have hj0 : (0 : Int) ≤ j := by omega
    by_cases hlt : j < S.n
    · have hlt' : (j : Int) < S.n := by omega
      have os := OK.out.sd j hlt
      have h8 := OK.out.n8
      obtain ⟨s, hs⟩ : ∃ s, S.P j = s := ⟨_, rfl⟩
      have hp' := hp.self j
      rw [Sw.tickK_at, hs] at hp'
      rw [hs] at os
      have d0 := hp'.at_credit hlt
      have d1 := hp'.at_burst hlt
      have d2 := hp'.at_rate hlt
      have fz := hp'.fz (j * 13)
      have G0 := hid (fun (z : Int) (hz : ((s.grow.credit : Nat) : Int) = z) => hp'.set_credit h8 hlt s.grow.credit hz)
      have HSs := hid (S.tickK_succ j)
      rw [hs] at HSs
      have hgr : s.grow.credit = min (s.credit + s.rate) s.burst := rfl
      have b1 := os.bu
      have b2 := os.ra
      have b3 := os.cb
      have HG := hid (fun (w' : World) (gg : wr.grownBy w' (some r)) => hp.str gg)
      clear hp hst hp' os hs
      by_cases hle : s.credit + s.rate < s.burst
      · have hle' : (s.credit : Int) + s.rate < s.burst := by omega
        have hle2 : ¬ (s.burst : Int) < (s.credit : Int) + s.rate := by omega
        have hm : min ((s.burst : Int)) ((s.credit : Int) + s.rate) = (s.credit : Int) + s.rate := by omega
        go_wp2_with fail
        go_region
        go_wp2_with fail
        go_roundw
        case rel =>
          obtain ⟨q, g1⟩ := G0.out _ (show _ = (s.credit : Int) + s.rate by omega)
          exact ⟨j + 1, by go_num, by omega, by rw [HSs.out]; exact q.grown h8 (grownBy_drew _ none), ST.out.tr (HG.out _ (g1.trans (grownBy_drew _ _)))⟩
        case measure => simp [intOf]; omega
      · have hle' : ¬ (s.credit : Int) + s.rate < s.burst := by omega
        have hm : min ((s.burst : Int)) ((s.credit : Int) + s.rate) = s.burst := by omega
        go_wp2_with fail
        go_region
        go_wp2_with fail
        go_roundw
        case rel =>
          obtain ⟨q, g1⟩ := G0.out _ (show _ = (s.burst : Int) by omega)
          exact ⟨j + 1, by go_num, by omega, by rw [HSs.out]; exact q.grown h8 (grownBy_drew _ none), ST.out.tr (HG.out _ (g1.trans (grownBy_drew _ _)))⟩
        case measure => simp [intOf]; omega
    · obtain rfl : j = S.n := by omega
      have hge : ¬ ((S.n : Int) < S.n) := by omega
      clear hp hst
      go_wp2
      go_end0
      exact ⟨rfl, _, _, P.out, ST.out⟩
end
end Go.Proofs.Ytakofhhfdgankaa.Br
