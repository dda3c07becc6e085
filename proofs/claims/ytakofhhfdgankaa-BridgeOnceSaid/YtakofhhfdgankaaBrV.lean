/-
  The reference's switch: Head, Done.
-/
import Derived.Test.YtakofhhfdgankaaBrU
import Derived.Test.YtakofhhfdgankaaBrC
set_option linter.unusedSimpArgs false
set_option linter.unusedVariables false
namespace Go.Proofs.Ytakofhhfdgankaa.Br
open Go.RowKit Gen Bk
set_option maxHeartbeats 2000000

section
variable {C : Nat → Prop} {lab lab' lab1 : Nat → Nat} {w w' w1 : World} {y r a ca : Nat} {lq : Nat → Lq} {S : Sw} {k : Nat} {s s' : Sd} {T : Nat}
/-- a queue and its slice are set -/
theorem RS.setq (h : RS lab w y r a ca lq (S.set k s)) (hn : S.n ≤ 8) (hk : k < S.n) {L : Lq} {ys : List Value} {q' : List (List UInt8)} (hq : QSl lab w (48 + k) L.p L.c ys) (hf : Frs lab w ys q') {v : Value} (hv : v = .slice L.p q'.length L.c) :
    RS lab (w.setCell ⟨r, k * 13 + 3, none⟩ v) y r a ca (updL lq k L) (S.set k { s with q := q' }) ∧ St CR lab w lab (w.setCell ⟨r, k * 13 + 3, none⟩ v) := by
  refine h.setAll hn hk (St.refl _ _ _) hq hf (grownBy_setCell w r (k * 13 + 3) none v) ?_
  refine Row.set (k := k * 13 + 3) h.ports ?_ fun j hj hne => ?_
  · rw [if_pos (by omega), show (k * 13 + 3) % 13 = 3 by omega, hv]; rfl
  · obtain ⟨b, c, hc, rfl⟩ : ∃ b c, c < 13 ∧ j = b * 13 + c := ⟨j / 13, j % 13, by omega, by omega⟩
    rw [show (b * 13 + c) / 13 = b by omega, show (b * 13 + c) % 13 = c by omega]
    by_cases e : b = k
    · subst e
      rw [if_pos rfl, rgcell_at _ _ hc, Sw.set_at]
      have hc3 : c ≠ 3 := fun e => hne (by rw [e])
      match c, hc, hc3 with | 0, _, _ => rfl | 1, _, _ => rfl | 2, _, _ => rfl | 3, _, h => exact absurd rfl h | 4, _, _ => rfl | 5, _, _ => rfl | 6, _, _ => rfl | 7, _, _ => rfl | 8, _, _ => rfl | 9, _, _ => rfl | 10, _, _ => rfl | 11, _, _ => rfl | 12, _, _ => rfl
    · rw [if_neg e]
theorem yHead (h : RS lab w y r a ca lq S) (ok : S.ok T) (x : Int) : Calls Try.prog 29 #[.pointer (some ⟨y, 0, none⟩), .int .i64 x] w fun e w' => ∃ p c, e = .returned (.tuple #[.slice p (S.headE x).1.length c, .int .i64 ((S.headE x).2 : Nat)]) ∧ BA w' p (S.headE x).1 ∧ w.grownBy w' none := by
  have H := hid (yIs h x)
  unfold Sw.headE
  cases hp : S.is x with
  | false =>
    rw [hp] at H
    clear h ok hp
    simp only [Bool.false_eq_true, if_false, List.length_nil]
    go_enter Try.func29, Try.ntmps29
    go_wp2_with (go_at_call 34; refine H.out.mono ?_; rintro e w' ⟨rfl, rfl⟩)
    go_ret2
    exact ⟨none, 0, rfl, BA.nil _ _, grownBy_refl _ _⟩
  | true =>
    rw [hp] at H
    obtain ⟨k, rfl, hk⟩ := Sw.is_yes hp
    simp only [if_true, Int.toNat_natCast]
    have c0 := h.c0
    have c3 := (h.self k).at_q hk
    have fr := (ok.sd k hk).fr
    have k0 : (0 : Int) ≤ k := by omega
    have k1 : (k : Int) < S.n := by omega
    have n8 := ok.n8
    obtain ⟨xs, hx, hf⟩ := (h.self k).qat hk
    cases hq : (S.P k).q with
    | nil =>
      rw [hq] at c3
      simp only [List.length_nil] at c3 ⊢
      clear h ok hp hx hf fr
      go_enter Try.func29, Try.ntmps29
      go_wp2_with (go_at_call 34; refine H.out.mono ?_; rintro e w' ⟨rfl, rfl⟩)
      go_ret2
      exact ⟨none, 0, rfl, BA.nil _ _, grownBy_refl _ _⟩
    | cons f fs =>
      rw [hq] at hf c3 fr
      cases xs with
      | nil => exact absurd hf (by simp [Frs])
      | cons v xs =>
        obtain ⟨qa, qo, ep, hc⟩ := hx.head
        obtain ⟨⟨fp, fc, rfl, hb⟩, _⟩ := hf
        rw [ep] at c3
        have hfl := fr f (by simp)
        obtain ⟨fb, fo, rfl⟩ := hb.1.ptr (by omega)
        have HB := hid hb.1
        have HFl := hid hfl
        simp only [List.length_cons] at c3
        have h0 : (((fs.length + 1 : Nat) : Int) == 0) = false := by simp; omega
        have h1 : (0 : Int) < (fs.length : Int) + 1 := by omega
        have hg0 := World.grownBy_alloc w (.cells #[] 5) none
        have d0 := hg0.cell c0 (by simp)
        have d3 := hg0.cell c3 (by simp)
        have dc := hg0.cell hc (by simp)
        obtain ⟨n, hn⟩ : ∃ n, f.length = n := ⟨_, rfl⟩
        have HNn := hid hn
        rw [hn] at dc hc ⊢
        clear h ok hp hx hb fr ep hq hfl hg0 hn
        simp only
        go_enter Try.func29, Try.ntmps29
        go_wp2_with (first
          | (go_at_call 34; refine H.out.mono ?_; rintro e w' ⟨rfl, rfl⟩)
          | (at_builtin; refine wpList_append_new rfl (.tmp 20) (.tmp 30) rfl rfl ⟨fb, fo, none⟩ f fc (by have := HFl.out; omega) (by rw [HNn.out]; rfl) HB.out ?_; intro v w1 hv; have HV := hid hv; clear hv))
        go_ret2
        obtain ⟨p, c, rfl, hb, _⟩ := HV.out.ba
        rw [HNn.out]
        exact ⟨p, c, rfl, hb, HV.out.2⟩
theorem Sw.head_E (S : Sw) (k : Nat) (hk : k < S.n) : (S.headE k).2 = (S.P k).doneE := by
  unfold Sw.headE Sd.doneE
  rw [if_pos (Sw.is_mk hk), Int.toNat_natCast]
  cases (S.P k).q <;> rfl
set_option maxRecDepth 100000 in
theorem yDone (h : RS lab w y r a ca lq S) (ok : S.ok T) (x : Int) (d : Bool) : Calls Try.prog 30 #[.pointer (some ⟨y, 0, none⟩), .int .i64 x, .bool d] w fun e w' => e = .returned (.int .i64 ((S.doneE x d).2 : Nat)) ∧ AftR lab w y r a ca (S.doneE x d).1 w' := by
  have HH := hid (yHead h ok x)
  have n8 := ok.n8
  unfold Sw.doneE
  cases hp : S.is x with
  | false =>
    have A := hid (fun (w' : World) (hg : w.grownBy w' none) => h.aft.grow0 n8 hg)
    have e1 : S.headE x = ([], 1) := by unfold Sw.headE; rw [if_neg (by rw [hp]; simp)]
    rw [e1] at HH
    clear h ok hp e1
    simp only [Bool.false_eq_true, if_false]
    go_enter Try.func30, Try.ntmps30
    go_wp2_with (go_at_call 29; refine HH.out.mono ?_; rintro e w1 ⟨p1, c1, rfl, -, g1⟩; have A1 := hid (A.out _ g1); clear g1)
    go_ret
    exact ⟨rfl, A1.out⟩
  | true =>
    obtain ⟨k, rfl, hk⟩ := Sw.is_yes hp
    have e1 := S.head_E k hk
    rw [e1] at HH
    clear e1
    simp only [if_true, Int.toNat_natCast]
    have os := ok.sd k hk
    obtain ⟨s, hs⟩ : ∃ s, S.P k = s := ⟨_, rfl⟩
    have hp' := h.self k
    rw [hs] at hp' os HH ⊢
    unfold Sd.doneE Sd.doneS
    unfold Sd.doneE at HH
    by_cases hq : s.q = []
    · rw [if_pos hq] at HH
      rw [if_pos hq, if_pos hq]
      have A := hid (fun (w' : World) (hg : w.grownBy w' none) => hp'.aft.grow0 n8 hg)
      clear h ok hp hp' hs os
      go_enter Try.func30, Try.ntmps30
      go_wp2_with (go_at_call 29; refine HH.out.mono ?_; rintro e w1 ⟨p1, c1, rfl, -, g1⟩; have A1 := hid (A.out _ g1); clear g1)
      go_ret
      exact ⟨rfl, A1.out⟩
    · rw [if_neg hq] at HH
      rw [if_neg hq, if_neg hq]
      obtain ⟨f, fs, hq⟩ : ∃ f fs, s.q = f :: fs := by cases e : s.q with | nil => exact absurd e hq | cons f fs => exact ⟨f, fs, rfl⟩
      unfold Sd.doneB
      rw [hq]
      simp only [List.tail_cons]
      have t1 := os.dr
      have t2 := os.dT
      have t3 := ok.T62
      have u1 : s.del ≤ 2305843009213693952 := by omega
      have u2 : s.noBuf ≤ 2305843009213693952 := by omega
      have k0 : (0 : Int) ≤ k := by omega
      have k1 : (k : Int) < S.n := by omega
      obtain ⟨xs, hx, hf⟩ := hp'.qat hk
      rw [hq] at hf
      cases xs with
      | nil => exact absurd hf (by simp [Frs])
      | cons v xs =>
        have hlen := hf.2.len
        obtain ⟨i0, hi, hz0, hz1, hz2⟩ := info_parts info_sl
        obtain ⟨p', hsl, hqt, -⟩ := hx.tail 79 31 i0 Try.underlying79 hi hz1
        rw [hlen] at hsl
        have HP := hid (fun (W : World) (hg : w.grownBy W none) => (hp'.grown n8 hg).setq n8 hk (L := ⟨p', (lq k).c - 1⟩) (hqt.grown hg) (hf.2.st (C := fun _ => False) (St.grown hg) fun e => e) (v := .slice p' fs.length ((lq k).c - 1)) rfl)
        have HC := hid (fun (W : World) (hg : w.grownBy W none) => (show W.cell? ⟨y, 0, none⟩ = some (.slice (some ⟨r, 0, none⟩) S.n S.n) ∧ W.cell? ⟨r, k * 13 + 3, none⟩ = some (.slice (lq k).p (fs.length + 1) (lq k).c) ∧ W.frozen? ⟨r, k * 13 + 3, none⟩ = false from by
          have h1 := hp'.grown n8 hg
          refine ⟨h1.c0, ?_, h1.fz _⟩
          rw [h1.at_q hk, hq]
          rfl))
        clear h ok hp hp' hs os hx hf hqt t1 t2 t3 hi hz0 hz1 hz2 hq
        cases d with
        | true =>
          simp only [if_true]
          go_enter Try.func30, Try.ntmps30
          go_wp2_with (go_at_call 29; refine HH.out.mono ?_; rintro e w1 ⟨p1, c1, rfl, -, g1⟩; have G1 := hid g1; obtain ⟨d0, d3, dz⟩ := HC.out _ g1; obtain ⟨R1, S1⟩ := HP.out _ g1; obtain ⟨W2, hW2⟩ : ∃ W, w1.setCell ⟨r, k * 13 + 3, none⟩ (.slice p' fs.length ((lq k).c - 1)) = W := ⟨_, rfl⟩; rw [hW2] at R1 S1; have R2 := R1.grown n8 (grownBy_drew W2 none); have e0 : W2.drew.cell? ⟨y, 0, none⟩ = some (.slice (some ⟨r, 0, none⟩) S.n S.n) := R2.c0; have e9 := R2.at_del hk; have ez := R2.fz (k * 13 + 9); have HR2 := hid R2; have HS1 := hid S1; clear g1 R1 R2 S1; simp only at e9)
          go_region
          go_wp2_with fail
          go_ret
          obtain ⟨q, gg⟩ := HR2.out.set_del n8 hk (s.del + 1) (z := (s.del : Int) + 1) (by omega)
          exact ⟨rfl, _, _, q, (((St.grown G1.out).tr HS1.out).tr (St.grown (grownBy_drew W2 none))).tr (HR2.out.str gg)⟩
        | false =>
          simp only [Bool.false_eq_true, if_false]
          go_enter Try.func30, Try.ntmps30
          go_wp2_with (go_at_call 29; refine HH.out.mono ?_; rintro e w1 ⟨p1, c1, rfl, -, g1⟩; have G1 := hid g1; obtain ⟨d0, d3, dz⟩ := HC.out _ g1; obtain ⟨R1, S1⟩ := HP.out _ g1; obtain ⟨W2, hW2⟩ : ∃ W, w1.setCell ⟨r, k * 13 + 3, none⟩ (.slice p' fs.length ((lq k).c - 1)) = W := ⟨_, rfl⟩; rw [hW2] at R1 S1; have R2 := R1.grown n8 (grownBy_drew W2 none); have e0 : W2.drew.cell? ⟨y, 0, none⟩ = some (.slice (some ⟨r, 0, none⟩) S.n S.n) := R2.c0; have e9 := R2.at_noBuf hk; have ez := R2.fz (k * 13 + 11); have HR2 := hid R2; have HS1 := hid S1; clear g1 R1 R2 S1; simp only at e9)
          go_region
          go_wp2_with fail
          go_ret
          obtain ⟨q, gg⟩ := HR2.out.set_noBuf n8 hk (s.noBuf + 1) (z := (s.noBuf : Int) + 1) (by omega)
          exact ⟨rfl, _, _, q, (((St.grown G1.out).tr HS1.out).tr (St.grown (grownBy_drew W2 none))).tr (HR2.out.str gg)⟩
end
end Go.Proofs.Ytakofhhfdgankaa.Br
