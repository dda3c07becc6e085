/-
  Package bridge: learn, direct, Tick.
-/
import Derived.Test.YtakofhhfdgankaaBrH
set_option linter.unusedSimpArgs false
set_option linter.unusedVariables false
namespace Go.Proofs.Ytakofhhfdgankaa.Br
open Go.RowKit Gen Bk
set_option maxHeartbeats 1000000

section
variable {C : Nat → Prop} {lab lab' : Nat → Nat} {w w' : World} {b g m : Nat} {lq : Nat → Lq} {S : Sw} {k : Nat} {s : Sd} {T : Nat}
/-- the map has changed -/
theorem PS.mapc (h : PS lab w b g m lq S) (hn : S.n ≤ 8) {f : Nat → Option Nat} (hm : M8 Try.prog 5 3 w' m f) (hg : w.grownBy w' (some m)) : PS lab w' b g m lq { S with A := f } ∧ St CP lab w lab w' := by
  have st : St (fun l => l = 3) lab w lab w' := St.one hg h.lm
  refine ⟨⟨st.row h.top (by rw [h.lb]; omega), st.row h.sides (by rw [h.lg]; omega), hm, fun i hi => ?_, h.lb, h.lg, h.lm⟩, st.mono fun l e => ⟨by omega, by omega⟩⟩
  obtain ⟨xs, h1, h2⟩ := h.qs i hi
  exact ⟨xs, h1.st st (by omega), h2.st st (by omega)⟩
/-- learn -/
theorem blearn (h : PS lab w b g m lq S) (hn : S.n ≤ 8) (a p : Nat) (ha : a < 256) (hp : p < 8) : Calls Try.prog 42 #[.pointer (some ⟨b, 0, none⟩), .int .u8 (a : Int), .int .i64 (p : Int)] w fun e w' => e = .returned (.tuple #[]) ∧ Aft lab w b g m (S.learn a p) w' := by
  have c1 := h.c1
  have hl := h.map.look Try.underlying5 Try.underlying56 Try.underlying3 (zero_int w) ha
  have hlen := h.map.len Try.underlying5 Try.underlying56
  obtain ⟨w1, hrun, hm1, hg1⟩ := h.map.put Try.underlying5 Try.underlying56 Try.underlying3 ha p (by omega)
  obtain ⟨p1, st1⟩ := h.mapc hn hm1 hg1
  unfold Sw.learn
  cases hA : (S.A a).isSome with
  | true =>
    rw [hA] at hl
    rw [if_pos (.inl rfl)]
    have P1 := hid (show Aft lab w b g m _ w1 from ⟨_, _, p1, st1⟩)
    clear h p1 st1 hm1 hg1 hlen
    go_enter Try.func42, Try.ntmps42
    go_wp2
    go_end0
    exact ⟨rfl, P1.out⟩
  | false =>
    rw [hA] at hl
    by_cases hc : cnt S.A 256 < 64
    · rw [if_pos (.inr hc)]
      have hc' : ((cnt S.A 256 : Nat) : Int) < 64 := by omega
      have P1 := hid (show Aft lab w b g m _ w1 from ⟨_, _, p1, st1⟩)
      clear h p1 st1 hm1 hg1
      go_enter Try.func42, Try.ntmps42
      go_wp2
      go_end0
      exact ⟨rfl, P1.out⟩
    · rw [if_neg (by simpa using hc)]
      have hc' : ¬ ((cnt S.A 256 : Nat) : Int) < 64 := by omega
      have P1 := hid h.aft
      clear h p1 st1 hm1 hg1 hrun
      go_enter Try.func42, Try.ntmps42
      go_wp2
      go_end0
      exact ⟨rfl, P1.out⟩
/-- Tick -/
theorem bTick_none (p : Option Addr) (w : World) (h : NoS w p) : Calls Try.prog 23 #[.pointer p] w fun e w' => e = .returned (.int .i64 7) ∧ w = w' := by
  have H := hid h
  clear h
  go_enter Try.func23, Try.ntmps23
  go_wp2_with (go_at_call 48; refine (bmade_no _ _ H.out).mono ?_; rintro e w' ⟨rfl, rfl⟩)
  go_ret
  exact ⟨rfl, rfl⟩
/-- all ports below k have grown -/
def Sw.tickK (S : Sw) (k : Nat) : Sw := { S with P := fun i => if i < k then (S.P i).grow else S.P i }
theorem Sw.tickK_zero (S : Sw) : S.tickK 0 = S := by simp [Sw.tickK]
theorem Sw.tickK_succ (S : Sw) (k : Nat) : S.tickK (k + 1) = (S.tickK k).set k (S.P k).grow := by
  unfold Sw.tickK Sw.set
  congr 1
  funext i
  by_cases e : i = k
  · subst e; simp
  · simp [e, show (i < k + 1) = (i < k) by simp; omega]
theorem Sw.tickK_at (S : Sw) (k : Nat) : (S.tickK k).P k = S.P k := by simp [Sw.tickK]
theorem bTick (h : PS lab w b g m lq S) (ok : S.ok T) : Calls Try.prog 23 #[.pointer (some ⟨b, 0, none⟩)] w fun e w' => e = .returned (.int .i64 0) ∧ Aft lab w b g m S.tick w' := by
  have c0 := h.c0
  have HN := hid ok.n1
  have OK := hid ok
  have H := hid h
  clear h ok
  go_enter Try.func23, Try.ntmps23
  go_wp2_with (go_at_call 48; refine (bmade_yes _ _ _ _ _ c0 HN.out).mono ?_; rintro e w' ⟨rfl, rfl⟩)
  clear c0
  go_loopw [12] (fun i wr => ∃ j : Nat, i = .int .i64 j ∧ j ≤ S.n ∧ PS lab wr b g m lq (S.tickK j) ∧ St CP lab w lab wr) (fun i _ => S.n - (intOf i).toNat)
  case atStart => exact ⟨0, rfl, by omega, by rw [Sw.tickK_zero]; exact H.out, St.refl _ _ _⟩
  case round =>
    clear H
    obtain ⟨j, rfl, hj, hp, hst⟩ := hrel
    have P := hid hp
    have ST := hid hst
    have c0 : wr.cell? ⟨b, 0, none⟩ = some (.slice (some ⟨g, 0, none⟩) S.n S.n) := hp.c0
    clear hp hst
    have hj0 : (0 : Int) ≤ j := by omega
    by_cases hlt : j < S.n
    · have hlt' : (j : Int) < S.n := by omega
      have os := OK.out.sd j hlt
      have h8 := OK.out.n8
      have HG := hid (bgrow (P.out.self j) (S := S.tickK j) (s := (S.tickK j).P j) h8 hlt (by rw [Sw.tickK_at]; have := os.cb; have := os.bu; omega) (by rw [Sw.tickK_at]; exact os.bu) (by rw [Sw.tickK_at]; exact os.ra))
      rw [Sw.tickK_at, ← Sw.tickK_succ] at HG
      have HP := hid (fun (w' : World) (gg : wr.grownBy w' (some g)) => P.out.stg gg)
      clear os
      go_wp2_with (go_at_call 50; refine HG.out.mono ?_; rintro e w1 ⟨rfl, p1, g1⟩; have P1 := hid p1; have G1 := hid (HP.out _ g1); clear p1 g1)
      go_roundw
      case rel => exact ⟨j + 1, by go_num, by omega, P1.out, ST.out.tr G1.out⟩
      case measure => simp [intOf]; omega
    · obtain rfl : j = S.n := by omega
      have hge : ¬ ((S.n : Int) < S.n) := by omega
      go_wp2
      go_ret
      exact ⟨rfl, _, _, P.out, ST.out⟩
end
end Go.Proofs.Ytakofhhfdgankaa.Br
