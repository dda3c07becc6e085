/-
  Package bridge: learn, direct, Tick.
-/
import Derived.Test.YtolfjbodgdjbjaaGreatBrH
set_option linter.unusedSimpArgs false
set_option linter.unusedVariables false
namespace Go.Proofs.YtolfjbodgdjbjaaGreat.Br
open Go.RowKit Gen Bk
set_option maxHeartbeats 1000000

section
variable {C : Nat → Prop} {lab lab' : Nat → Nat} {w w' : World} {b g m : Nat} {lq : Nat → Lq} {S : Sw} {k : Nat} {s : Sd} {T : Nat}
/-- the map has changed -/
theorem PS.mapc (h : PS lab w b g m lq S) (hn : S.n ≤ 8) {f : Nat → Option Nat} (hm : M8 Tryz.prog 5 3 w' m f) (hg : w.grownBy w' (some m)) : PS lab w' b g m lq { S with A := f } ∧ St CP lab w lab w' := by
  have st : St (fun l => l = 3) lab w lab w' := St.one hg h.lm
  refine ⟨⟨st.row h.top (by rw [h.lb]; omega), st.row h.sides (by rw [h.lg]; omega), hm, fun i hi => ?_, h.lb, h.lg, h.lm⟩, st.mono fun l e => ⟨by omega, by omega⟩⟩
  obtain ⟨xs, h1, h2⟩ := h.qs i hi
  exact ⟨xs, h1.st st (by omega), h2.st st (by omega)⟩
/-- learn -/
theorem blearn (h : PS lab w b g m lq S) (hn : S.n ≤ 8) (a p : Nat) (ha : a < 256) (hp : p < 8) : Calls Tryz.prog 69 #[.pointer (some ⟨b, 0, none⟩), .int .u8 (a : Int), .int .i64 (p : Int)] w fun e w' => e = .returned (.tuple #[]) ∧ Aft lab w b g m (S.learn a p) w' := by
  have c1 := h.c1
  have hl := h.map.look Tryz.underlying5 Tryz.underlying65 Tryz.underlying3 (zero_int w) ha
  have hlen := h.map.len Tryz.underlying5 Tryz.underlying65
  obtain ⟨w1, hrun, hm1, hg1⟩ := h.map.put Tryz.underlying5 Tryz.underlying65 Tryz.underlying3 ha p (by omega)
  obtain ⟨p1, st1⟩ := h.mapc hn hm1 hg1
  unfold Sw.learn
  cases hA : (S.A a).isSome with
  | true =>
    rw [hA] at hl
    rw [if_pos (.inl rfl)]
    have P1 := hid (show Aft lab w b g m _ w1 from ⟨_, _, p1, st1⟩)
    clear h p1 st1 hm1 hg1 hlen
    go_enter Tryz.func69, Tryz.ntmps69
    go_wp2
    go_end0
    exact ⟨rfl, P1.out⟩
  | false =>
    rw [hA] at hl
    by_cases hc : cnt S.A 256 < 64
    · rw [if_pos (.inr hc)]
      have hc' : ((cnt S.A 256 : Nat) : Int) < 64 := by omega
      have P1 := hid (show Aft lab w b g m _ w1 from ⟨_, _, p1, st1⟩)
      clear h p1 st1 hm1 hg1
      go_enter Tryz.func69, Tryz.ntmps69
      go_wp2
      go_end0
      exact ⟨rfl, P1.out⟩
    · rw [if_neg (by simpa using hc)]
      have hc' : ¬ ((cnt S.A 256 : Nat) : Int) < 64 := by omega
      have P1 := hid h.aft
      clear h p1 st1 hm1 hg1 hrun
      go_enter Tryz.func69, Tryz.ntmps69
      go_wp2
      go_end0
      exact ⟨rfl, P1.out⟩
/-- all ports below k have grown -/
def Sw.tickK (S : Sw) (k : Nat) : Sw := { S with P := fun i => if i < k then (S.P i).grow else S.P i }
theorem Sw.tickK_zero (S : Sw) : S.tickK 0 = S := by simp [Sw.tickK]
theorem Sw.tickK_succ (S : Sw) (k : Nat) : S.tickK (k + 1) = (S.tickK k).set k (S.P k).grow := by
  unfold Sw.tickK Sw.set
  congr 1
  funext i
  by_cases e : i = k
  · subst e; simp
  · simp [e, show (i < k + 1) = (i < k) by simp; omega]
theorem Sw.tickK_at (S : Sw) (k : Nat) : (S.tickK k).P k = S.P k := by simp [Sw.tickK]
end
end Go.Proofs.YtolfjbodgdjbjaaGreat.Br
