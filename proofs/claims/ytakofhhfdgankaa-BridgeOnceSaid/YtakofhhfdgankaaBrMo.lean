/-
  Package bridge, plain: no number of a port falls through a call, and the ports stay as many.
-/
import Derived.Test.YtakofhhfdgankaaBrOp
import Derived.Test.YtakofhhfdgankaaBrO
set_option linter.unusedSimpArgs false
set_option linter.unusedVariables false
namespace Go.Proofs.Ytakofhhfdgankaa.Br
open Go.RowKit Gen Bk
set_option maxHeartbeats 1000000

/-- no number of a port falls -/
structure Sd.le (s s' : Sd) : Prop where
  fw : s.fw ≤ s'.fw
  mal : s.mal ≤ s'.mal
  noCr : s.noCr ≤ s'.noCr
  dir : s.dir ≤ s'.dir
  del : s.del ≤ s'.del
  noBuf : s.noBuf ≤ s'.noBuf
  full : s.full ≤ s'.full
theorem Sd.le.refl (s : Sd) : s.le s := ⟨Nat.le_refl _, Nat.le_refl _, Nat.le_refl _, Nat.le_refl _, Nat.le_refl _, Nat.le_refl _, Nat.le_refl _⟩
theorem Sd.le.trans {a b c : Sd} (h : a.le b) (k : b.le c) : a.le c := ⟨Nat.le_trans h.fw k.fw, Nat.le_trans h.mal k.mal, Nat.le_trans h.noCr k.noCr, Nat.le_trans h.dir k.dir, Nat.le_trans h.del k.del, Nat.le_trans h.noBuf k.noBuf, Nat.le_trans h.full k.full⟩
theorem Sd.le_dirF (s : Sd) (f : List UInt8) : s.le (s.dirF f) := by
  unfold Sd.dirF
  split <;> constructor <;> simp
theorem Sd.le_doneS (s : Sd) (d : Bool) : s.le (s.doneS d) := by
  unfold Sd.doneS Sd.doneB
  split
  · exact .refl _
  · split <;> constructor <;> simp
theorem Sw.le_set (S : Sw) (k : Nat) (s : Sd) (h : (S.P k).le s) (i : Nat) : (S.P i).le ((S.set k s).P i) := by
  by_cases e : i = k
  · subst e; rw [Sw.set_at]; exact h
  · rw [Sw.set_ne _ _ e]; exact .refl _
theorem Sw.le_dirK (S : Sw) (fr k : Nat) (f : List UInt8) (i : Nat) : (S.P i).le ((S.dirK fr k f).P i) := by
  show (S.P i).le (if decide (i < k) && tgt S.A (f.getD 0 0).toNat fr i then (S.P i).dirF f else S.P i)
  split
  · exact Sd.le_dirF _ _
  · exact .refl _
theorem Sw.le_send (S : Sw) (x : Int) (f : List UInt8) (i : Nat) : (S.P i).le ((S.sendE x f).1.P i) := by
  unfold Sw.sendE Sw.sendP
  split
  · split
    · exact S.le_set _ _ (by constructor <;> simp [Sd.bad]) i
    · split
      · exact S.le_set _ _ (by constructor <;> simp) i
      · refine (S.le_set x.toNat { S.P x.toNat with taken := (S.P x.toNat).taken + 1, credit := (S.P x.toNat).credit - f.length, fw := (S.P x.toNat).fw + 1 } (by constructor <;> simp) i).trans ?_
        exact Sw.le_dirK ((S.set x.toNat { S.P x.toNat with taken := (S.P x.toNat).taken + 1, credit := (S.P x.toNat).credit - f.length, fw := (S.P x.toNat).fw + 1 }).learn (f.getD 1 0).toNat x.toNat) _ _ _ i
  · exact .refl _
theorem Sw.le_go (S : Sw) (o : OpV) (i : Nat) : (S.P i).le ((o.go S).P i) := by
  unfold OpV.go
  split
  · exact S.le_send _ _ i
  split
  · unfold Sw.rateE
    split
    · split
      · exact S.le_set _ _ (by constructor <;> simp) i
      · exact .refl _
    · exact .refl _
  split
  · show (S.P i).le (if i < S.n then (S.P i).grow else S.P i)
    split
    · constructor <;> simp [Sd.grow]
    · exact .refl _
  split
  · exact .refl _
  split
  · unfold Sw.doneE
    split
    · exact S.le_set _ _ (Sd.le_doneS _ _) i
    · exact .refl _
  split
  · exact .refl _
  split
  · unfold Sw.downE
    split
    · exact S.le_set _ _ (by constructor <;> simp [Sd.down]) i
    · exact .refl _
  · unfold Sw.badE
    split
    · exact S.le_set _ _ (by constructor <;> simp [Sd.bad]) i
    · exact .refl _
theorem Sw.go_n (S : Sw) (o : OpV) : (o.go S).n = S.n := by
  unfold OpV.go
  split
  · unfold Sw.sendE
    split
    · exact S.send_n _ _
    · rfl
  split
  · unfold Sw.rateE
    split
    · split <;> rfl
    · rfl
  split
  · rfl
  split
  · rfl
  split
  · unfold Sw.doneE; split <;> rfl
  split
  · rfl
  split
  · unfold Sw.downE; split <;> rfl
  · unfold Sw.badE; split <;> rfl
end Go.Proofs.Ytakofhhfdgankaa.Br
