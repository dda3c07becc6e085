/-
  Package bridge, for the laws: rows of bools that came in; what a Send does to credits.
-/
import Derived.Test.YtakofhhfdgankaaBrW
import Derived.Test.YtakofhhfdgankaaOpen
import Derived.Test.YtakofhhfdgankaaLift
set_option linter.unusedSimpArgs false
set_option linter.unusedVariables false
namespace Go.Proofs.Ytakofhhfdgankaa.Br
open Go.RowKit Gen Bk Go.ChangeShapes Go.WideShapes Go.ChangeAt Go.Deep
set_option maxHeartbeats 1000000

/-- the bools l stand from p on -/
def BoA (w : World) (p : Option Addr) (l : List Bool) : Prop := ∀ k, k < l.length → ∃ b o, p = some ⟨b, o, none⟩ ∧ w.cell? ⟨b, o + k, none⟩ = some (.bool (l.getD k false))
theorem BoA.grown {w w' : World} {p : Option Addr} {l : List Bool} (h : BoA w p l) (hg : w.grownBy w' none) : BoA w' p l := fun k hk => by
  obtain ⟨b, o, e, hc⟩ := h k hk
  exact ⟨b, o, e, hg.cell hc (by simp)⟩
theorem came_bools {H : Type} {enc : TypeId × Value → H} {w : World} {v : Value} (h : Flat.Came enc Try.prog w 0 (fun _ => true) true 64 v) : ∃ pa l cap, v = .slice pa (List.length (α := Bool) l) cap ∧ BoA w pa l ∧ l.length ≤ maxLen := by
  obtain ⟨fuel, x, h, hsz⟩ := h
  rcases open_slice Try.underlying64 h with ⟨hcs, _⟩ | ⟨a, len, cap, m, n, D, Pl, hcs, _, hl, hm, hmm, hx, hi⟩
  · simp only [List.cons.injEq, and_true] at hcs
    exact ⟨none, [], 0, hcs, fun k hk => by simp at hk, by simp⟩
  · simp only [List.cons.injEq, and_true] at hcs
    have hml : len ≤ m := by rw [hmm]; split <;> omega
    have hone : Try.prog.cellsOf 4 = 1 := by kernel_rfl
    have one : ∀ i, i < len → ∃ n, w.cell? (a.add i) = some (.bool n) := fun i hil => by
      obtain ⟨cs', hc, ht⟩ := hi i (by omega)
      rw [hone] at hc
      obtain ⟨_, hcl, hat⟩ := World.cells?_some hc
      obtain ⟨n, rfl, _⟩ := DataW.trod_bool Try.underlying4 ht
      have := hat 0 (by omega)
      have e0 : (a.add (i * 1)).add 0 = a.add i := by simp [Addr.add]
      rw [e0] at this
      exact ⟨n, this⟩
    obtain ⟨l, hll, hp⟩ := exists_list (fun i (x : Bool) => w.cell? (a.add i) = some (.bool x)) len one
    subst hll
    refine ⟨some a, l, cap, hcs, fun k hk => ?_, by omega⟩
    obtain ⟨b, off, spot⟩ := a
    obtain rfl : spot = none := by
      have := hp 0 (by omega)
      have : w.cell? (⟨b, off, spot⟩ : Addr) = some (.bool l[0]) := by simpa [Addr.add] using this
      exact World.cell?_spot this
    refine ⟨b, off, rfl, ?_⟩
    have := hp k hk
    rw [addr_add] at this
    rw [this]
    simp [List.getD, List.getElem?_eq_getElem hk]
theorem Sw.creditE_at (S : Sw) {k : Nat} (hk : k < S.n) : S.creditE (k : Int) = (S.P k).credit := by unfold Sw.creditE; rw [if_pos (Sw.is_mk hk), Int.toNat_natCast]
theorem Sd.dirF_cr (s : Sd) (f : List UInt8) : (s.dirF f).burst = s.burst ∧ (s.dirF f).rate = s.rate ∧ (s.dirF f).credit = s.credit := by
  unfold Sd.dirF
  split <;> exact ⟨rfl, rfl, rfl⟩
theorem Sw.dirK_cr (S : Sw) (fr k : Nat) (f : List UInt8) (i : Nat) : ((S.dirK fr k f).P i).burst = (S.P i).burst ∧ ((S.dirK fr k f).P i).rate = (S.P i).rate ∧ ((S.dirK fr k f).P i).credit = (S.P i).credit := by
  simp only [Sw.dirK]
  split
  · exact Sd.dirF_cr _ f
  · exact ⟨rfl, rfl, rfl⟩
theorem Sw.send_n (S : Sw) (k : Nat) (f : List UInt8) : (S.sendP k f).1.n = S.n := by
  unfold Sw.sendP
  split
  · rfl
  · split <;> rfl
theorem Sw.send_no (S : Sw) (k : Nat) (f : List UInt8) (hf : malF f = false) (hc : (S.P k).credit < f.length) : (S.sendP k f).2 = 71 ∧ ∀ i, ((S.sendP k f).1.P i).burst = (S.P i).burst ∧ ((S.sendP k f).1.P i).rate = (S.P i).rate ∧ ((S.sendP k f).1.P i).credit = (S.P i).credit := by
  unfold Sw.sendP
  rw [hf, if_neg (by simp), if_pos hc]
  refine ⟨rfl, fun i => ?_⟩
  by_cases e : i = k
  · subst e; rw [Sw.set_at]; exact ⟨rfl, rfl, rfl⟩
  · rw [Sw.set_ne _ _ e]; exact ⟨rfl, rfl, rfl⟩
theorem Sw.send_yes (S : Sw) (k : Nat) (f : List UInt8) (hf : malF f = false) (hc : ¬ (S.P k).credit < f.length) : (S.sendP k f).2 = 0 ∧ ∀ i, ((S.sendP k f).1.P i).burst = (S.P i).burst ∧ ((S.sendP k f).1.P i).rate = (S.P i).rate ∧ ((S.sendP k f).1.P i).credit = if i = k then (S.P i).credit - f.length else (S.P i).credit := by
  unfold Sw.sendP
  rw [hf, if_neg (by simp), if_neg hc]
  refine ⟨rfl, fun i => ?_⟩
  have h := Sw.dirK_cr ((S.set k { S.P k with taken := (S.P k).taken + 1, credit := (S.P k).credit - f.length, fw := (S.P k).fw + 1 }).learn (f.getD 1 0).toNat k) k ((S.set k { S.P k with taken := (S.P k).taken + 1, credit := (S.P k).credit - f.length, fw := (S.P k).fw + 1 }).learn (f.getD 1 0).toNat k).n f i
  have e1 : ∀ i, ((S.set k { S.P k with taken := (S.P k).taken + 1, credit := (S.P k).credit - f.length, fw := (S.P k).fw + 1 }).learn (f.getD 1 0).toNat k).P i = (S.set k { S.P k with taken := (S.P k).taken + 1, credit := (S.P k).credit - f.length, fw := (S.P k).fw + 1 }).P i := fun _ => rfl
  rw [e1] at h
  unfold Sw.dirW
  refine ⟨h.1.trans ?_, h.2.1.trans ?_, h.2.2.trans ?_⟩
  all_goals
    by_cases e : i = k
    · subst e; rw [Sw.set_at]; try rw [if_pos rfl]
    · rw [Sw.set_ne _ _ e]; try rw [if_neg e]
end Go.Proofs.Ytakofhhfdgankaa.Br
