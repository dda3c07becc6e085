/-
  Package bridge, plain, for BridgeOnce: what a frame does to a switch whose queues are empty and at which no address is known; Down of a port.
-/
import Derived.Test.YtakofhhfdgankaaBrQ
set_option linter.unusedSimpArgs false
set_option linter.unusedVariables false
namespace Go.Proofs.Ytakofhhfdgankaa.Br
open Go.RowKit Gen Bk
set_option maxHeartbeats 1000000

/-- is port i told of a frame that came to port k? -/
def told (f : List UInt8) (k i : Nat) : Bool := decide (i ≠ k) && decide (f.getD 0 0 ≠ f.getD 1 0)
theorem tgt_told (A : Nat → Option Nat) (hA : ∀ a, A a = none) (f : List UInt8) (k i : Nat) : tgt (fun a => if a = (f.getD 1 0).toNat then some k else A a) (f.getD 0 0).toNat k i = told f k i := by
  unfold tgt told
  by_cases e : f.getD 0 0 = f.getD 1 0
  · rw [e]
    simp only [if_true, ne_eq, not_true_eq_false, decide_false, Bool.and_false]
    by_cases h : i = k <;> simp [h]
  · have h2 : ¬ (f.getD 0 0).toNat = (f.getD 1 0).toNat := fun h => e (UInt8.toNat_inj.1 h)
    have h3 : (fun a => if a = (f.getD 1 0).toNat then some k else A a) (f.getD 0 0).toNat = none := (if_neg h2).trans (hA _)
    have h4 : decide (f.getD 0 0 ≠ f.getD 1 0) = true := decide_eq_true e
    rw [h3, h4]
theorem dirF_empty (s : Sd) (f : List UInt8) (h : s.q = []) : (s.dirF f).dir = s.dir + 1 ∧ (s.dirF f).q = [f] := by
  unfold Sd.dirF
  rw [h, if_pos (by simp)]
  exact ⟨rfl, rfl⟩
/-- a frame that is taken -/
theorem once_send (S : Sw) (k : Nat) (f : List UInt8) (hA : ∀ a, S.A a = none) (hq : ∀ i, i < S.n → (S.P i).q = []) (hc : (S.sendP k f).2 = 0) :
    malF f = false ∧ (S.sendP k f).1.A (f.getD 1 0).toNat = some k ∧ ∀ i, i < S.n → ((S.sendP k f).1.P i).dir = (S.P i).dir + (if told f k i = true then 1 else 0) ∧ ((S.sendP k f).1.P i).q = if told f k i = true then [f] else [] := by
  cases hm : malF f with
  | true =>
    unfold Sw.sendP at hc
    rw [if_pos hm] at hc
    exact absurd hc (by simp)
  | false =>
    by_cases hcr : (S.P k).credit < f.length
    · rw [(S.send_no k f hm hcr).1] at hc
      exact absurd hc (by simp)
    · have e0 : cnt S.A 256 < 64 := by
        have : S.A = fun _ => none := funext hA
        rw [this, cnt_none]
        omega
      have hA' : (S.sendP k f).1.A = (fun i => if i = (f.getD 1 0).toNat then some k else S.A i) := (S.send_desc k f hm hcr e0).2.2.1
      refine ⟨rfl, by rw [hA']; exact if_pos rfl, fun i hi => ?_⟩
      have key : (S.sendP k f).1.P i = if told f k i = true then (((S.set k { S.P k with taken := (S.P k).taken + 1, credit := (S.P k).credit - f.length, fw := (S.P k).fw + 1 }).P i).dirF f) else (S.set k { S.P k with taken := (S.P k).taken + 1, credit := (S.P k).credit - f.length, fw := (S.P k).fw + 1 }).P i := by
        unfold Sw.sendP
        rw [hm, if_neg (by simp), if_neg hcr]
        have e : ((S.set k { S.P k with taken := (S.P k).taken + 1, credit := (S.P k).credit - f.length, fw := (S.P k).fw + 1 }).learn (f.getD 1 0).toNat k).A = (fun i => if i = (f.getD 1 0).toNat then some k else S.A i) := by
          show (if (S.A (f.getD 1 0).toNat).isSome = true ∨ cnt S.A 256 < 64 then (fun i => if i = (f.getD 1 0).toNat then some k else S.A i) else S.A) = _
          rw [if_pos (.inr e0)]
        simp only [Sw.dirW, Sw.dirK]
        rw [e]
        have hd : decide (i < ((S.set k { S.P k with taken := (S.P k).taken + 1, credit := (S.P k).credit - f.length, fw := (S.P k).fw + 1 }).learn (f.getD 1 0).toNat k).n) = true := by show decide (i < S.n) = true; simpa using hi
        rw [hd, Bool.true_and, tgt_told S.A hA]
        rfl
      have eq0 : ((S.set k { S.P k with taken := (S.P k).taken + 1, credit := (S.P k).credit - f.length, fw := (S.P k).fw + 1 }).P i).dir = (S.P i).dir ∧ ((S.set k { S.P k with taken := (S.P k).taken + 1, credit := (S.P k).credit - f.length, fw := (S.P k).fw + 1 }).P i).q = [] := by
        by_cases e : i = k
        · subst e; rw [Sw.set_at]; exact ⟨rfl, hq _ hi⟩
        · rw [Sw.set_ne _ _ e]; exact ⟨rfl, hq _ hi⟩
      rw [key]
      by_cases ht : told f k i = true
      · rw [if_pos ht, if_pos ht, if_pos ht]
        obtain ⟨h1, h2⟩ := dirF_empty _ f eq0.2
        rw [h1, h2, eq0.1]
        exact ⟨rfl, rfl⟩
      · rw [if_neg ht, if_neg ht, if_neg ht]
        exact ⟨eq0.1, eq0.2⟩
/-- Down of the ports below j is done: their queues are empty, and no address is known there -/
structure Sw.downed (S : Sw) (j : Nat) : Prop where
  q : ∀ i, i < j → i < S.n → (S.P i).q = []
  a : ∀ x p, S.A x = some p → j ≤ p
theorem Sw.down_next {S : Sw} {j : Nat} (h : S.downed j) (hj : j < S.n) : (S.downE (j : Int)).1.downed (j + 1) ∧ (S.downE (j : Int)).1.n = S.n ∧ ∀ i, i ≠ j → (S.downE (j : Int)).1.P i = S.P i := by
  have e : S.downE (j : Int) = ({ S.set j (S.P j).down with A := strike S.A j }, 0) := by
    unfold Sw.downE
    rw [if_pos (Sw.is_mk hj), Int.toNat_natCast]
  rw [e]
  refine ⟨⟨fun i hi hn => ?_, fun x p hx => ?_⟩, rfl, fun i hi => S.set_ne _ hi⟩
  · show ((S.set j (S.P j).down).P i).q = []
    by_cases e2 : i = j
    · subst e2; rw [Sw.set_at]; rfl
    · rw [Sw.set_ne _ _ e2]; exact h.q i (by omega) hn
  · have hx' : strike S.A j x = some p := hx
    unfold strike at hx'
    split at hx'
    · cases hx'
    · rename_i hne
      have := h.a x p hx'
      have : p ≠ j := fun e3 => hne (by rw [hx', e3])
      omega
theorem Sw.downed_all {S : Sw} {T : Nat} (h : S.downed S.n) (ok : S.ok T) : ∀ a, S.A a = none := fun a => by
  cases e : S.A a with
  | none => rfl
  | some p => exact absurd (ok.at_ a p e) (by have := h.a a p e; omega)
end Go.Proofs.Ytakofhhfdgankaa.Br
