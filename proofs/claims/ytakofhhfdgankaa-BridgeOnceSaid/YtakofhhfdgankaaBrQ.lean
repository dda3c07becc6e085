/-
  Package bridge, for the laws: what a Send that goes does; frames of two bytes.
-/
import Derived.Test.YtakofhhfdgankaaBrO
set_option linter.unusedSimpArgs false
set_option linter.unusedVariables false
namespace Go.Proofs.Ytakofhhfdgankaa.Br
open Go.RowKit Gen Bk
set_option maxHeartbeats 1000000

theorem Sd.dirF_dir (s : Sd) (f : List UInt8) : (s.dirF f).dir = s.dir + 1 := by unfold Sd.dirF; split <;> rfl
theorem cnt_none (n : Nat) : cnt (fun _ => none) n = 0 := by
  unfold cnt
  rw [List.filter_eq_nil_iff.2 (fun a _ => by simp)]
  rfl
/-- a Send that goes, where there is room for an address -/
theorem Sw.send_desc (S : Sw) (k : Nat) (f : List UInt8) (hf : malF f = false) (hc : ¬ (S.P k).credit < f.length) (hcnt : cnt S.A 256 < 64) : (S.sendP k f).2 = 0 ∧ (S.sendP k f).1.n = S.n ∧ (S.sendP k f).1.A = (fun i => if i = (f.getD 1 0).toNat then some k else S.A i) ∧ cnt (S.sendP k f).1.A 256 ≤ cnt S.A 256 + 1 ∧
    ∀ i, i < S.n → ((S.sendP k f).1.P i).dir = (S.P i).dir + (if tgt (S.sendP k f).1.A (f.getD 0 0).toNat k i = true then 1 else 0) := by
  have hA : (S.sendP k f).1.A = (fun i => if i = (f.getD 1 0).toNat then some k else S.A i) := by
    unfold Sw.sendP
    rw [hf, if_neg (by simp), if_neg hc]
    show (if (S.A (f.getD 1 0).toNat).isSome = true ∨ cnt S.A 256 < 64 then (fun i => if i = (f.getD 1 0).toNat then some k else S.A i) else S.A) = _
    rw [if_pos (.inr hcnt)]
  refine ⟨(S.send_yes k f hf hc).1, S.send_n k f, hA, ?_, fun i hi => ?_⟩
  · rw [hA, cnt_set]
    split <;> omega
  · rw [hA]
    unfold Sw.sendP
    rw [hf, if_neg (by simp), if_neg hc]
    have e : ((S.set k { S.P k with taken := (S.P k).taken + 1, credit := (S.P k).credit - f.length, fw := (S.P k).fw + 1 }).learn (f.getD 1 0).toNat k).A = (fun i => if i = (f.getD 1 0).toNat then some k else S.A i) := by
      show (if (S.A (f.getD 1 0).toNat).isSome = true ∨ cnt S.A 256 < 64 then (fun i => if i = (f.getD 1 0).toNat then some k else S.A i) else S.A) = _
      rw [if_pos (.inr hcnt)]
    have ed : ((S.set k { S.P k with taken := (S.P k).taken + 1, credit := (S.P k).credit - f.length, fw := (S.P k).fw + 1 }).P i).dir = (S.P i).dir := by
      by_cases e : i = k
      · subst e; rw [Sw.set_at]
      · rw [Sw.set_ne _ _ e]
    simp only [Sw.dirW, Sw.dirK]
    rw [e]
    have hi' : i < S.n := hi
    have hd : decide (i < ((S.set k { S.P k with taken := (S.P k).taken + 1, credit := (S.P k).credit - f.length, fw := (S.P k).fw + 1 }).learn (f.getD 1 0).toNat k).n) = true := by show decide (i < S.n) = true; simpa using hi'
    rw [hd, Bool.true_and]
    by_cases ht : tgt (fun i => if i = (f.getD 1 0).toNat then some k else S.A i) (f.getD 0 0).toNat k i = true
    · rw [if_pos ht, if_pos ht, Sd.dirF_dir]
      exact congrArg (· + 1) ed
    · rw [if_neg ht, if_neg ht]
      exact ed
section
variable {w0 w w' w1 : World} {lab lab' lab1 : Nat → Nat} {b : Nat} {S S' : Sw} {T T' : Nat}
/-- Send of two bytes that the law lays anew -/
theorem cSend2 (h : BV w0 lab w b S T) (hT : T + 1 ≤ 2305843009213693952) (x : Int) (u v : UInt8) (cu cv : Int) (hu : (u.toNat : Int) = cu) (hv : (v.toNat : Int) = cv) :
    Calls Try.prog 18 #[.pointer (some ⟨b, 0, none⟩), .int .i64 x, .slice (some ⟨w.heap.size, 0, none⟩) 2 2] (w.alloc (.cells #[.int .u8 cu, .int .u8 cv] 5)) fun e w' => e = .returned (.int .i64 ((S.sendE x [u, v]).2 : Nat)) ∧ Nx w0 (lab0 lab w) (w.alloc (.cells #[.int .u8 cu, .int .u8 cv] 5)) b (S.sendE x [u, v]).1 (T + 1) w' := by
  subst hu hv
  refine cSend (h.fresh0 (World.grownBy_alloc w _ none)) hT x (some ⟨w.heap.size, 0, none⟩) [u, v] 2 (fun k hk => ⟨w.heap.size, 0, rfl, ?_⟩) (fun a e => by cases e; unfold lab0; rw [if_neg (by simp)]; exact not_CP0)
  have hk : k < 2 := hk
  rw [cell_of_row _ _ _ _ _ _ (heap_alloc_new w _)]
  rcases (show k = 0 ∨ k = 1 by omega) with rfl | rfl <;> rfl
end
theorem mal_two (u v : UInt8) : malF [u, v] = decide (v.toNat = 255) := by
  unfold malF
  simp
end Go.Proofs.Ytakofhhfdgankaa.Br
