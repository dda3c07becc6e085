/-
  Ports on plain data: scripts, how many bits are set, what stays told. No walk here.
-/
import Derived.Test.YtjgikapoohibnaaEvP
set_option linter.unusedSimpArgs false
set_option linter.unusedVariables false
namespace Go.Proofs.Ytjgikapoohibnaa

/-- a call of the script -/
structure EOp where
  x : Int
  a : Int
  b : Int
  c : Int
  on : Bool
def stepE (S : Ev) (o : EOp) : Ev :=
  if o.x = 0 then (allocE S o.a o.b).2.2 else if o.x = 1 then (bindE S o.a o.b o.c).2.2 else if o.x = 2 then (virqE S o.a o.b).2.2 else if o.x = 3 then (closeE S o.a o.b).2 else
  if o.x = 4 then (sendE S o.a o.b).2 else if o.x = 5 then (raiseE S o.a o.b).2 else if o.x = 6 then (maskE S o.a o.b o.on).2 else if o.x = 7 then (clearE S o.a o.b).2 else if o.x = 8 then (takeUpE S o.a).2.2 else (dropE S o.a).2
theorem EOk.step {S : Ev} (h : EOk S) (o : EOp) : EOk (stepE S o) := by
  unfold stepE
  (repeat' split)
  · exact h.alloc _ _
  · exact h.bind _ _ _
  · exact h.virq _ _
  · exact h.close _ _
  · exact h.send _ _
  · exact h.raise _ _
  · exact h.mask _ _ _
  · exact h.clear _ _
  · exact h.takeUp _
  · exact h.drop _
def runE (os : List EOp) : Nat → Ev
  | 0 => ev0
  | k + 1 => match os[k]? with
    | none => runE os k
    | some o => stepE (runE os k) o
theorem runE_succ (os : List EOp) (k : Nat) (h : k < os.length) : runE os (k + 1) = stepE (runE os k) os[k] := by
  show (match os[k]? with | none => _ | some o => _) = _
  rw [List.getElem?_eq_getElem h]
theorem EOk.run (os : List EOp) : ∀ k, EOk (runE os k)
  | 0 => EOk.start
  | k + 1 => by
    show EOk (match os[k]? with | none => _ | some o => _)
    split
    · exact EOk.run os k
    · exact (EOk.run os k).step _

/-! ### how many bits are set -/
theorem pendL_congr {S T : Ev} {d : Nat} (h : ∀ n, (S.pt d n).pe = (T.pt d n).pe) : ∀ k, pendL S d k = pendL T d k
  | 0 => rfl
  | k + 1 => by unfold pendL; rw [pendL_congr h k, h k]
theorem pendL_len (S : Ev) (d n : Nat) (q : Prt) : ∀ k, (pendL (S.upd d n q) d k).length ≤ (pendL S d k).length + if n < k then 1 else 0
  | 0 => by simp [pendL]
  | k + 1 => by
    have ih := pendL_len S d n q k
    unfold pendL
    simp only [List.length_append]
    by_cases e : n = k
    · subst e
      simp only [Nat.lt_irrefl, if_false, Nat.add_zero] at ih
      simp only [Nat.lt_succ_self, if_true]
      have : (if ((S.upd d n q).pt d n).pe = true then [n] else []).length ≤ 1 := by split <;> simp
      omega
    · rw [Ev.upd_other _ _ _ _ _ _ (by simp; omega)]
      have : (if n < k then 1 else 0) = if n < k + 1 then 1 else 0 := by
        by_cases h : n < k
        · rw [if_pos h, if_pos (by omega)]
        · rw [if_neg h, if_neg (by omega)]
      omega
theorem pendL_le (S : Ev) (d : Nat) : ∀ k, (pendL S d k).length ≤ k
  | 0 => by simp [pendL]
  | k + 1 => by
    have := pendL_le S d k
    unfold pendL
    simp only [List.length_append]
    split <;> simp <;> omega
def totE (S : Ev) : Nat → Nat
  | 0 => 0
  | k + 1 => totE S k + (pendL S k 32).length
theorem totE_le (S : Ev) : ∀ k, totE S k ≤ 32 * k
  | 0 => by simp [totE]
  | k + 1 => by have := totE_le S k; have := pendL_le S k 32; unfold totE; omega
theorem totE_congr {S T : Ev} (h : S.pt = T.pt) : ∀ k, totE S k = totE T k
  | 0 => rfl
  | k + 1 => by unfold totE; rw [totE_congr h k, pendL_congr (S := S) (T := T) (fun n => by rw [h])]
theorem totE_upd (S : Ev) (d n : Nat) (q : Prt) : ∀ k, totE (S.upd d n q) k ≤ totE S k + if d < k then 1 else 0
  | 0 => by simp [totE]
  | k + 1 => by
    have ih := totE_upd S d n q k
    unfold totE
    by_cases e : d = k
    · subst e
      simp only [Nat.lt_irrefl, if_false, Nat.add_zero] at ih
      simp only [Nat.lt_succ_self, if_true]
      have := pendL_len S d n q 32
      split at this <;> omega
    · rw [pendL_congr (S := S.upd d n q) (T := S) (fun m => by rw [Ev.upd_other _ _ _ _ _ _ (by simp; omega)])]
      have : (if d < k then 1 else 0) = if d < k + 1 then 1 else 0 := by
        by_cases h : d < k
        · rw [if_pos h, if_pos (by omega)]
        · rw [if_neg h, if_neg (by omega)]
      omega
theorem totE_pend (S : Ev) (d n : Nat) : totE (pendE S d n) 8 ≤ totE S 8 + 1 := by
  have h := totE_upd S d n { S.pt d n with pe := true } 8
  have h' : totE (S.upd d n { S.pt d n with pe := true }) 8 ≤ totE S 8 + 1 := by split at h <;> omega
  unfold pendE
  split
  · exact h'
  · rw [totE_congr (T := S.upd d n { S.pt d n with pe := true }) (Ev.setUp_pt _ _ _)]; exact h'

/-! ### what was told stays told -/
structure Told (S : Ev) (R P : Nat) : Prop where
  pe : (S.pt R P).pe = true
  up : (S.pt R P).ma = false → S.up R = true
theorem Told.pend (S : Ev) (R P : Nat) : Told (pendE S R P) R P := by
  unfold pendE
  split
  · rename_i h
    exact ⟨by rw [Ev.upd_same], fun e => by rw [Ev.upd_same] at e; simp only at e; rw [h] at e; cases e⟩
  · exact ⟨by rw [Ev.setUp_pt, Ev.upd_same], fun _ => Ev.setUp_same _ _ _⟩
/-- another port is turned, or bits stay -/
theorem Told.upd {S : Ev} {R P : Nat} (h : Told S R P) (d n : Nat) (q : Prt) (hq : d = R → n = P → q.pe = true ∧ q.ma = (S.pt R P).ma) : Told (S.upd d n q) R P := by
  by_cases e : R = d ∧ P = n
  · obtain ⟨rfl, rfl⟩ := e
    obtain ⟨q1, q2⟩ := hq rfl rfl
    exact ⟨by rw [Ev.upd_same, q1], fun e => by rw [Ev.upd_same, q2] at e; rw [Ev.upd_up]; exact h.up e⟩
  · exact ⟨by rw [Ev.upd_other _ _ _ _ _ _ e]; exact h.pe, fun e' => by rw [Ev.upd_other _ _ _ _ _ _ e] at e'; rw [Ev.upd_up]; exact h.up e'⟩
theorem Told.ups {S : Ev} {R P : Nat} (h : Told S R P) (d : Nat) (b : Bool) (hb : d = R → b = true) : Told (S.setUp d b) R P := by
  refine ⟨by rw [Ev.setUp_pt]; exact h.pe, fun e => ?_⟩
  rw [Ev.setUp_pt] at e
  by_cases ed : R = d
  · subst ed; rw [Ev.setUp_same]; exact hb rfl
  · rw [Ev.setUp_other _ _ _ _ ed]; exact h.up e
theorem Told.pend' {S : Ev} {R P : Nat} (h : Told S R P) (d n : Nat) : Told (pendE S d n) R P := by
  have hu : Told (S.upd d n { S.pt d n with pe := true }) R P := h.upd d n _ fun e1 e2 => by subst e1 e2; exact ⟨rfl, rfl⟩
  unfold pendE
  split
  · exact hu
  · exact hu.ups d true fun _ => rfl
theorem Told.take {S : Ev} {R P : Nat} (h : Told S R P) {d : Nat} (hd : d ≠ R) (q : Prt) : Told (takeE S d q).2.2 R P := by
  unfold takeE
  split
  · exact h.upd _ _ _ fun e => absurd e hd
  · exact h
theorem Told.step {S : Ev} {R P : Nat} (h : Told S R P) (o : EOp) (ha : o.a ≠ R) (h3 : o.x ≠ 3) (h0 : 0 ≤ o.x) (h8 : o.x ≤ 8) : Told (stepE S o) R P := by
  have hne : edOk o.a = true → o.a.toNat ≠ R := fun e => by
    obtain ⟨k, hk, _⟩ := edOk_nat e; omega
  unfold stepE
  split
  · unfold allocE
    split
    · rename_i hd
      split
      · exact h.take (hne hd) _
      · exact h
    · exact h
  split
  · unfold bindE
    split
    · rename_i hd
      split
      · split
        · split
          · refine (h.upd _ _ _ fun e => absurd e (hne hd)).upd _ _ _ fun e1 e2 => ?_
            rw [Ev.upd_other _ _ _ _ _ _ (fun e => hne hd e.1.symm), ← e1, ← e2]
            exact ⟨by have := h.pe; rw [← e1, ← e2] at this; exact this, rfl⟩
          · exact h
        · exact h
      · exact h
    · exact h
  split
  · unfold virqE
    split
    · rename_i hd
      split
      · split
        · exact h
        · exact h.take (hne hd) _
      · exact h
    · exact h
  split
  · unfold sendE
    split
    · split
      · exact h.pend' _ _
      · exact h
    · exact h
  split
  · unfold raiseE
    split
    · split
      · split
        · exact h.pend' _ _
        · exact h
      · exact h
    · exact h
  split
  · unfold maskE
    split
    · rename_i hd
      split
      · exact h
      · simp only
        split
        · exact (h.upd _ _ _ fun e => absurd e (hne hd.1)).ups _ _ fun e => absurd e (hne hd.1)
        · exact h.upd _ _ _ fun e => absurd e (hne hd.1)
    · exact h
  split
  · unfold clearE
    split
    · rename_i hd
      split
      · exact h
      · exact h.upd _ _ _ fun e => absurd e (hne hd.1)
    · exact h
  split
  · unfold takeUpE
    split
    · rename_i hd
      exact h.ups _ _ fun e => absurd e (hne hd)
    · exact h
  · omega

/-! ### the least free port, sought from above -/
def downE (P : Nat → Bool) (j : Nat) : Int := if seek P (32 - j) j < 32 then (seek P (32 - j) j : Nat) else -1
theorem downE_top (P : Nat → Bool) : downE P 32 = -1 := by simp [downE, seek]
theorem downE_step (P : Nat → Bool) (j : Nat) (hj : j < 32) : downE P j = if P j = true then (j : Int) else downE P (j + 1) := by
  unfold downE
  have e : 32 - j = (32 - (j + 1)) + 1 := by omega
  rw [e]
  show (if (if P j = true then j else seek P (32 - (j + 1)) (j + 1)) < 32 then (((if P j = true then j else seek P (32 - (j + 1)) (j + 1)) : Nat) : Int) else -1) = _
  by_cases h : P j = true
  · rw [if_pos h, if_pos h, if_pos hj]
  · rw [if_neg h, if_neg h]
theorem downE_zero (P : Nat → Bool) : downE P 0 = if least P < 32 then (least P : Int) else -1 := rfl
end Go.Proofs.Ytjgikapoohibnaa
