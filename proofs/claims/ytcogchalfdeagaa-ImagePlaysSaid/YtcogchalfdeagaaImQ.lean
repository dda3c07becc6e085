/-
  What is needed is enough, on plain data.
-/
import Derived.Test.YtcogchalfdeagaaImP
set_option linter.unusedSimpArgs false
set_option linter.unusedVariables false
namespace Go.Proofs.Ytcogchalfdeagaa

theorem pick_congr {p q : Nat → Bool} {k : Nat} (h : ∀ i, i < k → p i = q i) : pickL p k = pickL q k := by
  unfold pickL
  exact List.filter_congr fun i hi => h i (List.mem_range.1 hi)
theorem pick_one {p q : Nat → Bool} {s : Nat} (ho : ∀ i, i ≠ s → q i = p i) (hp : p s = true) (hq : q s = false) : ∀ k, s < k → (pickL p k).length = (pickL q k).length + 1
  | 0, h => by omega
  | k + 1, h => by
    by_cases e : k = s
    · subst e
      rw [pickL_yes hp, pickL_no hq, pick_congr (q := p) (p := q) fun i hi => ho i (by omega)]
      simp
    · have ih := pick_one ho hp hq k (by omega)
      cases hk : p k with
      | true => rw [pickL_yes hk, pickL_yes (by rw [ho k e]; exact hk)]; simp [ih]
      | false => rw [pickL_no hk, pickL_no (by rw [ho k e]; exact hk)]; exact ih
theorem pick_zero {p : Nat → Bool} : ∀ k, (∀ i, i < k → p i = false) → (pickL p k).length = 0
  | 0, _ => rfl
  | k + 1, h => by rw [pickL_no (h k (by omega))]; exact pick_zero k fun i hi => h i (by omega)
theorem pick_pos {p : Nat → Bool} {s : Nat} (hp : p s = true) : ∀ k, s < k → 1 ≤ (pickL p k).length
  | 0, h => by omega
  | k + 1, h => by
    by_cases e : k = s
    · subst e; rw [pickL_yes hp]; simp
    · have ih := pick_pos hp k (by omega)
      cases hk : p k with
      | true => rw [pickL_yes hk]; simp
      | false => rw [pickL_no hk]; exact ih
/-- how many of the sectors a to a + k - 1 lack a block -/
def Im.lack (I : Im) (a k : Int) : Nat := (pickL (I.bare a k) I.n).length
theorem Im.needE_fit {I : Im} {a k : Int} (h : I.fit a k = true) : I.needE a k = ((I.lack a k : Int), 0) := by unfold Im.needE Im.lack; rw [if_pos h]
theorem Im.set_has {I : Im} (s : Int) (b : List UInt8) (x : Int) : (I.set s b).has x = (decide (x = s) || I.has x) := by
  unfold Im.has Im.set
  by_cases e : x = s <;> simp [e]
theorem Im.lack_set {I : Im} {a k : Int} {s : Int} {b : List UInt8} (h1 : a ≤ s) (h2 : s < a + k) (hs : I.is s = true) (hh : I.has s = false) : I.lack a k = (I.set s b).lack a k + 1 := by
  obtain ⟨h0, hn⟩ := Im.is_yes.1 hs
  obtain ⟨j, rfl⟩ : ∃ j : Nat, s = j := ⟨s.toNat, by omega⟩
  unfold Im.lack
  refine pick_one (s := j) (fun i hi => ?_) ?_ ?_ I.n (by omega)
  · unfold Im.bare
    rw [Im.set_has, decide_eq_false (show ¬ (i : Int) = j by omega)]
    simp
  · unfold Im.bare; simp [h1, h2, hh]
  · unfold Im.bare; rw [Im.set_has]; simp
theorem Im.lack_same {I : Im} {a k : Int} {s : Int} {b : List UInt8} (hh : I.has s = true) : (I.set s b).lack a k = I.lack a k := by
  unfold Im.lack
  show (pickL _ I.n).length = _
  rw [pick_congr fun i _ => ?_]
  unfold Im.bare
  rw [Im.set_has]
  by_cases e : (i : Int) = s
  · rw [e, hh]; simp
  · rw [decide_eq_false e]; simp
theorem lack_le_at (I : Im) (a k : Nat) : ∀ j : Nat, (pickL (I.bare a k) j).length ≤ j - a ∧ (pickL (I.bare a k) j).length ≤ k
  | 0 => ⟨Nat.zero_le _, Nat.zero_le _⟩
  | j + 1 => by
    obtain ⟨h1, h2⟩ := lack_le_at I a k j
    cases hb : I.bare a k j with
    | false => rw [pickL_no hb]; exact ⟨by omega, h2⟩
    | true =>
      rw [pickL_yes hb, List.length_append, List.length_singleton]
      unfold Im.bare at hb
      simp only [Bool.and_eq_true, decide_eq_true_eq] at hb
      omega
theorem Im.lack_le (I : Im) (a k : Nat) : I.lack a k ≤ k := (lack_le_at I a k I.n).2
/-- what a write of a sector in the range does to what is lacking and free -/
theorem Im.step {I : Im} (hok : I.ok) {a k s : Int} {b : List UInt8} (hb : b.length = 64) (h1 : a ≤ s) (h2 : s < a + k) (hs : I.is s = true) :
    (I.writeE s b).1.n = I.n ∧ (((I.writeE s b).2 = 0 ∧ (I.writeE s b).1.has s = true ∧ (∀ x, I.has x = true → (I.writeE s b).1.has x = true) ∧ (((I.writeE s b).1.lack a k : Int) - ((I.writeE s b).1.most - (I.writeE s b).1.used) = I.lack a k - (I.most - I.used))) ∨
      ((I.writeE s b).2 = 71 ∧ (I.writeE s b).1 = I ∧ I.used = I.most ∧ 1 ≤ I.lack a k)) := by
  rcases I.write_cases s b with ⟨h, e⟩ | ⟨_, h, e⟩ | ⟨_, _, hh, hu, e⟩ | ⟨_, _, hh, e⟩ | ⟨_, _, hh, hu, e⟩ <;> rw [e]
  · rw [hs] at h; cases h
  · exact absurd hb h
  · refine ⟨rfl, .inr ⟨rfl, rfl, hu, ?_⟩⟩
    obtain ⟨h0, hn⟩ := Im.is_yes.1 hs
    obtain ⟨j, rfl⟩ : ∃ j : Nat, s = j := ⟨s.toNat, by omega⟩
    exact pick_pos (s := j) (by unfold Im.bare; simp [h1, h2, hh]) I.n (by omega)
  · refine ⟨rfl, .inl ⟨rfl, by rw [Im.set_has]; simp, fun x hx => by rw [Im.set_has, hx]; simp, ?_⟩⟩
    rw [Im.lack_same hh]
    simp only [Im.set, hh, if_true]
  · refine ⟨rfl, .inl ⟨rfl, by rw [Im.set_has]; simp, fun x hx => by rw [Im.set_has, hx]; simp, ?_⟩⟩
    have := Im.lack_set (b := b) h1 h2 hs hh
    simp only [Im.set, hh, Bool.false_eq_true, if_false] at this ⊢
    omega
/-- the writes so far: D is what is lacking less what is free, ahead of them -/
structure Wr (I : Im) (a k : Int) (D : Int) (j : Nat) (full : Bool) : Prop where
  d : (I.lack a k : Int) - (I.most - I.used) = D
  no : full = false → ∀ i : Nat, i < j → I.has (a + i) = true
  yes : full = true → 0 < D
theorem Wr.next {I : Im} {a k D : Int} {j : Nat} {full : Bool} (h : Wr I a k D j full) (hok : I.ok) {b : List UInt8} (hb : b.length = 64) (hj : (j : Int) < k) (hs : I.is (a + j) = true) :
    ((I.writeE (a + j) b).2 = 0 ∨ (I.writeE (a + j) b).2 = 71) ∧ (I.writeE (a + j) b).1.n = I.n ∧ Wr (I.writeE (a + j) b).1 a k D (j + 1) (full || decide ((I.writeE (a + j) b).2 = 71)) := by
  obtain ⟨hn, h'⟩ := Im.step hok (b := b) hb (a := a) (k := k) (s := a + j) (by omega) (by omega) hs
  rcases h' with ⟨e, h1, h2, h3⟩ | ⟨e, e1, hu, h1⟩
  · refine ⟨.inl e, hn, ⟨h3.trans h.d, fun hf i hi => ?_, fun hf => ?_⟩⟩
    · rw [e] at hf
      simp only [Bool.or_eq_false_iff] at hf
      by_cases e' : i = j
      · subst e'; exact h1
      · exact h2 _ (h.no hf.1 i (by omega))
    · rw [e] at hf
      simp at hf
      exact h.yes hf
  · refine ⟨.inr e, hn, ⟨by rw [e1]; exact h.d, fun hf => ?_, fun _ => ?_⟩⟩
    · rw [e] at hf; simp at hf
    · have := h.d; omega
/-- all done -/
theorem Wr.done {I : Im} {a D : Int} {full : Bool} {K : Nat} (h : Wr I a K D K full) (hok : I.ok) : (full = decide (0 < D)) ∧ (decide (I.lack a K = 0) = decide (D ≤ 0)) := by
  have hle := hok.le
  cases hf : full with
  | true =>
    have h1 := h.yes hf
    have h2 := h.d
    refine ⟨by simp [h1], ?_⟩
    rw [decide_eq_false (by omega), decide_eq_false (by omega)]
  | false =>
    have h1 := h.no hf
    have h2 := h.d
    have h0 : I.lack a K = 0 := by
      unfold Im.lack
      refine pick_zero _ fun i hi => ?_
      unfold Im.bare
      by_cases ha : a ≤ i
      · by_cases hk : (i : Int) < a + K
        · obtain ⟨j, hj⟩ : ∃ j : Nat, (i : Int) = a + j := ⟨(i - a).toNat, by omega⟩
          rw [hj, h1 j (by omega)]; simp
        · simp [hk]
      · simp [ha]
    refine ⟨?_, ?_⟩
    · rw [decide_eq_false (by omega)]
    · rw [decide_eq_true h0, decide_eq_true (by omega)]
end Go.Proofs.Ytcogchalfdeagaa
