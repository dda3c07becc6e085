/-
  An image on plain data: its base, the blocks that sectors have, how many blocks there are; each call as a function. No walk here.
-/
import Derived.WalkKit
set_option linter.unusedSimpArgs false
set_option linter.unusedVariables false
namespace Go.Proofs.YtpjlhiagifoogaaGreat.Imx

structure Im where
  n : Nat
  B : List UInt8
  own : Int → Option (List UInt8)
  most : Nat
  used : Nat
/-- how many of the sectors below k have a block -/
def cntF (f : Int → Option (List UInt8)) : Nat → Nat
  | 0 => 0
  | k + 1 => cntF f k + (if (f k).isSome = true then 1 else 0)
structure Im.ok (I : Im) : Prop where
  n256 : I.n ≤ 256
  most256 : I.most ≤ 256
  blen : I.B.length = I.n * 64
  dom : ∀ s l, I.own s = some l → 0 ≤ s ∧ s < I.n ∧ l.length = 64
  cnt : I.used = cntF I.own I.n
  le : I.used ≤ I.most
theorem cntF_congr {f g : Int → Option (List UInt8)} : ∀ k : Nat, (∀ i : Nat, i < k → (f i).isSome = (g i).isSome) → cntF f k = cntF g k
  | 0, _ => rfl
  | k + 1, h => by rw [cntF, cntF, cntF_congr k fun i hi => h i (by omega), h k (by omega)]
theorem cntF_set {f g : Int → Option (List UInt8)} {s : Nat} (ho : ∀ i : Nat, i ≠ s → (g i).isSome = (f i).isSome) (hf : (f s).isSome = false) (hg : (g s).isSome = true) : ∀ k : Nat, s < k → cntF g k = cntF f k + 1
  | 0, h => by omega
  | k + 1, h => by
    rw [cntF, cntF]
    by_cases e : k = s
    · subst e
      rw [cntF_congr k fun i hi => ho i (by omega), hf, hg]
      simp
    · rw [cntF_set ho hf hg k (by omega), ho k e]
      omega
theorem cntF_le (f : Int → Option (List UInt8)) : ∀ k : Nat, cntF f k ≤ k
  | 0 => Nat.le_refl _
  | k + 1 => by rw [cntF]; have := cntF_le f k; split <;> omega
theorem cntF_none {f : Int → Option (List UInt8)} : ∀ k : Nat, (∀ i : Nat, i < k → (f i).isSome = false) → cntF f k = 0
  | 0, _ => rfl
  | k + 1, h => by rw [cntF, cntF_none k fun i hi => h i (by omega), h k (by omega)]; rfl
def Im.is (I : Im) (s : Int) : Bool := decide (0 ≤ s ∧ s < I.n)
theorem Im.is_yes {I : Im} {s : Int} : I.is s = true ↔ 0 ≤ s ∧ s < I.n := by simp [Im.is]
theorem Im.is_no {I : Im} {s : Int} (h : I.is s = false) : ¬ (0 ≤ s ∧ s < I.n) := fun h' => by rw [Im.is_yes.2 h'] at h; cases h
def Im.has (I : Im) (s : Int) : Bool := (I.own s).isSome
def Im.base (I : Im) (s : Int) : List UInt8 := (I.B.drop (s.toNat * 64)).take 64
def Im.at (I : Im) (s : Int) : List UInt8 := (I.own s).getD (I.base s)
def Im.set (I : Im) (s : Int) (b : List UInt8) : Im := { I with own := fun i => if i = s then some b else I.own i, used := if I.has s = true then I.used else I.used + 1 }
def Im.clr (I : Im) (s : Int) : Im := { I with own := fun i => if i = s then none else I.own i, used := if I.has s = true then I.used - 1 else I.used }
def Im.writeE (I : Im) (s : Int) (b : List UInt8) : Im × Int :=
  if I.is s = false then (I, 1) else if b.length = 64 then (if I.has s = true then (I.set s b, 0) else if I.used = I.most then (I, 71) else (I.set s b, 0)) else (I, 1)
def Im.trimE (I : Im) (s : Int) : Im × Int := if I.is s = true then (I.clr s, 0) else (I, 1)
def Im.readE (I : Im) (s : Int) : List UInt8 × Int := if I.is s = true then (I.at s, 0) else ([], 1)
def Im.baseE (I : Im) (s : Int) : List UInt8 × Int := if I.is s = true then (I.base s, 0) else ([], 1)
/-- the numbers below k for which p says yes, rising -/
def pickL (p : Nat → Bool) (k : Nat) : List Nat := (List.range k).filter p
theorem pickL_yes {p : Nat → Bool} {k : Nat} (h : p k = true) : pickL p (k + 1) = pickL p k ++ [k] := by
  unfold pickL; rw [List.range_succ, List.filter_append]; simp [h]
theorem pickL_no {p : Nat → Bool} {k : Nat} (h : p k = false) : pickL p (k + 1) = pickL p k := by
  unfold pickL; rw [List.range_succ, List.filter_append]; simp [h]
theorem pickL_len (p : Nat → Bool) (k : Nat) : (pickL p k).length ≤ k := by
  have := List.length_filter_le p (List.range k)
  simpa [pickL] using this
def Im.dirty (I : Im) : List Nat := pickL (fun i => I.has i) I.n
theorem cntF_pick (I : Im) : ∀ k, (pickL (fun i => I.has i) k).length = cntF I.own k
  | 0 => rfl
  | k + 1 => by
    rw [cntF]
    cases h : I.has (k : Int) with
    | true => rw [pickL_yes h, List.length_append, cntF_pick I k, if_pos (show (I.own (k : Int)).isSome = true from h)]; rfl
    | false => rw [pickL_no h, cntF_pick I k, if_neg (by unfold Im.has at h; rw [h]; simp)]; rfl
/-- among the sectors first to first + n - 1: how many have no block -/
def Im.bare (I : Im) (a k : Int) : Nat → Bool := fun i => decide (a ≤ i) && decide ((i : Int) < a + k) && !I.has i
def Im.fit (I : Im) (a k : Int) : Bool := decide (0 ≤ k) && decide (0 ≤ a) && decide (k ≤ I.n - a)
def Im.needE (I : Im) (a k : Int) : Int × Int := if I.fit a k = true then ((pickL (I.bare a k) I.n).length, 0) else (0, 1)
def newC (len : Nat) (k : Int) : Int := if 16384 < len then 2 else if len % 64 = 0 ∧ 0 ≤ k ∧ k ≤ 256 then 0 else 1
def newI (l : List UInt8) (k : Int) : Im := ⟨l.length / 64, l, fun _ => none, k.toNat, 0⟩
theorem newI_ok {l : List UInt8} {k : Int} (h : newC l.length k = 0) : (newI l k).ok := by
  unfold newC at h
  split at h
  · cases h
  · split at h
    · rename_i h1 h2
      obtain ⟨h2, h3, h4⟩ := h2
      refine ⟨?_, ?_, ?_, fun s l h => (by cases h), ?_, Nat.zero_le _⟩
      · simp only [newI]; omega
      · simp only [newI]; omega
      · simp only [newI]; omega
      · simp only [newI]; rw [cntF_none _ fun _ _ => rfl]
    · cases h
theorem Im.set_ok {I : Im} (h : I.ok) {s : Int} {b : List UInt8} (hs : I.is s = true) (hb : b.length = 64) (hr : I.has s = true ∨ I.used ≠ I.most) : (I.set s b).ok := by
  obtain ⟨h0, h1⟩ := Im.is_yes.1 hs
  obtain ⟨k, rfl⟩ : ∃ k : Nat, s = k := ⟨s.toNat, by omega⟩
  refine ⟨h.n256, h.most256, h.blen, fun x l e => ?_, ?_, ?_⟩
  · simp only [Im.set] at e ⊢
    split at e
    · rename_i hx; cases e; subst hx; exact ⟨h0, h1, hb⟩
    · exact h.dom x l e
  · simp only [Im.set]
    cases hh : I.has (k : Int) with
    | true =>
      simp only [if_true]
      rw [h.cnt]
      refine cntF_congr _ fun i hi => ?_
      by_cases e : (i : Int) = k
      · rw [if_pos e, e]; unfold Im.has at hh; rw [hh]; rfl
      · rw [if_neg e]
    | false =>
      simp only [Bool.false_eq_true, if_false]
      rw [h.cnt]
      refine (cntF_set (s := k) (fun i hi => ?_) hh ?_ I.n (by omega)).symm
      · rw [if_neg (by omega)]
      · simp
  · simp only [Im.set]
    have := h.le
    split
    · exact this
    · rename_i hh
      rcases hr with hr | hr
      · exact absurd hr hh
      · omega
theorem Im.clr_ok {I : Im} (h : I.ok) {s : Int} (hs : I.is s = true) : (I.clr s).ok := by
  obtain ⟨h0, h1⟩ := Im.is_yes.1 hs
  obtain ⟨k, rfl⟩ : ∃ k : Nat, s = k := ⟨s.toNat, by omega⟩
  refine ⟨h.n256, h.most256, h.blen, fun x l e => ?_, ?_, ?_⟩
  · simp only [Im.clr] at e
    split at e
    · cases e
    · exact h.dom x l e
  · simp only [Im.clr]
    cases hh : I.has (k : Int) with
    | true =>
      simp only [if_true]
      have e := cntF_set (s := k) (f := fun i => if i = (k : Int) then none else I.own i) (g := I.own) (fun i hi => by rw [if_neg (by omega)]) (by simp) hh I.n (by omega)
      rw [h.cnt]
      omega
    | false =>
      simp only [Bool.false_eq_true, if_false]
      rw [h.cnt]
      refine cntF_congr _ fun i hi => ?_
      by_cases e : (i : Int) = k
      · rw [if_pos e, e]; unfold Im.has at hh; rw [hh]; rfl
      · rw [if_neg e]
  · simp only [Im.clr]
    have := h.le
    split <;> omega
theorem Im.write_cases {I : Im} (s : Int) (b : List UInt8) :
    (I.is s = false ∧ I.writeE s b = (I, 1)) ∨ (I.is s = true ∧ b.length ≠ 64 ∧ I.writeE s b = (I, 1)) ∨ (I.is s = true ∧ b.length = 64 ∧ I.has s = false ∧ I.used = I.most ∧ I.writeE s b = (I, 71)) ∨
    (I.is s = true ∧ b.length = 64 ∧ I.has s = true ∧ I.writeE s b = (I.set s b, 0)) ∨ (I.is s = true ∧ b.length = 64 ∧ I.has s = false ∧ I.used ≠ I.most ∧ I.writeE s b = (I.set s b, 0)) := by
  unfold Im.writeE
  cases h : I.is s with
  | false => exact .inl ⟨rfl, rfl⟩
  | true =>
    by_cases hb : b.length = 64
    · cases hh : I.has s with
      | true => exact .inr (.inr (.inr (.inl ⟨rfl, hb, rfl, by simp [hb]⟩)))
      | false =>
        by_cases hu : I.used = I.most
        · exact .inr (.inr (.inl ⟨rfl, hb, rfl, hu, by simp [hb, hu]⟩))
        · exact .inr (.inr (.inr (.inr ⟨rfl, hb, rfl, hu, by simp [hb, hu]⟩)))
    · exact .inr (.inl ⟨rfl, hb, by simp [hb]⟩)
theorem Im.write_ok {I : Im} (h : I.ok) (s : Int) (b : List UInt8) : (I.writeE s b).1.ok := by
  rcases I.write_cases s b with ⟨_, e⟩ | ⟨_, _, e⟩ | ⟨_, _, _, _, e⟩ | ⟨h1, h2, h3, e⟩ | ⟨h1, h2, _, h3, e⟩ <;> rw [e]
  · exact h
  · exact h
  · exact h
  · exact Im.set_ok h h1 h2 (.inl h3)
  · exact Im.set_ok h h1 h2 (.inr h3)
theorem Im.trim_ok {I : Im} (h : I.ok) (s : Int) : (I.trimE s).1.ok := by
  unfold Im.trimE
  cases hs : I.is s with
  | true => exact Im.clr_ok h hs
  | false => exact h
theorem Im.base_len {I : Im} (h : I.ok) {s : Int} (hs : I.is s = true) : (I.base s).length = 64 := by
  obtain ⟨h0, h1⟩ := Im.is_yes.1 hs
  unfold Im.base
  rw [List.length_take, List.length_drop, h.blen]
  have : s.toNat < I.n := by omega
  have : s.toNat * 64 + 64 ≤ I.n * 64 := by omega
  omega
theorem Im.at_len {I : Im} (h : I.ok) {s : Int} (hs : I.is s = true) : (I.at s).length = 64 := by
  unfold Im.at
  cases e : I.own s with
  | none => exact Im.base_len h hs
  | some l => exact (h.dom s l e).2.2
theorem Im.free_dirty {I : Im} (h : I.ok) : I.dirty.length = I.used := by rw [h.cnt]; exact cntF_pick I I.n
end Go.Proofs.YtpjlhiagifoogaaGreat.Imx
