/-
  Package cons, plain: bytes as a text that can be read, by the document's own words. No walk, no program here.
-/
import Init
set_option linter.unusedSimpArgs false
set_option linter.unusedVariables false
namespace Go.Proofs.YtnplkifohocekaaDoor.Co
set_option maxHeartbeats 1000000

/-- the bytes that follow a letter's first one: the number, if they are such -/
def tailV : Nat → Nat → List UInt8 → Option Nat
  | 0, v, _ => some v
  | k + 1, v, x :: l => if x.toNat < 128 ∨ 192 ≤ x.toNat then none else tailV k (64 * v + x.toNat - 128) l
  | _ + 1, _, [] => none
/-- how many bytes a letter has by its first one, and what that one tells of it -/
def headL (c : Nat) : Nat × Nat :=
  if c < 128 then (1, c) else if 194 ≤ c ∧ c < 224 then (2, c - 192) else if 224 ≤ c ∧ c < 240 then (3, c - 224) else if 240 ≤ c ∧ c < 245 then (4, c - 240) else (0, 0)
/-- is it a number that so many bytes may tell? -/
def fitL (n v : Nat) : Bool := !((n == 3 && (decide (v < 2048) || (decide (55296 ≤ v) && decide (v < 57344)))) || (n == 4 && (decide (v < 65536) || decide (1114111 < v))))
/-- the letter that begins some bytes: how many bytes, which; (0, 0): none begins there -/
def letterV : List UInt8 → Nat × Nat
  | [] => (0, 0)
  | c :: l =>
    let h := headL c.toNat
    if h.1 = 0 then (0, 0) else
    match tailV (h.1 - 1) h.2 l with
    | none => (0, 0)
    | some v => if fitL h.1 v then (h.1, v) else (0, 0)
def digV (n : Nat) : UInt8 := if n < 10 then UInt8.ofNat (48 + n) else UInt8.ofNat (87 + n)
def hexV (c : UInt8) : List UInt8 := [92, 120, digV (c.toNat / 16), digV (c.toNat % 16)]
def goodV (v : Nat) : Bool := (decide (32 ≤ v) && decide (v ≤ 126)) || decide (160 ≤ v)
/-- what is shown of the letter, or the byte, that begins some bytes -/
def pieceV (l : List UInt8) : List UInt8 :=
  let n := (letterV l).1
  let v := (letterV l).2
  if v = 92 then [92, 92] else if decide (0 < n) && goodV v then l.take n else (l.take (max n 1)).flatMap hexV
def stepV (l : List UInt8) : Nat := max (letterV l).1 1
theorem stepV_pos (l : List UInt8) : 0 < stepV l := by unfold stepV; omega
def showV : List UInt8 → List UInt8
  | [] => []
  | c :: l => pieceV (c :: l) ++ showV ((c :: l).drop (stepV (c :: l)))
termination_by l => l.length
decreasing_by
  have := stepV_pos (c :: l)
  simp only [List.length_drop, List.length_cons]
  omega
theorem showV_cons {l : List UInt8} (h : l ≠ []) : showV l = pieceV l ++ showV (l.drop (stepV l)) := by
  cases l with
  | nil => exact absurd rfl h
  | cons c l => rw [showV]
theorem showV_nil : showV [] = [] := by rw [showV]
theorem tailV_len : ∀ {k v : Nat} {l : List UInt8} {u : Nat}, tailV k v l = some u → k ≤ l.length ∧ ∀ x ∈ l.take k, 128 ≤ x.toNat
  | 0, _, _, _, _ => ⟨by omega, fun x hx => by simp at hx⟩
  | k + 1, v, x :: l, u, h => by
    rw [tailV] at h
    split at h
    · cases h
    · rename_i hx
      obtain ⟨h1, h2⟩ := tailV_len h
      refine ⟨by simp; omega, fun y hy => ?_⟩
      simp only [List.take_succ_cons, List.mem_cons] at hy
      rcases hy with rfl | hy
      · omega
      · exact h2 y hy
  | _ + 1, _, [], _, h => by simp [tailV] at h
theorem letterV_is {c : UInt8} {l : List UInt8} : (letterV (c :: l) = (0, 0)) ∨ (∃ v, tailV ((headL c.toNat).1 - 1) (headL c.toNat).2 l = some v ∧ letterV (c :: l) = ((headL c.toNat).1, v) ∧ 0 < (headL c.toNat).1) := by
  unfold letterV
  simp only
  split
  · exact .inl rfl
  · rename_i h0
    split
    · exact .inl rfl
    · rename_i v hv
      split
      · exact .inr ⟨v, hv, rfl, by omega⟩
      · exact .inl rfl
theorem letterV_len {l : List UInt8} (h : l ≠ []) : (letterV l).1 ≤ l.length := by
  cases l with
  | nil => exact absurd rfl h
  | cons c l =>
    rcases letterV_is (c := c) (l := l) with e | ⟨v, ht, e, hp⟩
    · rw [e]; simp
    · rw [e]
      have := (tailV_len ht).1
      simp only [List.length_cons]
      omega
theorem stepV_len {l : List UInt8} (h : l ≠ []) : stepV l ≤ l.length := by
  have h1 := letterV_len h
  have : 0 < l.length := List.length_pos_iff.2 h
  unfold stepV
  omega
/-- a letter of one byte is that byte -/
theorem letterV_one {c : UInt8} {l : List UInt8} (h : c.toNat < 128) : letterV (c :: l) = (1, c.toNat) := by
  have e : headL c.toNat = (1, c.toNat) := by unfold headL; rw [if_pos h]
  unfold letterV
  simp [e, tailV, fitL]
/-- can be read -/
def readable (x : UInt8) : Prop := 32 ≤ x.toNat ∧ x.toNat ≠ 127
theorem digV_ok (n : Nat) (h : n < 16) : readable (digV n) := by
  rcases (show n = 0 ∨ n = 1 ∨ n = 2 ∨ n = 3 ∨ n = 4 ∨ n = 5 ∨ n = 6 ∨ n = 7 ∨ n = 8 ∨ n = 9 ∨ n = 10 ∨ n = 11 ∨ n = 12 ∨ n = 13 ∨ n = 14 ∨ n = 15 by omega) with rfl | rfl | rfl | rfl | rfl | rfl | rfl | rfl | rfl | rfl | rfl | rfl | rfl | rfl | rfl | rfl
  all_goals exact ⟨by decide, by decide⟩
theorem hexV_ok (c : UInt8) : ∀ x ∈ hexV c, readable x := by
  have h := UInt8.toNat_lt c
  intro x hx
  simp only [hexV, List.mem_cons, List.not_mem_nil, or_false] at hx
  rcases hx with rfl | rfl | rfl | rfl
  · exact ⟨by decide, by decide⟩
  · exact ⟨by decide, by decide⟩
  · exact digV_ok _ (by omega)
  · exact digV_ok _ (by omega)
theorem pieceV_ok {l : List UInt8} (h : l ≠ []) : ∀ x ∈ pieceV l, readable x := by
  cases l with
  | nil => exact absurd rfl h
  | cons c l =>
    unfold pieceV
    simp only
    split
    · intro x hx
      simp only [List.mem_cons, List.not_mem_nil, or_false] at hx
      rcases hx with rfl | rfl <;> exact ⟨by decide, by decide⟩
    · rename_i h92
      split
      · rename_i hg
        simp only [Bool.and_eq_true, decide_eq_true_eq] at hg
        obtain ⟨hn, hv⟩ := hg
        rcases letterV_is (c := c) (l := l) with e | ⟨v, ht, e, hp⟩
        · rw [e] at hn; simp at hn
        · rw [e] at hv ⊢
          by_cases hc : c.toNat < 128
          · have e1 := letterV_one (l := l) hc
            rw [e] at e1
            simp only [Prod.mk.injEq] at e1
            obtain ⟨e1, e2⟩ := e1
            simp only at hv
            intro x hx
            rw [e1] at hx
            simp only [List.take_succ_cons, List.take_zero, List.mem_cons, List.not_mem_nil, or_false] at hx
            subst hx
            rw [e2] at hv
            simp only [goodV, Bool.or_eq_true, Bool.and_eq_true, decide_eq_true_eq] at hv
            exact ⟨by omega, by omega⟩
          · obtain ⟨_, hk⟩ := tailV_len ht
            intro x hx
            obtain ⟨k, hk1⟩ : ∃ k, (headL c.toNat).1 = k + 1 := ⟨(headL c.toNat).1 - 1, by omega⟩
            simp only [hk1, List.take_succ_cons, List.mem_cons] at hx
            rcases hx with rfl | hx
            · exact ⟨by omega, by omega⟩
            · have := hk x (by rw [hk1]; exact hx)
              exact ⟨by omega, by omega⟩
      · intro x hx
        rw [List.mem_flatMap] at hx
        obtain ⟨y, _, hx⟩ := hx
        exact hexV_ok y x hx
theorem showV_ok : ∀ (l : List UInt8), ∀ x ∈ showV l, readable x := by
  intro l
  induction hn : l.length using Nat.strongRecOn generalizing l with
  | _ n ih =>
    intro x hx
    by_cases h : l = []
    · subst h; rw [showV_nil] at hx; simp at hx
    · rw [showV_cons h, List.mem_append] at hx
      rcases hx with hx | hx
      · exact pieceV_ok h x hx
      · have h1 := stepV_pos l
        have h2 : 0 < l.length := List.length_pos_iff.2 h
        exact ih (l.drop (stepV l)).length (by rw [List.length_drop]; omega) _ rfl x hx
/-- what can be read and is no backslash -/
def plainB (x : UInt8) : Bool := decide (32 ≤ x.toNat) && decide (x.toNat ≤ 126) && decide (x.toNat ≠ 92)
theorem showV_one {c : UInt8} {l : List UInt8} (h : plainB c = true) : showV (c :: l) = c :: showV l := by
  simp only [plainB, Bool.and_eq_true, decide_eq_true_eq] at h
  have e := letterV_one (l := l) (show c.toNat < 128 by omega)
  rw [showV_cons (by simp)]
  have hs : stepV (c :: l) = 1 := by unfold stepV; rw [e]; rfl
  have hp : pieceV (c :: l) = [c] := by
    unfold pieceV
    simp only [e]
    rw [if_neg h.2, if_pos (by simp [goodV]; omega)]
    rfl
  rw [hs, hp]
  rfl
/-- what can be read stays as it is, and nothing else behind it changes -/
theorem showV_plain (a b : List UInt8) (h : a.all plainB = true) : showV (a ++ b) = a ++ showV b := by
  induction a with
  | nil => rfl
  | cons c a ih =>
    simp only [List.all_cons, Bool.and_eq_true] at h
    rw [List.cons_append, showV_one h.1, ih h.2]
    rfl
theorem showV_self (a : List UInt8) (h : a.all plainB = true) : showV a = a := by
  have := showV_plain a [] h
  rw [List.append_nil, showV_nil, List.append_nil] at this
  exact this
/-- no text is longer than four times its bytes -/
theorem hexV_len (c : UInt8) : (hexV c).length = 4 := rfl
theorem flat4 (l : List UInt8) : (l.flatMap hexV).length = 4 * l.length := by
  induction l with
  | nil => rfl
  | cons c l ih => rw [List.flatMap_cons, List.length_append, ih, hexV_len, List.length_cons]; omega
theorem pieceV_len (l : List UInt8) (h : l ≠ []) : (pieceV l).length ≤ 4 * stepV l := by
  have h1 := stepV_pos l
  have h2 := stepV_len h
  unfold pieceV
  simp only
  split
  · simp; omega
  · split
    · rw [List.length_take]; unfold stepV; omega
    · rw [flat4, List.length_take]; unfold stepV; omega
theorem showV_len : ∀ (l : List UInt8), (showV l).length ≤ 4 * l.length := by
  intro l
  induction hn : l.length using Nat.strongRecOn generalizing l with
  | _ n ih =>
    by_cases h : l = []
    · subst h; rw [showV_nil]; simp
    · rw [showV_cons h, List.length_append]
      have h0 := pieceV_len l h
      have h1 := stepV_pos l
      have h2 := stepV_len h
      have h3 : 0 < l.length := List.length_pos_iff.2 h
      have := ih (l.drop (stepV l)).length (by rw [List.length_drop]; omega) _ rfl
      rw [List.length_drop] at this
      omega
end Go.Proofs.YtnplkifohocekaaDoor.Co
