/-
  PhysRefs: what the machine of one frame is behind the references tk. No walk here.
-/
import Derived.Test.YtfifhaajjjamcaaPhysK
namespace Go.Proofs.Ytfifhaajjjamcaa.lawRefs
open Go.Proofs.Ytfifhaajjjamcaa

def nz (tk : List Int) : List Int := tk.filter fun x => decide (x ≠ 0)
def rfr (bs : Nat → UInt8) (tk : List Int) : Fr := ⟨3, (nz tk).headD 0, (nz tk).length, tk.length, bs⟩
def rM (bs : Nat → UInt8) (tk : List Int) : Mach := ⟨1, fun i => if i = 0 then rfr bs tk else zeroFr⟩
structure Tk (tk : List Int) : Prop where
  r : ∀ x ∈ tk, 0 ≤ x ∧ x ≤ 3
  t : ∀ x ∈ tk, x ≠ 0 → x = (nz tk).headD 0
theorem Tk.nil : Tk [] := ⟨fun _ h => (nomatch h), fun _ h => (nomatch h)⟩
theorem nz_le (tk : List Int) : (nz tk).length ≤ tk.length := List.length_filter_le _ _
theorem mem_nz {tk : List Int} {x : Int} : x ∈ nz tk ↔ x ∈ tk ∧ x ≠ 0 := by simp [nz]
theorem nz_snoc (tk : List Int) (k : Int) : nz (tk ++ [k]) = if k = 0 then nz tk else nz tk ++ [k] := by
  unfold nz
  by_cases h : k = 0 <;> simp [h]
theorem nz_cons (x : Int) (tk : List Int) : nz (x :: tk) = if x = 0 then nz tk else x :: nz tk := by
  unfold nz
  by_cases h : x = 0 <;> simp [h]
theorem head_mem {l : List Int} (h : l ≠ []) : l.headD 0 ∈ l := by
  cases l with
  | nil => exact absurd rfl h
  | cons a r => simp
theorem rM_fr (bs : Nat → UInt8) (tk : List Int) : (rM bs tk).fr 0 = rfr bs tk := rfl
theorem rM_upd (bs : Nat → UInt8) (tk : List Int) (tk' : List Int) : (rM bs tk).upd 0 (rfr bs tk') = rM bs tk' := by
  simp only [rM, Mach.upd, Mach.mk.injEq, true_and]
  funext i
  by_cases h : i = 0 <;> simp [h]
theorem rfr_ok (bs : Nat → UInt8) {tk : List Int} (h : Tk tk) : (rfr bs tk).ok := by
  have hd : nz tk ≠ [] → (nz tk).headD 0 ∈ tk ∧ (nz tk).headD 0 ≠ 0 := fun hn => mem_nz.1 (head_mem hn)
  have hr : 0 ≤ (nz tk).headD 0 ∧ (nz tk).headD 0 ≤ 3 := by
    by_cases hn : nz tk = []
    · rw [hn]; decide
    · exact h.r _ (hd hn).1
  have hl := nz_le tk
  refine ⟨by show (0 : Int) ≤ (nz tk).length; omega, by show ((nz tk).length : Int) ≤ tk.length; omega, hr.1, hr.2, ?_, by show (-2 : Int) ≤ 3; decide, by show (3 : Int) < 8; decide, fun (e : (3 : Int) = -1) => absurd e (by decide)⟩
  show ((nz tk).length : Int) = 0 ↔ (nz tk).headD 0 = 0
  constructor
  · intro e
    have : nz tk = [] := List.length_eq_zero_iff.1 (by omega)
    rw [this]; rfl
  · intro e
    by_cases hn : nz tk = []
    · rw [hn]; rfl
    · exact absurd e (hd hn).2
theorem rM_ok (bs : Nat → UInt8) {tk : List Int} (h : Tk tk) : (rM bs tk).ok tk.length := by
  refine ⟨by show (1 : Int) ≤ 1; decide, by show (1 : Int) ≤ 256; decide, fun i hi => ?_⟩
  have : i = 0 := by simp only [rM] at hi; omega
  subst this
  exact ⟨rfr_ok bs h, Int.le_refl _⟩
theorem Tk.snoc {tk : List Int} (h : Tk tk) {k : Int} (h0 : 0 ≤ k) (h3 : k ≤ 3) (ht : k = 0 ∨ nz tk = [] ∨ (nz tk).headD 0 = k) : Tk (tk ++ [k]) := by
  have hh : ∀ y, y ≠ 0 → y ∈ tk → nz tk ≠ [] := fun y hy hm e => by
    have : y ∈ nz tk := mem_nz.2 ⟨hm, hy⟩
    rw [e] at this; cases this
  have hd : ∀ (l m : List Int), l ≠ [] → (l ++ m).headD 0 = l.headD 0 := fun l m hl => by cases l with | nil => exact absurd rfl hl | cons a r => rfl
  refine ⟨fun x hx => ?_, fun x hx hx0 => ?_⟩
  · rcases List.mem_append.1 hx with hx | hx
    · exact h.r x hx
    · simp at hx; subst hx; exact ⟨h0, h3⟩
  · rw [nz_snoc]
    rcases List.mem_append.1 hx with hx | hx
    · have := h.t x hx hx0
      split
      · exact this
      · rw [hd _ _ (hh x hx0 hx)]; exact this
    · simp at hx; subst hx
      rw [if_neg hx0]
      rcases ht with ht | ht | ht
      · exact absurd ht hx0
      · rw [ht]; rfl
      · by_cases hn : nz tk = []
        · rw [hn]; rfl
        · rw [hd _ _ hn, ht]
theorem rM_is (bs : Nat → UInt8) (tk : List Int) : (rM bs tk).is 0 = true := rfl
/-- a reference is taken, or refused -/
theorem get_any (bs : Nat → UInt8) {tk : List Int} (h : Tk tk) (k : Int) :
    ((rM bs tk).get 0 3 k = (0, rM bs (tk ++ [k])) ∧ Tk (tk ++ [k])) ∨ ∃ r, r ≠ 0 ∧ (rM bs tk).get 0 3 k = (r, rM bs tk) := by
  have hl := nz_le tk
  unfold Mach.get
  rw [if_neg (by rw [rM_is]; decide)]
  by_cases hk : k < 0 ∨ 3 < k
  · rw [if_pos hk]; exact .inr ⟨1, by decide, rfl⟩
  · rw [if_neg hk, if_neg (by show (3 : Int) ≠ -1; decide), if_neg (by show ¬ ((3 : Int) ≠ 3); decide)]
    unfold Mach.take
    rw [show (Int.toNat 0) = 0 from rfl, rM_fr]
    by_cases ht : k ≠ 0 ∧ (rfr bs tk).cnt ≠ 0 ∧ (rfr bs tk).ty ≠ k
    · rw [if_pos ht]; exact .inr ⟨13, by decide, rfl⟩
    · rw [if_neg ht]
      refine .inl ⟨?_, ?_⟩
      · rw [← rM_upd bs tk (tk ++ [k])]
        congr 2
        unfold Fr.taken
        by_cases hk0 : k = 0
        · subst hk0; simp [rfr, nz_snoc]
        · have hd : (nz tk ++ [k]).headD 0 = k := by
            cases hn : nz tk with
            | nil => rfl
            | cons a r =>
              have : a = k := by
                by_cases e : a = k
                · exact e
                · exact absurd ⟨hk0, by simp [rfr, hn]; omega, by simp [rfr, hn, e]⟩ ht
              simp [this]
          simp only [hk0, if_false, rfr, nz_snoc, hd, List.length_append, List.length_cons, List.length_nil]
          simp
      · refine h.snoc (by omega) (by omega) ?_
        by_cases hk0 : k = 0
        · exact .inl hk0
        · by_cases hn : nz tk = []
          · exact .inr (.inl hn)
          · refine .inr (.inr ?_)
            by_cases e : (nz tk).headD 0 = k
            · exact e
            · have : (nz tk).length ≠ 0 := fun e => hn (List.length_eq_zero_iff.1 e)
              exact absurd ⟨hk0, by show ((nz tk).length : Int) ≠ 0; omega, e⟩ ht
/-- the first one goes back -/
theorem put_head (bs : Nat → UInt8) {x : Int} {tk : List Int} (h : Tk (x :: tk)) : (rM bs (x :: tk)).put 0 x = (0, rM bs tk) ∧ Tk tk := by
  have hl := nz_le tk
  have hx := h.r x (by simp)
  have ht : x ≠ 0 → (nz (x :: tk)).headD 0 = x := fun hx0 => by rw [nz_cons, if_neg hx0]; rfl
  have htk : Tk tk := by
    refine ⟨fun y hy => h.r y (by simp [hy]), fun y hy hy0 => ?_⟩
    have h1 := h.t y (by simp [hy]) hy0
    rw [nz_cons] at h1
    split at h1
    · exact h1
    · rename_i hx0
      have hn : nz tk ≠ [] := fun e => by
        have : y ∈ nz tk := mem_nz.2 ⟨hy, hy0⟩
        rw [e] at this; cases this
      have hm := mem_nz.1 (head_mem hn)
      have h2 := h.t _ (List.mem_cons_of_mem x hm.1) hm.2
      rw [nz_cons, if_neg hx0] at h2
      rw [h2]; exact h1
  refine ⟨?_, htk⟩
  unfold Mach.put
  rw [if_neg (by rw [rM_is]; decide), if_neg (by omega)]
  show Mach.drop _ 0 x = _
  unfold Mach.drop
  rw [rM_fr, if_neg]
  · rw [← rM_upd bs (x :: tk) tk]
    congr 2
    unfold Fr.dropped
    by_cases hx0 : x = 0
    · subst hx0; simp [rfr, nz_cons]
    · simp only [hx0, if_false, rfr, nz_cons, List.length_cons]
      cases hn : nz tk with
      | nil => simp
      | cons a r =>
        have hm := mem_nz.1 (show a ∈ nz tk by rw [hn]; simp)
        have := h.t a (by simp [hm.1]) hm.2
        rw [ht hx0] at this
        subst this
        rw [if_neg (by simp; omega)]
        simp
  · rintro (⟨rfl, e⟩ | ⟨hx0, e⟩)
    · simp only [rfr, nz_cons, if_true, List.length_cons] at e
      omega
    · exact e (ht hx0)
theorem put_none (bs : Nat → UInt8) (k : Int) (h0 : 0 ≤ k) (h3 : k ≤ 3) : (rM bs []).put 0 k = (14, rM bs []) := by
  unfold Mach.put Mach.drop
  rw [if_neg (by rw [rM_is]; decide), if_neg (by omega), if_pos]
  by_cases hk : k = 0
  · exact .inl ⟨hk, rfl⟩
  · exact .inr ⟨hk, fun e => hk e.symm⟩
theorem busy_free (bs : Nat → UInt8) {tk : List Int} (h : 0 < tk.length) : (rM bs tk).free 0 = (9, rM bs tk) := by
  unfold Mach.free
  rw [if_neg (by rw [rM_is]; decide), if_neg (by show (3 : Int) ≠ -1; decide), if_pos (by show (tk.length : Int) ≠ 0; omega)]
theorem busy_give (bs : Nat → UInt8) {tk : List Int} (h : 0 < tk.length) : (rM bs tk).give 0 4 = (9, rM bs tk) := by
  unfold Mach.give
  rw [if_neg (by rw [rM_is]; decide), if_neg (by decide), if_neg (by show (3 : Int) ≠ -1; decide), if_pos (by show (tk.length : Int) ≠ 0; omega)]
/-- given away, then freed -/
def gave (bs : Nat → UInt8) : Mach := ((rM bs []).give 0 4).2
theorem give_yes (bs : Nat → UInt8) : (rM bs []).give 0 4 = (0, gave bs) := rfl
def goneM (bs : Nat → UInt8) : Mach := ((gave bs).free 0).2
theorem free_yes (bs : Nat → UInt8) : (gave bs).free 0 = (0, goneM bs) := rfl
theorem free_again (bs : Nat → UInt8) : (goneM bs).free 0 = (11, goneM bs) := rfl
theorem gave_ok (bs : Nat → UInt8) : (gave bs).ok 0 := Mach.give_ok (rM_ok bs Tk.nil) 0 4
theorem gone_ok (bs : Nat → UInt8) : (goneM bs).ok 0 := Mach.free_ok (gave_ok bs) 0
theorem gone_clean (bs : Nat → UInt8) (k : Nat) : ((goneM bs).fr 0).bs k = 0 := rfl

/-- the first machine: New, Alloc, Write -/
def one : Mach := ⟨1, fun i => if i = 0 then ⟨3, 0, 0, 0, fun _ => 0⟩ else zeroFr⟩
theorem alloc_one : (upTo 1 1).alloc 3 = (0, 0, one) := by
  have e : (upTo 1 1).ownedL (-1) = [0] := by decide
  unfold Mach.alloc
  rw [if_neg (by decide), e]
  simp only [Prod.mk.injEq, Mach.upd, upTo, one, Mach.mk.injEq, true_and]
  refine ⟨by simp, funext fun i => ?_⟩
  by_cases h : i = 0
  · subst h; rfl
  · rw [if_neg h, if_neg h, if_neg (by omega)]
theorem upTo1_ok : (upTo 1 1).ok 0 := ⟨by decide, by decide, fun i hi => by
  have h : i < 1 := by simp only [upTo] at hi; omega
  show ((if i < 1 then blankFr else zeroFr).ok ∧ _ ≤ _)
  rw [if_pos h]; exact ⟨blankFr_ok, by simp only [upTo]; rw [if_pos h]; decide⟩⟩
theorem one_ok : one.ok 0 := by have h := Mach.alloc_ok upTo1_ok 3; rw [alloc_one] at h; exact h
theorem write_one (l : List UInt8) : ∃ bs r, one.write 0 0 l = (r, rM bs []) := by
  have e : one = rM (fun _ => 0) [] := rfl
  unfold Mach.write
  rw [if_neg (by decide)]
  by_cases h : inP 0 l.length = false
  · rw [if_pos h]; exact ⟨_, _, rfl⟩
  · rw [if_neg h, if_neg (by decide)]
    refine ⟨((one.fr 0).laid 0 l).bs, 0, ?_⟩
    show (0, one.upd 0 ((one.fr 0).laid 0 l)) = _
    rw [e]
    simp only [Prod.mk.injEq, true_and]
    rw [← rM_upd ((((rM (fun x => 0) []).fr 0).laid 0 l).bs) [] []]
    simp only [rM, Mach.upd, Mach.mk.injEq, true_and]
    funext i
    by_cases h : i = 0
    · subst h; rfl
    · simp [h]
end Go.Proofs.Ytfifhaajjjamcaa.lawRefs
