/-
  The machine's calls as plain functions. No walk here.
-/
import Derived.Test.YtnplkifohocekaaDoorMem
set_option linter.unusedSimpArgs false
set_option linter.unusedVariables false
namespace Go.Proofs.YtnplkifohocekaaDoor

def blankFr : Fr := ⟨-1, 0, 0, 0, fun _ => 0⟩

structure Fr.ok (f : Fr) : Prop where
  c0 : 0 ≤ f.cnt
  ct : f.cnt ≤ f.tot
  ty0 : 0 ≤ f.ty
  ty3 : f.ty ≤ 3
  z : f.cnt = 0 ↔ f.ty = 0
  lo : -2 ≤ f.owner
  hi : f.owner < 8
  free : f.owner = -1 → f.tot = 0 ∧ ∀ k, k < 256 → f.bs k = 0

/-- the machine is sound, and no frame has more than T references -/
structure Mach.ok (M : Mach) (T : Int) : Prop where
  n1 : 1 ≤ M.n
  n2 : M.n ≤ 256
  fr : ∀ i : Nat, (i : Int) < M.n → (M.fr i).ok ∧ (M.fr i).tot ≤ T

def Mach.is (M : Mach) (i : Int) : Bool := decide (0 ≤ i) && decide (i < M.n)
theorem Mach.is_yes {M : Mach} {i : Int} (h0 : 0 ≤ i) (h : i < M.n) : M.is i = true := by simp [Mach.is, h0, h]
theorem Mach.is_no {M : Mach} {i : Int} (h : i < 0 ∨ M.n ≤ i) : M.is i = false := by
  simp only [Mach.is, Bool.and_eq_false_iff, decide_eq_false_iff_not]; omega
theorem Mach.is_iff {M : Mach} {i : Int} : M.is i = true ↔ 0 ≤ i ∧ i < M.n := by simp [Mach.is]

def Mach.ownedL (M : Mach) (o : Int) : List Nat := (List.range M.n.toNat).filter fun k => (M.fr k).owner == o
def Mach.leftN (M : Mach) : Int := (M.ownedL (-1)).length

/-- what a call answers, and the machine behind it -/
def Mach.alloc (M : Mach) (o : Int) : Int × Int × Mach :=
  if o ≠ -2 ∧ (o < 0 ∨ 8 ≤ o) then (0, 1, M) else
  match M.ownedL (-1) with
  | [] => (0, 10, M)
  | k :: _ => (k, 0, M.upd k { M.fr k with owner := o })
def Mach.free (M : Mach) (i : Int) : Int × Mach :=
  if M.is i = false then (1, M) else
  if (M.fr i.toNat).owner = -1 then (11, M) else
  if (M.fr i.toNat).tot ≠ 0 then (9, M) else (0, M.upd i.toNat blankFr)
def Mach.give (M : Mach) (i to : Int) : Int × Mach :=
  if M.is i = false then (1, M) else
  if to < 0 ∨ 8 ≤ to then (1, M) else
  if (M.fr i.toNat).owner = -1 then (11, M) else
  if (M.fr i.toNat).tot ≠ 0 then (9, M) else (0, M.upd i.toNat { M.fr i.toNat with owner := to })
def Fr.taken (f : Fr) (k : Int) : Fr := if k = 0 then { f with tot := f.tot + 1 } else { f with ty := k, cnt := f.cnt + 1, tot := f.tot + 1 }
def Fr.dropped (f : Fr) (k : Int) : Fr :=
  if k = 0 then { f with tot := f.tot - 1 } else if f.cnt = 1 then { f with ty := 0, cnt := 0, tot := f.tot - 1 } else { f with cnt := f.cnt - 1, tot := f.tot - 1 }
def Mach.take (M : Mach) (i : Nat) (k : Int) : Int × Mach :=
  if k ≠ 0 ∧ (M.fr i).cnt ≠ 0 ∧ (M.fr i).ty ≠ k then (13, M) else (0, M.upd i ((M.fr i).taken k))
def Mach.drop (M : Mach) (i : Nat) (k : Int) : Int × Mach :=
  if (k = 0 ∧ (M.fr i).tot = (M.fr i).cnt) ∨ (k ≠ 0 ∧ (M.fr i).ty ≠ k) then (14, M) else (0, M.upd i ((M.fr i).dropped k))
def Mach.get (M : Mach) (i o k : Int) : Int × Mach :=
  if M.is i = false then (1, M) else
  if k < 0 ∨ 3 < k then (1, M) else
  if (M.fr i.toNat).owner = -1 then (11, M) else
  if (M.fr i.toNat).owner ≠ o then (12, M) else
  M.take i.toNat k
def Mach.put (M : Mach) (i k : Int) : Int × Mach :=
  if M.is i = false then (1, M) else
  if k < 0 ∨ 3 < k then (1, M) else
  M.drop i.toNat k
def inP (off n : Int) : Bool := decide (0 ≤ off) && decide (0 ≤ n) && decide (n ≤ 256 - off)
theorem inP_yes {o n : Int} (h0 : 0 ≤ o) (h1 : 0 ≤ n) (h2 : n ≤ 256 - o) : inP o n = true := by simp [inP, h0, h1, h2]
theorem inP_no {o n : Int} (h : o < 0 ∨ n < 0 ∨ 256 - o < n) : inP o n = false := by
  simp only [inP, Bool.and_eq_false_iff, decide_eq_false_iff_not]; omega
theorem inP_iff {o n : Int} : inP o n = true ↔ 0 ≤ o ∧ 0 ≤ n ∧ n ≤ 256 - o := by simp [inP, and_assoc]
/-- the bytes from off on -/
def Fr.part (f : Fr) (off n : Nat) : List UInt8 := (List.range n).map fun j => f.bs (off + j)
def Mach.read (M : Mach) (i off n : Int) : List UInt8 × Int :=
  if M.is i = false then ([], 1) else if inP off n = false then ([], 1) else ((M.fr i.toNat).part off.toNat n.toNat, 0)
def Fr.laid (f : Fr) (off : Nat) (b : List UInt8) : Fr := { f with bs := fun k => if off ≤ k ∧ k < off + b.length then b.getD (k - off) 0 else f.bs k }
def Mach.write (M : Mach) (i off : Int) (b : List UInt8) : Int × Mach :=
  if M.is i = false then (1, M) else if inP off b.length = false then (1, M) else
  if (M.fr i.toNat).owner = -1 then (11, M) else (0, M.upd i.toNat ((M.fr i.toNat).laid off.toNat b))

theorem blankFr_ok : blankFr.ok := ⟨by decide, by decide, by decide, by decide, by decide, by decide, by decide, fun _ => ⟨rfl, fun _ _ => rfl⟩⟩
theorem Mach.ok.upd {M : Mach} {T : Int} (h : M.ok T) {i : Nat} {f : Fr} (hf : f.ok) (ht : f.tot ≤ T) : (M.upd i f).ok T :=
  ⟨h.n1, h.n2, fun j hj => by
    by_cases e : j = i
    · subst e; rw [Mach.upd_same]; exact ⟨hf, ht⟩
    · rw [Mach.upd_other _ _ _ _ e]; exact h.fr j hj⟩
theorem Mach.ok.mono {M : Mach} {T T' : Int} (h : M.ok T) (ht : T ≤ T') : M.ok T' := ⟨h.n1, h.n2, fun j hj => ⟨(h.fr j hj).1, by have := (h.fr j hj).2; omega⟩⟩
theorem Mach.ok.t0 {M : Mach} {T : Int} (h : M.ok T) : 0 ≤ T := by
  have h0 := h.fr 0 (by have := h.n1; omega)
  have := h0.1.c0; have := h0.1.ct; have := h0.2; omega

theorem mem_ownedL {M : Mach} {o : Int} {k : Nat} : k ∈ M.ownedL o ↔ (k : Int) < M.n ∧ (M.fr k).owner = o := by
  simp [Mach.ownedL]
theorem Mach.alloc_ok {M : Mach} {T : Int} (h : M.ok T) (o : Int) : (M.alloc o).2.2.ok T := by
  unfold Mach.alloc
  split
  · exact h
  · rename_i ho
    split
    · exact h
    · rename_i k r hl
      have hk : k ∈ M.ownedL (-1) := by rw [hl]; simp
      obtain ⟨hk1, hk2⟩ := mem_ownedL.1 hk
      obtain ⟨g, gt⟩ := h.fr k hk1
      exact h.upd ⟨g.c0, g.ct, g.ty0, g.ty3, g.z, by show -2 ≤ o; omega, by show o < 8; omega, fun e => by
        exact g.free hk2⟩ gt
theorem Mach.free_ok {M : Mach} {T : Int} (h : M.ok T) (i : Int) : (M.free i).2.ok T := by
  unfold Mach.free
  split
  · exact h
  split
  · exact h
  split
  · exact h
  exact h.upd blankFr_ok h.t0
theorem Mach.give_ok {M : Mach} {T : Int} (h : M.ok T) (i to : Int) : (M.give i to).2.ok T := by
  unfold Mach.give
  split
  · exact h
  rename_i hi
  split
  · exact h
  split
  · exact h
  split
  · exact h
  have hi' := Mach.is_iff.1 (by simpa using hi)
  obtain ⟨g, gt⟩ := h.fr i.toNat (by omega)
  exact h.upd ⟨g.c0, g.ct, g.ty0, g.ty3, g.z, by show -2 ≤ to; omega, by show to < 8; omega, fun (e : to = -1) => by omega⟩ gt
theorem Mach.get_ok {M : Mach} {T : Int} (h : M.ok T) (i o k : Int) : (M.get i o k).2.ok (T + 1) := by
  have h1 := h.mono (T' := T + 1) (by omega)
  unfold Mach.get Mach.take
  split
  · exact h1
  rename_i hi
  split
  · exact h1
  rename_i hk
  split
  · exact h1
  rename_i hf
  split
  · exact h1
  split
  · exact h1
  rename_i ht
  have hi' := Mach.is_iff.1 (by simpa using hi)
  obtain ⟨g, gt⟩ := h.fr i.toNat (by omega)
  have := g.c0; have := g.ct; have := g.z
  refine h1.upd ?_ ?_
  · unfold Fr.taken
    split
    · exact ⟨g.c0, by show (M.fr i.toNat).cnt ≤ _ + 1; omega, g.ty0, g.ty3, g.z, g.lo, g.hi, fun e => absurd e hf⟩
    · exact ⟨by show 0 ≤ _ + 1; omega, by show _ + 1 ≤ _ + 1; omega, by show 0 ≤ k; omega, by show k ≤ 3; omega, by show _ + 1 = 0 ↔ k = 0; omega, g.lo, g.hi, fun e => absurd e hf⟩
  · unfold Fr.taken
    split <;> (show _ + 1 ≤ _; omega)
theorem Mach.put_ok {M : Mach} {T : Int} (h : M.ok T) (i k : Int) : (M.put i k).2.ok T := by
  unfold Mach.put Mach.drop
  split
  · exact h
  rename_i hi
  split
  · exact h
  rename_i hk
  split
  · exact h
  rename_i hn
  have hi' := Mach.is_iff.1 (by simpa using hi)
  obtain ⟨g, gt⟩ := h.fr i.toNat (by omega)
  have := g.c0; have := g.ct; have := g.z
  have hf : (M.fr i.toNat).owner = -1 → False := fun e => by have := (g.free e).1; omega
  refine h.upd ?_ ?_
  · unfold Fr.dropped
    split
    · exact ⟨g.c0, by show (M.fr i.toNat).cnt ≤ _ - 1; omega, g.ty0, g.ty3, g.z, g.lo, g.hi, fun e => (hf e).elim⟩
    · split
      · exact ⟨by show (0 : Int) ≤ 0; omega, by show 0 ≤ _ - 1; omega, by show (0 : Int) ≤ 0; omega, by show (0 : Int) ≤ 3; omega, by show (0 : Int) = 0 ↔ (0 : Int) = 0; omega, g.lo, g.hi, fun e => (hf e).elim⟩
      · exact ⟨by show 0 ≤ _ - 1; omega, by show _ - 1 ≤ _ - 1; omega, g.ty0, g.ty3, by show (M.fr i.toNat).cnt - 1 = 0 ↔ (M.fr i.toNat).ty = 0; omega, g.lo, g.hi, fun e => (hf e).elim⟩
  · unfold Fr.dropped
    split
    · show _ - 1 ≤ _; omega
    · split <;> (show _ - 1 ≤ _; omega)
theorem Mach.write_ok {M : Mach} {T : Int} (h : M.ok T) (i off : Int) (b : List UInt8) : (M.write i off b).2.ok T := by
  unfold Mach.write
  split
  · exact h
  rename_i hi
  split
  · exact h
  split
  · exact h
  rename_i hf
  have hi' := Mach.is_iff.1 (by simpa using hi)
  obtain ⟨g, gt⟩ := h.fr i.toNat (by omega)
  exact h.upd ⟨g.c0, g.ct, g.ty0, g.ty3, g.z, g.lo, g.hi, fun e => absurd e hf⟩ gt

end Go.Proofs.YtnplkifohocekaaDoor
