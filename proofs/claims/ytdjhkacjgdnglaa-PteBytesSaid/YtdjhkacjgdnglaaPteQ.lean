/-
  What a range of addresses leads to, page by page. No walk of code here.
-/
import Derived.Test.YtdjhkacjgdnglaaPteS
import Derived.Test.YtdjhkacjgdnglaaPhysF
namespace Go.Proofs.Ytdjhkacjgdnglaa
open Go.RowKit

def Mach.pageV (M : Mach) (root : Int) (pg : Nat) (wr : Bool) : Int × Int :=
  let x := M.pent root ((pg / 64 : Nat) : Int)
  if x.2 ≠ 0 then (0, x.2) else
  let y := M.pent x.1.mfn ((pg % 64 : Nat) : Int)
  if y.2 ≠ 0 then (0, y.2) else if (wr && !y.1.w) = true then (0, 41) else if M.is y.1.mfn = false then (0, 1) else (y.1.mfn, 0)
theorem Mach.walkV_page (M : Mach) (root : Int) (va : Nat) (wr : Bool) (h : va < 1048576) :
    M.walkV root va wr = if (M.pageV root (va / 256) wr).2 ≠ 0 then (0, 0, (M.pageV root (va / 256) wr).2) else ((M.pageV root (va / 256) wr).1, ((va % 256 : Nat) : Int), 0) := by
  unfold Mach.walkV Mach.walk1 Mach.pageV
  rw [if_neg (by omega)]
  have e : va / 256 / 64 = va / 16384 := by omega
  rw [e]
  simp only
  generalize M.pent root ((va / 16384 : Nat) : Int) = x
  by_cases hx : x.2 ≠ 0
  · rw [if_pos hx]
    simp only [if_pos hx]
  · rw [if_neg hx]
    simp only [if_neg hx]
    unfold Mach.walk2
    generalize M.pent x.1.mfn ((va / 256 % 64 : Nat) : Int) = y
    by_cases hy : y.2 ≠ 0
    · rw [if_pos hy]
      simp only [if_pos hy]
    · rw [if_neg hy]
      simp only [if_neg hy]
      cases hw : (wr && !y.1.w)
      · cases hm : M.is y.1.mfn <;> simp
      · simp
theorem Mach.page_is (M : Mach) (root : Int) (pg : Nat) (wr : Bool) (h : (M.pageV root pg wr).2 = 0) : M.is (M.pageV root pg wr).1 = true := by
  unfold Mach.pageV at h ⊢
  simp only at h ⊢
  generalize M.pent root ((pg / 64 : Nat) : Int) = x at *
  by_cases hx : x.2 ≠ 0
  · rw [if_pos hx] at h; exact absurd h hx
  rw [if_neg hx] at h ⊢
  generalize M.pent x.1.mfn ((pg % 64 : Nat) : Int) = y at *
  by_cases hy : y.2 ≠ 0
  · rw [if_pos hy] at h; exact absurd h hy
  rw [if_neg hy] at h ⊢
  cases hw : (wr && !y.1.w)
  · rw [hw] at h
    simp only [Bool.false_eq_true, if_false] at h ⊢
    cases hm : M.is y.1.mfn
    · rw [hm] at h; simp at h
    · simp [hm]
  · rw [hw] at h; simp at h

/-- bytes of one page -/
structure Run where
  m : Nat
  o : Nat
  n : Nat
def badR (va : Nat) (n : Int) : Prop := n < 0 ∨ 256 < n ∨ 1048576 < (va : Int) + n
instance (va : Nat) (n : Int) : Decidable (badR va n) := by unfold badR; infer_instance
/-- the runs of a range, given what its two pages lead to -/
def runsOf (off n : Nat) (p1 p2 : Int × Int) : List Run × Int :=
  if p1.2 ≠ 0 then ([], p1.2) else if n ≤ 256 - off then ([⟨p1.1.toNat, off, n⟩], 0) else if p2.2 ≠ 0 then ([], p2.2) else ([⟨p1.1.toNat, off, 256 - off⟩, ⟨p2.1.toNat, 0, n - (256 - off)⟩], 0)
def Mach.runsV (M : Mach) (root : Int) (va : Nat) (n : Int) (wr : Bool) : List Run × Int :=
  if n = 0 then ([], 0) else if badR va n then ([], 1) else runsOf (va % 256) n.toNat (M.pageV root (va / 256) wr) (M.pageV root (va / 256 + 1) wr)
def Mach.bytesOf (M : Mach) (rs : List Run) : List UInt8 := rs.flatMap fun r => (M.fr r.m).part r.o r.n
def Mach.fetchV (M : Mach) (root : Int) (va : Nat) (n : Int) : List UInt8 × Int := (M.bytesOf (M.runsV root va n false).1, (M.runsV root va n false).2)
/-- bytes laid run by run -/
def Mach.layV (M : Mach) : List Run → List UInt8 → Mach
  | [], _ => M
  | r :: rs, b => ((M.write r.m r.o (b.take r.n)).2).layV rs (b.drop r.n)
def Mach.storeV (M : Mach) (root : Int) (va : Nat) (b : List UInt8) : Int × Mach := ((M.runsV root va b.length true).2, M.layV (M.runsV root va b.length true).1 b)

theorem Mach.walkV_at (M : Mach) (root : Int) (va k : Nat) (wr : Bool) (h : va + k < 1048576) (hk : k < 256) :
    M.walkV root (va + k) wr = if va % 256 + k < 256 then
      (if (M.pageV root (va / 256) wr).2 ≠ 0 then (0, 0, (M.pageV root (va / 256) wr).2) else ((M.pageV root (va / 256) wr).1, ((va % 256 + k : Nat) : Int), 0))
      else (if (M.pageV root (va / 256 + 1) wr).2 ≠ 0 then (0, 0, (M.pageV root (va / 256 + 1) wr).2) else ((M.pageV root (va / 256 + 1) wr).1, ((va % 256 + k - 256 : Nat) : Int), 0)) := by
  rw [M.walkV_page root (va + k) wr h]
  by_cases hc : va % 256 + k < 256
  · rw [if_pos hc, show (va + k) / 256 = va / 256 by omega, show (va + k) % 256 = va % 256 + k by omega]
  · rw [if_neg hc, show (va + k) / 256 = va / 256 + 1 by omega, show (va + k) % 256 = va % 256 + k - 256 by omega]

theorem Mach.write_is (M : Mach) (i off : Int) (l : List UInt8) (j : Int) : ((M.write i off l).2).is j = M.is j := by
  have : ((M.write i off l).2).n = M.n := by unfold Mach.write; (repeat' split) <;> rfl
  unfold Mach.is; rw [this]
theorem Fr.laid_snoc (f : Fr) (off : Nat) (l : List UInt8) (x : UInt8) : f.laid off (l ++ [x]) = (f.laid off l).laid (off + l.length) [x] := by
  unfold Fr.laid
  simp only [Fr.mk.injEq, true_and]
  funext k
  simp only [List.length_append, List.length_cons, List.length_nil, Nat.zero_add]
  by_cases h1 : off + l.length ≤ k ∧ k < off + l.length + 1
  · have : k = off + l.length := by omega
    subst this
    rw [if_pos (by omega), if_pos (by omega)]
    simp [List.getD]
  · rw [if_neg h1]
    by_cases h2 : off ≤ k ∧ k < off + l.length
    · rw [if_pos (by omega), if_pos h2]
      simp [List.getD, List.getElem?_append_left (show k - off < l.length by omega)]
    · rw [if_neg (by omega), if_neg h2]
theorem Mach.write_snoc (M : Mach) (i off : Nat) (l : List UInt8) (x : UInt8) (h : off + l.length < 256) :
    (M.write i off (l ++ [x])).2 = ((M.write i off l).2.write i ((off + l.length : Nat) : Int) [x]).2 := by
  cases hi : M.is i
  · have h1 : (M.write i off l).2 = M := by simp [Mach.write, hi]
    rw [h1]
    simp [Mach.write, hi]
  · have p1 : inP off (l ++ [x]).length = true := inP_yes (by omega) (by omega) (by simp; omega)
    have p2 : inP off l.length = true := inP_yes (by omega) (by omega) (by omega)
    have p3 : inP ((off + l.length : Nat) : Int) ([x] : List UInt8).length = true := inP_yes (by omega) (by simp) (by simp; omega)
    by_cases ho : (M.fr i).owner = -1
    · have h1 : (M.write i off l).2 = M := by unfold Mach.write; rw [if_neg (by simp [hi]), if_neg (by rw [p2]; simp), if_pos (by simpa using ho)]
      rw [h1]
      unfold Mach.write
      rw [if_neg (by simp [hi]), if_neg (by rw [p1]; simp), if_pos (by simpa using ho), if_neg (by simp [hi]), if_neg (by rw [p3]; simp), if_pos (by simpa using ho)]
    · have h1 : (M.write i off l).2 = M.upd i ((M.fr i).laid off l) := by unfold Mach.write; rw [if_neg (by simp [hi]), if_neg (by rw [p2]; simp), if_neg (by simpa using ho)]; rfl
      rw [h1]
      have hi' : (M.upd i ((M.fr i).laid off l)).is i = true := hi
      have ho' : ¬ ((M.upd i ((M.fr i).laid off l)).fr i).owner = -1 := by rw [Mach.upd_same]; exact ho
      unfold Mach.write
      rw [if_neg (by simp [hi]), if_neg (by rw [p1]; simp), if_neg (by simpa using ho), if_neg (by simp [hi']), if_neg (by rw [p3]; simp), if_neg (by simpa using ho')]
      simp only [Int.toNat_natCast]
      rw [Mach.upd_same, Mach.upd_upd, Fr.laid_snoc]
theorem Mach.write_nil (M : Mach) (i off : Nat) : (M.write i off []).2 = M := by
  unfold Mach.write
  split
  · rfl
  split
  · rfl
  split
  · rfl
  · exact laid_nil M _ _
end Go.Proofs.Ytdjhkacjgdnglaa
