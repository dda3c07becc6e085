/-
  ViewOrder's plain part. No walk of code here.
-/
import Derived.Test.YtigmllcilmpanaaVRest
import Derived.Test.YtigmllcilmpanaaVStr
namespace Go.Proofs.Ytigmllcilmpanaa
open Go.RowKit
set_option maxHeartbeats 1000000

def fz : Fr := ⟨5, 0, 0, 0, fun _ => 0⟩
def five : Mach := ⟨1, fun i => if i = 0 then fz else zeroFr⟩
theorem alloc_five : (upTo 1 1).alloc 5 = (0, 0, five) := by
  have e : (upTo 1 1).ownedL (-1) = [0] := by decide
  unfold Mach.alloc
  rw [if_neg (by decide), e]
  simp only [Prod.mk.injEq, Mach.upd, upTo, five, Mach.mk.injEq, true_and]
  refine ⟨by simp, funext fun i => ?_⟩
  by_cases h : i = 0
  · subst h; rfl
  · rw [if_neg h, if_neg h, if_neg (by omega)]
theorem five_ok : five.ok 0 := by
  have h1 : (upTo 1 1).ok 0 := upTo_ok' 1 (by omega) (by omega)
  have h := Mach.alloc_ok h1 5; rw [alloc_five] at h; exact h
theorem five_left : five.leftN = 0 := by decide
theorem five_fr : five.fr 0 = fz := rfl
/-- the machine behind both rewrites -/
def ord (f s : List UInt8) : Mach := five.upd 0 ((fz.laid 0 f).laid 0 s)
theorem rew_frame (F : Fr) (p : PokeV) (hi : p.i = 0) (ho : p.off = 0) (hl : p.l.length ≤ 8) (h1 : F.owner = 5) (h2 : F.ty = 0) : (five.upd 0 F).rew p = five.upd 0 (F.laid 0 p.l) := by
  obtain ⟨t, i, o, l⟩ := p
  simp only at hi ho hl
  subst hi ho
  unfold Mach.rew
  rw [if_pos (by show Mach.may _ 0 = true; unfold Mach.may; rw [Mach.is_yes (M := five.upd 0 F) (by decide) (show (0 : Int) < 1 by decide)]; show (true && (((five.upd 0 F).fr 0)).may) = true; rw [Mach.upd_same]; unfold Fr.may; rw [h1, h2]; rfl)]
  show ((five.upd 0 F).write 0 0 l).2 = _
  unfold Mach.write
  rw [if_neg (by rw [Mach.is_yes (M := five.upd 0 F) (by decide) (show (0 : Int) < 1 by decide)]; simp), if_neg (by rw [inP_yes (by omega) (by omega) (by omega)]; simp)]
  show (if ((five.upd 0 F).fr 0).owner = -1 then ((11 : Int), five.upd 0 F) else (0, (five.upd 0 F).upd 0 (((five.upd 0 F).fr 0).laid 0 l))).2 = _
  rw [Mach.upd_same, if_neg (by rw [h1]; decide), Mach.upd_upd]
theorem five_upd : five.upd 0 fz = five := by
  unfold five Mach.upd
  simp only [Mach.mk.injEq, true_and]
  funext i
  by_cases h : i = 0 <;> simp [h]
theorem rews_ord (t : Int) (f s : List UInt8) (hf : f.length ≤ 8) (hs : s.length ≤ 8) : five.rews [⟨t, 0, 0, f⟩, ⟨t, 0, 0, s⟩] = ord f s := by
  show (five.rew ⟨t, 0, 0, f⟩).rew ⟨t, 0, 0, s⟩ = ord f s
  have e1 : five.rew ⟨t, 0, 0, f⟩ = five.upd 0 (fz.laid 0 f) := by
    have := rew_frame fz ⟨t, 0, 0, f⟩ rfl rfl hf rfl rfl
    rwa [five_upd] at this
  rw [e1]
  exact rew_frame (fz.laid 0 f) ⟨t, 0, 0, s⟩ rfl rfl hs rfl rfl
def wantB (f s : List UInt8) (i : Nat) : UInt8 := if i < s.length then s.getD i 0 else if i < f.length then f.getD i 0 else 0
def wantL (f s : List UInt8) : List UInt8 := (List.range 8).map (wantB f s)
theorem wantL_len (f s : List UInt8) : (wantL f s).length = 8 := by simp [wantL]
theorem wantL_getD (f s : List UInt8) (i : Nat) (h : i < 8) : (wantL f s).getD i 0 = wantB f s i := by simp [wantL, List.getD, h]
theorem ord_read (f s : List UInt8) : (ord f s).read 0 0 8 = (wantL f s, 0) := by
  unfold Mach.read
  rw [if_neg (by rw [Mach.is_yes (M := ord f s) (by decide) (show (0 : Int) < 1 by decide)]; simp), if_neg (by decide)]
  refine Prod.ext ?_ rfl
  show ((ord f s).fr 0).part 0 8 = wantL f s
  unfold ord wantL Fr.part
  rw [Mach.upd_same]
  refine List.map_congr_left fun i hi => ?_
  unfold wantB Fr.laid
  simp only [Nat.zero_add, Nat.zero_le, true_and, Nat.sub_zero]
  rfl
def zs8 : List UInt8 := List.replicate 8 0
theorem five_read : five.read 0 0 8 = (zs8, 0) := by decide +kernel
theorem due_none {t : Int} {f s : List UInt8} {k : Nat} (h : (k : Int) ≠ t) : due [⟨t, 0, 0, f⟩, ⟨t, 0, 0, s⟩] k = [] := by
  have : (t == (k : Int)) = false := by simp; exact fun e => h e.symm
  simp [due, this]
theorem due_both {t : Int} {f s : List UInt8} {k : Nat} (h : (k : Int) = t) : due [⟨t, 0, 0, f⟩, ⟨t, 0, 0, s⟩] k = [⟨t, 0, 0, f⟩, ⟨t, 0, 0, s⟩] := by
  subst h; simp [due]
theorem ord_ok (t : Int) (f s : List UInt8) (hf : f.length ≤ 8) (hs : s.length ≤ 8) : (ord f s).ok 0 := by rw [← rews_ord t f s hf hs]; exact Mach.rews_ok _ five_ok
/-- zeros over it -/
theorem ord_zero (f s : List UInt8) : ((ord f s).write 0 0 zs8).1 = 0 ∧ ((ord f s).write 0 0 zs8).2.read 0 0 8 = (zs8, 0) := by
  have hw : (ord f s).write 0 0 zs8 = (0, (ord f s).upd 0 (((ord f s).fr 0).laid 0 zs8)) := by
    unfold Mach.write
    rw [if_neg (by rw [Mach.is_yes (M := ord f s) (by decide) (show (0 : Int) < 1 by decide)]; simp), if_neg (by decide)]
    show (if ((ord f s).fr 0).owner = -1 then _ else _) = _
    rw [if_neg (by unfold ord; rw [Mach.upd_same]; show (5 : Int) ≠ -1; decide)]
    rfl
  rw [hw]
  refine ⟨rfl, ?_⟩
  unfold Mach.read
  rw [if_neg (by rw [Mach.is_yes (M := (ord f s).upd 0 (((ord f s).fr 0).laid 0 zs8)) (by decide) (show (0 : Int) < 1 by decide)]; simp), if_neg (by decide)]
  refine Prod.ext ?_ rfl
  show (((ord f s).upd 0 (((ord f s).fr 0).laid 0 zs8)).fr 0).part 0 8 = zs8
  rw [Mach.upd_same]
  generalize (ord f s).fr 0 = F
  unfold Fr.part Fr.laid
  rfl
theorem rest_none {t : Int} {f s : List UInt8} {n : Nat} (h : t < n) : restN [⟨t, 0, 0, f⟩, ⟨t, 0, 0, s⟩] n = 0 := by
  have : decide ((n : Int) ≤ t) = false := by rw [decide_eq_false_iff_not]; omega
  simp [restN, this]
theorem madeCells_one (n k : Nat) (h : k < n) : (madeCells #[.int .u8 0] n)[k]? = some (.int .u8 0) := by
  simp [madeCells, h, Nat.mod_one]
/-- eight zeros made -/
theorem made_row (w : World) (k : Nat) (hk : k < 8) : (w.alloc (.cells (madeCells #[.int .u8 0] 8) 5)).cell? ⟨w.heap.size, k, none⟩ = some (.int .u8 (zs8.getD k 0).toNat) := by
  rw [cell_of_row _ w.heap.size k _ _ _ (heap_alloc_new w _)]
  have e : zs8.getD k 0 = 0 := by have h : ∀ k, k < 8 → zs8.getD k 0 = 0 := by decide
                                  exact h k hk
  rw [e, madeCells_one 8 k hk]
  rfl
theorem made_string (w W : World) (hg : (w.alloc (.cells (madeCells #[.int .u8 0] 8) 5)).grownBy W none) : (convert 31 9 (.slice (some ⟨w.heap.size, 0, none⟩) 8 8)).run Try.prog W = .ok (.string ⟨zs8.toArray⟩) W :=
  vconv_row _ _ 0 8 _ zs8 rfl fun k hk => by rw [Nat.zero_add]; exact hg.cell (made_row w k hk) (by simp)
end Go.Proofs.Ytigmllcilmpanaa
