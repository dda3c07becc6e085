/-
  Package dom as plain data: what Build leaves of machine and page tables. No walk here.
-/
import Derived.Test.YtbbaplcfhofeeaaK15
import Derived.Test.YtbbaplcfhofeeaaK18
import Derived.WalkKit
import Derived.Laws.BitsAllLaws
import Derived.Test.YtbbaplcfhofeeaaK08
import Derived.Test.YtbbaplcfhofeeaaChecked
import Derived.Deep.QuietTactic
import Derived.BigQuiet
import Derived.Deep.RegionHeld3
import Derived.Below
import Derived.ProofKit
import Derived.Deep.Slices
import Derived.Deep.Fields
import Derived.ChangeSame
import Derived.SizedLaws
import Derived.Deep.AppendLies
set_option linter.unusedSimpArgs false
set_option linter.unusedVariables false
namespace Go.Proofs.Ytbbaplcfhofeeaa.Dm
open Go.RowKit
set_option maxHeartbeats 1000000

theorem own_eq {M M' : Mach} (hn : M'.n = M.n) (ho : ∀ i, (M'.fr i).owner = (M.fr i).owner) (o : Int) : M'.ownedL o = M.ownedL o := by
  unfold Mach.ownedL
  rw [hn]
  exact List.filter_congr fun k _ => by rw [ho]
/-- entries are laid into a frame that is blank -/
theorem lay_ok {A : Mach} {sp : Nat → Sp} {E : Cnt} (hA : All A sp E) {t : Nat} (ht : (t : Int) < A.n) (h0 : (A.fr t).tot = 0) (ho : (A.fr t).owner ≠ -1) {l : List Nat} (hl : l.length ≤ 64) :
    (A.write t 0 (entsB l)) = (0, A.upd t ((A.fr t).laid 0 (entsB l))) ∧ All (A.upd t ((A.fr t).laid 0 (entsB l))) sp E := by
  have hf := hA.frok ht
  refine ⟨?_, hA.touch ht h0 (f := (A.fr t).laid 0 (entsB l)) ⟨hf.c0, hf.ct, hf.ty0, hf.ty3, hf.z, hf.lo, hf.hi, fun e => absurd e ho⟩ h0⟩
  unfold Mach.write
  rw [if_neg (by rw [Mach.is_yes (by omega) ht]; simp), if_neg (by rw [inP_yes (by omega) (by omega) (by rw [entsB_len]; omega)]; simp), Int.toNat_natCast, if_neg ho]
  rfl
/-- what Build makes of a machine whose frames were taken -/
structure Built (A : Mach) (sp : Nat → Sp) (E : Cnt) (d : Nat) (ps : List Nat) (p0 r l : Nat) (A1 A2 A3 A4 : Mach) : Prop where
  w1 : A.write r 0 (entsB [l]) = (0, A1)
  a1 : All A1 sp E
  w2 : A1.write l 0 (entsB ps) = (0, A2)
  a2 : All A2 sp E
  j : A2.get p0 d 1 = (0, A3)
  a3 : All A3 sp (E.add p0 1)
  b : baseV A3 sp d r = (0, A4, upS sp d { sp d with root := r })
  a4 : All A4 (upS sp d { sp d with root := r }) (E.add p0 1)
  own : ∀ o, A4.ownedL o = A.ownedL o
  n : A4.n = A.n
theorem build_ok {M A : Mach} {sp : Nat → Sp} {E : Cnt} {d : Nat} {ps : List Nat} {p0 r l : Nat} (h : Got M A d (ps ++ [r, l])) (hA : All A sp E) (hd : d < 8) (hp0 : p0 ∈ ps) (hps : ps.length ≤ 48) (hroot : (sp d).root = -1) :
    ∃ A1 A2 A3 A4, Built A sp E d ps p0 r l A1 A2 A3 A4 := by
  have hn := h.n
  have n256 := hA.n0.2
  obtain ⟨rn, ro, rt, rb⟩ := h.mem r (by simp)
  obtain ⟨ln, lo, lt, lb⟩ := h.mem l (by simp)
  have hnd := h.nodup
  rw [List.nodup_append] at hnd
  obtain ⟨hnd1, hnd2, hnd3⟩ := hnd
  have hrl : r ≠ l := by
    intro e
    simp [e] at hnd2
  have pr : ∀ p ∈ ps, p ≠ r := fun p hp => hnd3 p hp r (by simp)
  have pl : ∀ p ∈ ps, p ≠ l := fun p hp => hnd3 p hp l (by simp)
  have hm : ∀ p ∈ ps, (p : Int) < M.n ∧ (A.fr p).owner = d ∧ (A.fr p).tot = 0 ∧ ∀ k, k < 256 → (A.fr p).bs k = 0 := fun p hp => h.mem p (by simp [hp])
  obtain ⟨A1, hA1⟩ : ∃ X, A.upd r ((A.fr r).laid 0 (entsB [l])) = X := ⟨_, rfl⟩
  obtain ⟨w1, a1⟩ := lay_ok hA (t := r) (by omega) rt (by omega) (l := [l]) (by simp)
  rw [hA1] at w1 a1
  have f1 : ∀ x, x ≠ r → A1.fr x = A.fr x := fun x hx => by rw [← hA1, Mach.upd_other _ _ _ _ hx]
  have n1 : A1.n = A.n := by rw [← hA1]; rfl
  have fl := f1 l (Ne.symm hrl)
  obtain ⟨A2, hA2⟩ : ∃ X, A1.upd l ((A1.fr l).laid 0 (entsB ps)) = X := ⟨_, rfl⟩
  obtain ⟨w2, a2⟩ := lay_ok a1 (t := l) (by omega) (by rw [fl]; exact lt) (by rw [fl]; omega) (l := ps) (by omega)
  rw [hA2] at w2 a2
  have n2 : A2.n = A.n := by rw [← hA2]; exact n1
  have f2 : ∀ x, x ≠ l → A2.fr x = A1.fr x := fun x hx => by rw [← hA2, Mach.upd_other _ _ _ _ hx]
  have fp : ∀ x, x ≠ r → x ≠ l → A2.fr x = A.fr x := fun x h1 h2 => (f2 x h2).trans (f1 x h1)
  obtain ⟨q1, q2, q3, q4⟩ := hm p0 hp0
  have e0 := fp p0 (pr p0 hp0) (pl p0 hp0)
  have okp := a2.frok (i := p0) (by omega)
  have hg := get_yes (M := A2) (i := p0) (o := d) (k := 1) (by omega) (by omega) (by omega) (by rw [e0]; exact q2) (fun _ => .inl (ok_zero okp (by rw [e0]; exact q3)).1)
  obtain ⟨A3, hA3⟩ : ∃ X, A2.upd p0 ((A2.fr p0).taken 1) = X := ⟨_, rfl⟩
  rw [hA3] at hg
  have a3 := a2.get (m := 1) (by omega) (o := d) (t := p0) (by rw [show ((1 : Nat) : Int) = 1 from rfl, hg])
  rw [show ((1 : Nat) : Int) = 1 from rfl, hg, Int.toNat_natCast] at a3
  have s3 : MSame A2 A3 := by have := A2.get_same p0 d 1; rw [hg] at this; exact this
  have n3 : A3.n = A.n := s3.n.trans n2
  have f3 : ∀ x, x ≠ p0 → A3.fr x = A2.fr x := fun x hx => by rw [← hA3, Mach.upd_other _ _ _ _ hx]
  have r0 : r ≠ p0 := Ne.symm (pr p0 hp0)
  have l0 : l ≠ p0 := Ne.symm (pl p0 hp0)
  have fr3 : A3.fr r = (A.fr r).laid 0 (entsB [l]) := by rw [f3 r r0, f2 r hrl, ← hA1, Mach.upd_same]
  have fl3 : A3.fr l = (A.fr l).laid 0 (entsB ps) := by rw [f3 l l0, ← hA2, Mach.upd_same, fl]
  have okr := hA.frok (i := r) (by omega)
  have okl := hA.frok (i := l) (by omega)
  have hlaid : Laid A3 d r l ps := by
    refine ⟨⟨by omega, by rw [fr3]; exact ro, by rw [fr3]; exact (ok_zero okr rt).1⟩, ⟨by omega, by rw [fl3]; exact lo, by rw [fl3]; exact (ok_zero okl lt).1⟩, hrl, fun p hp => ⟨⟨?_, ?_, ?_, ?_⟩, pr p hp, pl p hp⟩, fun j hj => ?_, fun j hj => ?_⟩
    · have := (hm p hp).1; omega
    · have := (hm p hp).1; omega
    · rw [s3.owner, fp p (pr p hp) (pl p hp)]; exact (hm p hp).2.1
    · by_cases e : p = p0
      · subst e; rw [← hA3, Mach.upd_same]; exact .inr rfl
      · rw [f3 p e, fp p (pr p hp) (pl p hp)]
        exact .inl (ok_zero (hA.frok (by have := (hm p hp).1; omega)) (hm p hp).2.2.1).1
    · show word4 (A3.fr r).bs (4 * j) = _
      rw [fr3, laid_word rb (by simp) (fun x hx => by rw [List.mem_singleton.1 hx]; omega) j hj]
      by_cases e : j = 0
      · subst e; rw [dif_pos (by simp), if_pos rfl]; rfl
      · rw [dif_neg (by simp; omega), if_neg e]
    · show word4 (A3.fr l).bs (4 * j) = _
      rw [fl3, laid_word lb (by omega) (fun x hx => by have := (hm x hx).1; omega) j hj]
  have ht := tab2_yes hlaid
  obtain ⟨A4, hA4⟩ : ∃ X, (tabG 3 take2 A3 d r).2 = X := ⟨_, rfl⟩
  have hdk : domOk (d : Int) = true := by unfold domOk; simp; omega
  have hb : baseV A3 sp d r = (0, A4, upS sp d { sp d with root := r }) := by
    unfold baseV
    rw [if_neg (by rw [hdk, Mach.is_yes (by omega) (by omega)]; simp), if_neg (by omega), if_neg (by rw [ht]; simp)]
    simp only [Int.toNat_natCast]
    rw [hroot]
    unfold dropRoot
    rw [if_pos rfl, hA4]
  have a4 := a3.base (d : Int) (r : Int)
  rw [hb] at a4
  have s4 : MSame A3 A4 := by rw [← hA4]; exact tabG_same lvl2 A3 d r
  have o2 : ∀ i, (A2.fr i).owner = (A.fr i).owner := fun i => by
    by_cases e : i = l
    · subst e; rw [← hA2, Mach.upd_same, fl]; rfl
    · rw [f2 i e]
      by_cases e2 : i = r
      · subst e2; rw [← hA1, Mach.upd_same]; rfl
      · rw [f1 i e2]
  exact ⟨A1, A2, A3, A4, w1, a1, w2, a2, hg, a3, hb, a4, fun o => own_eq (s4.n.trans n3) (fun i => (s4.owner i).trans ((s3.owner i).trans (o2 i))) o, s4.n.trans n3⟩
/-- the map of places of a domain behind its first k places -/
def placeM (l : List Nat) : Nat → Mp
  | 0 => .empty 48
  | k + 1 => if h : k < l.length then (placeM l k).set k l[k] else placeM l k
theorem placeM_facts (l : List Nat) (hl : l.length ≤ 48) (hm : ∀ x ∈ l, x < 256) (hnd : l.Nodup) (k : Nat) (hk : k ≤ l.length) :
    (placeM l k).n = 48 ∧ (∀ g, (placeM l k).fr g = if h : 0 ≤ g ∧ g.toNat < k ∧ g.toNat < l.length then some (l[g.toNat]'h.2.2 : Int) else none) ∧ (∀ m g, (placeM l k).pl m = some g → ∃ (j : Nat) (h : j < l.length), j < k ∧ m = (l[j] : Int) ∧ g = j) ∧ (placeM l k).ok := by
  induction k with
  | zero => exact ⟨rfl, fun g => by rw [dif_neg (by omega)]; rfl, (fun m g e => nomatch e), Mp.empty_ok 48 (by omega)⟩
  | succ k ih =>
    obtain ⟨h1, h2, h3, h4⟩ := ih (by omega)
    have hkl : k < l.length := by omega
    have e : placeM l (k + 1) = (placeM l k).set k l[k] := by show (if h : _ then _ else _) = _; rw [dif_pos hkl]
    have hfr : (placeM l k).fr (k : Int) = none := by rw [h2, dif_neg (by simp)]
    have hpl : (placeM l k).pl (l[k] : Int) = none := by
      cases hq : (placeM l k).pl (l[k] : Int) with
      | none => rfl
      | some g =>
        obtain ⟨j, hj, hjk, e1, _⟩ := h3 _ _ hq
        have : l[k] = l[j] := by exact_mod_cast e1
        exact absurd this (List.pairwise_iff_getElem.1 hnd j k hj hkl hjk).symm
    rw [e]
    refine ⟨h1, fun g => ?_, fun m g hq => ?_, Mp.set_ok h4 (by omega) (by rw [h1]; omega) (by omega) (by have := hm _ (List.getElem_mem hkl); omega) hfr hpl⟩
    · show (if g = (k : Int) then _ else _) = _
      by_cases eg : g = k
      · subst eg
        rw [if_pos rfl, dif_pos (by simp; omega)]
        simp
      · rw [if_neg eg, h2]
        by_cases hc : 0 ≤ g ∧ g.toNat < k ∧ g.toNat < l.length
        · rw [dif_pos hc, dif_pos ⟨hc.1, by omega, hc.2.2⟩]
        · rw [dif_neg hc, dif_neg (by omega)]
    · change (if m = (l[k] : Int) then some (k : Int) else (placeM l k).pl m) = some g at hq
      by_cases em : m = (l[k] : Int)
      · rw [if_pos em] at hq
        exact ⟨k, hkl, by omega, em, (Option.some.inj hq).symm⟩
      · rw [if_neg em] at hq
        obtain ⟨j, hj, hjk, e1, e2⟩ := h3 _ _ hq
        exact ⟨j, hj, by omega, e1, e2⟩
/-- each Set answers OK -/
theorem placeM_set (l : List Nat) (hl : l.length ≤ 48) (hm : ∀ x ∈ l, x < 256) (hnd : l.Nodup) (k : Nat) (hk : k < l.length) : (placeM l k).setE k l[k] = (placeM l (k + 1), 0) := by
  obtain ⟨h1, h2, h3, h4⟩ := placeM_facts l hl hm hnd k (by omega)
  have hfr : (placeM l k).fr (k : Int) = none := by rw [h2, dif_neg (by simp)]
  have hpl : (placeM l k).pl (l[k] : Int) = none := by
    cases hq : (placeM l k).pl (l[k] : Int) with
    | none => rfl
    | some g =>
      obtain ⟨j, hj, hjk, e1, _⟩ := h3 _ _ hq
      have : l[k] = l[j] := by exact_mod_cast e1
      exact absurd this (List.pairwise_iff_getElem.1 hnd j k hj hk hjk).symm
  have e : placeM l (k + 1) = (placeM l k).set k l[k] := by show (if h : _ then _ else _) = _; rw [dif_pos hk]
  have hx := hm _ (List.getElem_mem hk)
  unfold Mp.setE
  rw [if_pos (by simp only [Bool.and_eq_true, inPl_yes, inFr_yes]; rw [h1]; omega), hfr, hpl, e]
  simp
end Go.Proofs.Ytbbaplcfhofeeaa.Dm

/-
  Entries of grants as plain numbers: what the document says of them; bits. No walk here.
-/
set_option linter.unusedSimpArgs false
set_option linter.unusedVariables false
namespace Go.Proofs.Ytbbaplcfhofeeaa
open Go.RowKit

structure GV where
  k : Int
  ro : Bool
  sub : Bool
  dom : Int
  gpfn : Int
  off : Int
  len : Int
deriving DecidableEq
def GV.val (g : GV) : Value := .agg #[.int .i64 g.k, .bool g.ro, .bool g.sub, .int .i64 g.dom, .int .i64 g.gpfn, .int .i64 g.off, .int .i64 g.len]
def g0 : GV := ⟨0, false, false, 0, 0, 0, 0⟩
/-- eight bytes as an entry -/
def unG (b : Nat → Nat) : GV × Int :=
  if 16 ≤ b 0 ∨ b 1 ≠ 0 ∨ b 0 % 4 = 3 then (g0, 60) else
  if b 0 / 8 = 1 then (if 256 < b 6 + b 7 + 1 then (g0, 60) else (⟨(b 0 % 4 : Nat), decide (b 0 / 4 % 2 = 1), true, (b 2 + 256 * b 3 : Nat), (b 4 + 256 * b 5 : Nat), (b 6 : Nat), (b 7 + 1 : Nat)⟩, 0))
  else (⟨(b 0 % 4 : Nat), decide (b 0 / 4 % 2 = 1), false, (b 2 + 256 * b 3 : Nat), (b 4 + 256 * b 5 : Nat), 0, 256⟩, 0)
theorem ofInt_i64 (a : Nat) (ha : a < 9223372036854775808) : (BitVec.ofInt 64 (a : Int)).toNat = a := by
  rw [BitVec.ofInt_natCast, BitVec.toNat_ofNat]; exact Nat.mod_eq_of_lt (by omega)
theorem i64_and_nat (a b : Nat) (ha : a < 9223372036854775808) (hb : b < 9223372036854775808) : bits .and .i64 (a : Int) (b : Int) = ((a &&& b : Nat) : Int) := by
  have hx : a &&& b < 2 ^ 63 := Nat.and_lt_two_pow _ (by omega)
  show IntKind.i64.wrap ((BitVec.ofInt 64 (a : Int) &&& BitVec.ofInt 64 (b : Int)).toNat : Int) = _
  rw [BitVec.toNat_and, ofInt_i64 a ha, ofInt_i64 b hb, IntKind.wrap_i64]
  omega
theorem i64_or_nat (a b : Nat) (ha : a < 9223372036854775808) (hb : b < 9223372036854775808) : bits .or .i64 (a : Int) (b : Int) = ((a ||| b : Nat) : Int) := by
  have hx : a ||| b < 2 ^ 63 := Nat.or_lt_two_pow (by omega) (by omega)
  show IntKind.i64.wrap ((BitVec.ofInt 64 (a : Int) ||| BitVec.ofInt 64 (b : Int)).toNat : Int) = _
  rw [BitVec.toNat_or, ofInt_i64 a ha, ofInt_i64 b hb, IntKind.wrap_i64]
  omega
theorem grOrWord (x y : Nat) (hx : x < 256) (hy : y < 256) : bits .or .i64 (x : Int) ((y : Int) * 256) = ((x + 256 * y : Nat) : Int) := by
  have e : (y : Int) * 256 = ((y * 2 ^ 8 : Nat) : Int) := by rw [Int.natCast_mul]; rfl
  rw [e, i64_or_nat x (y * 2 ^ 8) (by omega) (by omega), Nat.mul_comm, Nat.or_comm, ← Nat.two_pow_add_eq_or_of_lt (show x < 2 ^ 8 by omega)]
  congr 1
  omega
theorem and3 (n : Nat) (h : n < 65536) : bits .and .i64 (n : Int) 3 = ((n % 4 : Nat) : Int) := by
  have := i64_and_nat n 3 (by omega) (by omega)
  rw [show ((3 : Nat) : Int) = 3 from rfl] at this
  rw [this, show (3 : Nat) = 2 ^ 2 - 1 from rfl, Nat.and_two_pow_sub_one_eq_mod]
theorem and4 (n : Nat) (h : n < 65536) : (bits .and .i64 (n : Int) 4 != 0) = decide (n / 4 % 2 = 1) := by
  have := i64_and_nat n 4 (by omega) (by omega)
  rw [show ((4 : Nat) : Int) = 4 from rfl] at this
  rw [this]
  have e : n &&& 4 = n / 4 % 2 * 4 := by
    have h1 : n &&& 4 = (n &&& 15) &&& 4 := by rw [Nat.and_assoc]; rfl
    rw [h1, show (15 : Nat) = 2 ^ 4 - 1 from rfl, Nat.and_two_pow_sub_one_eq_mod]
    have : ∀ m, m < 16 → m &&& 4 = m / 4 % 2 * 4 := by decide
    rw [this _ (Nat.mod_lt _ (by decide))]
    omega
  rw [e]
  by_cases g : n / 4 % 2 = 1
  · simp [g]
  · have : n / 4 % 2 = 0 := by omega
    simp [this]
theorem and8 (n : Nat) (h : n < 65536) : (bits .and .i64 (n : Int) 8 != 0) = decide (n / 8 % 2 = 1) := by
  have := i64_and_nat n 8 (by omega) (by omega)
  rw [show ((8 : Nat) : Int) = 8 from rfl] at this
  rw [this]
  have e : n &&& 8 = n / 8 % 2 * 8 := by
    have h1 : n &&& 8 = (n &&& 15) &&& 8 := by rw [Nat.and_assoc]; rfl
    rw [h1, show (15 : Nat) = 2 ^ 4 - 1 from rfl, Nat.and_two_pow_sub_one_eq_mod]
    have : ∀ m, m < 16 → m &&& 8 = m / 8 % 2 * 8 := by decide
    rw [this _ (Nat.mod_lt _ (by decide))]
    omega
  rw [e]
  by_cases g : n / 8 % 2 = 1
  · simp [g]
  · have : n / 8 % 2 = 0 := by omega
    simp [this]
/-- eight bytes in memory -/
structure B8 (w : World) (g o : Nat) (b : Nat → Nat) : Prop where
  c : ∀ k, k < 8 → w.cell? ⟨g, o + k, none⟩ = some (.int .u8 (b k : Nat))
  lt : ∀ k, k < 8 → b k < 256
theorem B8.grown {w w' : World} {g o : Nat} {b : Nat → Nat} (h : B8 w g o b) (hg : w.grownBy w' none) : B8 w' g o b := ⟨fun k hk => hg.cell (h.c k hk) (by simp), h.lt⟩
end Go.Proofs.Ytbbaplcfhofeeaa

/-
  Package tenementref06: Unpack.
-/
set_option linter.unusedSimpArgs false
set_option linter.unusedVariables false
namespace Go.Proofs.Ytbbaplcfhofeeaa
open Go.RowKit
set_option maxHeartbeats 4000000

def sevV (v0 v1 v2 v3 v4 v5 v6 : Value) (k : Nat) : Value := [v0, v1, v2, v3, v4, v5, v6].getD k undef
theorem set7 {w : World} {g : Nat} {t : TypeId} {X : Nat → Value} (h : Row w g t 7 X) (v0 v1 v2 v3 v4 v5 v6 : Value) :
    Row (((((((w.setCell ⟨g, 0, none⟩ v0).setCell ⟨g, 1, none⟩ v1).setCell ⟨g, 2, none⟩ v2).setCell ⟨g, 3, none⟩ v3).setCell ⟨g, 4, none⟩ v4).setCell ⟨g, 5, none⟩ v5).setCell ⟨g, 6, none⟩ v6) g t 7 (sevV v0 v1 v2 v3 v4 v5 v6) := by
  have h0 := h.set (k := 0) (v := v0) (X' := fun q => if q = 0 then v0 else X q) rfl (fun j _ hj => by simp [hj])
  have h1 := h0.set (k := 1) (v := v1) (X' := fun q => if q = 1 then v1 else if q = 0 then v0 else X q) rfl (fun j _ hj => by simp [hj])
  have h2 := h1.set (k := 2) (v := v2) (X' := fun q => if q = 2 then v2 else if q = 1 then v1 else if q = 0 then v0 else X q) rfl (fun j _ hj => by simp [hj])
  have h3 := h2.set (k := 3) (v := v3) (X' := fun q => if q = 3 then v3 else if q = 2 then v2 else if q = 1 then v1 else if q = 0 then v0 else X q) rfl (fun j _ hj => by simp [hj])
  have h4 := h3.set (k := 4) (v := v4) (X' := fun q => if q = 4 then v4 else if q = 3 then v3 else if q = 2 then v2 else if q = 1 then v1 else if q = 0 then v0 else X q) rfl (fun j _ hj => by simp [hj])
  have h5 := h4.set (k := 5) (v := v5) (X' := fun q => if q = 5 then v5 else if q = 4 then v4 else if q = 3 then v3 else if q = 2 then v2 else if q = 1 then v1 else if q = 0 then v0 else X q) rfl (fun j _ hj => by simp [hj])
  have h6 := h5.set (k := 6) (v := v6) (X' := fun q => if q = 6 then v6 else if q = 5 then v5 else if q = 4 then v4 else if q = 3 then v3 else if q = 2 then v2 else if q = 1 then v1 else if q = 0 then v0 else X q) rfl (fun j _ hj => by simp [hj])
  exact h6.congr fun k hk => by match k, hk with | 0, _ => rfl | 1, _ => rfl | 2, _ => rfl | 3, _ => rfl | 4, _ => rfl | 5, _ => rfl | 6, _ => rfl
theorem set7_grown (w : World) (g : Nat) (v0 v1 v2 v3 v4 v5 v6 : Value) : w.grownBy (((((((w.setCell ⟨g, 0, none⟩ v0).setCell ⟨g, 1, none⟩ v1).setCell ⟨g, 2, none⟩ v2).setCell ⟨g, 3, none⟩ v3).setCell ⟨g, 4, none⟩ v4).setCell ⟨g, 5, none⟩ v5).setCell ⟨g, 6, none⟩ v6) (some g) :=
  ((((((grownBy_setCell w g 0 none v0).trans (grownBy_setCell _ g 1 none v1)).trans (grownBy_setCell _ g 2 none v2)).trans (grownBy_setCell _ g 3 none v3)).trans (grownBy_setCell _ g 4 none v4)).trans (grownBy_setCell _ g 5 none v5)).trans (grownBy_setCell _ g 6 none v6)
end Go.Proofs.Ytbbaplcfhofeeaa

/-
  Package tenementref06: Unpack of an entry that is Sub.
-/
set_option linter.unusedSimpArgs false
set_option linter.unusedVariables false
namespace Go.Proofs.Ytbbaplcfhofeeaa
open Go.RowKit
set_option maxHeartbeats 4000000

end Go.Proofs.Ytbbaplcfhofeeaa

/-
  Package tenementref06: Unpack, refused at its first test.
-/
set_option linter.unusedSimpArgs false
set_option linter.unusedVariables false
namespace Go.Proofs.Ytbbaplcfhofeeaa
open Go.RowKit
set_option maxHeartbeats 4000000

end Go.Proofs.Ytbbaplcfhofeeaa

/-
  Package grant: words, entries that pack; the reference's Unpack whole.
-/
set_option linter.unusedSimpArgs false
set_option linter.unusedVariables false
namespace Go.Proofs.Ytbbaplcfhofeeaa
open Go.RowKit
set_option maxHeartbeats 4000000
def wV (x : Int) : Bool := decide (0 ≤ x) && decide (x ≤ 65535)
def pgV (off n : Int) : Bool := decide (0 ≤ off) && (decide (1 ≤ n) && decide (n ≤ 256 - off))
def packV (g : GV) : Bool := decide (0 ≤ g.k) && (decide (g.k ≤ 2) && (wV g.dom && (wV g.gpfn && pgV g.off g.len)))
end Go.Proofs.Ytbbaplcfhofeeaa

/-
  Package grant: Unpack.
-/
set_option linter.unusedSimpArgs false
set_option linter.unusedVariables false
namespace Go.Proofs.Ytbbaplcfhofeeaa
open Go.RowKit
set_option maxHeartbeats 4000000
/-- what the program makes of eight bytes, ahead of its tests -/
def gpV (b : Nat → Nat) : GV := ⟨((b 0 + 256 * b 1) % 4 : Nat), decide ((b 0 + 256 * b 1) / 4 % 2 = 1), decide ((b 0 + 256 * b 1) / 8 % 2 = 1), (b 2 + 256 * b 3 : Nat), (b 4 + 256 * b 5 : Nat), if decide ((b 0 + 256 * b 1) / 8 % 2 = 1) = true then (b 6 : Nat) else 0, if decide ((b 0 + 256 * b 1) / 8 % 2 = 1) = true then (b 7 + 1 : Nat) else 256⟩
theorem unP (b : Nat → Nat) (h : ∀ k, k < 8 → b k < 256) : unG b = if 15 < b 0 + 256 * b 1 ∨ packV (gpV b) = false then (g0, 60) else (gpV b, 0) := by
  have l0 := h 0 (by omega); have l1 := h 1 (by omega); have l2 := h 2 (by omega); have l3 := h 3 (by omega); have l4 := h 4 (by omega); have l5 := h 5 (by omega); have l6 := h 6 (by omega); have l7 := h 7 (by omega)
  unfold unG gpV packV wV pgV
  generalize b 0 = x0 at *; generalize b 1 = x1 at *; generalize b 2 = x2 at *; generalize b 3 = x3 at *; generalize b 4 = x4 at *; generalize b 5 = x5 at *; generalize b 6 = x6 at *; generalize b 7 = x7 at *
  by_cases hb : 15 < x0 + 256 * x1
  · rw [if_pos (by omega), if_pos (.inl hb)]
  have hx1 : x1 = 0 := by omega
  subst hx1
  by_cases hk : x0 % 4 = 3
  · rw [if_pos (.inr (.inr hk)), if_pos (.inr (by simp; omega))]
  · rw [if_neg (by omega)]
    by_cases hs : x0 / 8 = 1
    · have e : decide ((x0 + 256 * 0) / 8 % 2 = 1) = true := by simp; omega
      rw [if_pos hs, e]
      by_cases hl : 256 < x6 + x7 + 1
      · rw [if_pos hl, if_pos (.inr (by simp; omega))]
      · rw [if_neg hl, if_neg (by simp; omega)]
        simp
    · have e : decide ((x0 + 256 * 0) / 8 % 2 = 1) = false := by simp; omega
      rw [if_neg hs, e, if_neg (by simp; omega)]
      simp
end Go.Proofs.Ytbbaplcfhofeeaa


/-
  Slices of structs whose fields are one cell each, that came in, opened; for any program. No walk here.
-/
set_option linter.unusedSimpArgs false
set_option linter.unusedVariables false
namespace Go.Proofs.Ytbbaplcfhofeeaa.Flat
open Go.RowKit Go.ChangeShapes Go.WideShapes Go.ChangeAt Go.Deep

/-- a struct of fields of one cell each, of these types -/
def isFlat (P : Program) (te : TypeId) (tys : List TypeId) : Bool :=
  match P.underlying te with
  | some (.struct fs) => (fs.toList.map (·.type) == tys) && (fs.toList.map (·.offset) == List.range tys.length) && (P.cellsOf te == tys.length) && tys.all (fun t => P.cellsOf t == 1)
  | _ => false
theorem isFlat_is {P : Program} {te : TypeId} {tys : List TypeId} (h : isFlat P te tys = true) : ∃ fs, P.underlying te = some (.struct fs) ∧ fs.toList.map (·.type) = tys ∧ fs.toList.map (·.offset) = List.range tys.length ∧ P.cellsOf te = tys.length ∧ ∀ t ∈ tys, P.cellsOf t = 1 := by
  unfold isFlat at h
  split at h
  · rename_i fs hu
    simp only [Bool.and_eq_true, beq_iff_eq, List.all_eq_true] at h
    exact ⟨fs, hu, h.1.1.1, h.1.1.2, h.1.2, h.2⟩
  · cases h

section
variable {H : Type} {enc : TypeId × Value → H} {P : Program} {w : World} {base : Nat} {spare : Nat → Bool} {held : Bool}

/-- one value that came in, of type t, no part of which is over-long -/
def Came (enc : TypeId × Value → H) (P : Program) (w : World) (base : Nat) (spare : Nat → Bool) (held : Bool) (t : TypeId) (v : Value) : Prop :=
  ∃ fuel y, DataW.trod enc P w base spare held fuel t [v] = some y ∧ ∀ n ∈ y.1.weights P t, n ≤ reachBytes

/-- a struct's cells -/
theorem open_flat {te : TypeId} {tys : List TypeId} (hfl : isFlat P te tys = true) {fuel : Nat} {a : Addr} {cs : List Value} {y : DataW H × List MemPlace} (hc : w.cells? base a tys.length = some cs)
    (h : DataW.trod enc P w base spare held fuel te cs = some y) (hsz : ∀ n ∈ y.1.weights P te, n ≤ reachBytes) :
    ∀ j t, tys[j]? = some t → ∃ v, w.cell? (a.add j) = some v ∧ Came enc P w base spare held t v := by
  intro j t hj
  obtain ⟨fs, hu, hty, hof, hce, hone⟩ := isFlat_is hfl
  obtain ⟨xs, n, rfl, hy, hcl, hxl, hf⟩ := DataW.trod_struct hu h
  obtain ⟨_, hcs, hat⟩ := World.cells?_some hc
  have hlen : fs.size = tys.length := by rw [← hty]; simp
  obtain ⟨hjl, rfl⟩ := List.getElem?_eq_some_iff.1 hj
  have hg : fs[j]? = some (fs[j]'(by omega)) := Array.getElem?_eq_getElem (by omega)
  have hft : (fs[j]'(by omega)).type = tys[j] := by
    have : (fs.toList.map (·.type))[j]? = tys[j]? := by rw [hty]
    rw [List.getElem?_map, Array.getElem?_toList, hg, hj] at this
    simpa using this
  have hfo : (fs[j]'(by omega)).offset = j := by
    have : (fs.toList.map (·.offset))[j]? = (List.range tys.length)[j]? := by rw [hof]
    rw [List.getElem?_map, Array.getElem?_toList, hg, List.getElem?_range hjl] at this
    simpa using this
  have ht := hf j _ hg
  rw [hft, hfo, hone _ (List.getElem_mem hjl)] at ht
  have hjc : j < cs.length := by omega
  have htk : (cs.drop j).take 1 = [cs[j]] := by
    rw [List.drop_eq_getElem_cons hjc]; rfl
  rw [htk] at ht
  have hjx : j < xs.length := by omega
  rw [List.getElem?_eq_getElem hjx] at ht
  refine ⟨cs[j], ?_, n, xs[j], ht, fun k hk => hsz k ?_⟩
  · rw [hat j hjl, List.getElem?_eq_getElem hjc]
  · rw [hy]
    simp only [DataW.weights, hu]
    refine DataW.weights_mem_each (j := j) (t := tys[j]) (d := xs[j].1) ?_ ?_ k hk
    · rw [hty]; exact hj
    · rw [List.getElem?_map, List.getElem?_eq_getElem hjx]; rfl
theorem all_mem {e : TypeId} : ∀ {l : List (DataW H)} {d : DataW H}, d ∈ l → ∀ n ∈ d.weights P e, n ∈ DataW.weightsAll P e l
  | x :: r, d, hd, n, hn => by
    simp only [DataW.weightsAll, List.mem_append]
    rcases List.mem_cons.1 hd with rfl | hd
    · exact .inl hn
    · exact .inr (all_mem hd n hn)

/-- a slice of structs: each struct's cells -/
theorem open_flats {ts te : TypeId} {tys : List TypeId} (hs : P.underlying ts = some (.slice te)) (hfl : isFlat P te tys = true) (hpos : 0 < tys.length) {v : Value} (h : Came enc P w base spare held ts v) :
    ∃ p len cap, v = .slice p len cap ∧ len * P.bytesOf te ≤ reachBytes ∧ len ≤ maxLen ∧
      ∀ i, i < len → ∃ b off, p = some ⟨b, off, none⟩ ∧ b < w.heap.size ∧ ∀ j t, tys[j]? = some t → ∃ v, w.cell? ⟨b, off + i * tys.length + j, none⟩ = some v ∧ Came enc P w base spare held t v := by
  obtain ⟨fuel, x, h, hsz⟩ := h
  obtain ⟨fs, hu, hty, hof, hce, hone⟩ := isFlat_is hfl
  rcases open_slice hs h with ⟨hcs, _⟩ | ⟨a, len, cap, m, n, D, Pl, hcs, _, hl, hm, hmm, hx, hi⟩
  · simp only [List.cons.injEq, and_true] at hcs
    exact ⟨none, 0, 0, hcs, by simp [reachBytes], by unfold maxLen; omega, fun i hi => by omega⟩
  · simp only [List.cons.injEq, and_true] at hcs
    have hml : len ≤ m := by rw [hmm]; split <;> omega
    refine ⟨some a, len, cap, hcs, ?_, by omega, fun i hil => ?_⟩
    · have := hsz ((((List.range len).map D).length + ((List.range (m - len)).map fun j => D (len + j)).length) * P.bytesOf te) (by rw [hx]; simp [DataW.weights, hs])
      simp only [List.length_map, List.length_range] at this
      exact Nat.le_trans (Nat.mul_le_mul_right _ (by omega)) this
    · have one : ∀ i, i < len → ∀ j t, tys[j]? = some t → ∃ v, w.cell? ((a.add (i * tys.length)).add j) = some v ∧ Came enc P w base spare held t v := fun i hil => by
        obtain ⟨cs', hc, ht⟩ := hi i (by omega)
        rw [hce] at hc
        exact open_flat hfl hc ht (fun n hn => hsz n (by
          rw [hx]
          simp only [DataW.weights, hs, List.mem_cons, List.mem_append]
          exact .inr (.inl (all_mem (List.mem_map.2 ⟨i, List.mem_range.2 hil, rfl⟩) n hn))))
      obtain ⟨v0, hv0, _⟩ := one 0 (by omega) 0 tys[0] (List.getElem?_eq_getElem hpos)
      obtain ⟨b, off, spot⟩ := a
      have ea : ∀ (o j : Nat) (s : Option Nat), (⟨b, o, s⟩ : Addr).add 0 = ⟨b, o, s⟩ := fun o j s => by simp [Addr.add]
      obtain rfl : spot = none := by
        simp only [Nat.zero_mul, ea _ 0] at hv0
        exact World.cell?_spot hv0
      have eb : ∀ (o j : Nat), (⟨b, o, none⟩ : Addr).add j = ⟨b, o + j, none⟩ := fun o j => by unfold Addr.add; split <;> simp_all
      refine ⟨b, off, rfl, ?_, fun j t hj => ?_⟩
      · simp only [eb] at hv0
        exact World.block_lt_of_cell? w _ hv0
      · obtain ⟨v, hv, hc⟩ := one i hil j t hj
        simp only [eb] at hv
        exact ⟨v, hv, hc⟩

theorem Came.int {t : TypeId} {k : IntKind} (ht : P.underlying t = some (.int k)) {v : Value} (h : Came enc P w base spare held t v) : ∃ n, v = .int k n ∧ (Lit.int k n).wf = true := by
  obtain ⟨fuel, y, h, _⟩ := h
  obtain ⟨n, e, _, hw⟩ := DataW.trod_int ht h
  exact ⟨n, by simpa using e, hw⟩
theorem Came.bool {t : TypeId} (ht : P.underlying t = some .bool) {v : Value} (h : Came enc P w base spare held t v) : ∃ b, v = .bool b := by
  obtain ⟨fuel, y, h, _⟩ := h
  obtain ⟨n, e, _⟩ := DataW.trod_bool ht h
  exact ⟨n, by simpa using e⟩
theorem Came.string {t : TypeId} (ht : P.underlying t = some .string) {v : Value} (h : Came enc P w base spare held t v) : ∃ s : ByteArray, v = .string s ∧ s.size ≤ maxLen := by
  obtain ⟨fuel, y, h, _⟩ := h
  obtain ⟨n, e, _, hs⟩ := DataW.trod_string ht h
  exact ⟨n, by simpa using e, hs⟩
/-- a slice of integers of one kind -/
theorem Came.ints {ts te : TypeId} {k : IntKind} (hs : P.underlying ts = some (.slice te)) (he : P.underlying te = some (.int k)) (hone : P.cellsOf te = 1) {v : Value} (h : Came enc P w base spare held ts v) :
    ∃ p len cap, v = .slice p len cap ∧ len * P.bytesOf te ≤ reachBytes ∧ len ≤ maxLen ∧
      ∀ i, i < len → ∃ b off n, p = some ⟨b, off, none⟩ ∧ b < w.heap.size ∧ w.cell? ⟨b, off + i, none⟩ = some (.int k n) ∧ (Lit.int k n).wf = true := by
  obtain ⟨fuel, x, h, hsz⟩ := h
  rcases open_slice hs h with ⟨hcs, _⟩ | ⟨a, len, cap, m, n, D, Pl, hcs, _, hl, hm, hmm, hx, hi⟩
  · simp only [List.cons.injEq, and_true] at hcs
    exact ⟨none, 0, 0, hcs, by simp [reachBytes], by unfold maxLen; omega, fun i hi => by omega⟩
  · simp only [List.cons.injEq, and_true] at hcs
    have hml : len ≤ m := by rw [hmm]; split <;> omega
    refine ⟨some a, len, cap, hcs, ?_, by omega, fun i hil => ?_⟩
    · have := hsz ((((List.range len).map D).length + ((List.range (m - len)).map fun j => D (len + j)).length) * P.bytesOf te) (by rw [hx]; simp [DataW.weights, hs])
      simp only [List.length_map, List.length_range] at this
      exact Nat.le_trans (Nat.mul_le_mul_right _ (by omega)) this
    · have one : ∀ i, i < len → ∃ n, w.cell? (a.add i) = some (.int k n) ∧ (Lit.int k n).wf = true := fun i hil => by
        obtain ⟨cs', hc, ht⟩ := hi i (by omega)
        rw [hone] at hc
        obtain ⟨_, hcl, hat⟩ := World.cells?_some hc
        obtain ⟨n, rfl, _, hw⟩ := DataW.trod_int he ht
        have := hat 0 (by omega)
        have e0 : (a.add (i * 1)).add 0 = a.add i := by simp [Addr.add]
        rw [e0] at this
        exact ⟨n, this, hw⟩
      obtain ⟨v0, hv0, _⟩ := one 0 (by omega)
      obtain ⟨b, off, spot⟩ := a
      obtain rfl : spot = none := by
        have : w.cell? (⟨b, off, spot⟩ : Addr) = some (.int k v0) := by simpa [Addr.add] using hv0
        exact World.cell?_spot this
      have eb : ∀ (o j : Nat), (⟨b, o, none⟩ : Addr).add j = ⟨b, o + j, none⟩ := fun o j => by unfold Addr.add; split <;> simp_all
      obtain ⟨n, hn, hw⟩ := one i hil
      rw [eb] at hn hv0
      exact ⟨b, off, n, rfl, World.block_lt_of_cell? w _ hn, hn, hw⟩
end
end Go.Proofs.Ytbbaplcfhofeeaa.Flat

/-
  Bytes that came in.
-/
set_option linter.unusedSimpArgs false
set_option linter.unusedVariables false
namespace Go.Proofs.Ytbbaplcfhofeeaa
open Go.RowKit Go.ChangeShapes Go.WideShapes Go.ChangeAt Go.Deep
set_option maxHeartbeats 1000000
theorem exists_list {α : Type} (P : Nat → α → Prop) : ∀ n, (∀ i, i < n → ∃ a, P i a) → ∃ l : List α, l.length = n ∧ ∀ i (h : i < l.length), P i l[i]
  | 0, _ => ⟨[], rfl, fun i h => by simp at h⟩
  | n + 1, h => by
    obtain ⟨l, hl, hp⟩ := exists_list P n fun i hi => h i (by omega)
    obtain ⟨a, ha⟩ := h n (by omega)
    refine ⟨l ++ [a], by simp [hl], fun i hi => ?_⟩
    by_cases e : i < l.length
    · rw [List.getElem_append_left e]; exact hp i e
    · have : i = n := by simp at hi; omega
      subst this
      rw [List.getElem_append_right (by omega)]
      simpa using ha
section
variable {H : Type} {enc : TypeId × Value → H} {w : World}
theorem u8_bytes : Try.prog.bytesOf 5 = 1 := by kernel_rfl
theorem came_bytes {v : Value} (h : Flat.Came enc Try.prog w 0 (fun _ => true) true 103 v) : ∃ pa l cap, v = .slice pa (List.length (α := UInt8) l) cap ∧ InBytes w pa l ∧ l.length ≤ 140737488351232 := by
  have hb := h.ints Try.underlying103 Try.underlying5 (by kernel_rfl)
  obtain ⟨fuel, y, h, _⟩ := h
  obtain ⟨p, len, cap, e, hl, _, _⟩ := hb
  rw [u8_bytes, Nat.mul_one] at hl
  unfold reachBytes at hl
  rcases open_ints Try.underlying103 Try.underlying5 (by kernel_rfl) h with ⟨hcs, hy⟩ | ⟨x, len', c, zs, hcs, _, hl', hm, hz, hy, hcell, hwz⟩
  · simp only [List.cons.injEq, and_true] at hcs
    subst hcs
    exact ⟨none, [], 0, rfl, .inl rfl, by simp⟩
  · simp only [List.cons.injEq, and_true] at hcs
    subst hcs
    injection e with _ e2
    subst e2
    have hlz : len' ≤ zs.length := by rw [hz]; split <;> omega
    exact ⟨some x, asBytes zs len', c, by rw [asBytes_len _ _ hlz], asBytes_in hlz hcell hwz, by rw [asBytes_len _ _ hlz]; omega⟩
end
end Go.Proofs.Ytbbaplcfhofeeaa

/-
  Package grant: Unpack of both sides, of any bytes.
-/
set_option linter.unusedSimpArgs false
set_option linter.unusedVariables false
namespace Go.Proofs.Ytbbaplcfhofeeaa
open Go.RowKit
set_option maxHeartbeats 4000000
/-- bytes that lie somewhere -/
def BG (w : World) (p : Option Addr) (l : List UInt8) : Prop := ∀ k, k < l.length → ∃ g o, p = some ⟨g, o, none⟩ ∧ w.cell? ⟨g, o + k, none⟩ = some (.int .u8 (l.getD k 0).toNat)
theorem BG.grown {w w' : World} {p : Option Addr} {l : List UInt8} (h : BG w p l) (hg : w.grownBy w' none) : BG w' p l := fun k hk => by
  obtain ⟨g, o, e, hc⟩ := h k hk
  exact ⟨g, o, e, hg.cell hc (by simp)⟩
theorem BG.b8 {w : World} {p : Option Addr} {l : List UInt8} (h : BG w p l) (hl : l.length = 8) : ∃ g o, p = some ⟨g, o, none⟩ ∧ B8 w g o (fun k => (l.getD k 0).toNat) := by
  obtain ⟨g, o, rfl, _⟩ := h 0 (by omega)
  refine ⟨g, o, rfl, fun k hk => ?_, fun k _ => UInt8.toNat_lt _⟩
  obtain ⟨g', o', e, hc⟩ := h k (by omega)
  cases e
  exact hc
def unpG (l : List UInt8) : GV × Int := if l.length = 8 then unG (fun k => (l.getD k 0).toNat) else (g0, 1)
theorem unpG_e (l : List UInt8) : (unpG l).2 = 0 ∨ (unpG l).2 = 1 ∨ (unpG l).2 = 60 := by
  unfold unpG
  split
  · unfold unG
    split
    · exact .inr (.inr rfl)
    · split
      · split
        · exact .inr (.inr rfl)
        · exact .inl rfl
      · exact .inl rfl
  · exact .inr (.inl rfl)
theorem BG.of_in {w : World} {p : Option Addr} {l : List UInt8} (h : InBytes w p l) : BG w p l := fun k hk => by
  rcases h with rfl | ⟨b, o, rfl, _, hc⟩
  · cases hk
  · exact ⟨b, o, rfl, hc k hk⟩
theorem BG.of_own {W : World} {base : Nat} {v : Value} {l : List UInt8} (h : W.ownsRow base 5 1 v l.length (bcells l)) : ∃ p c, v = .slice p l.length c ∧ l.length ≤ c ∧ BG W p l := by
  have hh := h
  rcases h.2 with ⟨rfl, h0⟩ | ⟨g, cap, cur, rfl, hb, hg, hc, _⟩
  · have : l = [] := List.eq_nil_of_length_eq_zero h0
    subst this
    exact ⟨none, 0, rfl, Nat.le_refl _, fun k hk => by cases hk⟩
  · refine ⟨_, _, rfl, hc, fun k hk => ⟨g, 0, rfl, ?_⟩⟩
    rw [Nat.zero_add, hh.cellAt k (by omega), bcells_get]
    simp [List.getD, List.getElem?_eq_getElem hk]
end Go.Proofs.Ytbbaplcfhofeeaa

/-
  Package grant: Pack.
-/
set_option linter.unusedSimpArgs false
set_option linter.unusedVariables false
namespace Go.Proofs.Ytbbaplcfhofeeaa
open Go.RowKit
set_option maxHeartbeats 4000000
def le2 (n : Nat) : List UInt8 := [UInt8.ofNat (n % 256), UInt8.ofNat (n / 256)]
theorem info_u8' : (Try.prog.info? 5).map (fun i => (i.zero, i.size, i.bytes)) = some (some (.int .u8 0), 1, 1) := by kernel_rfl
theorem bcells_le2 (n : Nat) (hn : n < 65536) : bcells (le2 n) = [.int .u8 (n % 256 : Nat), .int .u8 (n / 256 : Nat)] := by
  have h1 : (n / 256) % 256 = n / 256 := by omega
  simp [bcells, le2]
  omega
def ByPost (n : Nat) (w : World) (e : Ending) (w' : World) : Prop := e = .returned (.slice (some ⟨w.heap.size, 0, none⟩) 2 2) ∧ w'.ownsRow w.heap.size 5 1 (.slice (some ⟨w.heap.size, 0, none⟩) 2 2) 2 (bcells (le2 n)) ∧ w.grownBy w' none
theorem or4 (k : Nat) (h : k ≤ 2) : bits .or .i64 (k : Int) 4 = ((k + 4 : Nat) : Int) := by
  have : k = 0 ∨ k = 1 ∨ k = 2 := by omega
  rcases this with rfl | rfl | rfl <;> rfl
theorem or8 (k : Nat) (h : k ≤ 6) : bits .or .i64 (k : Int) 8 = ((k + 8 : Nat) : Int) := by
  have : k = 0 ∨ k = 1 ∨ k = 2 ∨ k = 3 ∨ k = 4 ∨ k = 5 ∨ k = 6 := by omega
  rcases this with rfl | rfl | rfl | rfl | rfl | rfl | rfl <;> rfl
end Go.Proofs.Ytbbaplcfhofeeaa

/-
  Package grant: Pack of an entry that packs.
-/
set_option linter.unusedSimpArgs false
set_option linter.unusedVariables false
namespace Go.Proofs.Ytbbaplcfhofeeaa
open Go.RowKit
set_option maxHeartbeats 4000000
theorem own_le {w : World} {B B' : Nat} {e : TypeId} {s n : Nat} {xs : List Value} {v : Value} (h : w.ownsRow B e s v n xs) (hb : B' ≤ B) : w.ownsRow B' e s v n xs := by
  refine ⟨h.1, ?_⟩
  rcases h.2 with h2 | ⟨g, cap, cur, rfl, hb', r⟩
  · exact .inl h2
  · exact .inr ⟨g, cap, cur, rfl, by omega, r⟩
theorem own_grown {w w' : World} {B : Nat} {e : TypeId} {s n : Nat} {xs : List Value} {v : Value} (h : w.ownsRow B e s v n xs) (hg : w.grownBy w' none) : w'.ownsRow B e s v n xs := by
  refine ⟨h.1, ?_⟩
  rcases h.2 with h2 | ⟨g, cap, cur, rfl, hb', hg', r⟩
  · exact .inl h2
  · exact .inr ⟨g, cap, cur, rfl, hb', (hg.block g (Array.getElem?_eq_some_iff.1 hg').1 (by simp)).trans hg', r⟩
theorem own_apart {w : World} {B k : Nat} {e : TypeId} {s n : Nat} {xs : List Value} {v : Value} (h : w.ownsRow B e s v n xs) (hk : k < B) : some k ≠ v.ownBlock := by
  rcases h.2 with ⟨rfl, _⟩ | ⟨g, cap, cur, rfl, hb', _⟩
  · simp [Value.ownBlock]
  · simp [Value.ownBlock]; omega
theorem own_news {w : World} {B g c n : Nat} {l : List UInt8} (h : w.ownsRow B 5 1 (.slice (some ⟨g, 0, none⟩) n c) n (bcells l)) : ∀ j u, (bcells l)[j]? = some u → w.cell? ((⟨g, 0, none⟩ : Addr).add j) = some u := fun j u hu => by
  have hj := (List.getElem?_eq_some_iff.1 hu).1
  have hn : (bcells l).length = n * 1 := h.1
  have e : (⟨g, 0, none⟩ : Addr).add j = ⟨g, j, none⟩ := by unfold Addr.add; split <;> simp_all
  rw [e, h.cellAt j (by omega)]
  exact hu
theorem bcells_app (a b : List UInt8) : bcells (a ++ b) = bcells a ++ bcells b := by simp [bcells]
theorem grown_cell {w w' : World} {k o : Nat} {v : Value} {row : Option Nat} (hg : w.grownBy w' row) (hk : some k ≠ row) (h : w.cell? ⟨k, o, none⟩ = some v) : w'.cell? ⟨k, o, none⟩ = some v := by
  have hlt := World.block_lt_of_cell? w _ h
  rw [World.cell?_of_block (a := ⟨k, o, none⟩) (hg.block k hlt hk)]
  exact h
theorem own_some {w : World} {B : Nat} {e : TypeId} {s n : Nat} {xs : List Value} {v : Value} (h : w.ownsRow B e s v n xs) (hn : 0 < n) : ∃ g c, v = .slice (some ⟨g, 0, none⟩) n c := by
  rcases h.2 with ⟨_, h0⟩ | ⟨g, cap, cur, rfl, _⟩
  · omega
  · exact ⟨g, cap, rfl⟩
theorem grow_own {w X Y : World} {e : TypeId} {s n : Nat} {xs : List Value} {v : Value} (hg : w.grownBy X none) (h : X.ownsRow (w.heap.size + 1) e s v n xs) (hY : X.grownBy Y v.ownBlock) : w.grownBy Y none :=
  hg.andThen hY (fun j hj => .inl (Classical.byContradiction fun hlt => own_apart (k := j) h (by omega) hj.symm))
theorem bcells_two (a b : Nat) (ha : a < 256) (hb : b < 256) : bcells [UInt8.ofNat a, UInt8.ofNat b] = [.int .u8 a, .int .u8 b] := by
  simp [bcells]
  omega
theorem bcells_last : bcells [UInt8.ofNat 0, UInt8.ofNat 255] = [.int .u8 0, .int .u8 255] := by rw [bcells_two 0 255 (by decide) (by decide)]; rfl
def pkB (fl d p off ln1 : Nat) : List UInt8 := le2 fl ++ le2 d ++ le2 p ++ [UInt8.ofNat off, UInt8.ofNat ln1]
theorem pkB_len (fl d p off ln1 : Nat) : (pkB fl d p off ln1).length = 8 := rfl
def PkPost (l : List UInt8) (w : World) (e : Ending) (w' : World) : Prop := ∃ p c, e = .returned (.tuple #[.slice p l.length c, .int .i64 0]) ∧ w'.ownsRow (w.heap.size + 1) 5 1 (.slice p l.length c) l.length (bcells l) ∧ w.grownBy w' none
end Go.Proofs.Ytbbaplcfhofeeaa

