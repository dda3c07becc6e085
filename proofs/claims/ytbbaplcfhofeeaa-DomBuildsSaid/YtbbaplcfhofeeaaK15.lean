/-
  Package dom as plain data: frames that are taken for a domain, tables that are laid, and that a root of them is taken. No walk here.
-/
import Derived.Test.YtbbaplcfhofeeaaK14
import Derived.Test.YtbbaplcfhofeeaaK11
set_option linter.unusedSimpArgs false
set_option linter.unusedVariables false
namespace Go.Proofs.Ytbbaplcfhofeeaa
open Go.RowKit
set_option maxHeartbeats 1000000

theorem Dm.ok_zero {f : Fr} (h : f.ok) (ht : f.tot = 0) : f.cnt = 0 ∧ f.ty = 0 := by
  have := h.c0; have := h.ct; have h2 : f.cnt = 0 := by omega
  exact ⟨h2, h.z.1 h2⟩
/-- a frame without references is changed -/
theorem All.touch {M : Mach} {sp : Nat → Sp} {E : Cnt} (h : All M sp E) {i : Nat} (hi : (i : Int) < M.n) (h0 : (M.fr i).tot = 0) {f : Fr} (hf : f.ok) (ht : f.tot = 0) : All (M.upd i f) sp E := by
  obtain ⟨T, hT⟩ := h.ok
  obtain ⟨a, b⟩ := Dm.ok_zero hf ht
  exact ⟨free_inv h.inv hi h0 ⟨ht, a, b⟩, h.sp, T, hT.upd hf (by rw [ht]; exact hT.t0)⟩
theorem All.frok {M : Mach} {sp : Nat → Sp} {E : Cnt} (h : All M sp E) {i : Nat} (hi : (i : Int) < M.n) : (M.fr i).ok := by
  obtain ⟨T, hT⟩ := h.ok
  exact (hT.fr i hi).1
theorem All.n0 {M : Mach} {sp : Nat → Sp} {E : Cnt} (h : All M sp E) : 1 ≤ M.n ∧ M.n ≤ 256 := by
  obtain ⟨T, hT⟩ := h.ok
  exact ⟨hT.n1, hT.n2⟩
namespace Dm
theorem owned_sum (M : Mach) (o : Int) : (M.ownedL o).length = ((List.range M.n.toNat).map fun k => if (M.fr k).owner = o then 1 else 0).sum := by
  unfold Mach.ownedL
  generalize List.range M.n.toNat = l
  induction l with
  | nil => rfl
  | cons x l ih =>
    rw [List.filter_cons, List.map_cons, List.sum_cons, ← ih]
    by_cases e : (M.fr x).owner = o
    · rw [if_pos (by simpa using e), if_pos e, List.length_cons]; omega
    · rw [if_neg (by simpa using e), if_neg e]; omega
theorem own_upd {M : Mach} {k : Nat} {f : Fr} (hk : (k : Int) < M.n) (o : Int) : ((M.upd k f).ownedL o).length + (if (M.fr k).owner = o then 1 else 0) = (M.ownedL o).length + (if f.owner = o then 1 else 0) := by
  rw [owned_sum, owned_sum]
  have := sum_point M.n.toNat k (fun j => if ((M.upd k f).fr j).owner = o then 1 else 0) (fun j => if (M.fr j).owner = o then 1 else 0) (by omega) (fun s _ hs => by simp only [Mach.upd_other _ _ _ _ hs])
  simp only [Mach.upd_same] at this
  exact this
theorem own_same {M M' : Mach} (s : MSame M M') (o : Int) : M'.ownedL o = M.ownedL o := by
  unfold Mach.ownedL
  rw [s.n]
  exact List.filter_congr fun k _ => by rw [s.owner]

/-- frames l were taken for domain d -/
structure Got (M A : Mach) (d : Nat) (l : List Nat) : Prop where
  n : A.n = M.n
  nodup : l.Nodup
  mem : ∀ x ∈ l, (x : Int) < M.n ∧ (A.fr x).owner = d ∧ (A.fr x).tot = 0 ∧ ∀ k, k < 256 → (A.fr x).bs k = 0
  was : ∀ x ∈ l, (M.fr x).owner = -1
  other : ∀ x, x ∉ l → A.fr x = M.fr x
  left : (A.ownedL (-1)).length + l.length = (M.ownedL (-1)).length
  own : ∀ o : Int, o ≠ -1 → (A.ownedL o).length = (M.ownedL o).length + if o = d then l.length else 0
theorem Got.nil (M : Mach) (d : Nat) : Got M M d [] := ⟨rfl, List.nodup_nil, (fun x h => nomatch h), (fun x h => nomatch h), (fun _ _ => rfl), rfl, (fun o _ => by simp)⟩
/-- one more -/
theorem Got.more {M A : Mach} {d : Nat} {l : List Nat} {sp : Nat → Sp} {E : Cnt} (h : Got M A d l) (hA : All A sp E) (hd : d < 8) (hl : l.length < (M.ownedL (-1)).length) :
    ∃ k : Nat, (A.alloc d).1 = k ∧ (A.alloc d).2.1 = 0 ∧ Got M (A.alloc d).2.2 d (l ++ [k]) ∧ All (A.alloc d).2.2 sp E ∧ (k : Int) < M.n := by
  have hleft := h.left
  have hne : A.ownedL (-1) ≠ [] := fun e => by rw [e] at hleft; simp only [List.length_nil] at hleft; omega
  obtain ⟨k, r, hk⟩ := List.exists_cons_of_ne_nil hne
  have e : A.alloc d = ((k : Int), 0, A.upd k { A.fr k with owner := d }) := by
    unfold Mach.alloc
    rw [if_neg (by omega), hk]
  obtain ⟨hkn, hko⟩ := mem_ownedL.1 (show k ∈ A.ownedL (-1) by rw [hk]; simp)
  have hkl : k ∉ l := fun hx => by have := (h.mem k hx).2.1; omega
  have hfr := h.other k hkl
  have hfo := hA.frok hkn
  have hfree := hfo.free hko
  have hkn' : (k : Int) < M.n := by rw [← h.n]; exact hkn
  rw [e]
  refine ⟨k, rfl, rfl, ⟨h.n, ?_, fun x hx => ?_, fun x hx => ?_, fun x hx => ?_, ?_, fun o ho => ?_⟩, All.touch hA hkn hfree.1 (f := { A.fr k with owner := d }) ⟨hfo.c0, hfo.ct, hfo.ty0, hfo.ty3, hfo.z, by show (-2 : Int) ≤ d; omega, by show (d : Int) < 8; omega, fun e : (d : Int) = -1 => by omega⟩ hfree.1, hkn'⟩
  · rw [List.nodup_append]
    exact ⟨h.nodup, by simp, fun x hx y hy e => by rw [List.mem_singleton.1 hy] at e; exact hkl (e ▸ hx)⟩
  · by_cases ex : x = k
    · subst ex
      show _ ∧ ((A.upd x _).fr x).owner = _ ∧ ((A.upd x _).fr x).tot = _ ∧ ∀ j, j < 256 → ((A.upd x _).fr x).bs j = 0
      rw [Mach.upd_same]
      exact ⟨hkn', rfl, hfree.1, hfree.2⟩
    · have hx' : x ∈ l := by
        rcases List.mem_append.1 hx with e | e
        · exact e
        · exact absurd (List.mem_singleton.1 e) ex
      show _ ∧ ((A.upd k _).fr x).owner = _ ∧ ((A.upd k _).fr x).tot = _ ∧ ∀ j, j < 256 → ((A.upd k _).fr x).bs j = 0
      rw [Mach.upd_other _ _ _ _ ex]
      exact h.mem x hx'
  · rcases List.mem_append.1 hx with e | e
    · exact h.was x e
    · rw [List.mem_singleton.1 e, ← hfr]; exact hko
  · rw [List.mem_append, not_or] at hx
    have : x ≠ k := fun e => hx.2 (by simp [e])
    show (A.upd k _).fr x = _
    rw [Mach.upd_other _ _ _ _ this]
    exact h.other x hx.1
  · have := own_upd (M := A) (k := k) (f := { A.fr k with owner := d }) hkn (-1)
    rw [if_pos hko, if_neg (by show ¬ (d : Int) = -1; omega)] at this
    show ((A.upd k _).ownedL (-1)).length + _ = _
    rw [List.length_append, List.length_singleton]
    omega
  · have := own_upd (M := A) (k := k) (f := { A.fr k with owner := d }) hkn o
    rw [if_neg (by rw [hko]; omega)] at this
    have h2 := h.own o ho
    show ((A.upd k _).ownedL o).length = _
    rw [List.length_append, List.length_singleton]
    by_cases eo : o = d
    · rw [if_pos (show _ = o from eo.symm)] at this
      rw [if_pos eo] at h2 ⊢
      omega
    · rw [if_neg (show ¬ _ = o from fun e => eo e.symm)] at this
      rw [if_neg eo] at h2 ⊢
      omega

/-- the bytes of an entry that is present and writable -/
def entB (m : Nat) : List UInt8 := [3, UInt8.ofNat m, 0, 0]
def entsB (l : List Nat) : List UInt8 := l.flatMap entB
theorem entsB_len (l : List Nat) : (entsB l).length = 4 * l.length := by
  induction l with
  | nil => rfl
  | cons x l ih => simp only [entsB, List.flatMap_cons, List.length_append, List.length_cons] at ih ⊢; rw [ih]; simp [entB]; omega
theorem entsB_app (l l' : List Nat) : entsB (l ++ l') = entsB l ++ entsB l' := by simp [entsB]
theorem entsB_get (l : List Nat) (j r : Nat) (hj : j < l.length) (hr : r < 4) : (entsB l).getD (4 * j + r) 0 = (entB l[j]).getD r 0 := by
  induction l generalizing j with
  | nil => simp at hj
  | cons x l ih =>
    show ((entB x) ++ entsB l).getD (4 * j + r) 0 = _
    cases j with
    | zero =>
      rw [List.getD_eq_getElem?_getD, List.getD_eq_getElem?_getD, List.getElem?_append_left (by simp [entB]; omega)]
      simp
    | succ j =>
      rw [List.getD_eq_getElem?_getD, List.getElem?_append_right (by simp [entB]; omega), show (entB x).length = 4 from rfl, show 4 * (j + 1) + r - 4 = 4 * j + r by omega, ← List.getD_eq_getElem?_getD, ih j (by simpa using hj)]
      simp
/-- entries laid into a blank frame -/
theorem laid_word {f : Fr} {l : List Nat} (hb : ∀ k, k < 256 → f.bs k = 0) (hl : l.length ≤ 64) (hm : ∀ x ∈ l, x < 256) (j : Nat) (hj : j < 64) :
    word4 (f.laid 0 (entsB l)).bs (4 * j) = if h : j < l.length then l[j] * 256 + 3 else 0 := by
  have key : ∀ r, r < 4 → (f.laid 0 (entsB l)).bs (4 * j + r) = if h : j < l.length then (entB l[j]).getD r 0 else 0 := fun r hr => by
    show (if 0 ≤ 4 * j + r ∧ 4 * j + r < 0 + (entsB l).length then (entsB l).getD (4 * j + r - 0) 0 else f.bs (4 * j + r)) = _
    rw [entsB_len]
    by_cases h : j < l.length
    · rw [if_pos (by omega), dif_pos h, Nat.sub_zero, entsB_get l j r h hr]
    · rw [if_neg (by omega), dif_neg h, hb _ (by omega)]
  unfold word4
  rw [show 4 * j = 4 * j + 0 from rfl, key 0 (by omega), key 1 (by omega), key 2 (by omega), key 3 (by omega)]
  by_cases h : j < l.length
  · simp only [dif_pos h]
    have hx := hm l[j] (List.getElem_mem h)
    show (3 : UInt8).toNat + 256 * (UInt8.ofNat l[j]).toNat + 65536 * (0 : UInt8).toNat + 16777216 * (0 : UInt8).toNat = _
    rw [UInt8.toNat_ofNat']
    have : l[j] % 2 ^ 8 = l[j] := Nat.mod_eq_of_lt (by omega)
    rw [this]
    simp; omega
  · simp only [dif_neg h]; rfl

/-- what a get of a frame of a domain's own gives -/
theorem get_yes {M : Mach} {i o : Nat} {k : Int} (hi : (i : Int) < M.n) (hk0 : 0 ≤ k) (hk : k ≤ 3) (ho : (M.fr i).owner = o) (hty : k ≠ 0 → (M.fr i).cnt = 0 ∨ (M.fr i).ty = k) : M.get i o k = (0, M.upd i ((M.fr i).taken k)) := by
  unfold Mach.get
  rw [if_neg (by rw [Mach.is_yes (by omega) hi]; simp), if_neg (by omega)]
  simp only [Int.toNat_natCast]
  rw [if_neg (by omega), if_neg (by rw [ho]; simp)]
  unfold Mach.take
  rw [if_neg (fun e => by rcases hty e.1 with h | h; exact e.2.1 h; exact e.2.2 h)]
/-- a page of a domain that may be writable -/
def Pg (M : Mach) (d : Nat) (p : Nat) : Prop := (p : Int) < M.n ∧ p < 256 ∧ (M.fr p).owner = d ∧ ((M.fr p).cnt = 0 ∨ (M.fr p).ty = 1)
theorem Pg.get {M : Mach} {d p q : Nat} (h : Pg M d p) (hq : Pg M d q) : Pg (M.upd q ((M.fr q).taken 1)) d p := by
  refine ⟨h.1, h.2.1, ?_, ?_⟩
  · by_cases e : p = q
    · subst e; rw [Mach.upd_same]; exact h.2.2.1
    · rw [Mach.upd_other _ _ _ _ e]; exact h.2.2.1
  · by_cases e : p = q
    · subst e; rw [Mach.upd_same]; exact .inr rfl
    · rw [Mach.upd_other _ _ _ _ e]; exact h.2.2.2
theorem unp_ent (m : Nat) : unpackV (m * 256 + 3) = (⟨true, true, (m : Nat)⟩, 0) := by
  unfold unpackV
  rw [if_neg (by omega), if_neg (by omega), show (m * 256 + 3) / 256 = m by omega, show (m * 256 + 3) % 4 = 3 by omega]
  rfl
theorem unp_zero : unpackV 0 = (ent0, 0) := rfl
theorem take1_page {M : Mach} {d p : Nat} (h : Pg M d p) : take1 M d (p * 256 + 3) = (0, M.upd p ((M.fr p).taken 1)) := by
  unfold take1
  rw [unp_ent]
  simp only [ne_eq, not_true_eq_false, if_false, Bool.true_eq_false]
  have := get_yes (k := 1) h.1 (by omega) (by omega) h.2.2.1 (fun _ => h.2.2.2)
  rw [show ((kindOf true : Nat) : Int) = 1 from rfl, this]
  rfl
theorem take1_zero (M : Mach) (d : Int) : take1 M d 0 = (0, M) := rfl
theorem take2_zero (M : Mach) (d : Int) : take2 M d 0 = (0, M) := rfl
theorem ents1_yes {M : Mach} {d l : Nat} {ps : List Nat} (hp : ∀ p ∈ ps, Pg M d p) (hw : ∀ j, j < 64 → M.word l j = if h : j < ps.length then ps[j] * 256 + 3 else 0) (k : Nat) (hk : k ≤ 64) :
    (ents take1 M d l k).1 = 0 ∧ ∀ p ∈ ps, Pg (ents take1 M d l k).2 d p := by
  induction k with
  | zero => exact ⟨rfl, hp⟩
  | succ k ih =>
    obtain ⟨h1, h2⟩ := ih (by omega)
    have e : ents take1 M d l (k + 1) = take1 (ents take1 M d l k).2 d (M.word l k) := by show (if _ then _ else _) = _; rw [if_pos h1]
    rw [e, hw k (by omega)]
    by_cases h : k < ps.length
    · rw [dif_pos h]
      have hq := h2 _ (List.getElem_mem h)
      rw [take1_page hq]
      exact ⟨rfl, fun p hp => (h2 p hp).get hq⟩
    · rw [dif_neg h, take1_zero]
      exact ⟨rfl, h2⟩
/-- tables that are laid: root r of one entry l, leaf l of entries ps -/
structure Laid (M : Mach) (d r l : Nat) (ps : List Nat) : Prop where
  root : (r : Int) < M.n ∧ (M.fr r).owner = d ∧ (M.fr r).cnt = 0
  leaf : (l : Int) < M.n ∧ (M.fr l).owner = d ∧ (M.fr l).cnt = 0
  rl : r ≠ l
  p : ∀ p ∈ ps, Pg M d p ∧ p ≠ r ∧ p ≠ l
  wr : ∀ j, j < 64 → M.word r j = if j = 0 then l * 256 + 3 else 0
  wl : ∀ j, j < 64 → M.word l j = if h : j < ps.length then ps[j] * 256 + 3 else 0
theorem tab2_yes {M : Mach} {d r l : Nat} {ps : List Nat} (h : Laid M d r l ps) : (tabG 3 take2 M d r).1 = 0 := by
  have hg := get_yes (k := 3) h.root.1 (by omega) (by omega) h.root.2.1 (fun _ => .inl h.root.2.2)
  unfold tabG
  rw [show ((3 : Nat) : Int) = 3 from rfl, hg]
  simp only [ne_eq, not_true_eq_false, if_false, Int.toNat_natCast]
  split
  · rfl
  obtain ⟨A, hA⟩ : ∃ A, M.upd r ((M.fr r).taken 3) = A := ⟨_, rfl⟩
  rw [hA]
  have sA : MSame M A := by have := M.get_same r d 3; rw [hg] at this; rw [← hA]; exact this
  have key : ∀ k, k ≤ 64 → (ents take2 A d r k).1 = 0 := fun k => by
    induction k with
    | zero => intro; rfl
    | succ k ih =>
      intro hk
      have h1 := ih (by omega)
      have e : ents take2 A d r (k + 1) = take2 (ents take2 A d r k).2 d (A.word r k) := by show (if _ then _ else _) = _; rw [if_pos h1]
      rw [e, Mach.word_bs (sA.bs r), h.wr k (by omega)]
      by_cases k0 : k = 0
      · subst k0
        rw [if_pos rfl]
        unfold take2
        rw [unp_ent]
        simp only [ne_eq, not_true_eq_false, if_false, Bool.true_eq_false]
        show (tabG 2 take1 A d l).1 = 0
        have hl1 : A.fr l = M.fr l := by rw [← hA, Mach.upd_other _ _ _ _ (Ne.symm h.rl)]
        have hn : A.n = M.n := sA.n
        have hg2 := get_yes (M := A) (i := l) (o := d) (k := 2) (by rw [hn]; exact h.leaf.1) (by omega) (by omega) (by rw [hl1]; exact h.leaf.2.1) (fun _ => .inl (by rw [hl1]; exact h.leaf.2.2))
        unfold tabG
        rw [show ((2 : Nat) : Int) = 2 from rfl, hg2]
        simp only [ne_eq, not_true_eq_false, if_false, Int.toNat_natCast]
        split
        · rfl
        obtain ⟨B, hB⟩ : ∃ B, A.upd l ((A.fr l).taken 2) = B := ⟨_, rfl⟩
        rw [hB]
        have sB : MSame A B := by have := A.get_same l d 2; rw [hg2] at this; rw [← hB]; exact this
        have hp : ∀ p ∈ ps, Pg B d p := fun p hp => by
          obtain ⟨⟨a, b, c, e⟩, p1, p2⟩ := h.p p hp
          have hf : B.fr p = M.fr p := by rw [← hB, Mach.upd_other _ _ _ _ p2, ← hA, Mach.upd_other _ _ _ _ p1]
          exact ⟨by rw [sB.n, hn]; exact a, b, by rw [hf]; exact c, by rw [hf]; exact e⟩
        have hw : ∀ j, j < 64 → B.word l j = if h : j < ps.length then ps[j] * 256 + 3 else 0 := fun j hj => by
          rw [Mach.word_bs (sB.bs l), Mach.word_bs (sA.bs l)]; exact h.wl j hj
        rw [if_pos (ents1_yes hp hw 64 (by omega)).1]
      · rw [if_neg k0, take2_zero]
  rw [if_pos (key 64 (by omega))]
end Dm
end Go.Proofs.Ytbbaplcfhofeeaa
