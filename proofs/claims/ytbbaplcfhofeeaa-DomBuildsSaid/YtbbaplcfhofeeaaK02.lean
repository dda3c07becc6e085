/-
  References as counts: how many of each kind each frame has; what Get and Put do to them. No walk here.
-/
import Derived.Test.YtbbaplcfhofeeaaK01
set_option linter.unusedSimpArgs false
set_option linter.unusedVariables false
namespace Go.Proofs.Ytbbaplcfhofeeaa

/-- how many references of each kind each frame has -/
abbrev Cnt := Nat → Nat → Nat
def Cnt.add (C : Cnt) (i k : Nat) : Cnt := fun a b => C a b + if a = i ∧ b = k then 1 else 0
def Cnt.plus (C : Cnt) (l : List (Nat × Nat)) : Cnt := fun a b => C a b + l.count (a, b)
theorem Cnt.plus_nil (C : Cnt) : C.plus [] = C := by funext a b; simp [Cnt.plus]
theorem Cnt.plus_one (C : Cnt) (r : Nat × Nat) : C.plus [r] = C.add r.1 r.2 := by
  funext a b
  obtain ⟨i, k⟩ := r
  simp only [Cnt.plus, Cnt.add, List.count_cons, List.count_nil]
  by_cases h : a = i ∧ b = k
  · obtain ⟨rfl, rfl⟩ := h; simp
  · have : ((i, k) == (a, b)) = false := by
      apply Bool.eq_false_iff.2; intro e; apply h; have := eq_of_beq e; cases this; exact ⟨rfl, rfl⟩
    simp [h, this]
theorem Cnt.plus_app (C : Cnt) (l l' : List (Nat × Nat)) : C.plus (l ++ l') = (C.plus l).plus l' := by funext a b; simp [Cnt.plus, Nat.add_assoc]
theorem Cnt.plus_cons (C : Cnt) (r : Nat × Nat) (l : List (Nat × Nat)) : C.plus (r :: l) = (C.plus l).add r.1 r.2 := by
  rw [← Cnt.plus_one]; funext a b; simp only [Cnt.plus, List.count_cons, List.count_nil]; omega
theorem Cnt.plus_perm (C : Cnt) {l l' : List (Nat × Nat)} (h : l.Perm l') : C.plus l = C.plus l' := by funext a b; simp only [Cnt.plus, h.count_eq]
theorem Cnt.add_plus (C : Cnt) (i k : Nat) (l : List (Nat × Nat)) : (C.add i k).plus l = (C.plus l).add i k := by funext a b; simp only [Cnt.plus, Cnt.add]; omega
theorem Cnt.add_comm (C : Cnt) (i k j m : Nat) : (C.add i k).add j m = (C.add j m).add i k := by funext a b; simp only [Cnt.add]; omega
theorem Cnt.add_at (C : Cnt) (i k : Nat) : C.add i k i k = C i k + 1 := by simp [Cnt.add]
theorem Cnt.add_pos (C : Cnt) (i k : Nat) : 0 < C.add i k i k := by simp [Cnt.add]
theorem Cnt.add_ne (C : Cnt) (i k a b : Nat) (h : ¬ (a = i ∧ b = k)) : C.add i k a b = C a b := by simp [Cnt.add, h]
theorem Cnt.le_add (C : Cnt) (i k a b : Nat) : C a b ≤ C.add i k a b := by simp [Cnt.add]

/-- the same owners, bytes and size; behind the size nothing has changed -/
structure MSame (M M' : Mach) : Prop where
  n : M'.n = M.n
  owner : ∀ i, (M'.fr i).owner = (M.fr i).owner
  bs : ∀ i, (M'.fr i).bs = (M.fr i).bs
  out : ∀ i : Nat, M.n ≤ i → M'.fr i = M.fr i
theorem MSame.refl (M : Mach) : MSame M M := ⟨rfl, fun _ => rfl, fun _ => rfl, fun _ _ => rfl⟩
theorem MSame.trans {M M' M2 : Mach} (h : MSame M M') (k : MSame M' M2) : MSame M M2 :=
  ⟨k.n.trans h.n, fun i => (k.owner i).trans (h.owner i), fun i => (k.bs i).trans (h.bs i), fun i hi => (k.out i (by rw [h.n]; exact hi)).trans (h.out i hi)⟩
theorem MSame.symm {M M' : Mach} (h : MSame M M') : MSame M' M :=
  ⟨h.n.symm, fun i => (h.owner i).symm, fun i => (h.bs i).symm, fun i hi => (h.out i (by rw [← h.n]; exact hi)).symm⟩
theorem MSame.is {M M' : Mach} (h : MSame M M') (i : Int) : M'.is i = M.is i := by unfold Mach.is; rw [h.n]
theorem upd_same' (M : Mach) (i : Nat) (f : Fr) (hi : (i : Int) < M.n) (ho : f.owner = (M.fr i).owner) (hb : f.bs = (M.fr i).bs) : MSame M (M.upd i f) :=
  ⟨rfl, fun j => by by_cases e : j = i; (subst e; rw [Mach.upd_same, ho]); rw [Mach.upd_other _ _ _ _ e], fun j => by by_cases e : j = i; (subst e; rw [Mach.upd_same, hb]); rw [Mach.upd_other _ _ _ _ e],
   fun j hj => Mach.upd_other _ _ _ _ (by omega)⟩

/-- the machine's numbers are these counts -/
structure CHolds (M : Mach) (C : Cnt) : Prop where
  tot : ∀ i : Nat, (i : Int) < M.n → (M.fr i).tot = C i 0 + C i 1 + C i 2 + C i 3
  cnt : ∀ i : Nat, (i : Int) < M.n → (M.fr i).cnt = C i 1 + C i 2 + C i 3
  ty : ∀ i k : Nat, (i : Int) < M.n → 1 ≤ k → k ≤ 3 → 0 < C i k → (M.fr i).ty = k
  ty0 : ∀ i : Nat, (i : Int) < M.n → (M.fr i).cnt = 0 → (M.fr i).ty = 0
theorem CHolds.uniq {M M' : Mach} {C : Cnt} (h : CHolds M C) (h' : CHolds M' C) (s : MSame M M') : M = M' := by
  have hf : ∀ i, M.fr i = M'.fr i := fun i => by
    by_cases hi : (i : Int) < M.n
    · have hi' : (i : Int) < M'.n := by rw [s.n]; exact hi
      have e1 := s.owner i; have e2 := s.bs i
      have t1 := h.tot i hi; have t2 := h'.tot i hi'; have c1 := h.cnt i hi; have c2 := h'.cnt i hi'
      have ty : (M.fr i).ty = (M'.fr i).ty := by
        by_cases h0 : (M.fr i).cnt = 0
        · rw [h.ty0 i hi h0, h'.ty0 i hi' (by omega)]
        · have : 0 < C i 1 ∨ 0 < C i 2 ∨ 0 < C i 3 := by omega
          rcases this with e | e | e
          · rw [h.ty i 1 hi (by omega) (by omega) e, h'.ty i 1 hi' (by omega) (by omega) e]
          · rw [h.ty i 2 hi (by omega) (by omega) e, h'.ty i 2 hi' (by omega) (by omega) e]
          · rw [h.ty i 3 hi (by omega) (by omega) e, h'.ty i 3 hi' (by omega) (by omega) e]
      generalize M.fr i = f at *
      generalize M'.fr i = g at *
      obtain ⟨_, _, _, _, _⟩ := f
      obtain ⟨_, _, _, _, _⟩ := g
      simp only at e1 e2 t1 t2 c1 c2 ty
      simp only [Fr.mk.injEq]
      exact ⟨e1.symm, ty, by omega, by omega, e2.symm⟩
    · exact (s.out i (by omega)).symm
  obtain ⟨n, f⟩ := M
  obtain ⟨n', f'⟩ := M'
  have e := s.n
  simp only at e
  subst e
  congr 1
  exact funext hf
/-- a frame in use as a kind is in use as that alone -/
theorem CHolds.only {M : Mach} {C : Cnt} (h : CHolds M C) {i k : Nat} (hi : (i : Int) < M.n) (h1 : 1 ≤ k) (h3 : k ≤ 3) (hk : 0 < C i k) : (M.fr i).cnt = C i k ∧ ∀ m, 1 ≤ m → m ≤ 3 → m ≠ k → C i m = 0 := by
  have hz : ∀ m, 1 ≤ m → m ≤ 3 → m ≠ k → C i m = 0 := fun m m1 m3 hm => by
    by_cases e : 0 < C i m
    · have a := h.ty i m hi m1 m3 e
      have b := h.ty i k hi h1 h3 hk
      omega
    · omega
  refine ⟨?_, hz⟩
  have hc := h.cnt i hi
  have k3 : k = 1 ∨ k = 2 ∨ k = 3 := by omega
  rcases k3 with rfl | rfl | rfl
  · have := hz 2 (by omega) (by omega) (by omega); have := hz 3 (by omega) (by omega) (by omega); omega
  · have := hz 1 (by omega) (by omega) (by omega); have := hz 3 (by omega) (by omega) (by omega); omega
  · have := hz 1 (by omega) (by omega) (by omega); have := hz 2 (by omega) (by omega) (by omega); omega
theorem Cnt.sum_add (C : Cnt) (i k a : Nat) (hk : k ≤ 3) : C.add i k a 0 + C.add i k a 1 + C.add i k a 2 + C.add i k a 3 = C a 0 + C a 1 + C a 2 + C a 3 + if a = i then 1 else 0 := by
  unfold Cnt.add
  have k4 : k = 0 ∨ k = 1 ∨ k = 2 ∨ k = 3 := by omega
  by_cases e : a = i
  · subst e; rcases k4 with rfl | rfl | rfl | rfl <;> simp <;> omega
  · simp [e]
theorem Cnt.sum_add' (C : Cnt) (i k a : Nat) (hk : k ≤ 3) : C.add i k a 1 + C.add i k a 2 + C.add i k a 3 = C a 1 + C a 2 + C a 3 + if a = i ∧ k ≠ 0 then 1 else 0 := by
  unfold Cnt.add
  have k4 : k = 0 ∨ k = 1 ∨ k = 2 ∨ k = 3 := by omega
  by_cases e : a = i
  · subst e; rcases k4 with rfl | rfl | rfl | rfl <;> simp <;> omega
  · simp [e]

theorem Mach.get_same (M : Mach) (i o k : Int) : MSame M (M.get i o k).2 := by
  unfold Mach.get Mach.take
  split
  · exact .refl _
  rename_i hi
  split
  · exact .refl _
  split
  · exact .refl _
  split
  · exact .refl _
  split
  · exact .refl _
  have hi' := Mach.is_iff.1 (by simpa using hi)
  exact upd_same' _ _ _ (by omega) (by unfold Fr.taken; split <;> rfl) (by unfold Fr.taken; split <;> rfl)
theorem Mach.put_same (M : Mach) (i k : Int) : MSame M (M.put i k).2 := by
  unfold Mach.put Mach.drop
  split
  · exact .refl _
  rename_i hi
  split
  · exact .refl _
  split
  · exact .refl _
  have hi' := Mach.is_iff.1 (by simpa using hi)
  exact upd_same' _ _ _ (by omega) (by unfold Fr.dropped; (repeat' split) <;> rfl) (by unfold Fr.dropped; (repeat' split) <;> rfl)
theorem Mach.get_no (M : Mach) (i o k : Int) (h : (M.get i o k).1 ≠ 0) : (M.get i o k).2 = M := by
  revert h
  unfold Mach.get Mach.take
  (repeat' split) <;> simp
theorem CHolds.get {M : Mach} {C : Cnt} (h : CHolds M C) {i o : Int} {k : Nat} (hk : k ≤ 3) (he : (M.get i o k).1 = 0) :
    M.is i = true ∧ (M.fr i.toNat).owner = o ∧ o ≠ -1 ∧ CHolds (M.get i o k).2 (C.add i.toNat k) := by
  revert he
  unfold Mach.get Mach.take
  split
  · simp
  rename_i hi
  split
  · simp
  split
  · simp
  rename_i h1
  split
  · simp
  rename_i h2
  split
  · simp
  rename_i ht
  intro _
  have hi0 : M.is i = true := by simpa using hi
  have hi' := Mach.is_iff.1 hi0
  obtain ⟨j, rfl⟩ := Int.eq_ofNat_of_zero_le hi'.1
  simp only [Int.toNat_natCast] at *
  have ho : (M.fr j).owner = o := by simpa using h2
  refine ⟨hi0, ho, by rw [← ho]; exact h1, ?_⟩
  have hty : k ≠ 0 → (M.fr j).cnt = 0 ∨ (M.fr j).ty = k := fun e => by
    by_cases g : (M.fr j).cnt = 0
    · exact .inl g
    · right
      by_cases g2 : (M.fr j).ty = k
      · exact g2
      · exact absurd ⟨by omega, g, g2⟩ ht
  have ct := h.tot j hi'.2; have cc := h.cnt j hi'.2
  have kk : ((k : Int) = 0) ↔ k = 0 := by omega
  refine ⟨fun a ha => ?_, fun a ha => ?_, fun a m ha m1 m3 hm => ?_, fun a ha hc => ?_⟩
  · have := Cnt.sum_add C j k a hk
    by_cases e : a = j
    · subst e
      rw [Mach.upd_same]
      simp only [if_true] at this
      have : (Fr.taken (M.fr a) k).tot = (M.fr a).tot + 1 := by unfold Fr.taken; split <;> rfl
      omega
    · rw [Mach.upd_other _ _ _ _ e]
      have := h.tot a ha
      simp only [e, if_false] at *
      omega
  · have := Cnt.sum_add' C j k a hk
    by_cases e : a = j
    · subst e
      rw [Mach.upd_same]
      by_cases k0 : k = 0
      · subst k0
        simp only [ne_eq, not_true, and_false, if_false] at this
        have : (Fr.taken (M.fr a) (0 : Nat)).cnt = (M.fr a).cnt := rfl
        omega
      · simp only [ne_eq, k0, not_false_iff, and_true, if_true] at this
        have : (Fr.taken (M.fr a) k).cnt = (M.fr a).cnt + 1 := by unfold Fr.taken; rw [if_neg (by omega)]
        omega
    · rw [Mach.upd_other _ _ _ _ e]
      have := h.cnt a ha
      simp only [e, false_and, if_false] at *
      omega
  · by_cases e : a = j
    · subst e
      rw [Mach.upd_same]
      by_cases k0 : k = 0
      · subst k0
        rw [Cnt.add_ne _ _ _ _ _ (by omega)] at hm
        exact h.ty a m ha m1 m3 hm
      · have e1 : (Fr.taken (M.fr a) k).ty = k := by unfold Fr.taken; rw [if_neg (by omega)]
        rw [e1]
        by_cases em : m = k
        · rw [em]
        · rw [Cnt.add_ne _ _ _ _ _ (by omega)] at hm
          have := h.ty a m ha m1 m3 hm
          rcases hty k0 with g | g
          · have h3 : m = 1 ∨ m = 2 ∨ m = 3 := by omega
            rcases h3 with rfl | rfl | rfl <;> omega
          · omega
    · rw [Mach.upd_other _ _ _ _ e]
      rw [Cnt.add_ne _ _ _ _ _ (by omega)] at hm
      exact h.ty a m ha m1 m3 hm
  · by_cases e : a = j
    · subst e
      rw [Mach.upd_same] at hc ⊢
      by_cases k0 : k = 0
      · subst k0
        exact h.ty0 a ha hc
      · have e1 : (Fr.taken (M.fr a) k).cnt = (M.fr a).cnt + 1 := by unfold Fr.taken; rw [if_neg (by omega)]
        omega
    · rw [Mach.upd_other _ _ _ _ e] at hc ⊢
      exact h.ty0 a ha hc
theorem CHolds.put {M : Mach} {C : Cnt} {i k : Nat} (h : CHolds M (C.add i k)) (hi : (i : Int) < M.n) (hk : k ≤ 3) :
    (M.put i k).1 = 0 ∧ CHolds (M.put i k).2 C ∧ (k ≠ 0 → ((M.put i k).2.fr i).cnt = (M.fr i).cnt - 1) := by
  have his : M.is i = true := Mach.is_yes (by omega) hi
  have st := Cnt.sum_add C i k i hk
  have sc := Cnt.sum_add' C i k i hk
  have ct := h.tot i hi; have cc := h.cnt i hi
  simp only [if_true, true_and] at st sc
  have hng : ¬ (((k : Int) = 0 ∧ (M.fr i).tot = (M.fr i).cnt) ∨ ((k : Int) ≠ 0 ∧ (M.fr i).ty ≠ k)) := by
    rintro (⟨e, g⟩ | ⟨e, g⟩)
    · obtain rfl : k = 0 := by omega
      have := C.add_pos i 0
      omega
    · exact g (h.ty i k hi (by omega) hk (C.add_pos i k))
  have hput : M.put i k = (0, M.upd i ((M.fr i).dropped k)) := by
    unfold Mach.put Mach.drop
    rw [if_neg (by simp [his]), if_neg (by omega), Int.toNat_natCast, if_neg hng]
  rw [hput]
  have dt : ((M.fr i).dropped k).tot = (M.fr i).tot - 1 := by unfold Fr.dropped; (repeat' split) <;> rfl
  have dc : ((M.fr i).dropped k).cnt = (M.fr i).cnt - (if k = 0 then 0 else 1) := by
    unfold Fr.dropped
    by_cases k0 : k = 0
    · subst k0; simp
    · rw [if_neg (by omega : ¬ (k : Int) = 0), if_neg k0]
      split
      · simp only; omega
      · rfl
  have only := fun (hp : 1 ≤ k) => h.only hi hp hk (C.add_pos i k)
  refine ⟨rfl, ⟨fun a ha => ?_, fun a ha => ?_, fun a m ha m1 m3 hm => ?_, fun a ha hc => ?_⟩, fun k0 => ?_⟩
  · by_cases e : a = i
    · subst e; rw [Mach.upd_same, dt]; have h5 := h.tot a hi; have h6 := st; omega
    · rw [Mach.upd_other _ _ _ _ e]
      have h1 := h.tot a ha
      have h2 := Cnt.sum_add C i k a hk
      simp only [e, if_false] at h2
      omega
  · by_cases e : a = i
    · subst e; rw [Mach.upd_same, dc]
      by_cases k0 : k = 0
      · subst k0; simp only [if_true, ne_eq, not_true, if_false] at sc ⊢; omega
      · rw [if_neg k0]; rw [if_pos k0] at sc; omega
    · rw [Mach.upd_other _ _ _ _ e]
      have h1 := h.cnt a ha
      have h2 := Cnt.sum_add' C i k a hk
      simp only [e, false_and, if_false] at h2
      omega
  · have hm' : 0 < C.add i k a m := Nat.lt_of_lt_of_le hm (C.le_add i k a m)
    by_cases e : a = i
    · subst e
      rw [Mach.upd_same]
      have hty := h.ty a m ha m1 m3 hm'
      unfold Fr.dropped
      by_cases k0 : k = 0
      · rw [if_pos (by omega)]; exact hty
      · rw [if_neg (by omega)]
        obtain ⟨o1, o2⟩ := only (by omega)
        have hmk : m = k := by
          by_cases g : m = k
          · exact g
          · have := o2 m m1 m3 g; omega
        subst hmk
        rw [C.add_at] at o1
        rw [if_neg (by omega)]
        exact hty
    · rw [Mach.upd_other _ _ _ _ e]
      exact h.ty a m ha m1 m3 hm'
  · by_cases e : a = i
    · subst e
      rw [Mach.upd_same] at hc ⊢
      rw [dc] at hc
      unfold Fr.dropped
      by_cases k0 : k = 0
      · rw [if_pos (by omega)]
        simp only [k0, if_true] at hc
        exact h.ty0 a ha (by omega)
      · rw [if_neg (by omega)]
        simp only [k0, if_false] at hc
        rw [if_pos (by omega)]
    · rw [Mach.upd_other _ _ _ _ e] at hc ⊢
      exact h.ty0 a ha hc
  · rw [Mach.upd_same, dc, if_neg k0]
end Go.Proofs.Ytbbaplcfhofeeaa

/-
  Tables: one level over another. What is taken is counted; what errs leaves nothing. No walk here.
-/
set_option linter.unusedSimpArgs false
set_option linter.unusedVariables false
namespace Go.Proofs.Ytbbaplcfhofeeaa

def kindOf (w : Bool) : Nat := if w then 1 else 0
/-- the reference of an entry, in a table of level lv -/
def rf (lv : Nat) (n : Nat) : Option (Nat × Nat) := if (unpackV n).1.p = true then some ((unpackV n).1.mfn.toNat, if lv = 2 then 2 else kindOf (unpackV n).1.w) else none
def Mach.word (M : Mach) (t j : Nat) : Nat := word4 (M.fr t).bs (4 * j)
/-- the references of a table's first k entries -/
def Mach.refs (M : Mach) (lv t k : Nat) : List (Nat × Nat) := (List.range k).flatMap fun j => (rf lv (M.word t j)).toList
/-- an entry whose reference an owner's table may hold -/
def good (M : Mach) (o : Int) (n : Nat) : Prop := (unpackV n).2 = 0 ∧ ((unpackV n).1.p = true → (((unpackV n).1.mfn.toNat : Nat) : Int) < M.n ∧ (M.fr (unpackV n).1.mfn.toNat).owner = o)
theorem good.same {M M' : Mach} {o : Int} {n : Nat} (h : good M o n) (s : MSame M M') : good M' o n :=
  ⟨h.1, fun e => ⟨by rw [s.n]; exact (h.2 e).1, by rw [s.owner]; exact (h.2 e).2⟩⟩
theorem Mach.refs_succ (M : Mach) (lv t k : Nat) : M.refs lv t (k + 1) = M.refs lv t k ++ (rf lv (M.word t k)).toList := by
  simp [Mach.refs, List.range_succ]
theorem Mach.word_bs {M M' : Mach} {t : Nat} (h : (M'.fr t).bs = (M.fr t).bs) (j : Nat) : M'.word t j = M.word t j := by unfold Mach.word; rw [h]
theorem Mach.refs_bs {M M' : Mach} {t : Nat} (h : (M'.fr t).bs = (M.fr t).bs) (lv k : Nat) : M'.refs lv t k = M.refs lv t k := by
  unfold Mach.refs; simp only [Mach.word_bs h]
theorem sum_point (n t : Nat) (f g : Nat → Nat) (ht : t < n) (h : ∀ s, s < n → s ≠ t → f s = g s) : ((List.range n).map f).sum + g t = ((List.range n).map g).sum + f t := by
  induction n with
  | zero => omega
  | succ n ih =>
    simp only [List.range_succ, List.map_append, List.map_cons, List.map_nil, List.sum_append, List.sum_cons, List.sum_nil, Nat.add_zero]
    by_cases e : t = n
    · subst e
      have : (List.range t).map f = (List.range t).map g := List.map_congr_left fun s hs => h s (by have := List.mem_range.1 hs; omega) (by have := List.mem_range.1 hs; omega)
      rw [this]; omega
    · have := ih (by omega) fun s hs => h s (by omega)
      have := h n (by omega) (by omega)
      omega
theorem refs_count (M : Mach) (lv t k : Nat) (x : Nat × Nat) : (M.refs lv t k).count x = ((List.range k).map fun j => (rf lv (M.word t j)).toList.count x).sum := by
  induction k with
  | zero => rfl
  | succ k ih => rw [Mach.refs_succ, List.count_append, ih]; simp [List.range_succ]

/-- counts with those of the tables in use -/
def full (lv K : Nat) (M : Mach) (F : Cnt) : Cnt := fun i k => F i k + ((List.range M.n.toNat).map fun t => if 0 < F t K then (M.refs lv t 64).count (i, k) else 0).sum
theorem full_same {M M' : Mach} (s : MSame M M') (lv K : Nat) (F : Cnt) : full lv K M' F = full lv K M F := by
  funext i k
  unfold full
  rw [s.n]
  congr 2
  exact List.map_congr_left fun t _ => by rw [Mach.refs_bs (s.bs t)]
theorem count_kind {M : Mach} {lv t k i K : Nat} (hK : ∀ n r, rf lv n = some r → r.2 ≠ K) : (M.refs lv t k).count (i, K) = 0 := by
  rw [List.count_eq_zero]
  intro h
  simp only [Mach.refs, List.mem_flatMap] at h
  obtain ⟨j, _, h⟩ := h
  exact hK _ _ (Option.mem_toList.1 h) rfl
theorem full_other {lv K m : Nat} (hK : ∀ n r, rf lv n = some r → r.2 ≠ m) (M : Mach) (F : Cnt) (t : Nat) : full lv K M F t m = F t m := by
  unfold full
  have : ((List.range M.n.toNat).map fun s => if 0 < F s K then (M.refs lv s 64).count (t, m) else 0) = (List.range M.n.toNat).map fun _ => 0 :=
    List.map_congr_left fun s _ => by rw [count_kind hK]; split <;> rfl
  rw [this]
  have hz : ∀ l : List Nat, (l.map fun _ => 0).sum = 0 := fun l => by induction l with
    | nil => rfl
    | cons x l ih => rw [List.map_cons, List.sum_cons, ih]
  rw [hz]; rfl
theorem full_add_ne {lv K : Nat} (M : Mach) (F : Cnt) (i k : Nat) (hk : k ≠ K) : full lv K M (F.add i k) = (full lv K M F).add i k := by
  funext a b
  unfold full Cnt.add
  have : ∀ t, (t = i ∧ K = k) = False := fun t => eq_false fun e => hk e.2.symm
  simp only [this, if_false, Nat.add_zero]
  omega
theorem full_add_pos {lv K : Nat} (M : Mach) (F : Cnt) (t : Nat) (h : 0 < F t K) : full lv K M (F.add t K) = (full lv K M F).add t K := by
  funext a b
  unfold full
  have e : ((List.range M.n.toNat).map fun s => if 0 < F.add t K s K then (M.refs lv s 64).count (a, b) else 0) = (List.range M.n.toNat).map fun s => if 0 < F s K then (M.refs lv s 64).count (a, b) else 0 :=
    List.map_congr_left fun s _ => by
      by_cases e : s = t
      · subst e; rw [if_pos (F.add_pos s K), if_pos h]
      · rw [F.add_ne t K s K (by omega)]
  rw [e]
  simp only [Cnt.add]
  omega
theorem full_add_new {lv K : Nat} (M : Mach) (F : Cnt) (t : Nat) (h : F t K = 0) (ht : (t : Int) < M.n) : full lv K M (F.add t K) = ((full lv K M F).add t K).plus (M.refs lv t 64) := by
  funext a b
  unfold full
  have := sum_point M.n.toNat t (fun s => if 0 < F.add t K s K then (M.refs lv s 64).count (a, b) else 0) (fun s => if 0 < F s K then (M.refs lv s 64).count (a, b) else 0) (by omega) (fun s _ hs => by
    rw [F.add_ne t K s K (by omega)])
  rw [if_pos (F.add_pos t K), if_neg (by omega)] at this
  simp only [Cnt.plus, Cnt.add] at this ⊢
  omega

/-- one level: what holds of the counts, an entry's taking, its going -/
structure Lvl (lv K : Nat) (Inv : Mach → Cnt → Prop) (tk : Mach → Int → Nat → Int × Mach) (dp : Mach → Nat × Nat → Mach) : Prop where
  K3 : K ≤ 3
  K1 : 1 ≤ K
  uniq : ∀ {M M' C}, Inv M C → Inv M' C → MSame M M' → M = M'
  tk_same : ∀ M o n, MSame M (tk M o n).2
  tk_yes : ∀ {M C o n}, Inv M C → (tk M o n).1 = 0 → Inv (tk M o n).2 (C.plus (rf lv n).toList) ∧ good M o n
  tk_no : ∀ {M o n}, (tk M o n).1 ≠ 0 → (tk M o n).2 = M
  dp_same : ∀ M r, MSame M (dp M r)
  dp_ok : ∀ {M C} {r : Nat × Nat} {n}, Inv M (C.add r.1 r.2) → rf lv n = some r → (r.1 : Int) < M.n → Inv (dp M r) C
  get : ∀ {M C o} {t : Int}, Inv M C → (M.get t o K).1 = 0 → Inv (M.get t o K).2 (C.add t.toNat K)
  put : ∀ {M C} {t : Nat}, Inv M (C.add t K) → (t : Int) < M.n → Inv (M.put t K).2 C
  holds : ∀ {M C}, Inv M C → ∃ C', CHolds M C' ∧ ∀ t, C' t K = C t K
  kind : ∀ n r, rf lv n = some r → r.2 ≠ K

/-- the first k entries of a table, taken one by one up to the first that is refused -/
def ents (tk : Mach → Int → Nat → Int × Mach) (M : Mach) (o : Int) (t : Nat) : Nat → Int × Mach
  | 0 => (0, M)
  | k + 1 => if (ents tk M o t k).1 = 0 then tk (ents tk M o t k).2 o (M.word t k) else ents tk M o t k
def refusedV (e : Int) : Int := if e = 13 ∨ e = 0 then e else 12
theorem refusedV_zero (e : Int) : refusedV e = 0 ↔ e = 0 := by unfold refusedV; split <;> omega
/-- a reference as a table -/
def tabG (K : Nat) (tk : Mach → Int → Nat → Int × Mach) (M : Mach) (o t : Int) : Int × Mach :=
  if (M.get t o K).1 ≠ 0 then (refusedV (M.get t o K).1, M) else
  if 1 < ((M.get t o K).2.fr t.toNat).cnt then (0, (M.get t o K).2) else
  if (ents tk (M.get t o K).2 o t.toNat 64).1 = 0 then (0, (ents tk (M.get t o K).2 o t.toNat 64).2) else ((ents tk (M.get t o K).2 o t.toNat 64).1, M)
/-- such a reference goes -/
def untabG (lv K : Nat) (dp : Mach → Nat × Nat → Mach) (M : Mach) (t : Nat) : Mach :=
  if 0 < ((M.put t K).2.fr t).cnt then (M.put t K).2 else (M.refs lv t 64).foldl dp (M.put t K).2
/-- the counts hold with those of the tables in use, whose entries are sound -/
structure InvG (lv K : Nat) (Inv : Mach → Cnt → Prop) (M : Mach) (F : Cnt) : Prop where
  inv : Inv M (full lv K M F)
  g : ∀ t : Nat, (t : Int) < M.n → 0 < F t K → ∀ j, j < 64 → good M (M.fr t).owner (M.word t j)

section
variable {lv K : Nat} {Inv : Mach → Cnt → Prop} {tk : Mach → Int → Nat → Int × Mach} {dp : Mach → Nat × Nat → Mach}
theorem ents_same (H : Lvl lv K Inv tk dp) (M : Mach) (o : Int) (t k : Nat) : MSame M (ents tk M o t k).2 := by
  induction k with
  | zero => exact .refl _
  | succ k ih =>
    unfold ents
    split
    · exact ih.trans (H.tk_same _ _ _)
    · exact ih
theorem ents_yes (H : Lvl lv K Inv tk dp) {M : Mach} {C : Cnt} (h : Inv M C) (o : Int) (t k : Nat) (he : (ents tk M o t k).1 = 0) : Inv (ents tk M o t k).2 (C.plus (M.refs lv t k)) ∧ ∀ j, j < k → good M o (M.word t j) := by
  induction k with
  | zero => exact ⟨by simpa [ents, Mach.refs, Cnt.plus_nil] using h, fun j hj => by omega⟩
  | succ k ih =>
    unfold ents at he ⊢
    by_cases e0 : (ents tk M o t k).1 = 0
    · rw [if_pos e0] at he ⊢
      obtain ⟨h1, h2⟩ := ih e0
      obtain ⟨k1, k2⟩ := H.tk_yes h1 he
      refine ⟨by rw [Mach.refs_succ, Cnt.plus_app]; exact k1, fun j hj => ?_⟩
      by_cases ej : j = k
      · subst ej; exact k2.same (ents_same H M o t j).symm
      · exact h2 j (by omega)
    · rw [if_neg e0] at he; exact absurd he e0
theorem drops_ok (H : Lvl lv K Inv tk dp) {l : List (Nat × Nat)} : ∀ {M : Mach} {C : Cnt}, Inv M (C.plus l) → (∀ r ∈ l, (∃ n, rf lv n = some r) ∧ (r.1 : Int) < M.n) → Inv (l.foldl dp M) C ∧ MSame M (l.foldl dp M) := by
  induction l with
  | nil => intro M C h _; exact ⟨by rw [← C.plus_nil]; exact h, .refl _⟩
  | cons r l ih =>
    intro M C h hr
    rw [Cnt.plus_cons] at h
    obtain ⟨⟨n, hn⟩, hlt⟩ := hr r (List.mem_cons_self ..)
    have h1 := H.dp_ok h hn hlt
    have s := H.dp_same M r
    obtain ⟨a, b⟩ := ih h1 fun q hq => ⟨(hr q (List.mem_cons_of_mem _ hq)).1, by rw [s.n]; exact (hr q (List.mem_cons_of_mem _ hq)).2⟩
    exact ⟨a, s.trans b⟩
theorem refs_good {M : Mach} {o : Int} {t k : Nat} (h : ∀ j, j < k → good M o (M.word t j)) : ∀ r ∈ M.refs lv t k, (∃ n, rf lv n = some r) ∧ (r.1 : Int) < M.n := fun r hr => by
  simp only [Mach.refs, List.mem_flatMap, List.mem_range] at hr
  obtain ⟨j, hj, hr⟩ := hr
  have hr := Option.mem_toList.1 hr
  refine ⟨⟨_, hr⟩, ?_⟩
  obtain ⟨_, g⟩ := h j hj
  unfold rf at hr
  split at hr
  · rename_i hp
    cases hr
    exact (g hp).1
  · cases hr
/-- what was taken so far, and the table's own reference, go again: nothing is left, in whatever order the entries go -/
theorem undo (H : Lvl lv K Inv tk dp) {M : Mach} {C : Cnt} {o t : Int} (h : Inv M C) (hg : (M.get t o K).1 = 0) (k : Nat) (hk : (ents tk (M.get t o K).2 o t.toNat k).1 = 0) (l : List (Nat × Nat)) (hl : l.Perm ((M.get t o K).2.refs lv t.toNat k)) :
    ((l.foldl dp (ents tk (M.get t o K).2 o t.toNat k).2).put t K).2 = M ∧ Inv (l.foldl dp (ents tk (M.get t o K).2 o t.toNat k).2) (C.add t.toNat K) := by
  have h1 := H.get h hg
  obtain ⟨h2, g2⟩ := ents_yes H h1 o t.toNat k hk
  have s1 := M.get_same t o K
  have s2 := ents_same H (M.get t o K).2 o t.toNat k
  rw [← Cnt.plus_perm _ hl] at h2
  obtain ⟨h3, s3⟩ := drops_ok H h2 fun r hr => by
    obtain ⟨a, b⟩ := refs_good (lv := lv) g2 r (hl.mem_iff.1 hr)
    exact ⟨a, by rw [s2.n]; exact b⟩
  obtain ⟨C', hC', _⟩ := H.holds h
  obtain ⟨hi, _⟩ := hC'.get H.K3 hg
  obtain ⟨i0, i1⟩ := Mach.is_iff.1 hi
  have et : ((t.toNat : Nat) : Int) = t := Int.toNat_of_nonneg i0
  have hlt : ((t.toNat : Nat) : Int) < (l.foldl dp (ents tk (M.get t o K).2 o t.toNat k).2).n := by rw [s3.n, s2.n, s1.n, et]; exact i1
  have h4 := H.put h3 hlt
  rw [et] at h4
  exact ⟨(H.uniq h h4 (((s1.trans s2).trans s3).trans (Mach.put_same _ _ _))).symm, h3⟩
theorem tabG_no {M : Mach} {o t : Int} (h : (tabG K tk M o t).1 ≠ 0) : (tabG K tk M o t).2 = M := by
  revert h
  unfold tabG
  (repeat' split) <;> simp
set_option maxRecDepth 100000 in
theorem tabG_same (H : Lvl lv K Inv tk dp) (M : Mach) (o t : Int) : MSame M (tabG K tk M o t).2 := by
  unfold tabG
  split
  · exact .refl _
  split
  · exact M.get_same _ _ _
  split
  · exact (M.get_same _ _ _).trans (ents_same H (M.get t o K).2 o t.toNat 64)
  · exact .refl _
theorem Lvl.cntK (H : Lvl lv K Inv tk dp) {M : Mach} {C : Cnt} (h : Inv M C) {t : Nat} (ht : (t : Int) < M.n) (hp : 0 < C t K) : (M.fr t).cnt = C t K := by
  obtain ⟨C', hC', e⟩ := H.holds h
  rw [← e]
  exact (hC'.only ht H.K1 H.K3 (by rw [e]; exact hp)).1
set_option maxRecDepth 100000 in
theorem tabG_yes (H : Lvl lv K Inv tk dp) {M : Mach} {F : Cnt} {o t : Int} (h : InvG lv K Inv M F) (he : (tabG K tk M o t).1 = 0) :
    InvG lv K Inv (tabG K tk M o t).2 (F.add t.toNat K) ∧ M.is t = true ∧ (M.fr t.toNat).owner = o ∧ o ≠ -1 := by
  have fK := fun t => full_other (lv := lv) (K := K) H.kind M F t
  have s0 := tabG_same H M o t
  unfold tabG at he s0 ⊢
  by_cases e0 : (M.get t o K).1 = 0
  · rw [if_neg (by simpa using e0)] at he s0 ⊢
    obtain ⟨C', hC', _⟩ := H.holds h.inv
    obtain ⟨hi, ho, ho1, _⟩ := hC'.get H.K3 e0
    refine ⟨?_, hi, ho, ho1⟩
    obtain ⟨i0, i1⟩ := Mach.is_iff.1 hi
    have et : ((t.toNat : Nat) : Int) = t := Int.toNat_of_nonneg i0
    have s1 := M.get_same t o K
    have h1 := H.get h.inv e0
    have hlt : ((t.toNat : Nat) : Int) < (M.get t o K).2.n := by rw [s1.n, et]; exact i1
    have hc := H.cntK h1 hlt (Cnt.add_pos _ _ _)
    rw [Cnt.add_at, fK] at hc
    by_cases e1 : 1 < ((M.get t o K).2.fr t.toNat).cnt
    · rw [if_pos e1] at s0 ⊢
      have hp : 0 < F t.toNat K := by omega
      refine ⟨by rw [full_same s0, full_add_pos _ _ _ hp]; exact h1, fun s hs hs0 j hj => ?_⟩
      rw [s1.owner, Mach.word_bs (s1.bs s)]
      refine (h.g s (by rw [← s1.n]; exact hs) ?_ j hj).same s1
      by_cases es : s = t.toNat
      · subst es; exact hp
      · rwa [F.add_ne _ _ _ _ (by omega)] at hs0
    · rw [if_neg e1] at he s0 ⊢
      have hz : F t.toNat K = 0 := by omega
      by_cases e2 : (ents tk (M.get t o K).2 o t.toNat 64).1 = 0
      · rw [if_pos e2] at s0 ⊢
        obtain ⟨h2, g2⟩ := ents_yes H h1 o t.toNat 64 e2
        rw [Mach.refs_bs (s1.bs _)] at h2
        refine ⟨by rw [full_same s0, full_add_new _ _ _ hz (by omega)]; exact h2, fun s hs hs0 j hj => ?_⟩
        simp only at s0
        rw [s0.owner, Mach.word_bs (s0.bs s)]
        by_cases es : s = t.toNat
        · subst es
          rw [ho, ← Mach.word_bs (s1.bs _)]
          exact ((g2 j hj).same s1.symm).same s0
        · rw [F.add_ne _ _ _ _ (by omega)] at hs0
          exact (h.g s (by rw [← s0.n]; exact hs) hs0 j hj).same s0
      · rw [if_neg e2] at he; exact absurd he e2
  · rw [if_pos e0] at he
    exact absurd ((refusedV_zero _).1 he) e0
theorem InvG.uniq (H : Lvl lv K Inv tk dp) {M M' : Mach} {F : Cnt} (h : InvG lv K Inv M F) (h' : InvG lv K Inv M' F) (s : MSame M M') : M = M' := by
  have := h'.inv
  rw [full_same s] at this
  exact H.uniq h.inv this s
theorem foldl_same {f : Mach → Nat × Nat → Mach} (hf : ∀ M r, MSame M (f M r)) : ∀ (l : List (Nat × Nat)) (M : Mach), MSame M (l.foldl f M)
  | [], _ => .refl _
  | r :: l, M => (hf M r).trans (foldl_same hf l (f M r))
theorem untabG_same (H : Lvl lv K Inv tk dp) (M : Mach) (t : Nat) : MSame M (untabG lv K dp M t) := by
  unfold untabG
  split
  · exact M.put_same _ _
  · exact (M.put_same _ _).trans (foldl_same H.dp_same _ _)
set_option maxRecDepth 100000 in
theorem untabG_ok (H : Lvl lv K Inv tk dp) {M : Mach} {F : Cnt} {t : Nat} (h : InvG lv K Inv M (F.add t K)) (ht : (t : Int) < M.n) : InvG lv K Inv (untabG lv K dp M t) F := by
  have fK := fun t => full_other (lv := lv) (K := K) H.kind M (F.add t K) t
  have s0 := untabG_same H M t
  have s1 := M.put_same t K
  have hc := H.cntK h.inv ht (by rw [fK]; exact F.add_pos t K)
  rw [fK, F.add_at] at hc
  obtain ⟨C', hC', e'⟩ := H.holds h.inv
  have hpos : 0 < C' t K := by rw [e', fK]; exact F.add_pos t K
  have hput := (CHolds.put (C := fun a b => C' a b - if a = t ∧ b = K then 1 else 0) (i := t) (k := K) (by
    have : Cnt.add (fun a b => C' a b - if a = t ∧ b = K then 1 else 0) t K = C' := by
      funext a b
      unfold Cnt.add
      by_cases g : a = t ∧ b = K
      · obtain ⟨rfl, rfl⟩ := g; simp; omega
      · simp [g]
    rw [this]; exact hC') ht H.K3).2.2 (by have := H.K1; omega)
  have hg : ∀ M' : Mach, MSame M M' → ∀ s : Nat, (s : Int) < M'.n → 0 < F s K → ∀ j, j < 64 → good M' (M'.fr s).owner (M'.word s j) := fun M' s' s hs hs0 j hj => by
    rw [s'.owner, Mach.word_bs (s'.bs s)]
    exact (h.g s (by rw [← s'.n]; exact hs) (Nat.lt_of_lt_of_le hs0 (F.le_add t K s K)) j hj).same s'
  unfold untabG at s0 ⊢
  by_cases hz : F t K = 0
  · rw [if_neg (by omega)] at s0 ⊢
    have h1 := h.inv
    rw [full_add_new _ _ _ hz ht, Cnt.add_plus] at h1
    have h2 := H.put h1 ht
    obtain ⟨h3, _⟩ := drops_ok H h2 fun r hr => by
      obtain ⟨a, b⟩ := refs_good (lv := lv) (h.g t ht (F.add_pos t K)) r hr
      exact ⟨a, by rw [s1.n]; exact b⟩
    exact ⟨by rw [full_same s0]; exact h3, hg _ s0⟩
  · rw [if_pos (by omega)] at s0 ⊢
    have h1 := h.inv
    rw [full_add_pos _ _ _ (by omega)] at h1
    exact ⟨by rw [full_same s0]; exact H.put h1 ht, hg _ s0⟩
/-- other kinds pass through -/
theorem InvG.get {m : Nat} (hm : m ≠ K) (hget : ∀ {M C o} {t : Int}, Inv M C → (M.get t o m).1 = 0 → Inv (M.get t o m).2 (C.add t.toNat m)) {M : Mach} {F : Cnt} {o t : Int} (h : InvG lv K Inv M F) (he : (M.get t o m).1 = 0) : InvG lv K Inv (M.get t o m).2 (F.add t.toNat m) := by
  have s := M.get_same t o m
  refine ⟨by rw [full_same s, full_add_ne _ _ _ _ hm]; exact hget h.inv he, fun a ha h0 j hj => ?_⟩
  rw [s.owner, Mach.word_bs (s.bs a)]
  rw [F.add_ne _ _ _ _ (by omega)] at h0
  exact (h.g a (by rw [← s.n]; exact ha) h0 j hj).same s
theorem InvG.pass {m i : Nat} (hm : m ≠ K) {M M' : Mach} {F : Cnt} (h : InvG lv K Inv M (F.add i m)) (s : MSame M M') (hi : ∀ C : Cnt, Inv M (C.add i m) → Inv M' C) : InvG lv K Inv M' F := by
  refine ⟨by rw [full_same s]; exact hi _ (by rw [← full_add_ne _ _ _ _ hm]; exact h.inv), fun a ha h0 j hj => ?_⟩
  rw [s.owner, Mach.word_bs (s.bs a)]
  exact (h.g a (by rw [← s.n]; exact ha) (Nat.lt_of_lt_of_le h0 (F.le_add i m a K)) j hj).same s
theorem InvG.pass' {m i : Nat} (hm : m ≠ K) {M M' : Mach} {F : Cnt} (h : InvG lv K Inv M F) (s : MSame M M') (hi : Inv M' ((full lv K M F).add i m)) : InvG lv K Inv M' (F.add i m) := by
  refine ⟨by rw [full_same s, full_add_ne _ _ _ _ hm]; exact hi, fun a ha h0 j hj => ?_⟩
  rw [s.owner, Mach.word_bs (s.bs a)]
  rw [F.add_ne _ _ _ _ (by omega)] at h0
  exact (h.g a (by rw [← s.n]; exact ha) h0 j hj).same s
end
end Go.Proofs.Ytbbaplcfhofeeaa
