/-
  Tables: one level over another. What is taken is counted; what errs leaves nothing. No walk here.
-/
import Derived.Test.YtemeihamkdpmoaaK01
set_option linter.unusedSimpArgs false
set_option linter.unusedVariables false
namespace Go.Proofs.Ytemeihamkdpmoaa

def kindOf (w : Bool) : Nat := if w then 1 else 0
/-- the reference of an entry, in a table of level lv -/
def rf (lv : Nat) (n : Nat) : Option (Nat × Nat) := if (unpackV n).1.p = true then some ((unpackV n).1.mfn.toNat, if lv = 2 then 2 else kindOf (unpackV n).1.w) else none
def Mach.word (M : Mach) (t j : Nat) : Nat := word4 (M.fr t).bs (4 * j)
/-- the references of a table's first k entries -/
def Mach.refs (M : Mach) (lv t k : Nat) : List (Nat × Nat) := (List.range k).flatMap fun j => (rf lv (M.word t j)).toList
/-- an entry whose reference an owner's table may hold -/
def good (M : Mach) (o : Int) (n : Nat) : Prop := (unpackV n).2 = 0 ∧ ((unpackV n).1.p = true → (((unpackV n).1.mfn.toNat : Nat) : Int) < M.n ∧ (M.fr (unpackV n).1.mfn.toNat).owner = o)
theorem good.same {M M' : Mach} {o : Int} {n : Nat} (h : good M o n) (s : MSame M M') : good M' o n :=
  ⟨h.1, fun e => ⟨by rw [s.n]; exact (h.2 e).1, by rw [s.owner]; exact (h.2 e).2⟩⟩
theorem Mach.refs_succ (M : Mach) (lv t k : Nat) : M.refs lv t (k + 1) = M.refs lv t k ++ (rf lv (M.word t k)).toList := by
  simp [Mach.refs, List.range_succ]
theorem Mach.word_bs {M M' : Mach} {t : Nat} (h : (M'.fr t).bs = (M.fr t).bs) (j : Nat) : M'.word t j = M.word t j := by unfold Mach.word; rw [h]
theorem Mach.refs_bs {M M' : Mach} {t : Nat} (h : (M'.fr t).bs = (M.fr t).bs) (lv k : Nat) : M'.refs lv t k = M.refs lv t k := by
  unfold Mach.refs; simp only [Mach.word_bs h]
theorem sum_point (n t : Nat) (f g : Nat → Nat) (ht : t < n) (h : ∀ s, s < n → s ≠ t → f s = g s) : ((List.range n).map f).sum + g t = ((List.range n).map g).sum + f t := by
  induction n with
  | zero => omega
  | succ n ih =>
    simp only [List.range_succ, List.map_append, List.map_cons, List.map_nil, List.sum_append, List.sum_cons, List.sum_nil, Nat.add_zero]
    by_cases e : t = n
    · subst e
      have : (List.range t).map f = (List.range t).map g := List.map_congr_left fun s hs => h s (by have := List.mem_range.1 hs; omega) (by have := List.mem_range.1 hs; omega)
      rw [this]; omega
    · have := ih (by omega) fun s hs => h s (by omega)
      have := h n (by omega) (by omega)
      omega
theorem refs_count (M : Mach) (lv t k : Nat) (x : Nat × Nat) : (M.refs lv t k).count x = ((List.range k).map fun j => (rf lv (M.word t j)).toList.count x).sum := by
  induction k with
  | zero => rfl
  | succ k ih => rw [Mach.refs_succ, List.count_append, ih]; simp [List.range_succ]

/-- counts with those of the tables in use -/
def full (lv K : Nat) (M : Mach) (F : Cnt) : Cnt := fun i k => F i k + ((List.range M.n.toNat).map fun t => if 0 < F t K then (M.refs lv t 64).count (i, k) else 0).sum
theorem full_same {M M' : Mach} (s : MSame M M') (lv K : Nat) (F : Cnt) : full lv K M' F = full lv K M F := by
  funext i k
  unfold full
  rw [s.n]
  congr 2
  exact List.map_congr_left fun t _ => by rw [Mach.refs_bs (s.bs t)]
theorem count_kind {M : Mach} {lv t k i K : Nat} (hK : ∀ n r, rf lv n = some r → r.2 ≠ K) : (M.refs lv t k).count (i, K) = 0 := by
  rw [List.count_eq_zero]
  intro h
  simp only [Mach.refs, List.mem_flatMap] at h
  obtain ⟨j, _, h⟩ := h
  exact hK _ _ (Option.mem_toList.1 h) rfl
theorem full_other {lv K m : Nat} (hK : ∀ n r, rf lv n = some r → r.2 ≠ m) (M : Mach) (F : Cnt) (t : Nat) : full lv K M F t m = F t m := by
  unfold full
  have : ((List.range M.n.toNat).map fun s => if 0 < F s K then (M.refs lv s 64).count (t, m) else 0) = (List.range M.n.toNat).map fun _ => 0 :=
    List.map_congr_left fun s _ => by rw [count_kind hK]; split <;> rfl
  rw [this]
  have hz : ∀ l : List Nat, (l.map fun _ => 0).sum = 0 := fun l => by induction l with
    | nil => rfl
    | cons x l ih => rw [List.map_cons, List.sum_cons, ih]
  rw [hz]; rfl
theorem full_add_ne {lv K : Nat} (M : Mach) (F : Cnt) (i k : Nat) (hk : k ≠ K) : full lv K M (F.add i k) = (full lv K M F).add i k := by
  funext a b
  unfold full Cnt.add
  have : ∀ t, (t = i ∧ K = k) = False := fun t => eq_false fun e => hk e.2.symm
  simp only [this, if_false, Nat.add_zero]
  omega
theorem full_add_pos {lv K : Nat} (M : Mach) (F : Cnt) (t : Nat) (h : 0 < F t K) : full lv K M (F.add t K) = (full lv K M F).add t K := by
  funext a b
  unfold full
  have e : ((List.range M.n.toNat).map fun s => if 0 < F.add t K s K then (M.refs lv s 64).count (a, b) else 0) = (List.range M.n.toNat).map fun s => if 0 < F s K then (M.refs lv s 64).count (a, b) else 0 :=
    List.map_congr_left fun s _ => by
      by_cases e : s = t
      · subst e; rw [if_pos (F.add_pos s K), if_pos h]
      · rw [F.add_ne t K s K (by omega)]
  rw [e]
  simp only [Cnt.add]
  omega
theorem full_add_new {lv K : Nat} (M : Mach) (F : Cnt) (t : Nat) (h : F t K = 0) (ht : (t : Int) < M.n) : full lv K M (F.add t K) = ((full lv K M F).add t K).plus (M.refs lv t 64) := by
  funext a b
  unfold full
  have := sum_point M.n.toNat t (fun s => if 0 < F.add t K s K then (M.refs lv s 64).count (a, b) else 0) (fun s => if 0 < F s K then (M.refs lv s 64).count (a, b) else 0) (by omega) (fun s _ hs => by
    rw [F.add_ne t K s K (by omega)])
  rw [if_pos (F.add_pos t K), if_neg (by omega)] at this
  simp only [Cnt.plus, Cnt.add] at this ⊢
  omega

/-- one level: what holds of the counts, an entry's taking, its going -/
structure Lvl (lv K : Nat) (Inv : Mach → Cnt → Prop) (tk : Mach → Int → Nat → Int × Mach) (dp : Mach → Nat × Nat → Mach) : Prop where
  K3 : K ≤ 3
  K1 : 1 ≤ K
  uniq : ∀ {M M' C}, Inv M C → Inv M' C → MSame M M' → M = M'
  tk_same : ∀ M o n, MSame M (tk M o n).2
  tk_yes : ∀ {M C o n}, Inv M C → (tk M o n).1 = 0 → Inv (tk M o n).2 (C.plus (rf lv n).toList) ∧ good M o n
  tk_no : ∀ {M o n}, (tk M o n).1 ≠ 0 → (tk M o n).2 = M
  dp_same : ∀ M r, MSame M (dp M r)
  dp_ok : ∀ {M C} {r : Nat × Nat} {n}, Inv M (C.add r.1 r.2) → rf lv n = some r → (r.1 : Int) < M.n → Inv (dp M r) C
  get : ∀ {M C o} {t : Int}, Inv M C → (M.get t o K).1 = 0 → Inv (M.get t o K).2 (C.add t.toNat K)
  put : ∀ {M C} {t : Nat}, Inv M (C.add t K) → (t : Int) < M.n → Inv (M.put t K).2 C
  holds : ∀ {M C}, Inv M C → ∃ C', CHolds M C' ∧ ∀ t, C' t K = C t K
  kind : ∀ n r, rf lv n = some r → r.2 ≠ K

/-- the first k entries of a table, taken one by one up to the first that is refused -/
def ents (tk : Mach → Int → Nat → Int × Mach) (M : Mach) (o : Int) (t : Nat) : Nat → Int × Mach
  | 0 => (0, M)
  | k + 1 => if (ents tk M o t k).1 = 0 then tk (ents tk M o t k).2 o (M.word t k) else ents tk M o t k
def refusedV (e : Int) : Int := if e = 13 ∨ e = 0 then e else 12
theorem refusedV_zero (e : Int) : refusedV e = 0 ↔ e = 0 := by unfold refusedV; split <;> omega
/-- a reference as a table -/
def tabG (K : Nat) (tk : Mach → Int → Nat → Int × Mach) (M : Mach) (o t : Int) : Int × Mach :=
  if (M.get t o K).1 ≠ 0 then (refusedV (M.get t o K).1, M) else
  if 1 < ((M.get t o K).2.fr t.toNat).cnt then (0, (M.get t o K).2) else
  if (ents tk (M.get t o K).2 o t.toNat 64).1 = 0 then (0, (ents tk (M.get t o K).2 o t.toNat 64).2) else ((ents tk (M.get t o K).2 o t.toNat 64).1, M)
/-- such a reference goes -/
def untabG (lv K : Nat) (dp : Mach → Nat × Nat → Mach) (M : Mach) (t : Nat) : Mach :=
  if 0 < ((M.put t K).2.fr t).cnt then (M.put t K).2 else (M.refs lv t 64).foldl dp (M.put t K).2
/-- the counts hold with those of the tables in use, whose entries are sound -/
structure InvG (lv K : Nat) (Inv : Mach → Cnt → Prop) (M : Mach) (F : Cnt) : Prop where
  inv : Inv M (full lv K M F)
  g : ∀ t : Nat, (t : Int) < M.n → 0 < F t K → ∀ j, j < 64 → good M (M.fr t).owner (M.word t j)

section
variable {lv K : Nat} {Inv : Mach → Cnt → Prop} {tk : Mach → Int → Nat → Int × Mach} {dp : Mach → Nat × Nat → Mach}
theorem ents_same (H : Lvl lv K Inv tk dp) (M : Mach) (o : Int) (t k : Nat) : MSame M (ents tk M o t k).2 := by
  induction k with
  | zero => exact .refl _
  | succ k ih =>
    unfold ents
    split
    · exact ih.trans (H.tk_same _ _ _)
    · exact ih
theorem ents_yes (H : Lvl lv K Inv tk dp) {M : Mach} {C : Cnt} (h : Inv M C) (o : Int) (t k : Nat) (he : (ents tk M o t k).1 = 0) : Inv (ents tk M o t k).2 (C.plus (M.refs lv t k)) ∧ ∀ j, j < k → good M o (M.word t j) := by
  induction k with
  | zero => exact ⟨by simpa [ents, Mach.refs, Cnt.plus_nil] using h, fun j hj => by omega⟩
  | succ k ih =>
    unfold ents at he ⊢
    by_cases e0 : (ents tk M o t k).1 = 0
    · rw [if_pos e0] at he ⊢
      obtain ⟨h1, h2⟩ := ih e0
      obtain ⟨k1, k2⟩ := H.tk_yes h1 he
      refine ⟨by rw [Mach.refs_succ, Cnt.plus_app]; exact k1, fun j hj => ?_⟩
      by_cases ej : j = k
      · subst ej; exact k2.same (ents_same H M o t j).symm
      · exact h2 j (by omega)
    · rw [if_neg e0] at he; exact absurd he e0
theorem drops_ok (H : Lvl lv K Inv tk dp) {l : List (Nat × Nat)} : ∀ {M : Mach} {C : Cnt}, Inv M (C.plus l) → (∀ r ∈ l, (∃ n, rf lv n = some r) ∧ (r.1 : Int) < M.n) → Inv (l.foldl dp M) C ∧ MSame M (l.foldl dp M) := by
  induction l with
  | nil => intro M C h _; exact ⟨by rw [← C.plus_nil]; exact h, .refl _⟩
  | cons r l ih =>
    intro M C h hr
    rw [Cnt.plus_cons] at h
    obtain ⟨⟨n, hn⟩, hlt⟩ := hr r (List.mem_cons_self ..)
    have h1 := H.dp_ok h hn hlt
    have s := H.dp_same M r
    obtain ⟨a, b⟩ := ih h1 fun q hq => ⟨(hr q (List.mem_cons_of_mem _ hq)).1, by rw [s.n]; exact (hr q (List.mem_cons_of_mem _ hq)).2⟩
    exact ⟨a, s.trans b⟩
theorem refs_good {M : Mach} {o : Int} {t k : Nat} (h : ∀ j, j < k → good M o (M.word t j)) : ∀ r ∈ M.refs lv t k, (∃ n, rf lv n = some r) ∧ (r.1 : Int) < M.n := fun r hr => by
  simp only [Mach.refs, List.mem_flatMap, List.mem_range] at hr
  obtain ⟨j, hj, hr⟩ := hr
  have hr := Option.mem_toList.1 hr
  refine ⟨⟨_, hr⟩, ?_⟩
  obtain ⟨_, g⟩ := h j hj
  unfold rf at hr
  split at hr
  · rename_i hp
    cases hr
    exact (g hp).1
  · cases hr
/-- what was taken so far, and the table's own reference, go again: nothing is left, in whatever order the entries go -/
theorem undo (H : Lvl lv K Inv tk dp) {M : Mach} {C : Cnt} {o t : Int} (h : Inv M C) (hg : (M.get t o K).1 = 0) (k : Nat) (hk : (ents tk (M.get t o K).2 o t.toNat k).1 = 0) (l : List (Nat × Nat)) (hl : l.Perm ((M.get t o K).2.refs lv t.toNat k)) :
    ((l.foldl dp (ents tk (M.get t o K).2 o t.toNat k).2).put t K).2 = M ∧ Inv (l.foldl dp (ents tk (M.get t o K).2 o t.toNat k).2) (C.add t.toNat K) := by
  have h1 := H.get h hg
  obtain ⟨h2, g2⟩ := ents_yes H h1 o t.toNat k hk
  have s1 := M.get_same t o K
  have s2 := ents_same H (M.get t o K).2 o t.toNat k
  rw [← Cnt.plus_perm _ hl] at h2
  obtain ⟨h3, s3⟩ := drops_ok H h2 fun r hr => by
    obtain ⟨a, b⟩ := refs_good (lv := lv) g2 r (hl.mem_iff.1 hr)
    exact ⟨a, by rw [s2.n]; exact b⟩
  obtain ⟨C', hC', _⟩ := H.holds h
  obtain ⟨hi, _⟩ := hC'.get H.K3 hg
  obtain ⟨i0, i1⟩ := Mach.is_iff.1 hi
  have et : ((t.toNat : Nat) : Int) = t := Int.toNat_of_nonneg i0
  have hlt : ((t.toNat : Nat) : Int) < (l.foldl dp (ents tk (M.get t o K).2 o t.toNat k).2).n := by rw [s3.n, s2.n, s1.n, et]; exact i1
  have h4 := H.put h3 hlt
  rw [et] at h4
  exact ⟨(H.uniq h h4 (((s1.trans s2).trans s3).trans (Mach.put_same _ _ _))).symm, h3⟩
theorem tabG_no {M : Mach} {o t : Int} (h : (tabG K tk M o t).1 ≠ 0) : (tabG K tk M o t).2 = M := by
  revert h
  unfold tabG
  (repeat' split) <;> simp
set_option maxRecDepth 100000 in
theorem tabG_same (H : Lvl lv K Inv tk dp) (M : Mach) (o t : Int) : MSame M (tabG K tk M o t).2 := by
  unfold tabG
  split
  · exact .refl _
  split
  · exact M.get_same _ _ _
  split
  · exact (M.get_same _ _ _).trans (ents_same H (M.get t o K).2 o t.toNat 64)
  · exact .refl _
theorem Lvl.cntK (H : Lvl lv K Inv tk dp) {M : Mach} {C : Cnt} (h : Inv M C) {t : Nat} (ht : (t : Int) < M.n) (hp : 0 < C t K) : (M.fr t).cnt = C t K := by
  obtain ⟨C', hC', e⟩ := H.holds h
  rw [← e]
  exact (hC'.only ht H.K1 H.K3 (by rw [e]; exact hp)).1
set_option maxRecDepth 100000 in
theorem tabG_yes (H : Lvl lv K Inv tk dp) {M : Mach} {F : Cnt} {o t : Int} (h : InvG lv K Inv M F) (he : (tabG K tk M o t).1 = 0) :
    InvG lv K Inv (tabG K tk M o t).2 (F.add t.toNat K) ∧ M.is t = true ∧ (M.fr t.toNat).owner = o ∧ o ≠ -1 := by
  have fK := fun t => full_other (lv := lv) (K := K) H.kind M F t
  have s0 := tabG_same H M o t
  unfold tabG at he s0 ⊢
  by_cases e0 : (M.get t o K).1 = 0
  · rw [if_neg (by simpa using e0)] at he s0 ⊢
    obtain ⟨C', hC', _⟩ := H.holds h.inv
    obtain ⟨hi, ho, ho1, _⟩ := hC'.get H.K3 e0
    refine ⟨?_, hi, ho, ho1⟩
    obtain ⟨i0, i1⟩ := Mach.is_iff.1 hi
    have et : ((t.toNat : Nat) : Int) = t := Int.toNat_of_nonneg i0
    have s1 := M.get_same t o K
    have h1 := H.get h.inv e0
    have hlt : ((t.toNat : Nat) : Int) < (M.get t o K).2.n := by rw [s1.n, et]; exact i1
    have hc := H.cntK h1 hlt (Cnt.add_pos _ _ _)
    rw [Cnt.add_at, fK] at hc
    by_cases e1 : 1 < ((M.get t o K).2.fr t.toNat).cnt
    · rw [if_pos e1] at s0 ⊢
      have hp : 0 < F t.toNat K := by omega
      refine ⟨by rw [full_same s0, full_add_pos _ _ _ hp]; exact h1, fun s hs hs0 j hj => ?_⟩
      rw [s1.owner, Mach.word_bs (s1.bs s)]
      refine (h.g s (by rw [← s1.n]; exact hs) ?_ j hj).same s1
      by_cases es : s = t.toNat
      · subst es; exact hp
      · rwa [F.add_ne _ _ _ _ (by omega)] at hs0
    · rw [if_neg e1] at he s0 ⊢
      have hz : F t.toNat K = 0 := by omega
      by_cases e2 : (ents tk (M.get t o K).2 o t.toNat 64).1 = 0
      · rw [if_pos e2] at s0 ⊢
        obtain ⟨h2, g2⟩ := ents_yes H h1 o t.toNat 64 e2
        rw [Mach.refs_bs (s1.bs _)] at h2
        refine ⟨by rw [full_same s0, full_add_new _ _ _ hz (by omega)]; exact h2, fun s hs hs0 j hj => ?_⟩
        simp only at s0
        rw [s0.owner, Mach.word_bs (s0.bs s)]
        by_cases es : s = t.toNat
        · subst es
          rw [ho, ← Mach.word_bs (s1.bs _)]
          exact ((g2 j hj).same s1.symm).same s0
        · rw [F.add_ne _ _ _ _ (by omega)] at hs0
          exact (h.g s (by rw [← s0.n]; exact hs) hs0 j hj).same s0
      · rw [if_neg e2] at he; exact absurd he e2
  · rw [if_pos e0] at he
    exact absurd ((refusedV_zero _).1 he) e0
theorem InvG.uniq (H : Lvl lv K Inv tk dp) {M M' : Mach} {F : Cnt} (h : InvG lv K Inv M F) (h' : InvG lv K Inv M' F) (s : MSame M M') : M = M' := by
  have := h'.inv
  rw [full_same s] at this
  exact H.uniq h.inv this s
theorem foldl_same {f : Mach → Nat × Nat → Mach} (hf : ∀ M r, MSame M (f M r)) : ∀ (l : List (Nat × Nat)) (M : Mach), MSame M (l.foldl f M)
  | [], _ => .refl _
  | r :: l, M => (hf M r).trans (foldl_same hf l (f M r))
theorem untabG_same (H : Lvl lv K Inv tk dp) (M : Mach) (t : Nat) : MSame M (untabG lv K dp M t) := by
  unfold untabG
  split
  · exact M.put_same _ _
  · exact (M.put_same _ _).trans (foldl_same H.dp_same _ _)
set_option maxRecDepth 100000 in
theorem untabG_ok (H : Lvl lv K Inv tk dp) {M : Mach} {F : Cnt} {t : Nat} (h : InvG lv K Inv M (F.add t K)) (ht : (t : Int) < M.n) : InvG lv K Inv (untabG lv K dp M t) F := by
  have fK := fun t => full_other (lv := lv) (K := K) H.kind M (F.add t K) t
  have s0 := untabG_same H M t
  have s1 := M.put_same t K
  have hc := H.cntK h.inv ht (by rw [fK]; exact F.add_pos t K)
  rw [fK, F.add_at] at hc
  obtain ⟨C', hC', e'⟩ := H.holds h.inv
  have hpos : 0 < C' t K := by rw [e', fK]; exact F.add_pos t K
  have hput := (CHolds.put (C := fun a b => C' a b - if a = t ∧ b = K then 1 else 0) (i := t) (k := K) (by
    have : Cnt.add (fun a b => C' a b - if a = t ∧ b = K then 1 else 0) t K = C' := by
      funext a b
      unfold Cnt.add
      by_cases g : a = t ∧ b = K
      · obtain ⟨rfl, rfl⟩ := g; simp; omega
      · simp [g]
    rw [this]; exact hC') ht H.K3).2.2 (by have := H.K1; omega)
  have hg : ∀ M' : Mach, MSame M M' → ∀ s : Nat, (s : Int) < M'.n → 0 < F s K → ∀ j, j < 64 → good M' (M'.fr s).owner (M'.word s j) := fun M' s' s hs hs0 j hj => by
    rw [s'.owner, Mach.word_bs (s'.bs s)]
    exact (h.g s (by rw [← s'.n]; exact hs) (Nat.lt_of_lt_of_le hs0 (F.le_add t K s K)) j hj).same s'
  unfold untabG at s0 ⊢
  by_cases hz : F t K = 0
  · rw [if_neg (by omega)] at s0 ⊢
    have h1 := h.inv
    rw [full_add_new _ _ _ hz ht, Cnt.add_plus] at h1
    have h2 := H.put h1 ht
    obtain ⟨h3, _⟩ := drops_ok H h2 fun r hr => by
      obtain ⟨a, b⟩ := refs_good (lv := lv) (h.g t ht (F.add_pos t K)) r hr
      exact ⟨a, by rw [s1.n]; exact b⟩
    exact ⟨by rw [full_same s0]; exact h3, hg _ s0⟩
  · rw [if_pos (by omega)] at s0 ⊢
    have h1 := h.inv
    rw [full_add_pos _ _ _ (by omega)] at h1
    exact ⟨by rw [full_same s0]; exact H.put h1 ht, hg _ s0⟩
/-- other kinds pass through -/
theorem InvG.get {m : Nat} (hm : m ≠ K) (hget : ∀ {M C o} {t : Int}, Inv M C → (M.get t o m).1 = 0 → Inv (M.get t o m).2 (C.add t.toNat m)) {M : Mach} {F : Cnt} {o t : Int} (h : InvG lv K Inv M F) (he : (M.get t o m).1 = 0) : InvG lv K Inv (M.get t o m).2 (F.add t.toNat m) := by
  have s := M.get_same t o m
  refine ⟨by rw [full_same s, full_add_ne _ _ _ _ hm]; exact hget h.inv he, fun a ha h0 j hj => ?_⟩
  rw [s.owner, Mach.word_bs (s.bs a)]
  rw [F.add_ne _ _ _ _ (by omega)] at h0
  exact (h.g a (by rw [← s.n]; exact ha) h0 j hj).same s
theorem InvG.pass {m i : Nat} (hm : m ≠ K) {M M' : Mach} {F : Cnt} (h : InvG lv K Inv M (F.add i m)) (s : MSame M M') (hi : ∀ C : Cnt, Inv M (C.add i m) → Inv M' C) : InvG lv K Inv M' F := by
  refine ⟨by rw [full_same s]; exact hi _ (by rw [← full_add_ne _ _ _ _ hm]; exact h.inv), fun a ha h0 j hj => ?_⟩
  rw [s.owner, Mach.word_bs (s.bs a)]
  exact (h.g a (by rw [← s.n]; exact ha) (Nat.lt_of_lt_of_le h0 (F.le_add i m a K)) j hj).same s
theorem InvG.pass' {m i : Nat} (hm : m ≠ K) {M M' : Mach} {F : Cnt} (h : InvG lv K Inv M F) (s : MSame M M') (hi : Inv M' ((full lv K M F).add i m)) : InvG lv K Inv M' (F.add i m) := by
  refine ⟨by rw [full_same s, full_add_ne _ _ _ _ hm]; exact hi, fun a ha h0 j hj => ?_⟩
  rw [s.owner, Mach.word_bs (s.bs a)]
  rw [F.add_ne _ _ _ _ (by omega)] at h0
  exact (h.g a (by rw [← s.n]; exact ha) h0 j hj).same s
end
end Go.Proofs.Ytemeihamkdpmoaa

/-
  Both levels; an entry changed. No walk here.
-/
set_option linter.unusedSimpArgs false
set_option linter.unusedVariables false
namespace Go.Proofs.Ytemeihamkdpmoaa

theorem unpackV_mfn (n : Nat) : 0 ≤ (unpackV n).1.mfn := by
  unfold unpackV
  split
  · exact ent0_mfn.1
  split
  · exact ent0_mfn.1
  · simp only; omega
theorem rf_none {lv n : Nat} (h : (unpackV n).1.p = false) : rf lv n = none := by simp [rf, h]
theorem rf_some {lv n : Nat} (h : (unpackV n).1.p = true) : rf lv n = some ((unpackV n).1.mfn.toNat, if lv = 2 then 2 else kindOf (unpackV n).1.w) := by simp [rf, h]
theorem kindOf_le (w : Bool) : kindOf w ≤ 1 := by cases w <;> decide
theorem rf_kind1 : ∀ n r, rf 1 n = some r → r.2 ≠ 2 := fun n r h => by
  unfold rf at h
  split at h
  · cases h; have := kindOf_le (unpackV n).1.w; simp; omega
  · cases h
theorem rf_kind1' : ∀ n r, rf 1 n = some r → r.2 ≠ 3 := fun n r h => by
  unfold rf at h
  split at h
  · cases h; have := kindOf_le (unpackV n).1.w; simp; omega
  · cases h
theorem rf_two {n : Nat} {r : Nat × Nat} (h : rf 2 n = some r) : r.2 = 2 := by
  unfold rf at h
  split at h
  · cases h; rfl
  · cases h

/-- an entry's reference, in a table of level 1, of level 2 -/
def take1 (M : Mach) (o : Int) (n : Nat) : Int × Mach :=
  if (unpackV n).2 ≠ 0 then ((unpackV n).2, M) else if (unpackV n).1.p = false then (0, M) else
  (refusedV (M.get (unpackV n).1.mfn o (kindOf (unpackV n).1.w : Nat)).1, (M.get (unpackV n).1.mfn o (kindOf (unpackV n).1.w : Nat)).2)
def dp1 (M : Mach) (r : Nat × Nat) : Mach := (M.put r.1 r.2).2
def take2 (M : Mach) (o : Int) (n : Nat) : Int × Mach :=
  if (unpackV n).2 ≠ 0 then ((unpackV n).2, M) else if (unpackV n).1.p = false then (0, M) else tabG 2 take1 M o (unpackV n).1.mfn
def dp2 (M : Mach) (r : Nat × Nat) : Mach := untabG 1 2 dp1 M r.1

theorem good_of {M : Mach} {o : Int} {n : Nat} (h0 : (unpackV n).2 = 0) (hi : M.is (unpackV n).1.mfn = true) (ho : (M.fr (unpackV n).1.mfn.toNat).owner = o) : good M o n :=
  ⟨h0, fun _ => ⟨by have h := Mach.is_iff.1 hi; rw [Int.toNat_of_nonneg h.1]; exact h.2, ho⟩⟩
theorem lvl1 : Lvl 1 2 CHolds take1 dp1 where
  K3 := by decide
  K1 := by decide
  uniq h h' s := h.uniq h' s
  tk_same M o n := by
    unfold take1
    split
    · exact .refl _
    split
    · exact .refl _
    · exact M.get_same _ _ _
  tk_yes := by
    intro M C o n h he
    unfold take1 at he ⊢
    by_cases h0 : (unpackV n).2 = 0
    · rw [if_neg (by simpa using h0)] at he ⊢
      cases hp : (unpackV n).1.p with
      | false =>
        simp only [hp, if_true] at he ⊢
        rw [rf_none hp]
        exact ⟨by simpa [Cnt.plus_nil] using h, h0, fun e => by rw [hp] at e; cases e⟩
      | true =>
        rw [if_neg (by simp [hp])] at he ⊢
        have e0 := (refusedV_zero _).1 he
        obtain ⟨a, b, _, d⟩ := h.get (by have := kindOf_le (unpackV n).1.w; omega) e0
        rw [rf_some hp]
        exact ⟨by simpa [Cnt.plus_one] using d, good_of h0 a b⟩
    · rw [if_pos (by simpa using h0)] at he; exact absurd he h0
  tk_no := by
    intro M o n he
    unfold take1 at he ⊢
    by_cases h0 : (unpackV n).2 = 0
    · rw [if_neg (by simpa using h0)] at he ⊢
      cases hp : (unpackV n).1.p with
      | false => simp only [if_true]
      | true =>
        rw [if_neg (by simp [hp])] at he ⊢
        exact M.get_no _ _ _ fun e => he ((refusedV_zero _).2 e)
    · rw [if_pos (by simpa using h0)]
  dp_same M r := M.put_same _ _
  dp_ok := by
    intro M C r n h hr hlt
    refine (h.put hlt ?_).2.1
    have h2 := rf_kind1 n r hr
    have h3 := rf_kind1' n r hr
    unfold rf at hr
    split at hr
    · cases hr; have := kindOf_le (unpackV n).1.w; simp; omega
    · cases hr
  get h he := (h.get (by decide) he).2.2.2
  put h ht := (h.put ht (by decide)).2.1
  holds h := ⟨_, h, fun _ => rfl⟩
  kind := rf_kind1
abbrev Inv1 := InvG 1 2 CHolds
abbrev Inv2 := InvG 2 3 Inv1
theorem Inv1.holds {M : Mach} {C : Cnt} (h : Inv1 M C) : CHolds M (full 1 2 M C) := h.inv
theorem full1_3 (M : Mach) (C : Cnt) (t : Nat) : full 1 2 M C t 3 = C t 3 := full_other rf_kind1' M C t
theorem full1_2 (M : Mach) (C : Cnt) (t : Nat) : full 1 2 M C t 2 = C t 2 := full_other rf_kind1 M C t
theorem rf_two_ne {m : Nat} (hm : m ≠ 2) : ∀ n r, rf 2 n = some r → r.2 ≠ m := fun n r h e => hm (by rw [← e]; exact rf_two h)
theorem lvl2 : Lvl 2 3 Inv1 take2 dp2 where
  K3 := by decide
  K1 := by decide
  uniq h h' s := InvG.uniq lvl1 h h' s
  tk_same M o n := by
    unfold take2
    split
    · exact .refl _
    split
    · exact .refl _
    · exact tabG_same lvl1 _ _ _
  tk_yes := by
    intro M C o n h he
    unfold take2 at he ⊢
    by_cases h0 : (unpackV n).2 = 0
    · rw [if_neg (by simpa using h0)] at he ⊢
      cases hp : (unpackV n).1.p with
      | false =>
        simp only [hp, if_true] at he ⊢
        rw [rf_none hp]
        exact ⟨by simpa [Cnt.plus_nil] using h, h0, fun e => by rw [hp] at e; cases e⟩
      | true =>
        rw [if_neg (by simp [hp])] at he ⊢
        obtain ⟨a, b, c, _⟩ := tabG_yes lvl1 h he
        rw [rf_some hp]
        exact ⟨by simpa [Cnt.plus_one] using a, good_of h0 b c⟩
    · rw [if_pos (by simpa using h0)] at he; exact absurd he h0
  tk_no := by
    intro M o n he
    unfold take2 at he ⊢
    by_cases h0 : (unpackV n).2 = 0
    · rw [if_neg (by simpa using h0)] at he ⊢
      cases hp : (unpackV n).1.p with
      | false => simp only [if_true]
      | true =>
        rw [if_neg (by simp [hp])] at he ⊢
        exact tabG_no he
    · rw [if_pos (by simpa using h0)]
  dp_same M r := untabG_same lvl1 _ _
  dp_ok := by
    intro M C r n h hr hlt
    rw [rf_two hr] at h
    exact untabG_ok lvl1 h hlt
  get h he := InvG.get (by decide) (fun h e => (CHolds.get h (by decide) e).2.2.2) h he
  put h ht := InvG.pass (by decide) h (Mach.put_same _ _ _) fun C hC => (hC.put ht (by decide)).2.1
  holds h := ⟨_, h.inv, full1_3 _ _⟩
  kind := rf_two_ne (by decide)

/-- entry j of table t was overlaid with n; nothing else has changed -/
structure Wrote (M M' : Mach) (t j n : Nat) : Prop where
  sz : M'.n = M.n
  owner : ∀ i, (M'.fr i).owner = (M.fr i).owner
  ty : ∀ i, (M'.fr i).ty = (M.fr i).ty
  cnt : ∀ i, (M'.fr i).cnt = (M.fr i).cnt
  tot : ∀ i, (M'.fr i).tot = (M.fr i).tot
  bs : ∀ i, i ≠ t → (M'.fr i).bs = (M.fr i).bs
  at' : M'.word t j = n
  else' : ∀ q, q ≠ j → M'.word t q = M.word t q
theorem Wrote.good {M M' : Mach} {t j n : Nat} (w : Wrote M M' t j n) {o : Int} {x : Nat} (h : good M o x) : good M' o x :=
  ⟨h.1, fun e => ⟨by rw [w.sz]; exact (h.2 e).1, by rw [w.owner]; exact (h.2 e).2⟩⟩
theorem Wrote.holds {M M' : Mach} {t j n : Nat} (w : Wrote M M' t j n) {C : Cnt} (h : CHolds M C) : CHolds M' C :=
  ⟨fun i hi => by rw [w.tot]; exact h.tot i (by rw [← w.sz]; exact hi), fun i hi => by rw [w.cnt]; exact h.cnt i (by rw [← w.sz]; exact hi), fun i k hi h1 h3 hk => by rw [w.ty]; exact h.ty i k (by rw [← w.sz]; exact hi) h1 h3 hk,
   fun i hi hc => by rw [w.ty]; exact h.ty0 i (by rw [← w.sz]; exact hi) (by rw [← w.cnt]; exact hc)⟩
theorem Wrote.full {M M' : Mach} {t j n : Nat} (w : Wrote M M' t j n) {lv K : Nat} {F : Cnt} (h : F t K = 0) : full lv K M' F = full lv K M F := by
  funext i k
  unfold Go.Proofs.Ytemeihamkdpmoaa.full
  rw [w.sz]
  congr 2
  exact List.map_congr_left fun s _ => by
    by_cases e : s = t
    · subst e; rw [if_neg (by omega), if_neg (by omega)]
    · rw [Mach.refs_bs (w.bs s e)]
theorem Wrote.inv1 {M M' : Mach} {t j n : Nat} (w : Wrote M M' t j n) {C : Cnt} (h : Inv1 M C) (h0 : C t 2 = 0) : Inv1 M' C :=
  ⟨by rw [w.full h0]; exact w.holds h.inv, fun s hs hp q hq => by
    have e : s ≠ t := fun e => by subst e; omega
    rw [w.owner, Mach.word_bs (w.bs s e)]
    exact w.good (h.g s (by rw [← w.sz]; exact hs) hp q hq)⟩
theorem Wrote.count {M M' : Mach} {t j n : Nat} (w : Wrote M M' t j n) (hj : j < 64) (lv : Nat) (x : Nat × Nat) : (M'.refs lv t 64).count x + (rf lv (M.word t j)).toList.count x = (M.refs lv t 64).count x + (rf lv n).toList.count x := by
  rw [refs_count, refs_count]
  have := sum_point 64 j (fun q => (rf lv (M'.word t q)).toList.count x) (fun q => (rf lv (M.word t q)).toList.count x) hj (fun s _ hs => by rw [w.else' s hs])
  rw [w.at'] at this
  exact this
theorem Wrote.full_in {M M' : Mach} {t j n : Nat} (w : Wrote M M' t j n) (hj : j < 64) {lv K : Nat} {F : Cnt} (ht : (t : Int) < M.n) (h : 0 < F t K) : (Go.Proofs.Ytemeihamkdpmoaa.full lv K M F).plus (rf lv n).toList = (Go.Proofs.Ytemeihamkdpmoaa.full lv K M' F).plus (rf lv (M.word t j)).toList := by
  funext a b
  unfold Go.Proofs.Ytemeihamkdpmoaa.full Cnt.plus
  rw [w.sz]
  have := sum_point M.n.toNat t (fun s => if 0 < F s K then (M'.refs lv s 64).count (a, b) else 0) (fun s => if 0 < F s K then (M.refs lv s 64).count (a, b) else 0) (by omega) (fun s _ hs => by rw [Mach.refs_bs (w.bs s hs)])
  rw [if_pos h, if_pos h] at this
  have h2 := w.count hj lv (a, b)
  simp only at this ⊢
  omega

section
variable {lv K : Nat} {Inv : Mach → Cnt → Prop} {tk : Mach → Int → Nat → Int × Mach} {dp : Mach → Nat × Nat → Mach}
/-- an entry's reference goes, by its bits -/
def leaveG (lv : Nat) (dp : Mach → Nat × Nat → Mach) (M : Mach) (n : Nat) : Mach := match rf lv n with | none => M | some r => dp M r
theorem leaveG_same (H : Lvl lv K Inv tk dp) (M : Mach) (n : Nat) : MSame M (leaveG lv dp M n) := by
  unfold leaveG; split
  · exact .refl _
  · exact H.dp_same _ _
theorem leaveG_ok (H : Lvl lv K Inv tk dp) {M : Mach} {C : Cnt} {n : Nat} {o : Int} (h : Inv M (C.plus (rf lv n).toList)) (g : good M o n) : Inv (leaveG lv dp M n) C := by
  unfold leaveG
  cases hr : rf lv n with
  | none => rw [hr] at h; simpa [Cnt.plus_nil] using h
  | some r =>
    rw [hr] at h
    simp only [Option.toList_some, Cnt.plus_one] at h
    refine H.dp_ok h hr ?_
    unfold rf at hr
    split at hr
    · rename_i hp; cases hr; exact (g.2 hp).1
    · cases hr
/-- an entry of a table in use is changed -/
theorem InvG.change (H : Lvl lv K Inv tk dp) {M M1 M2 : Mach} {F : Cnt} {t j n : Nat} (h : InvG lv K Inv M F) (ht : (t : Int) < M.n) (hp : 0 < F t K) (hj : j < 64) (e1 : (tk M (M.fr t).owner n) = (0, M1)) (w : Wrote M1 M2 t j n)
    (hw : ∀ C, Inv M1 C → 0 < C t K → Inv M2 C) : InvG lv K Inv (leaveG lv dp M2 (M.word t j)) F := by
  have e1' : (tk M (M.fr t).owner n).1 = 0 := by rw [e1]
  have s1 := H.tk_same M (M.fr t).owner n
  obtain ⟨h1, g1⟩ := H.tk_yes h.inv e1'
  rw [e1] at h1 s1
  simp only at h1 s1
  have wt : M1.word t j = M.word t j := Mach.word_bs (s1.bs t) j
  have ht1 : (t : Int) < M1.n := by rw [s1.n]; exact ht
  rw [← full_same s1] at h1
  have h2 := hw _ h1 (by
    unfold Cnt.plus
    rw [full_other H.kind]
    omega)
  rw [w.full_in hj ht1 hp, wt] at h2
  have gold : good M2 (M.fr t).owner (M.word t j) := w.good ((h.g t ht hp j hj).same s1)
  have h3 := leaveG_ok H h2 gold
  have s3 := leaveG_same H M2 (M.word t j)
  refine ⟨by rw [full_same s3]; exact h3, fun s hs hs0 q hq => ?_⟩
  rw [s3.owner, Mach.word_bs (s3.bs s), w.owner, s1.owner]
  refine good.same (w.good ?_) s3
  have hs' : (s : Int) < M.n := by rw [← s1.n, ← w.sz, ← s3.n]; exact hs
  by_cases e : s = t
  · subst e
    by_cases eq : q = j
    · subst eq; rw [w.at']; exact g1.same s1
    · rw [w.else' q eq, Mach.word_bs (s1.bs s)]; exact (h.g s ht hp q hq).same s1
  · rw [Mach.word_bs (w.bs s e), Mach.word_bs (s1.bs s)]
    exact (h.g s hs' hs0 q hq).same s1
end
end Go.Proofs.Ytemeihamkdpmoaa

/-
  Pins, roots and updates as plain functions; what they keep. No walk here.
-/
set_option linter.unusedSimpArgs false
set_option linter.unusedVariables false
namespace Go.Proofs.Ytemeihamkdpmoaa

/-- a reference as a table of a level is taken, goes -/
def refT (lv : Int) (M : Mach) (o t : Int) : Int × Mach := if lv = 1 then tabG 2 take1 M o t else tabG 3 take2 M o t
def unrefT (lv : Int) (M : Mach) (t : Nat) : Mach := if lv = 1 then untabG 1 2 dp1 M t else untabG 2 3 dp2 M t
theorem refT_no {lv : Int} {M : Mach} {o t : Int} (h : (refT lv M o t).1 ≠ 0) : (refT lv M o t).2 = M := by
  unfold refT at h ⊢
  split at h
  · rename_i e; rw [if_pos e]; exact tabG_no h
  · rename_i e; rw [if_neg e]; exact tabG_no h
theorem refT_same (lv : Int) (M : Mach) (o t : Int) : MSame M (refT lv M o t).2 := by
  unfold refT; split
  · exact tabG_same lvl1 _ _ _
  · exact tabG_same lvl2 _ _ _
theorem unrefT_same (lv : Int) (M : Mach) (t : Nat) : MSame M (unrefT lv M t) := by
  unfold unrefT; split
  · exact untabG_same lvl1 _ _
  · exact untabG_same lvl2 _ _
theorem refT_yes {lv : Int} (hl : lv = 1 ∨ lv = 2) {M : Mach} {F : Cnt} {o t : Int} (h : Inv2 M F) (he : (refT lv M o t).1 = 0) : Inv2 (refT lv M o t).2 (F.add t.toNat (lv.toNat + 1)) ∧ M.is t = true ∧ (M.fr t.toNat).owner = o := by
  unfold refT at he ⊢
  rcases hl with rfl | rfl
  · rw [if_pos rfl] at he ⊢
    obtain ⟨a, b, c, _⟩ := tabG_yes lvl1 h.inv he
    exact ⟨InvG.pass' (by decide) h (tabG_same lvl1 _ _ _) a, b, c⟩
  · rw [if_neg (by decide)] at he ⊢
    obtain ⟨a, b, c, _⟩ := tabG_yes lvl2 h he
    exact ⟨a, b, c⟩
theorem unrefT_ok {lv : Int} (hl : lv = 1 ∨ lv = 2) {M : Mach} {F : Cnt} {t : Nat} (h : Inv2 M (F.add t (lv.toNat + 1))) (ht : (t : Int) < M.n) : Inv2 (unrefT lv M t) F := by
  unfold unrefT
  rcases hl with rfl | rfl
  · rw [if_pos rfl]
    exact InvG.pass (by decide) h (untabG_same lvl1 _ _) fun C hC => untabG_ok lvl1 hC ht
  · rw [if_neg (by decide)]
    exact untabG_ok lvl2 h ht
theorem Inv2.get {m : Nat} (hm : m ≤ 1) {M : Mach} {F : Cnt} {o t : Int} (h : Inv2 M F) (he : (M.get t o m).1 = 0) : Inv2 (M.get t o m).2 (F.add t.toNat m) :=
  InvG.get (by omega) (fun h e => InvG.get (by omega) (fun h e => (CHolds.get h (by omega) e).2.2.2) h e) h he

/-- the four bytes of an entry -/
def le4 (n : Nat) : List UInt8 := [UInt8.ofNat (n % 256), UInt8.ofNat (n / 256 % 256), UInt8.ofNat (n / 65536 % 256), UInt8.ofNat (n / 16777216 % 256)]
theorem word4_le4 (n : Nat) (h : n < 4294967296) (f : Fr) (o : Nat) : word4 (f.laid o (le4 n)).bs o = n := by
  have e : ∀ k, k < 4 → (f.laid o (le4 n)).bs (o + k) = (le4 n).getD k 0 := fun k hk => by
    show (if o ≤ o + k ∧ o + k < o + (le4 n).length then _ else _) = _
    rw [if_pos ⟨by omega, by show o + k < o + 4; omega⟩, show o + k - o = k by omega]
  unfold word4
  rw [show o = o + 0 from rfl, Nat.add_zero, e 1 (by omega), e 2 (by omega), e 3 (by omega)]
  have e0 := e 0 (by omega)
  rw [Nat.add_zero] at e0
  rw [e0]
  simp only [le4, List.getD_cons_zero, List.getD_cons_succ, UInt8.toNat_ofNat']
  omega
theorem write_wrote {M : Mach} {t j n : Nat} (ht : (t : Int) < M.n) (hj : j < 64) (hn : n < 4294967296) (ho : (M.fr t).owner ≠ -1) : (M.write t (4 * j : Nat) (le4 n)).1 = 0 ∧ Wrote M (M.write t (4 * j : Nat) (le4 n)).2 t j n := by
  have e : M.write t (4 * j : Nat) (le4 n) = (0, M.upd t ((M.fr t).laid (4 * j) (le4 n))) := by
    unfold Mach.write
    rw [if_neg (by simp [Mach.is_yes (show (0 : Int) ≤ (t : Int) by omega) ht]), if_neg (by rw [inP_yes (by omega) (by simp [le4]) (by simp [le4]; omega)]; decide)]
    simp only [Int.toNat_natCast]
    rw [if_neg ho]
  rw [e]
  have hd : ∀ q, q ≠ j → ∀ r, r < 4 → ((M.fr t).laid (4 * j) (le4 n)).bs (4 * q + r) = (M.fr t).bs (4 * q + r) := fun q hq r hr => by
    show (if 4 * j ≤ 4 * q + r ∧ 4 * q + r < 4 * j + (le4 n).length then _ else _) = _
    rw [if_neg (by show ¬ (4 * j ≤ 4 * q + r ∧ 4 * q + r < 4 * j + 4); omega)]
  refine ⟨rfl, rfl, ?_, ?_, ?_, ?_, fun i hi => ?_, ?_, fun q hq => ?_⟩
  · intro i; by_cases e : i = t; (subst e; rw [Mach.upd_same]; rfl); rw [Mach.upd_other _ _ _ _ e]
  · intro i; by_cases e : i = t; (subst e; rw [Mach.upd_same]; rfl); rw [Mach.upd_other _ _ _ _ e]
  · intro i; by_cases e : i = t; (subst e; rw [Mach.upd_same]; rfl); rw [Mach.upd_other _ _ _ _ e]
  · intro i; by_cases e : i = t; (subst e; rw [Mach.upd_same]; rfl); rw [Mach.upd_other _ _ _ _ e]
  · rw [Mach.upd_other _ _ _ _ hi]
  · unfold Mach.word; rw [Mach.upd_same]; exact word4_le4 n hn _ _
  · unfold Mach.word word4
    rw [Mach.upd_same]
    have h0 := hd q hq 0 (by omega); have h1 := hd q hq 1 (by omega); have h2 := hd q hq 2 (by omega); have h3 := hd q hq 3 (by omega)
    simp only [Nat.add_zero] at h0
    rw [h0, h1, h2, h3]

/-- one entry of a table of a level changed -/
def updG (lv : Nat) (tk : Mach → Int → Nat → Int × Mach) (dp : Mach → Nat × Nat → Mach) (M : Mach) (o : Int) (t j n : Nat) : Int × Mach :=
  if (tk M o n).1 ≠ 0 then ((tk M o n).1, M) else (0, leaveG lv dp ((tk M o n).2.write t (4 * j : Nat) (le4 n)).2 (M.word t j))
def domOk (d : Int) : Bool := decide (0 ≤ d) && decide (d < 8)
def updV (M : Mach) (o t i : Int) (n : Nat) : Int × Mach :=
  if domOk o = false ∨ M.is t = false ∨ idx i = false then (1, M) else
  if (M.fr t.toNat).owner ≠ o then (12, M) else
  if (M.fr t.toNat).ty = 2 then updG 1 take1 dp1 M o t.toNat i.toNat n else
  if (M.fr t.toNat).ty = 3 then updG 2 take2 dp2 M o t.toNat i.toNat n else (5, M)
theorem CHolds.of_ty {M : Mach} {C : Cnt} (h : CHolds M C) {t k : Nat} (ht : (t : Int) < M.n) (hk : 1 ≤ k) (hty : (M.fr t).ty = k) : 0 < C t k := by
  have hc := h.cnt t ht
  by_cases h0 : (M.fr t).cnt = 0
  · have := h.ty0 t ht h0; omega
  · have : 0 < C t 1 ∨ 0 < C t 2 ∨ 0 < C t 3 := by omega
    rcases this with e | e | e
    · have := h.ty t 1 ht (by omega) (by omega) e; obtain rfl : k = 1 := (by omega); exact e
    · have := h.ty t 2 ht (by omega) (by omega) e; obtain rfl : k = 2 := (by omega); exact e
    · have := h.ty t 3 ht (by omega) (by omega) e; obtain rfl : k = 3 := (by omega); exact e
theorem updG_no {lv : Nat} {tk : Mach → Int → Nat → Int × Mach} {dp : Mach → Nat × Nat → Mach} {M : Mach} {o : Int} {t j n : Nat} (h : (updG lv tk dp M o t j n).1 ≠ 0) : (updG lv tk dp M o t j n).2 = M := by
  unfold updG at h ⊢
  split
  · rfl
  · rename_i e; rw [if_neg e] at h; exact absurd rfl h
theorem updV_no {M : Mach} {o t i : Int} {n : Nat} (h : (updV M o t i n).1 ≠ 0) : (updV M o t i n).2 = M := by
  revert h
  unfold updV
  (repeat' split) <;> intro h
  · rfl
  · rfl
  · exact updG_no h
  · exact updG_no h
  · rfl
/-- the same owners and size -/
structure MOwn (M M' : Mach) : Prop where
  n : M'.n = M.n
  owner : ∀ i, (M'.fr i).owner = (M.fr i).owner
theorem MSame.own {M M' : Mach} (h : MSame M M') : MOwn M M' := ⟨h.n, h.owner⟩
theorem MOwn.trans {M M' M2 : Mach} (h : MOwn M M') (k : MOwn M' M2) : MOwn M M2 := ⟨k.n.trans h.n, fun i => (k.owner i).trans (h.owner i)⟩
theorem write_own (M : Mach) (i off : Int) (b : List UInt8) : MOwn M (M.write i off b).2 := by
  unfold Mach.write
  split
  · exact (MSame.refl _).own
  split
  · exact (MSame.refl _).own
  split
  · exact (MSame.refl _).own
  exact ⟨rfl, fun j => by by_cases e : j = i.toNat; (subst e; rw [Mach.upd_same]; rfl); rw [Mach.upd_other _ _ _ _ e]⟩
theorem updG_own {lv K : Nat} {Inv : Mach → Cnt → Prop} {tk : Mach → Int → Nat → Int × Mach} {dp : Mach → Nat × Nat → Mach} (H : Lvl lv K Inv tk dp) (M : Mach) (o : Int) (t j n : Nat) : MOwn M (updG lv tk dp M o t j n).2 := by
  unfold updG; split
  · exact (MSame.refl _).own
  · exact ((H.tk_same _ _ _).own.trans (write_own _ _ _ _)).trans (leaveG_same H _ _).own
theorem updV_own (M : Mach) (o t i : Int) (n : Nat) : MOwn M (updV M o t i n).2 := by
  unfold updV
  split
  · exact (MSame.refl _).own
  split
  · exact (MSame.refl _).own
  split
  · exact updG_own lvl1 _ _ _ _ _
  split
  · exact updG_own lvl2 _ _ _ _ _
  · exact (MSame.refl _).own
theorem updV_ok {M : Mach} {F : Cnt} {o t i : Int} {n : Nat} (h : Inv2 M F) (hn : n < 4294967296) : Inv2 (updV M o t i n).2 F := by
  by_cases he : (updV M o t i n).1 ≠ 0
  · rw [updV_no he]; exact h
  revert he
  unfold updV
  split
  · intro; exact h
  rename_i h1
  split
  · intro; exact h
  rename_i h2
  have ho : (M.fr t.toNat).owner = o := by simpa using h2
  have hd : domOk o = true := by cases e : domOk o; (exact absurd (.inl e) h1); rfl
  have hi : M.is t = true := by cases e : M.is t; (exact absurd (.inr (.inl e)) h1); rfl
  have hx : idx i = true := by cases e : idx i; (exact absurd (.inr (.inr e)) h1); rfl
  obtain ⟨i0, i1⟩ := Mach.is_iff.1 hi
  have hx' : 0 ≤ i ∧ i < 64 := by simpa [idx] using hx
  have hd' : 0 ≤ o ∧ o < 8 := by simpa [domOk] using hd
  obtain ⟨tn, rfl⟩ := Int.eq_ofNat_of_zero_le i0
  obtain ⟨j, rfl⟩ := Int.eq_ofNat_of_zero_le hx'.1
  simp only [Int.toNat_natCast] at *
  have hj : j < 64 := by omega
  have hC : CHolds M (full 1 2 M (full 2 3 M F)) := h.inv.inv
  split
  · rename_i hty
    intro he
    have hp : 0 < full 2 3 M F tn 2 := by have := hC.of_ty i1 (k := 2) (by omega) hty; rwa [full1_2] at this
    have hz : F tn 3 = 0 := by
      have := (hC.only i1 (k := 2) (by omega) (by omega) (by rw [full1_2]; exact hp)).2 3 (by omega) (by omega) (by omega)
      rw [full1_3, full_other (rf_two_ne (by decide))] at this
      exact this
    unfold updG at he ⊢
    by_cases e1 : (take1 M o n).1 = 0
    · rw [if_neg (by simpa using e1)]
      have s1 := lvl1.tk_same M o n
      obtain ⟨_, w⟩ := write_wrote (M := (take1 M o n).2) (t := tn) (j := j) (n := n) (by rw [s1.n]; exact i1) hj hn (by rw [s1.owner, ho]; omega)
      have h3 := InvG.change lvl1 h.inv i1 hp hj (show take1 M (M.fr tn).owner n = (0, (take1 M o n).2) by rw [ho]; exact Prod.ext e1 rfl) w fun C hC _ => w.holds hC
      have s3 := leaveG_same lvl1 ((take1 M o n).2.write tn (4 * j : Nat) (le4 n)).2 (M.word tn j)
      have ef : full 2 3 (leaveG 1 dp1 ((take1 M o n).2.write tn (4 * j : Nat) (le4 n)).2 (M.word tn j)) F = full 2 3 M F := by
        rw [full_same s3, w.full hz, full_same s1]
      refine ⟨by simp only; rw [ef]; exact h3, fun s hs hs0 q hq => ?_⟩
      simp only at hs ⊢
      have e : s ≠ tn := fun e => by subst e; omega
      rw [s3.owner, Mach.word_bs (s3.bs s), w.owner, Mach.word_bs (w.bs s e), s1.owner, Mach.word_bs (s1.bs s)]
      exact (w.good ((h.g s (by rw [← s1.n, ← w.sz, ← s3.n]; exact hs) hs0 q hq).same s1)).same s3
    · rw [if_pos (by simpa using e1)] at he; exact absurd e1 he
  split
  · rename_i _ hty
    intro he
    have hp : 0 < F tn 3 := by have := hC.of_ty i1 (k := 3) (by omega) hty; rwa [full1_3, full_other (rf_two_ne (by decide))] at this
    unfold updG at he ⊢
    by_cases e1 : (take2 M o n).1 = 0
    · rw [if_neg (by simpa using e1)]
      have s1 := lvl2.tk_same M o n
      obtain ⟨_, w⟩ := write_wrote (M := (take2 M o n).2) (t := tn) (j := j) (n := n) (by rw [s1.n]; exact i1) hj hn (by rw [s1.owner, ho]; omega)
      exact InvG.change lvl2 h i1 hp hj (show take2 M (M.fr tn).owner n = (0, (take2 M o n).2) by rw [ho]; exact Prod.ext e1 rfl) w fun C hC h3 => w.inv1 hC (by
        have := (hC.inv.only (i := tn) (k := 3) (by rw [s1.n]; exact i1) (by omega) (by omega) (by rw [full1_3]; exact h3)).2 2 (by omega) (by omega) (by omega)
        rwa [full1_2] at this)
    · rw [if_pos (by simpa using e1)] at he; exact absurd e1 he
  · intro; exact h
end Go.Proofs.Ytemeihamkdpmoaa
