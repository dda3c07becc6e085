/-
  Plain theory of package path (no program): names, paths, joining, under.
-/
import Derived.Lib.SplitLaws
import Derived.Lib.Join
import Derived.Lib.JoinLaws
import Derived.Lib.Strings
import Derived.Lib.CountLaws
import Derived.Below
set_option linter.unusedSimpArgs false
set_option linter.unusedVariables false
namespace Go.Proofs.YtmnolfaejneomaaDoor
open Go.Lib Go.RowKit
theorem hid {p : Prop} (h : p) : Hid p := h

/-! ### Names -/
def inNameB (c : Nat) : Bool := 97 ≤ c && c ≤ 122 || 65 ≤ c && c ≤ 90 || 48 ≤ c && c ≤ 57 || c == 45 || c == 95 || c == 46 || c == 64
theorem inNameB_high {c : Nat} (h : 128 ≤ c) : inNameB c = false := by
  simp only [inNameB, Bool.or_eq_false_iff, Bool.and_eq_false_iff, decide_eq_false_iff_not, beq_eq_false_iff_ne]
  omega
theorem inNameB_low {c : Nat} (h : inNameB c = true) : c < 128 := by
  by_cases hc : c < 128
  · exact hc
  · rw [inNameB_high (by omega)] at h; cases h

def nmGo : List UInt8 → Nat → Nat × Nat
  | [], _ => (0, 0)
  | c :: t, i => if inNameB c.toNat = true then (if i = 32 then (i, 2) else nmGo t (i + 1)) else (i, 90)
def nmV (l : List UInt8) : Nat × Nat := if l = [] then (0, 90) else nmGo l 0
def nmOk (l : List UInt8) : Bool := (nmV l).2 == 0

theorem nmGo_e (l : List UInt8) : ∀ i, (nmGo l i).2 = 0 ∨ (nmGo l i).2 = 2 ∨ (nmGo l i).2 = 90 := by
  induction l with
  | nil => intro i; exact .inl rfl
  | cons c t ih =>
    intro i
    unfold nmGo
    split
    · split
      · exact .inr (.inl rfl)
      · exact ih _
    · exact .inr (.inr rfl)
theorem nmV_e (l : List UInt8) : (nmV l).2 = 0 ∨ (nmV l).2 = 2 ∨ (nmV l).2 = 90 := by
  unfold nmV
  split
  · exact .inr (.inr rfl)
  · exact nmGo_e _ _
theorem nmGo_at (l : List UInt8) : ∀ i, i ≤ 32 → (nmGo l i).1 ≤ 32 ∧ (nmGo l i).1 ≤ i + l.length := by
  induction l with
  | nil => intro i _; exact ⟨Nat.zero_le _, Nat.zero_le _⟩
  | cons c t ih =>
    intro i hi
    unfold nmGo
    split
    · split
      · exact ⟨by simpa using hi, by simp⟩
      · have := ih (i + 1) (by omega)
        refine ⟨this.1, ?_⟩
        have h2 := this.2
        simp only [List.length_cons]
        omega
    · exact ⟨by simpa using hi, by simp⟩
theorem nmV_at (l : List UInt8) : (nmV l).1 ≤ 32 := by
  unfold nmV
  split
  · exact Nat.zero_le _
  · exact (nmGo_at l 0 (Nat.zero_le _)).1
/-- Letters ahead of the place: the scan goes on. -/
theorem nmGo_app (a b : List UInt8) : ∀ i, i + a.length ≤ 32 → (∀ c ∈ a, inNameB c.toNat = true) → nmGo (a ++ b) i = nmGo b (i + a.length) := by
  induction a with
  | nil => intro i _ _; rfl
  | cons c t ih =>
    intro i hi ha
    simp only [List.length_cons] at hi
    rw [List.cons_append, nmGo, if_pos (ha c (List.mem_cons_self ..)), if_neg (by omega), ih (i + 1) (by omega) (fun x hx => ha x (List.mem_cons_of_mem _ hx))]
    congr 1
    simp only [List.length_cons]; omega
theorem nmGo_ok {l : List UInt8} : ∀ {i}, i ≤ 32 → (nmGo l i).2 = 0 → i + l.length ≤ 32 ∧ ∀ c ∈ l, inNameB c.toNat = true := by
  induction l with
  | nil => intro i hi _; exact ⟨by simpa using hi, by simp⟩
  | cons c t ih =>
    intro i hi h
    unfold nmGo at h
    split at h
    · rename_i hc
      split at h
      · cases h
      · have := ih (by omega) h
        refine ⟨by simp only [List.length_cons]; omega, ?_⟩
        intro x hx
        rcases List.mem_cons.1 hx with rfl | hx
        · exact hc
        · exact this.2 x hx
    · cases h
theorem nmV_ok {l : List UInt8} (h : (nmV l).2 = 0) : l ≠ [] ∧ l.length ≤ 32 ∧ ∀ c ∈ l, inNameB c.toNat = true := by
  unfold nmV at h
  split at h
  · cases h
  · rename_i hl
    have := nmGo_ok (Nat.zero_le _) h
    exact ⟨hl, by omega, this.2⟩

/-! ### Segments -/
def segs : List UInt8 → List (List UInt8)
  | [] => [[]]
  | c :: t => if c = 47 then [] :: segs t else match segs t with
    | [] => [[c]]
    | x :: r => (c :: x) :: r
theorem segs_ne (l : List UInt8) : segs l ≠ [] := by
  cases l with
  | nil => simp [segs]
  | cons c t =>
    unfold segs
    split
    · simp
    · split <;> simp
theorem segs_cons_ne {c : UInt8} {t : List UInt8} (h : c ≠ 47) {x : List UInt8} {r : List (List UInt8)} (hs : segs t = x :: r) : segs (c :: t) = (c :: x) :: r := by
  rw [segs, if_neg h, hs]
theorem segs_join (l : List UInt8) : join (segs l) [47] = l := by
  induction l with
  | nil => simp [segs, join_one]
  | cons c t ih =>
    by_cases h : c = 47
    · subst h
      rw [segs, if_pos rfl]
      obtain ⟨x, r, hs⟩ : ∃ x r, segs t = x :: r := by
        cases hs : segs t with
        | nil => exact absurd hs (segs_ne t)
        | cons x r => exact ⟨x, r, rfl⟩
      rw [hs] at ih ⊢
      rw [join_cons, List.nil_append]
      rw [join_cons] at ih
      simp only [joinTail, List.map_cons, List.flatten_cons, List.cons_append, List.nil_append] at ih ⊢
      rw [ih]
    · obtain ⟨x, r, hs⟩ : ∃ x r, segs t = x :: r := by
        cases hs : segs t with
        | nil => exact absurd hs (segs_ne t)
        | cons x r => exact ⟨x, r, rfl⟩
      rw [segs_cons_ne h hs, join_cons, List.cons_append]
      rw [hs, join_cons] at ih
      rw [ih]

theorem index47_cons_eq (t : List UInt8) : index (47 :: t) [47] = ((0 : Nat) : Int) := by rw [index]; simp [List.isPrefixOf]
theorem index47_cons_ne {c : UInt8} {t : List UInt8} (h : c ≠ 47) : index (c :: t) [47] = if index t [47] == -1 then -1 else index t [47] + 1 := by
  have hp : ([47] : List UInt8).isPrefixOf (c :: t) = false := by simp [List.isPrefixOf, Ne.symm h]
  rw [index, hp]; simp
theorem splitK_segs : ∀ (l : List UInt8), splitK [47] 0 (count l [47]) l = segs l
  | [] => by rw [count_miss (by simp [index])]; rfl
  | c :: t => by
    have ih := splitK_segs t
    by_cases h : c = 47
    · subst h
      rw [count_cons_eq, Nat.add_comm, splitK, index47_cons_eq, segs, if_pos rfl, ← ih]
      simp
    · rw [count_cons_ne c 47 t h]
      have hix := index47_cons_ne (t := t) h
      by_cases hm : index t [47] = -1
      · rw [count_miss hm] at ih ⊢
        rw [segs_cons_ne h (x := t) (r := []) ih.symm]
        rfl
      · have hge := index_ge t [47]
        obtain ⟨j, hj⟩ : ∃ j : Nat, index t [47] = j := ⟨(index t [47]).toNat, by omega⟩
        have hix' : index (c :: t) [47] = ((j + 1 : Nat) : Int) := by rw [hix, if_neg (fun e => hm (beq_iff_eq.1 e)), hj]; omega
        obtain ⟨k, hk⟩ : ∃ k, count t [47] = k + 1 := ⟨count t [47] - 1, by have := count_hit (sub := [47]) (by simp) hj; omega⟩
        rw [hk] at ih ⊢
        have e1 : ¬ (index t [47] == -1) = true := fun e => hm (beq_iff_eq.1 e)
        have e2 : ¬ (index (c :: t) [47] == -1) = true := fun e => by have := beq_iff_eq.1 e; omega
        rw [splitK, if_neg e1, hj] at ih
        rw [splitK, if_neg e2, hix']
        simp only [Int.toNat_natCast, Nat.add_zero, List.length_cons, List.length_nil, Nat.zero_add, List.drop_succ_cons, List.take_succ_cons] at ih ⊢
        rw [segs_cons_ne h ih.symm]
theorem splitB_segs (s : ByteArray) : (splitB ⟨#[47]⟩ 0 (countB s ⟨#[47]⟩) s).map (·.data.toList) = segs s.data.toList := by
  rw [splitB_data]
  exact splitK_segs _

/-! ### Paths -/
def pgGo : List (List UInt8) → Nat → Nat → Nat × Nat
  | [], _, _ => (0, 0)
  | x :: r, n, place => if n = 8 then (place, 2) else if (nmV x).2 = 0 then pgGo r (n + 1) (place + x.length + 1) else (place + (nmV x).1, (nmV x).2)
def psV (l : List UInt8) : List (List UInt8) × Nat × Nat :=
  if 256 < l.length then ([], 0, 2) else match l with
  | [] => ([], 0, 90)
  | c :: t => if c = 47 then (if t = [] then ([], 0, 0) else if (pgGo (segs t) 0 1).2 = 0 then (segs t, 0, 0) else ([], (pgGo (segs t) 0 1).1, (pgGo (segs t) 0 1).2)) else ([], 0, 90)
def psOk (l : List UInt8) : Bool := (psV l).2.2 == 0

theorem pgGo_ok : ∀ {l : List (List UInt8)} {n p}, n ≤ 8 → (pgGo l n p).2 = 0 → n + l.length ≤ 8 ∧ ∀ x ∈ l, (nmV x).2 = 0
  | [], n, p, hn, _ => ⟨by simpa using hn, by simp⟩
  | x :: r, n, p, hn, h => by
    rw [pgGo] at h
    split at h
    · cases h
    · split at h
      · rename_i hx
        have := pgGo_ok (by omega) h
        refine ⟨by simp only [List.length_cons]; omega, ?_⟩
        intro y hy
        rcases List.mem_cons.1 hy with rfl | hy
        · exact hx
        · exact this.2 y hy
      · rename_i h1 h2; exact absurd h h2
theorem pgGo_e : ∀ (l : List (List UInt8)) (n p : Nat), (pgGo l n p).2 = 0 ∨ (pgGo l n p).2 = 2 ∨ (pgGo l n p).2 = 90
  | [], n, p => .inl rfl
  | x :: r, n, p => by
    rw [pgGo]
    split
    · exact .inr (.inl rfl)
    · split
      · exact pgGo_e r _ _
      · exact nmV_e x
theorem pgGo_zero : ∀ (l : List (List UInt8)) (n p : Nat), (pgGo l n p).2 = 0 → pgGo l n p = (0, 0)
  | [], n, p, _ => rfl
  | x :: r, n, p, h => by
    rw [pgGo] at h ⊢
    split at h
    · cases h
    · rename_i h8
      rw [if_neg h8]
      split at h
      · rename_i hx; rw [if_pos hx]; exact pgGo_zero r _ _ h
      · rename_i h2; exact absurd h h2
theorem psV_ok {l : List UInt8} (h : (psV l).2.2 = 0) : l.length ≤ 256 ∧ (psV l).1.length ≤ 8 ∧ (∀ x ∈ (psV l).1, (nmV x).2 = 0) ∧ l = 47 :: join (psV l).1 [47] := by
  unfold psV at h ⊢
  split at h
  · cases h
  · rename_i hl
    rw [if_neg hl]
    cases l with
    | nil => cases h
    | cons c t =>
      simp only at h ⊢
      split at h
      · rename_i hc
        rw [if_pos hc]
        subst hc
        split at h
        · rename_i ht
          rw [if_pos ht]
          subst ht
          exact ⟨by simp, by simp, by simp, by simp [join_nil]⟩
        · rename_i ht
          rw [if_neg ht]
          split at h
          · rename_i hp
            rw [if_pos hp]
            have := pgGo_ok (Nat.zero_le _) hp
            exact ⟨by omega, by simpa using this.1, this.2, by rw [segs_join]⟩
          · rename_i hp; exact absurd h hp
      · cases h
theorem psV_none {l : List UInt8} (h : (psV l).2.2 ≠ 0) : (psV l).1 = [] := by
  unfold psV at h ⊢
  split at h
  · rename_i hl; rw [if_pos hl]
  · rename_i hl
    rw [if_neg hl]
    cases l with
    | nil => rfl
    | cons c t =>
      simp only at h ⊢
      split at h
      · rename_i hc
        rw [if_pos hc]
        split at h
        · rename_i ht; rw [if_pos ht]
        · rename_i ht
          rw [if_neg ht]
          split at h
          · exact absurd rfl h
          · rename_i hp; rw [if_neg hp]
      · rename_i hc; rw [if_neg hc]
theorem psV_len (l : List UInt8) : (psV l).1.length ≤ 8 := by
  by_cases h : (psV l).2.2 = 0
  · exact (psV_ok h).2.1
  · rw [psV_none h]; exact Nat.zero_le _

/-! ### Join -/
def jnE : List (List UInt8) → Nat
  | [] => 0
  | x :: r => if (nmV x).2 = 0 then jnE r else (nmV x).2
def jnV (l : List (List UInt8)) : List UInt8 × Nat :=
  if 8 < l.length then ([], 2) else if jnE l = 0 then (if 256 < (47 :: join l [47]).length then ([], 2) else (47 :: join l [47], 0)) else ([], jnE l)
theorem jnE_zero : ∀ {l : List (List UInt8)}, (∀ x ∈ l, (nmV x).2 = 0) → jnE l = 0
  | [], _ => rfl
  | x :: r, h => by rw [jnE, if_pos (h x (List.mem_cons_self ..))]; exact jnE_zero fun y hy => h y (List.mem_cons_of_mem _ hy)
theorem jnV_back {l : List UInt8} (h : (psV l).2.2 = 0) : jnV (psV l).1 = (l, 0) := by
  have := psV_ok h
  unfold jnV
  rw [if_neg (by omega), if_pos (jnE_zero this.2.2.1), ← this.2.2.2, if_neg (by omega)]

/-! ### Under -/
def unV (a b : List UInt8) : Bool := psOk a && psOk b && (psV a).1.isPrefixOf (psV b).1
theorem unV_self {a : List UInt8} (h : psOk a = true) : unV a a = true := by simp [unV, h]
theorem unV_root {a : List UInt8} (h : psOk a = true) : unV [47] a = true := by
  have h1 : psV [47] = ([], 0, 0) := by simp [psV]
  have h2 : psOk [47] = true := by simp [psOk, h1]
  simp [unV, h, h2, h1]
theorem unV_trans {a b c : List UInt8} (h : unV a b = true) (k : unV b c = true) : unV a c = true := by
  simp only [unV, Bool.and_eq_true, List.isPrefixOf_iff_prefix] at h k ⊢
  exact ⟨⟨h.1.1, k.1.2⟩, h.2.trans k.2⟩
theorem unV_anti {a b : List UInt8} (h : unV a b = true) (k : unV b a = true) : a = b := by
  simp only [unV, Bool.and_eq_true, List.isPrefixOf_iff_prefix] at h k
  have e : (psV a).1 = (psV b).1 := h.2.eq_of_length_le k.2.length_le
  have ha := psV_ok (beq_iff_eq.1 h.1.1)
  have hb := psV_ok (beq_iff_eq.1 h.1.2)
  rw [ha.2.2.2, hb.2.2.2, e]
theorem unV_no {a b : List UInt8} (h : psOk a = false) : unV a b = false ∧ unV b a = false := by simp [unV, h]
theorem unV_one : unV [47, 97] [47, 97, 47, 98] = true := by decide
theorem unV_two : unV [47, 97] [47, 97, 98] = false := by decide

/-! ### The reference's loop over a path -/
def rfGo : List (List UInt8) → List UInt8 → Nat → List UInt8 → List (List UInt8) × Nat × Nat
  | acc, cur, i, [] => if cur = [] then (if acc.length = 8 then ([], i, 2) else ([], i, 90)) else (acc ++ [cur], 0, 0)
  | acc, cur, i, c :: t =>
    if c = 47 then (if cur = [] then (if acc.length = 8 then ([], i, 2) else ([], i, 90)) else rfGo (acc ++ [cur]) [] (i + 1) t)
    else if cur = [] ∧ acc.length = 8 then ([], i, 2)
    else if inNameB c.toNat = true then (if cur.length = 32 then ([], i, 2) else rfGo acc (cur ++ [c]) (i + 1) t)
    else ([], i, 90)
def pgR (acc l : List (List UInt8)) (p : Nat) : List (List UInt8) × Nat × Nat :=
  if (pgGo l acc.length p).2 = 0 then (acc ++ l, 0, 0) else ([], (pgGo l acc.length p).1, (pgGo l acc.length p).2)
theorem pgR_long {acc : List (List UInt8)} {x : List UInt8} {r : List (List UInt8)} {p : Nat} (h : acc.length = 8) : pgR acc (x :: r) p = ([], p, 2) := by
  simp [pgR, pgGo, h]
theorem pgR_bad {acc : List (List UInt8)} {x : List UInt8} {r : List (List UInt8)} {p : Nat} (h : acc.length ≠ 8) {a e : Nat} (hx : nmV x = (a, e)) (he : e ≠ 0) : pgR acc (x :: r) p = ([], p + a, e) := by
  simp [pgR, pgGo, h, hx, he]
theorem pgR_good {acc : List (List UInt8)} {x : List UInt8} {r : List (List UInt8)} {p : Nat} (h : acc.length ≠ 8) (hx : (nmV x).2 = 0) : pgR acc (x :: r) p = pgR (acc ++ [x]) r (p + x.length + 1) := by
  simp [pgR, pgGo, h, hx]
theorem nmV_pre {cur b : List UInt8} (hc : ∀ c ∈ cur, inNameB c.toNat = true) (hl : cur.length ≤ 32) (hne : cur ++ b ≠ []) : nmV (cur ++ b) = nmGo b cur.length := by
  unfold nmV
  rw [if_neg hne, nmGo_app cur b 0 (by omega) hc, Nat.zero_add]
theorem rfGo_eq : ∀ (t : List UInt8) (acc : List (List UInt8)) (cur : List UInt8) (i : Nat), (∀ c ∈ cur, inNameB c.toNat = true) → cur.length ≤ 32 → (cur ≠ [] → acc.length ≠ 8) → cur.length ≤ i →
    ∀ x r, segs t = x :: r → rfGo acc cur i t = pgR acc ((cur ++ x) :: r) (i - cur.length)
  | [], acc, cur, i, hc, hl, h8, hi, x, r, hs => by
    simp only [segs, List.cons.injEq] at hs
    obtain ⟨rfl, rfl⟩ := hs
    rw [rfGo, List.append_nil]
    by_cases hcur : cur = []
    · subst hcur
      rw [if_pos rfl]
      by_cases h : acc.length = 8
      · rw [if_pos h, pgR_long h]; simp
      · rw [if_neg h, pgR_bad h (a := 0) (e := 90) (by simp [nmV]) (by decide)]; simp
    · have hn := nmV_pre (b := []) hc hl (by simpa using hcur)
      rw [List.append_nil] at hn
      rw [if_neg hcur, pgR_good (h8 hcur) (by rw [hn]; rfl)]
      simp [pgR, pgGo]
  | c :: t, acc, cur, i, hc, hl, h8, hi, x, r, hs => by
    by_cases h47 : c = 47
    · subst h47
      rw [segs, if_pos rfl, List.cons.injEq] at hs
      obtain ⟨rfl, rfl⟩ := hs
      rw [rfGo, if_pos rfl, List.append_nil]
      by_cases hcur : cur = []
      · subst hcur
        rw [if_pos rfl]
        by_cases h : acc.length = 8
        · rw [if_pos h, pgR_long h]; simp
        · rw [if_neg h, pgR_bad h (a := 0) (e := 90) (by simp [nmV]) (by decide)]; simp
      · have hn := nmV_pre (b := []) hc hl (by simpa using hcur)
        rw [List.append_nil] at hn
        obtain ⟨y, q, hy⟩ : ∃ y q, segs t = y :: q := by
          cases hs : segs t with
          | nil => exact absurd hs (segs_ne t)
          | cons y q => exact ⟨y, q, rfl⟩
        rw [if_neg hcur, pgR_good (h8 hcur) (by rw [hn]; rfl), hy, rfGo_eq t (acc ++ [cur]) [] (i + 1) (by simp) (by simp) (by simp) (by simp) y q hy]
        congr 1
        simp only [List.length_nil]
        omega
    · obtain ⟨y, q, hy⟩ : ∃ y q, segs t = y :: q := by
        cases hs : segs t with
        | nil => exact absurd hs (segs_ne t)
        | cons y q => exact ⟨y, q, rfl⟩
      rw [segs_cons_ne h47 hy, List.cons.injEq] at hs
      obtain ⟨rfl, rfl⟩ := hs
      have hn := nmV_pre (b := c :: y) hc hl (by simp)
      rw [rfGo, if_neg h47]
      by_cases hlong : cur = [] ∧ acc.length = 8
      · rw [if_pos hlong]
        obtain ⟨rfl, h⟩ := hlong
        rw [pgR_long h]; simp
      · rw [if_neg hlong]
        have h8' : acc.length ≠ 8 := fun e => by
          by_cases hcur : cur = []
          · exact hlong ⟨hcur, e⟩
          · exact h8 hcur e
        by_cases hin : inNameB c.toNat = true
        · rw [if_pos hin]
          by_cases h32 : cur.length = 32
          · rw [if_pos h32, pgR_bad h8' (a := cur.length) (e := 2) (by rw [hn, nmGo, if_pos hin, if_pos h32]) (by decide)]
            congr 2; omega
          · rw [if_neg h32, rfGo_eq t acc (cur ++ [c]) (i + 1) (by
              intro z hz
              rcases List.mem_append.1 hz with hz | hz
              · exact hc z hz
              · rw [List.mem_singleton.1 hz]; exact hin) (by simp; omega) (fun _ => h8') (by simp; omega) y q hy]
            rw [List.append_assoc, List.singleton_append]
            congr 1
            simp
        · rw [if_neg hin, pgR_bad h8' (a := cur.length) (e := 90) (by rw [hn, nmGo, if_neg hin]) (by decide)]
          congr 2; omega
theorem rfGo_psV (t : List UInt8) (ht : t ≠ []) (hl : (47 :: t).length ≤ 256) : rfGo [] [] 1 t = psV (47 :: t) := by
  obtain ⟨y, q, hy⟩ : ∃ y q, segs t = y :: q := by
    cases hs : segs t with
    | nil => exact absurd hs (segs_ne t)
    | cons y q => exact ⟨y, q, rfl⟩
  rw [rfGo_eq t [] [] 1 (by simp) (by simp) (by simp) (by simp) y q hy]
  unfold psV
  rw [if_neg (by omega)]
  simp only [if_true, if_neg ht, hy, pgR, List.nil_append, List.length_nil, Nat.sub_zero]
end Go.Proofs.YtmnolfaejneomaaDoor
