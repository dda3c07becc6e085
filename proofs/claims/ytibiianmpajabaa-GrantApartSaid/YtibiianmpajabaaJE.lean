/-
  GrantApart on plain data. No walk here.
-/
import Derived.Test.YtibiianmpajabaaJD
import Derived.Test.YtibiianmpajabaaJ4
import Derived.Test.YtibiianmpajabaaJ3
import Derived.Test.YtibiianmpajabaaPhysE
import Derived.Test.YtibiianmpajabaaJ9
import Derived.Test.YtibiianmpajabaaJ5
set_option linter.unusedSimpArgs false
set_option linter.unusedVariables false
namespace Go.Proofs.Ytibiianmpajabaa
open Go.RowKit KM
set_option maxRecDepth 100000

/-- what stands through GrantApart -/
structure AS (s : Gs) : Prop where
  ok : s.M.ok 3
  n : s.M.n = 13
  mem : ∀ d : Nat, s.g.mem d = if d < 3 then some (4 * (d : Int), d) else none
  pl : ∀ d : Nat, d < 3 → ∀ p m : Int, (s.P d).getE p = (m, 0) → ∃ i : Nat, i < 4 ∧ p = i ∧ m = 4 * (d : Int) + i
  ow : ∀ d i : Nat, d < 3 → i < 4 → (s.M.fr (4 * d + i)).owner = d
theorem bst_pl : ((List.range 3).all fun d => ((bst 3).P d).n == 8 && (List.range 8).all fun p => decide (((bst 3).P d).getE (p : Int) = if p < 4 then (4 * (d : Int) + p, 0) else (0, 6))) = true := by kernel_rfl
theorem bst_ow : ((List.range 3).all fun d => (List.range 4).all fun i => ((bst 3).M.fr (4 * d + i)).owner == (d : Int)) = true := by kernel_rfl
theorem AS.start : AS (bst 3) where
  ok := bst_ok 3
  n := by kernel_rfl
  mem := fun d => by
    rw [bst_g3]
    match d with
    | 0 => rfl
    | 1 => rfl
    | 2 => rfl
    | d + 3 => simp [Gst.setMem, gst0]
  pl := fun d hd p m h => by
    have h1 := List.all_eq_true.1 bst_pl d (by simpa using hd)
    simp only [Bool.and_eq_true, beq_iff_eq] at h1
    obtain ⟨hn, h2⟩ := h1
    have hp : 0 ≤ p ∧ p < 8 := by
      cases hb : inPl 8 p with
      | false =>
        unfold Mp.getE at h
        rw [hn, hb, if_neg (by simp)] at h
        exact absurd (show (1 : Int) = 0 from congrArg Prod.snd h) (by decide)
      | true => simpa using inPl_yes.1 hb
    obtain ⟨j, rfl⟩ := Int.eq_ofNat_of_zero_le hp.1
    have h3 := of_decide_eq_true (List.all_eq_true.1 h2 j (by simp; omega))
    rw [h3] at h
    by_cases hj : j < 4
    · rw [if_pos hj] at h
      exact ⟨j, hj, rfl, (congrArg Prod.fst h).symm⟩
    · rw [if_neg hj] at h
      exact absurd (show (6 : Int) = 0 from congrArg Prod.snd h) (by decide)
  ow := fun d i hd hi => by
    have h1 := List.all_eq_true.1 bst_ow d (by simpa using hd)
    have h2 := List.all_eq_true.1 h1 i (by simpa using hi)
    simpa using h2
section
variable {s s1 : Gs} {c d r : Int} {gr : Bool}
theorem AS.write (h : AS s) (i off : Int) (l : List UInt8) : AS (s.setM (s.M.write i off l).2) :=
  ⟨Mach.write_ok h.ok _ _ _, (Mach.vwrite_n _ _ _ _).trans h.n, h.mem, h.pl, fun d k hd hk => (fr_write_keeps _ _ _ _ _).1.trans (h.ow d k hd hk)⟩
theorem AS.lay (h : AS s) (e : Ent) : AS (layS s e) := by
  unfold layS layM
  split
  · exact h.write _ _ _
  · exact h
theorem AS.lays (h : AS s) (l : List Ent) : AS (lays s l) := by
  unfold Go.Proofs.Ytibiianmpajabaa.lays
  induction l generalizing s with
  | nil => exact h
  | cons e l ih => exact ih (h.lay e)
theorem AS.lt (h : AS s) : ∀ d t i, s.g.mem d = some (t, i) → i < 3 := fun d t i e => by
  rw [h.mem] at e
  split at e
  · cases e; assumption
  · cases e
/-- where a push may write -/
def Perm (s : Gs) (c : Int) (gr : Bool) (d r m off : Int) (len : Nat) : Prop :=
  (∃ o i : Nat, o < 3 ∧ i < 4 ∧ c = o ∧ m = 4 * (o : Int) + i) ∨
  (gr = true ∧ ∃ dn rn i : Nat, dn < 3 ∧ rn < 32 ∧ i < 4 ∧ d = dn ∧ r = rn ∧ m = 4 * (dn : Int) + i ∧ ∃ g : GV, entV (s.entB dn rn) 1 c = some g ∧ g.ro = false ∧ g.gpfn = i ∧ g.off ≤ off ∧ off + len ≤ g.off + g.len)
/-- what a push leaves -/
def Lft (s : Gs) (c : Int) (gr : Bool) (d r : Int) (s1 : Gs) : Prop := s1 = s ∨ ∃ (m off : Int) (b : List UInt8), s1 = s.setM (s.M.write m off b).2 ∧ Perm s c gr d r m off b.length
theorem Lft.as (h : AS s) (hl : Lft s c gr d r s1) : AS s1 := by
  rcases hl with rfl | ⟨m, off, b, rfl, -⟩
  · exact h
  · exact h.write _ _ _
theorem AS.place (h : AS s) {p m : Int} (he : s.placeE c p = (m, 0)) : ∃ o i : Nat, o < 3 ∧ i < 4 ∧ c = o ∧ m = 4 * (o : Int) + i := by
  unfold Gs.placeE at he
  split at he
  · exact absurd (show (1 : Int) = 0 from congrArg Prod.snd he) (by decide)
  · rename_i hj
    have hj : s.g.joined c = true := by simpa using hj
    obtain ⟨⟨hc0, hc1⟩, ⟨t, i⟩, hm⟩ := Gst.joined_yes.1 hj
    obtain ⟨o, rfl⟩ := Int.eq_ofNat_of_zero_le hc0
    rw [Int.toNat_natCast] at hm he
    have hmo := h.mem o
    rw [hm] at he hmo
    simp only at he
    by_cases ho : o < 3
    · rw [if_pos ho] at hmo
      simp only [Option.some.injEq, Prod.mk.injEq] at hmo
      rw [hmo.2] at he
      obtain ⟨q, hq, -, hm⟩ := h.pl o ho p m he
      exact ⟨o, q, ho, hq, rfl, hm⟩
    · rw [if_neg ho] at hmo
      cases hmo
theorem AS.isM (h : AS s) {m : Int} {o i : Nat} (ho : o < 3) (hi : i < 4) (hm : m = 4 * (o : Int) + i) : s.M.is m = true := Mach.is_yes (by omega) (by rw [h.n]; omega)
theorem AS.slot (h : AS s) (hs : s.g.slot d r = true) : ∃ dn rn : Nat, dn < 3 ∧ rn < 32 ∧ d = dn ∧ r = rn ∧ s.g.mem dn = some (4 * (dn : Int), dn) := by
  obtain ⟨⟨⟨h0, h1⟩, ⟨t, i⟩, hm⟩, h2, h3⟩ := Gst.slot_yes.1 hs
  obtain ⟨dn, rfl⟩ := Int.eq_ofNat_of_zero_le h0
  obtain ⟨rn, rfl⟩ := Int.eq_ofNat_of_zero_le h2
  rw [Int.toNat_natCast] at hm
  have hmo := h.mem dn
  rw [hm] at hmo
  by_cases ho : dn < 3
  · rw [if_pos ho] at hmo
    exact ⟨dn, rn, ho, by omega, rfl, rfl, hm.trans hmo⟩
  · rw [if_neg ho] at hmo
    cases hmo
theorem AS.endG (h : AS s) {m : Int} {dn rn : Nat} (hd : dn < 3) {g : GV} (he : s.endG (s.entB dn rn) c dn = some (m, g)) : ∃ i : Nat, i < 4 ∧ g.gpfn = i ∧ m = 4 * (dn : Int) + i ∧ entV (s.entB dn rn) 1 c = some g := by
  have h1 := (Gs.endG_ok he).1
  unfold Gs.endG at he
  rw [h1] at he
  simp only at he
  cases hD : s.granted dn g.gpfn with
  | none => rw [hD] at he; cases he
  | some m' =>
    rw [hD] at he
    simp only [Option.some.injEq, Prod.mk.injEq, and_true] at he
    subst he
    unfold Gs.granted at hD
    rw [Int.toNat_natCast, h.mem, if_pos hd] at hD
    simp only at hD
    split at hD
    · rename_i hh
      cases hD
      obtain ⟨i, hi, hp, hm⟩ := h.pl dn hd g.gpfn ((s.P dn).getE g.gpfn).1 (Prod.ext rfl hh.1)
      exact ⟨i, hi, hp, hm, h1⟩
    · cases hD
theorem Lft.push {m off : Int} {g : GV} {b : List UInt8} (hP : g.ro = false → ¬ (g.len - off < b.length) → Perm s c gr d r m (g.off + off) b.length) : Lft s c gr d r (s.pushE m g off b).2 := by
  unfold Gs.pushE
  split
  · exact .inl rfl
  rename_i h1
  split
  · exact .inl rfl
  rename_i h2
  split
  · exact .inl rfl
  exact .inr ⟨_, _, _, rfl, hP (by simpa using h1) h2⟩
theorem Lft.place (h : AS s) {p m off : Int} (he : s.placeE c p = (m, 0)) (g : GV) (b : List UInt8) : Lft s c gr d r (s.pushE m g off b).2 := by
  obtain ⟨o, i, ho, hi, hc, hm⟩ := h.place he
  exact Lft.push fun _ _ => .inl ⟨o, i, ho, hi, hc, hm⟩
theorem Lft.grant (h : AS s) {m off : Int} {dn rn : Nat} (hd : dn < 3) (hr : rn < 32) (ho : 0 ≤ off) {g : GV} (he : s.endG (s.entB dn rn) c dn = some (m, g)) (b : List UInt8) : Lft s c true dn rn (s.pushE m g off b).2 := by
  obtain ⟨i, hi, hp, hm, hE⟩ := h.endG hd he
  exact Lft.push fun h1 h2 => .inr ⟨rfl, dn, rn, i, hd, hr, hi, rfl, rfl, hm, g, hE, h1, hp, by omega, by omega⟩
/-- a byte that turned: its frame is the caller's own, or an entry permitted it -/
theorem Lft.byte (h : AS s) (hl : Lft s c gr d r s1) (i k : Nat) (hk : k < 256) (hne : (s1.M.fr i).bs k ≠ (s.M.fr i).bs k) :
    (s.M.fr i).owner = c ∨ (gr = true ∧ ∃ dn rn q : Nat, dn < 3 ∧ rn < 32 ∧ q < 4 ∧ d = dn ∧ r = rn ∧ i = 4 * dn + q ∧ (s.M.fr i).owner = dn ∧ ∃ g : GV, entV (s.entB dn rn) 1 c = some g ∧ g.ro = false ∧ g.gpfn = q ∧ g.off ≤ k ∧ (k : Int) < g.off + g.len) := by
  rcases hl with rfl | ⟨m, off, b, rfl, hP⟩
  · exact absurd rfl hne
  have hne : ((s.M.write m off b).2.fr i).bs k ≠ (s.M.fr i).bs k := hne
  unfold Mach.write at hne
  split at hne
  · exact absurd rfl hne
  split at hne
  · exact absurd rfl hne
  rename_i hin
  split at hne
  · exact absurd rfl hne
  have hin : inP off b.length = true := by simpa using hin
  obtain ⟨h0, -, h2⟩ := inP_iff.1 hin
  by_cases hi : i = m.toNat
  · rw [← hi] at hne
    simp only [Mach.upd_same, Fr.laid] at hne
    by_cases hx : off.toNat ≤ k ∧ k < off.toNat + b.length
    · rcases hP with ⟨o, q, ho, hq, hc, hm⟩ | ⟨hg, dn, rn, q, hd, hr, hq, ed, er, hm, g, hE, hro, hp, hf, hl⟩
      · obtain rfl : i = 4 * o + q := by omega
        exact .inl ((h.ow o q ho hq).trans hc.symm)
      · obtain rfl : i = 4 * dn + q := by omega
        exact .inr ⟨hg, dn, rn, q, hd, hr, hq, ed, er, rfl, h.ow dn q hd hq, g, hE, hro, hp, by omega, by omega⟩
    · rw [if_neg hx] at hne
      exact absurd rfl hne
  · simp only [Mach.upd_other _ _ _ _ hi] at hne
    exact absurd rfl hne
theorem AS.entB (h : AS s) {dn rn : Nat} (hd : dn < 3) (hr : rn < 32) : s.entB dn rn = (s.M.fr (4 * dn)).part (8 * rn) 8 := by
  have ht : s.table (dn : Int) = ((4 * dn : Nat) : Int) := by
    unfold Gs.table
    rw [Int.toNat_natCast, h.mem, if_pos hd]
    simp
  unfold Gs.entB
  rw [ht, show (8 : Int) * (rn : Int) = ((8 * rn : Nat) : Int) by omega, read_good (by rw [Mach.is_iff, h.n]; omega) (inP_yes (by omega) (by omega) (by omega))]
  rfl
end
end Go.Proofs.Ytibiianmpajabaa

/-
  law06.permits where an entry permits.
-/
set_option linter.unusedSimpArgs false
set_option linter.unusedVariables false
namespace Go.Proofs.Ytibiianmpajabaa
open Go.RowKit KM
set_option maxHeartbeats 2000000
set_option maxRecDepth 100000

/-- an end in a box -/
structure EndAt (w : World) (b : Nat) (gr : Bool) (d r p off : Int) : Prop where
  z0 : w.cell? ⟨b, 0, none⟩ = some (.bool gr)
  z1 : w.cell? ⟨b, 1, none⟩ = some (.int .i64 d)
  z2 : w.cell? ⟨b, 2, none⟩ = some (.int .i64 r)
  z3 : w.cell? ⟨b, 3, none⟩ = some (.int .i64 p)
  z4 : w.cell? ⟨b, 4, none⟩ = some (.int .i64 off)
theorem EndAt.grown {w w' : World} {b : Nat} {gr : Bool} {d r p off : Int} (h : EndAt w b gr d r p off) (hg : w.grownBy w' none) : EndAt w' b gr d r p off :=
  ⟨hg.cell h.z0 (by simp), hg.cell h.z1 (by simp), hg.cell h.z2 (by simp), hg.cell h.z3 (by simp), hg.cell h.z4 (by simp)⟩
theorem EndAt.new (w : World) (gr : Bool) (d r p off : Int) {W : World} (h : w.alloc (.cells #[.bool gr, .int .i64 d, .int .i64 r, .int .i64 p, .int .i64 off] 96) = W) : EndAt W w.heap.size gr d r p off := by
  subst h
  exact ⟨by simp [go_sem], by simp [go_sem], by simp [go_sem], by simp [go_sem], by simp [go_sem]⟩
theorem permits_yes {w : World} {B2 : Nat} {s : Gs} (hM : PM w B2 s.M) (hs : AS s) {c : Int} {dn rn q k : Nat} (hd : dn < 3) (hr : rn < 32) (hq : q < 4) (hk : k < 256) {g : GV} (hE : entV (s.entB dn rn) 1 c = some g) (hro : g.ro = false) (hp : g.gpfn = q) (h0 : g.off ≤ k) (h1 : (k : Int) < g.off + g.len) (p off : Int) (dI : Int) (hdI : dI = dn) (iI : Int) (hiI : iI = 4 * (dn : Int) + q) :
    Calls Try.prog 48 #[.pointer (some ⟨B2, 0, none⟩), .int .i64 c, .agg #[.bool true, .int .i64 dn, .int .i64 rn, .int .i64 p, .int .i64 off], .int .i64 dI, .int .i64 iI, .int .i64 k] w fun e w' => e = .returned (.bool true) ∧ w.grownBy w' none := by
  subst hdI hiI
  obtain ⟨W1, hW1⟩ : ∃ W, w.alloc (.cells #[.bool true, .int .i64 dn, .int .i64 rn, .int .i64 p, .int .i64 off] 96) = W := ⟨_, rfl⟩
  have hg1 : w.grownBy W1 none := hW1 ▸ World.grownBy_alloc _ _ none
  obtain ⟨z0, z1, z2, z3, z4⟩ := EndAt.new w true dn rn p off hW1
  obtain ⟨-, -, e0, e1, e2⟩ := entV_ok hE
  have hen := hs.entB hd hr
  obtain ⟨bs, hbs⟩ : ∃ bs, s.entB dn rn = bs := ⟨_, rfl⟩
  rw [hbs] at hE hen
  have hl : bs.length = 8 := by rw [hen, part_len]
  unfold entV at hE
  split at hE
  · rename_i hx
    obtain ⟨x0, x1, x2⟩ := hx
    have x3 : (unpG bs).1 = g := by simpa using hE
    rw [x3] at x1 x2
    obtain ⟨gk, ro, sub, dm, gp, gf, gl⟩ := g
    simp only at hro hp h0 h1 e0 e1 e2 x1 x2
    subst hro hp x1 x2
    have HR := hid (fun w1 (hg : W1.grownBy w1 none) => (by
      have hm : PM w1 B2 s.M := (hM.chg (S := fun _ => False) (Chg.of0 hg1) (fun e => e)).chg (S := fun _ => False) (Chg.of0 hg) (fun e => e)
      have h1 := Read_yes B2 (4 * dn) (8 * rn) 8 w1 s.M 3 hm hs.ok (by rw [hs.n]; omega) (by omega)
      rw [Int.natCast_mul, Int.natCast_mul] at h1
      refine h1.mono fun e w' ⟨v, he, hn⟩ => ?_
      rw [← hen] at hn
      obtain ⟨b, rfl, hb, hc, hg⟩ := newBytes_pos hn (by omega)
      rw [hl] at he hc
      exact ⟨b, he, fun k hk => ⟨b, 0, rfl, by rw [Nat.zero_add]; exact hc k (by omega)⟩, hg⟩ : Calls Try.prog 46 #[.pointer (some ⟨B2, 0, none⟩), .int .i64 (4 * (dn : Int)), .int .i64 (8 * (rn : Int)), .int .i64 8] w1 fun e w' => ∃ b, e = .returned (.tuple #[.slice (some ⟨b, 0, none⟩) 8 8, .int .i64 0]) ∧ BG w' (some ⟨b, 0, none⟩) bs ∧ w1.grownBy w' none))
    have HU := hid (fun (w1 : World) (b : Nat) (hb : BG w1 (some ⟨b, 0, none⟩) bs) => (by
      have h1 := gUn bs (some ⟨b, 0, none⟩) 8 w1 hb
      rw [hl, x0, x3] at h1
      exact h1 : Calls Try.prog 116 #[.slice (some ⟨b, 0, none⟩) 8 8] w1 fun e w' => e = .returned (.tuple #[(⟨1, false, sub, dm, (q : Int), gf, gl⟩ : GV).val, .int .i64 0]) ∧ w1.grownBy w' none))
    simp only [GV.val] at HU
    have HG1 := hid hg1
    have hd0 : (0 : Int) ≤ dn := by omega
    have hd3 : (dn : Int) < 3 := by omega
    have hr0 : (0 : Int) ≤ rn := by omega
    have hr3 : (rn : Int) < 32 := by omega
    have hq0 : (0 : Int) ≤ q := by omega
    have hq3 : (q : Int) < 4 := by omega
    have hgl : gl ≤ 256 := by omega
    have hgf : gf ≤ 256 := by omega
    clear hM hs hd hr hq hbs hen hE hg1 x0 x3
    go_enter Try.func48, Try.ntmps48
    go_wp2_with (first
      | (go_at_call 46; (with_reducible refine (HR.out _ (World.grownBy.refl _ _)).mono ?_); rintro e w2 ⟨b, rfl, hb, g2⟩; have HB2 := hid hb; have HG2 := hid (HG1.out.trans g2); clear hb g2)
      | (go_at_call 116; (with_reducible refine (HU.out _ _ HB2.out).mono ?_); rintro e w3 ⟨rfl, g3⟩; have HG3 := hid (HG2.out.trans g3); clear g3))
    go_ret
    exact ⟨rfl, HG3.out.trans (World.grownBy_alloc _ _ none)⟩
  · cases hE
end Go.Proofs.Ytibiianmpajabaa

/-
  GrantApart: Pull, Push, Copy at any ends, over the program's side alone; permits.
-/
set_option linter.unusedSimpArgs false
set_option linter.unusedVariables false
namespace Go.Proofs.Ytibiianmpajabaa
open Go.RowKit KM
set_option maxHeartbeats 2000000
set_option maxRecDepth 100000

theorem read_len (M : Mach) (i off k : Int) : (M.read i off k).1.length ≤ 256 := by
  unfold Mach.read
  split
  · simp
  split
  · simp
  rename_i h
  have h : inP off k = true := by simpa using h
  have := inP_iff.1 h
  rw [part_len]
  omega
theorem pullG_nil (s : Gs) (n d r : Nat) (c off k : Int) : (s.pullG [] n d r c off k).1.length ≤ 256 ∧ (s.pullG [] n d r c off k).2.2.1 = s ∧ (s.pullG [] n d r c off k).2.2.2 ≤ n + 2 := by
  unfold Gs.pullG
  rw [s.due_nil rfl]
  split
  · exact ⟨by simp, rfl, by simp⟩
  · split
    · exact ⟨by simp, rfl, by simp⟩
    · rw [s.due_nil rfl]
      exact ⟨read_len _ _ _ _, rfl, Nat.le_refl _⟩
section
variable {w0 w w' : World} {t X B G : Nat} {pm : Nat → Nat × Nat × Nat} {s s' : Gs} {T T' : Nat} {V Gv : Nat} {S : Nat → Prop} {n n' : Nat}
theorem WV.pullAny (h : WV w0 w t X B G pm s T V Gv S n) (hs : AS s) (hn : (n : Int) + 1 < 9223372036854775807) (c : Int) (gr : Bool) (d r p off k : Int) (hp : I64 p) (hf : off ≤ 9223372036854775807) :
    Calls Try.prog 51 #[.pointer (some ⟨X, 0, none⟩), .pointer (some ⟨V, 0, none⟩), .int .i64 c, .agg #[.bool gr, .int .i64 d, .int .i64 r, .int .i64 p, .int .i64 off], .int .i64 k] w fun e w' =>
      ∃ (q : Option Addr) (cp : Nat) (er : Int) (n' : Nat) (bs : List UInt8), e = .returned (.tuple #[.slice q bs.length cp, .int .i64 er]) ∧ bs.length ≤ 256 ∧ KeptBytes w' (fun k => w.heap.size ≤ k) q bs ∧ WV w0 w' t X B G pm s T V Gv S n' ∧ n' ≤ n + 2 ∧ Chg (avfoot X B G pm 3 V Gv) w w' := by
  by_cases hb : gdom c = false ∨ k < 0 ∨ off < 0
  · exact (gPull_arg h.a c gr d r p off k hb).mono fun e w' ⟨he, hg⟩ => ⟨none, 0, 1, n, [], he, by simp, .inl rfl, h.grown hg, by omega, Chg.of0 hg⟩
  have hc : gdom c = true := by
    cases hc : gdom c with
    | true => rfl
    | false => exact absurd (.inl hc) hb
  have hk : 0 ≤ k := by omega
  have ho : 0 ≤ off := by omega
  cases gr with
  | true =>
    cases hsl : s.g.slot d r with
    | false => exact (gPull_er (er := 1) (fun w1 hg => gFind_ns (h.a.grown hg) c hc d r p off k ho hk hsl) (by decide)).mono fun e w' ⟨he, hg⟩ => ⟨none, 0, 1, n, [], he, by simp, .inl rfl, h.grown hg, by omega, Chg.of0 hg⟩
    | true =>
      obtain ⟨dn, rn, hd, hr, rfl, rfl, hm⟩ := hs.slot hsl
      obtain ⟨P, hP⟩ : ∃ P, s.pullG [] n dn rn c off k = P := ⟨_, rfl⟩
      have h3 := pullG_nil s n dn rn c off k
      rw [hP] at h3
      refine (gPullG h.a hs.ok (fun p hp => by cases hp) (by simp) hn c hc dn rn (by omega) (by omega) _ dn hm (by omega) (by rw [hs.n]; omega) hd p off k ho hf hk P hP).mono fun e w' ⟨q, cp, he, hkb, hr⟩ => ?_
      rw [h3.2.1] at hr
      exact ⟨q, cp, _, _, _, he, h3.1, hkb, h.gr hr, h3.2.2, hr.c⟩
  | false =>
    obtain ⟨m, er, hE⟩ : ∃ m er, s.placeE c p = (m, er) := ⟨_, _, rfl⟩
    by_cases he : er = 0
    · subst he
      obtain ⟨o, i, ho3, hi, -, hm⟩ := hs.place hE
      have hmi := hs.isM ho3 hi hm
      by_cases hx : 256 - off < k
      · exact (gPullP_range h.a hs.ok hs.lt c hc d r p off k hp ho hf hk 0 256 rfl rfl m hE hx).mono fun e w' ⟨he, hr⟩ => ⟨none, 0, 63, n, [], he, by simp, .inl rfl, h.gr hr, by omega, hr.c⟩
      · refine (gPullP_yes h.a hs.ok hs.lt c hc d r p off k hp ho hf hk 0 256 rfl rfl m hE (fun p hp => by cases hp) (by simp) (by omega) hmi (by omega)).mono fun e w' ⟨⟨q, cp, he, hkb⟩, hr⟩ => ?_
        rw [due_none] at hr
        exact ⟨q, cp, 0, _, _, he, read_len _ _ _ _, hkb, h.gr hr, by omega, hr.c⟩
    · exact (gPull_er (er := er) (fun w1 hg => by
        have := gFindP (h.a.grown hg) hs.lt c hc d r p off k hp ho hk m er hE
        rw [placeRet_no he] at this
        exact this) he).mono fun e w' ⟨he, hg⟩ => ⟨none, 0, er, n, [], he, by simp, .inl rfl, h.grown hg, by omega, Chg.of0 hg⟩
theorem WV.pushAny (h : WV w0 w t X B G pm s T V Gv S n) (hs : AS s) (hn : (n : Int) + 1 < 9223372036854775807) (c : Int) (gr : Bool) (d r p off : Int) (hp : I64 p) (hf : off ≤ 9223372036854775807) (pa : Option Addr) (cap : Nat) (b : List UInt8) (hbl : b.length ≤ 256) (hb : ∀ w', Chg (avfoot X B G pm 3 V Gv) w w' → IsBytes w' B (.slice pa b.length cap) b) :
    Calls Try.prog 53 #[.pointer (some ⟨X, 0, none⟩), .pointer (some ⟨V, 0, none⟩), .int .i64 c, .agg #[.bool gr, .int .i64 d, .int .i64 r, .int .i64 p, .int .i64 off], .slice pa b.length cap] w fun e w' =>
      ∃ (er : Int) (s1 : Gs) (n' : Nat), e = .returned (.int .i64 er) ∧ Lft s c gr d r s1 ∧ WV w0 w' t X B G pm s1 T V Gv S n' ∧ Chg (avfoot X B G pm 3 V Gv) w w' := by
  by_cases hbd : gdom c = false ∨ off < 0
  · exact (gPush_arg h.a c gr d r p off pa b.length cap hbd).mono fun e w' ⟨he, hg⟩ => ⟨1, s, n, he, .inl rfl, h.grown hg, Chg.of0 hg⟩
  have hc : gdom c = true := by
    cases hc : gdom c with
    | true => rfl
    | false => exact absurd (.inl hc) hbd
  have ho : 0 ≤ off := by omega
  cases gr with
  | true =>
    cases hsl : s.g.slot d r with
    | false => exact (gPush_er (er := 1) (fun w1 hg => gFind_ns (h.a.grown hg) c hc d r p off _ ho (by omega) hsl) (by decide) pa cap).mono fun e w' ⟨he, hg⟩ => ⟨1, s, n, he, .inl rfl, h.grown hg, Chg.of0 hg⟩
    | true =>
      obtain ⟨dn, rn, hd, hr, rfl, rfl, hm⟩ := hs.slot hsl
      cases hR : s.endG (s.entB dn rn) c dn with
      | none =>
        refine (gPushG_no h.a hs.ok (fun p hp => by cases hp) (by simp) (by omega) c hc dn rn (by omega) (by omega) _ dn hm (by omega) (by rw [hs.n]; omega) hd p off ho pa b.length cap (by rw [due_none]; exact hR)).mono fun e w' ⟨he, hr⟩ => ?_
        rw [due_none] at hr
        exact ⟨60, s, _, he, .inl rfl, h.gr hr, hr.c⟩
      | some mg =>
        obtain ⟨m, g⟩ := mg
        refine (gPushG_yes h.a hs.ok (fun p hp => by cases hp) (by simp) (by omega) c hc dn rn (by omega) (by omega) _ dn hm (by omega) (by rw [hs.n]; omega) hd p off ho hf pa cap b (by omega) hb m g (by rw [due_none]; exact hR)).mono fun e w' ⟨he, hr⟩ => ?_
        rw [due_none] at hr
        exact ⟨_, _, _, he, Lft.grant hs hd (by omega) ho hR b, h.gr hr, hr.c⟩
  | false =>
    obtain ⟨m, er, hE⟩ : ∃ m er, s.placeE c p = (m, er) := ⟨_, _, rfl⟩
    by_cases he : er = 0
    · subst he
      obtain ⟨o, i, ho3, hi, -, hm⟩ := hs.place hE
      have hmi := hs.isM ho3 hi hm
      exact (gPushP_any h.a hs.ok hs.lt c hc d r p off hp ho hf 0 256 rfl rfl m hE hmi pa cap b (by omega) hb).mono fun e w' ⟨he, hr⟩ => ⟨_, _, _, he, Lft.place hs hE _ b, h.gr hr, hr.c⟩
    · exact (gPush_er (er := er) (fun w1 hg => by
        have := gFindP (h.a.grown hg) hs.lt c hc d r p off b.length hp ho (by omega) m er hE
        rw [placeRet_no he] at this
        exact this) he pa cap).mono fun e w' ⟨he, hg⟩ => ⟨er, s, n, he, .inl rfl, h.grown hg, Chg.of0 hg⟩
/-- what was pulled may be pushed -/
theorem WV.kept (h : WV w0 w t X B G pm s T V Gv S n) {w1 w2 : World} {q : Option Addr} {bs : List UInt8} (hk : KeptBytes w1 (fun k => w.heap.size ≤ k) q bs) (hc : Chg (avfoot X B G pm 3 V Gv) w1 w2) (cap : Nat) : IsBytes w2 B (.slice q bs.length cap) bs :=
  (hk.chg hc fun k e => (h.a.fresh e).2.2).is cap B fun e => by have h1 : w.heap.size ≤ B := e; have := h.a.a.m.lt; omega
theorem WV.copy (h : WV w0 w t X B G pm s T V Gv S n) (hs : AS s) (hn : (n : Int) + 3 < 9223372036854775807) (c : Int) (gr : Bool) (d r p off : Int) (hp : I64 p) (hf : off ≤ 9223372036854775807) (gr2 : Bool) (d2 r2 p2 off2 : Int) (hp2 : I64 p2) (hf2 : off2 ≤ 9223372036854775807) (k : Int) :
    Calls Try.prog 45 #[.pointer (some ⟨X, 0, none⟩), .pointer (some ⟨V, 0, none⟩), .int .i64 c, .agg #[.bool gr, .int .i64 d, .int .i64 r, .int .i64 p, .int .i64 off], .agg #[.bool gr2, .int .i64 d2, .int .i64 r2, .int .i64 p2, .int .i64 off2], .int .i64 k] w fun e w' =>
      ∃ (er : Int) (s1 : Gs) (n' : Nat), e = .returned (.int .i64 er) ∧ Lft s c gr2 d2 r2 s1 ∧ WV w0 w' t X B G pm s1 T V Gv S n' ∧ Chg (avfoot X B G pm 3 V Gv) w w' := by
  obtain ⟨Wa, hWa⟩ : ∃ W, w.alloc (.cells #[.bool gr, .int .i64 d, .int .i64 r, .int .i64 p, .int .i64 off] 96) = W := ⟨_, rfl⟩
  obtain ⟨W1, hW1⟩ : ∃ W, Wa.alloc (.cells #[.bool gr2, .int .i64 d2, .int .i64 r2, .int .i64 p2, .int .i64 off2] 96) = W := ⟨_, rfl⟩
  have hga : w.grownBy Wa none := hWa ▸ World.grownBy_alloc _ _ none
  have hg1 : Wa.grownBy W1 none := hW1 ▸ World.grownBy_alloc _ _ none
  obtain ⟨a0, a1, a2, a3, a4⟩ := (EndAt.new w gr d r p off hWa).grown hg1
  have hb := EndAt.new Wa gr2 d2 r2 p2 off2 hW1
  have HEb := hid hb
  have H1 := hid (h.grown (hga.trans hg1))
  have HG := hid (hga.trans hg1)
  have HS := hid hs
  have HI := hid (And.intro hp2 hf2)
  have HP := hid (H1.out.pullAny hs (by omega) c gr d r p off k hp hf)
  have HN := hid hn
  have HF := hid (show ¬ avfoot X B G pm 3 V Gv Wa.heap.size from (h.a.fresh hga.size).2.2)
  clear h hs hn hp hf hp2 hf2 hga hg1 hb
  go_enter Try.func45, Try.ntmps45
  go_upto_region 2 with (go_at_call 51; (with_reducible refine HP.out.mono ?_); rintro e w2 ⟨q, cp, er, n', bs, rfl, hbl, hkb, h2, hn', hc2⟩; have H2 := hid h2; have HK := hid hkb; have HC := hid hc2; have HB := hid hbl; have HN2 := hid hn'; obtain ⟨b0, b1, b2, b3, b4⟩ : EndAt w2 Wa.heap.size gr2 d2 r2 p2 off2 := ⟨hc2.gen.cell HEb.out.z0 HF.out, hc2.gen.cell HEb.out.z1 HF.out, hc2.gen.cell HEb.out.z2 HF.out, hc2.gen.cell HEb.out.z3 HF.out, hc2.gen.cell HEb.out.z4 HF.out⟩; clear h2 hkb hc2 hbl hn')
  by_cases he : er = 0
  · subst he
    go_wp2_with (go_at_call 53; (with_reducible refine (H2.out.pushAny HS.out (by have := HN.out; have := HN2.out; omega) c gr2 d2 r2 p2 off2 HI.out.1 HI.out.2 q cp bs HB.out (fun w' hc => H1.out.kept HK.out hc cp)).mono ?_); rintro e w3 ⟨e3, s3, n3, rfl, hl3, h3, hc3⟩; have H3 := hid h3; have HL3 := hid hl3; have HC3 := hid hc3; clear h3 hl3 hc3)
    go_ret
    exact ⟨e3, s3, n3, rfl, HL3.out, H3.out, (Chg.of0 (S := avfoot X B G pm 3 V Gv) HG.out).trans (HC.out.trans HC3.out fun _ e => .inl e) fun _ e => .inl e⟩
  · have heb : (er != 0) = true := by simpa using he
    go_wp2
    go_ret
    exact ⟨er, s, n', rfl, .inl rfl, H2.out, (Chg.of0 (S := avfoot X B G pm 3 V Gv) HG.out).trans HC.out fun _ e => .inl e⟩
end
end Go.Proofs.Ytibiianmpajabaa

/-
  GrantApart: all that holds behind the copy, and what the law's end asks. No walk here.
-/
set_option linter.unusedSimpArgs false
set_option linter.unusedVariables false
namespace Go.Proofs.Ytibiianmpajabaa
open Go.RowKit KM
set_option maxHeartbeats 1000000
set_option maxRecDepth 100000

/-- both machines (the copy: B2, as it was: s0), the grants, the view -/
structure AW (w0 w : World) (t X B G : Nat) (pm : Nat → Nat × Nat × Nat) (s0 s1 : Gs) (V Gv : Nat) (S : Nat → Prop) (n B2 : Nat) : Prop where
  v : WV w0 w t X B G pm s1 12 V Gv S n
  m : PM w B2 s0.M
  nb : ¬ avfoot X B G pm 3 V Gv B2
/-- bytes of a frame, just read -/
def PageB (w : World) (b : Nat) (M : Mach) (i : Nat) : Prop := ∀ k, k < 256 → w.cell? ⟨b, k, none⟩ = some (.int .u8 ((M.fr i).bs k).toNat)
theorem PageB.grown {w w' : World} {b i : Nat} {M : Mach} (h : PageB w b M i) (hg : w.grownBy w' none) : PageB w' b M i := fun k hk => hg.cell (h k hk) (by simp)
theorem page_read {w : World} {b : Nat} {M : Mach} (hM : PM w b M) (hok : M.ok 3) {i : Nat} (hi : (i : Int) < M.n) :
    Calls Try.prog 46 #[.pointer (some ⟨b, 0, none⟩), .int .i64 i, .int .i64 0, .int .i64 256] w fun e w' => ∃ q, e = .returned (.tuple #[.slice (some ⟨q, 0, none⟩) 256 256, .int .i64 0]) ∧ PageB w' q M i ∧ w.grownBy w' none := by
  have h1 := Read_yes b i 0 256 w M 3 hM hok hi (by omega)
  refine h1.mono fun e w' ⟨v, he, hn⟩ => ?_
  obtain ⟨q, rfl, hb, hc, hg⟩ := newBytes_pos hn (by rw [part_len]; omega)
  rw [part_len] at he hc
  refine ⟨q, he, fun k hk => ?_, hg⟩
  rw [hc k hk, part_get _ _ _ _ hk, Nat.zero_add]
section
variable {w0 w w' : World} {t X B G : Nat} {pm : Nat → Nat × Nat × Nat} {s0 s1 s2 : Gs} {V Gv : Nat} {S : Nat → Prop} {n n' B2 : Nat}
theorem AW.grown (h : AW w0 w t X B G pm s0 s1 V Gv S n B2) (hg : w.grownBy w' none) : AW w0 w' t X B G pm s0 s1 V Gv S n B2 :=
  ⟨h.v.grown hg, h.m.grown hg (by simp), h.nb⟩
theorem AW.chg (h : AW w0 w t X B G pm s0 s1 V Gv S n B2) (hv : WV w0 w' t X B G pm s2 12 V Gv S n') (hc : Chg (avfoot X B G pm 3 V Gv) w w') : AW w0 w' t X B G pm s0 s2 V Gv S n' B2 :=
  ⟨hv, h.m.chg hc h.nb, h.nb⟩
theorem WT.newViewFar {T : Nat} {s : Gs} (h : WT w0 w t X B G pm s T) (hn : 1 ≤ s.M.n) :
    Calls Try.prog 20 #[.pointer (some ⟨B, 0, none⟩), .slice none 0 0] w fun e w' => ∃ V Gv S, e = .returned (.tuple #[.pointer (some ⟨V, 0, none⟩), .int .i64 0]) ∧ WV w0 w' t X B G pm s T V Gv S 0 ∧ w.heap.size ≤ V ∧ w.heap.size ≤ Gv ∧ w.grownBy w' none :=
  (vNew B none 0 [] w s.M h.a.m hn (by simp) (fun j hj => by simp at hj)).mono fun e w' ⟨he, ⟨_, hv⟩, hg⟩ => ⟨_, _, _, he, h.view hv hg, by omega, by omega, hg⟩
theorem AW.start {w1 w2 w3 : World} (h1 : WT w0 w1 t X B G pm s0 12) (hb1 : w1.heap.size ≤ B2) (hb2 : B2 < w2.heap.size) (hm : PM w2 B2 s0.M) (h3 : WV w0 w3 t X B G pm s0 12 V Gv S n) (hV : w2.heap.size ≤ V) (hG : w2.heap.size ≤ Gv) (hg : w2.grownBy w3 none) : AW w0 w3 t X B G pm s0 s0 V Gv S n B2 :=
  ⟨h3, hm.grown hg (by simp), fun e => by
    rcases e with e | e | e
    · have := h1.a.lt e; omega
    · omega
    · omega⟩
end
end Go.Proofs.Ytibiianmpajabaa
