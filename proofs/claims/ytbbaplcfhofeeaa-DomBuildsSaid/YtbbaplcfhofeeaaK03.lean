/-
  Both levels; an entry changed. No walk here.
-/
import Derived.Test.YtbbaplcfhofeeaaK02
import Derived.Test.YtbbaplcfhofeeaaRows
import Derived.Test.YtbbaplcfhofeeaaK01
import Derived.ProofKit
import Derived.Maps.AppendAt
import Derived.Lib.Hide
import Derived.Deep.QuietTactic
import Derived.BigQuiet
import Derived.Laws.StructEq
import Derived.Laws.ShiftsVarLaws
import Derived.WalkKit
import Derived.WalkSpells
import Derived.WalkLawsBesides
import Derived.Handy
set_option linter.unusedSimpArgs false
set_option linter.unusedVariables false
namespace Go.Proofs.Ytbbaplcfhofeeaa

theorem unpackV_mfn (n : Nat) : 0 ≤ (unpackV n).1.mfn := by
  unfold unpackV
  split
  · exact ent0_mfn.1
  split
  · exact ent0_mfn.1
  · simp only; omega
theorem rf_none {lv n : Nat} (h : (unpackV n).1.p = false) : rf lv n = none := by simp [rf, h]
theorem rf_some {lv n : Nat} (h : (unpackV n).1.p = true) : rf lv n = some ((unpackV n).1.mfn.toNat, if lv = 2 then 2 else kindOf (unpackV n).1.w) := by simp [rf, h]
theorem kindOf_le (w : Bool) : kindOf w ≤ 1 := by cases w <;> decide
theorem rf_kind1 : ∀ n r, rf 1 n = some r → r.2 ≠ 2 := fun n r h => by
  unfold rf at h
  split at h
  · cases h; have := kindOf_le (unpackV n).1.w; simp; omega
  · cases h
theorem rf_kind1' : ∀ n r, rf 1 n = some r → r.2 ≠ 3 := fun n r h => by
  unfold rf at h
  split at h
  · cases h; have := kindOf_le (unpackV n).1.w; simp; omega
  · cases h
theorem rf_two {n : Nat} {r : Nat × Nat} (h : rf 2 n = some r) : r.2 = 2 := by
  unfold rf at h
  split at h
  · cases h; rfl
  · cases h

/-- an entry's reference, in a table of level 1, of level 2 -/
def take1 (M : Mach) (o : Int) (n : Nat) : Int × Mach :=
  if (unpackV n).2 ≠ 0 then ((unpackV n).2, M) else if (unpackV n).1.p = false then (0, M) else
  (refusedV (M.get (unpackV n).1.mfn o (kindOf (unpackV n).1.w : Nat)).1, (M.get (unpackV n).1.mfn o (kindOf (unpackV n).1.w : Nat)).2)
def dp1 (M : Mach) (r : Nat × Nat) : Mach := (M.put r.1 r.2).2
def take2 (M : Mach) (o : Int) (n : Nat) : Int × Mach :=
  if (unpackV n).2 ≠ 0 then ((unpackV n).2, M) else if (unpackV n).1.p = false then (0, M) else tabG 2 take1 M o (unpackV n).1.mfn
def dp2 (M : Mach) (r : Nat × Nat) : Mach := untabG 1 2 dp1 M r.1

theorem good_of {M : Mach} {o : Int} {n : Nat} (h0 : (unpackV n).2 = 0) (hi : M.is (unpackV n).1.mfn = true) (ho : (M.fr (unpackV n).1.mfn.toNat).owner = o) : good M o n :=
  ⟨h0, fun _ => ⟨by have h := Mach.is_iff.1 hi; rw [Int.toNat_of_nonneg h.1]; exact h.2, ho⟩⟩
theorem lvl1 : Lvl 1 2 CHolds take1 dp1 where
  K3 := by decide
  K1 := by decide
  uniq h h' s := h.uniq h' s
  tk_same M o n := by
    unfold take1
    split
    · exact .refl _
    split
    · exact .refl _
    · exact M.get_same _ _ _
  tk_yes := by
    intro M C o n h he
    unfold take1 at he ⊢
    by_cases h0 : (unpackV n).2 = 0
    · rw [if_neg (by simpa using h0)] at he ⊢
      cases hp : (unpackV n).1.p with
      | false =>
        simp only [hp, if_true] at he ⊢
        rw [rf_none hp]
        exact ⟨by simpa [Cnt.plus_nil] using h, h0, fun e => by rw [hp] at e; cases e⟩
      | true =>
        rw [if_neg (by simp [hp])] at he ⊢
        have e0 := (refusedV_zero _).1 he
        obtain ⟨a, b, _, d⟩ := h.get (by have := kindOf_le (unpackV n).1.w; omega) e0
        rw [rf_some hp]
        exact ⟨by simpa [Cnt.plus_one] using d, good_of h0 a b⟩
    · rw [if_pos (by simpa using h0)] at he; exact absurd he h0
  tk_no := by
    intro M o n he
    unfold take1 at he ⊢
    by_cases h0 : (unpackV n).2 = 0
    · rw [if_neg (by simpa using h0)] at he ⊢
      cases hp : (unpackV n).1.p with
      | false => simp only [if_true]
      | true =>
        rw [if_neg (by simp [hp])] at he ⊢
        exact M.get_no _ _ _ fun e => he ((refusedV_zero _).2 e)
    · rw [if_pos (by simpa using h0)]
  dp_same M r := M.put_same _ _
  dp_ok := by
    intro M C r n h hr hlt
    refine (h.put hlt ?_).2.1
    have h2 := rf_kind1 n r hr
    have h3 := rf_kind1' n r hr
    unfold rf at hr
    split at hr
    · cases hr; have := kindOf_le (unpackV n).1.w; simp; omega
    · cases hr
  get h he := (h.get (by decide) he).2.2.2
  put h ht := (h.put ht (by decide)).2.1
  holds h := ⟨_, h, fun _ => rfl⟩
  kind := rf_kind1
abbrev Inv1 := InvG 1 2 CHolds
abbrev Inv2 := InvG 2 3 Inv1
theorem Inv1.holds {M : Mach} {C : Cnt} (h : Inv1 M C) : CHolds M (full 1 2 M C) := h.inv
theorem full1_3 (M : Mach) (C : Cnt) (t : Nat) : full 1 2 M C t 3 = C t 3 := full_other rf_kind1' M C t
theorem full1_2 (M : Mach) (C : Cnt) (t : Nat) : full 1 2 M C t 2 = C t 2 := full_other rf_kind1 M C t
theorem rf_two_ne {m : Nat} (hm : m ≠ 2) : ∀ n r, rf 2 n = some r → r.2 ≠ m := fun n r h e => hm (by rw [← e]; exact rf_two h)
theorem lvl2 : Lvl 2 3 Inv1 take2 dp2 where
  K3 := by decide
  K1 := by decide
  uniq h h' s := InvG.uniq lvl1 h h' s
  tk_same M o n := by
    unfold take2
    split
    · exact .refl _
    split
    · exact .refl _
    · exact tabG_same lvl1 _ _ _
  tk_yes := by
    intro M C o n h he
    unfold take2 at he ⊢
    by_cases h0 : (unpackV n).2 = 0
    · rw [if_neg (by simpa using h0)] at he ⊢
      cases hp : (unpackV n).1.p with
      | false =>
        simp only [hp, if_true] at he ⊢
        rw [rf_none hp]
        exact ⟨by simpa [Cnt.plus_nil] using h, h0, fun e => by rw [hp] at e; cases e⟩
      | true =>
        rw [if_neg (by simp [hp])] at he ⊢
        obtain ⟨a, b, c, _⟩ := tabG_yes lvl1 h he
        rw [rf_some hp]
        exact ⟨by simpa [Cnt.plus_one] using a, good_of h0 b c⟩
    · rw [if_pos (by simpa using h0)] at he; exact absurd he h0
  tk_no := by
    intro M o n he
    unfold take2 at he ⊢
    by_cases h0 : (unpackV n).2 = 0
    · rw [if_neg (by simpa using h0)] at he ⊢
      cases hp : (unpackV n).1.p with
      | false => simp only [if_true]
      | true =>
        rw [if_neg (by simp [hp])] at he ⊢
        exact tabG_no he
    · rw [if_pos (by simpa using h0)]
  dp_same M r := untabG_same lvl1 _ _
  dp_ok := by
    intro M C r n h hr hlt
    rw [rf_two hr] at h
    exact untabG_ok lvl1 h hlt
  get h he := InvG.get (by decide) (fun h e => (CHolds.get h (by decide) e).2.2.2) h he
  put h ht := InvG.pass (by decide) h (Mach.put_same _ _ _) fun C hC => (hC.put ht (by decide)).2.1
  holds h := ⟨_, h.inv, full1_3 _ _⟩
  kind := rf_two_ne (by decide)

/-- entry j of table t was overlaid with n; nothing else has changed -/
structure Wrote (M M' : Mach) (t j n : Nat) : Prop where
  sz : M'.n = M.n
  owner : ∀ i, (M'.fr i).owner = (M.fr i).owner
  ty : ∀ i, (M'.fr i).ty = (M.fr i).ty
  cnt : ∀ i, (M'.fr i).cnt = (M.fr i).cnt
  tot : ∀ i, (M'.fr i).tot = (M.fr i).tot
  bs : ∀ i, i ≠ t → (M'.fr i).bs = (M.fr i).bs
  at' : M'.word t j = n
  else' : ∀ q, q ≠ j → M'.word t q = M.word t q
theorem Wrote.good {M M' : Mach} {t j n : Nat} (w : Wrote M M' t j n) {o : Int} {x : Nat} (h : good M o x) : good M' o x :=
  ⟨h.1, fun e => ⟨by rw [w.sz]; exact (h.2 e).1, by rw [w.owner]; exact (h.2 e).2⟩⟩
theorem Wrote.holds {M M' : Mach} {t j n : Nat} (w : Wrote M M' t j n) {C : Cnt} (h : CHolds M C) : CHolds M' C :=
  ⟨fun i hi => by rw [w.tot]; exact h.tot i (by rw [← w.sz]; exact hi), fun i hi => by rw [w.cnt]; exact h.cnt i (by rw [← w.sz]; exact hi), fun i k hi h1 h3 hk => by rw [w.ty]; exact h.ty i k (by rw [← w.sz]; exact hi) h1 h3 hk,
   fun i hi hc => by rw [w.ty]; exact h.ty0 i (by rw [← w.sz]; exact hi) (by rw [← w.cnt]; exact hc)⟩
theorem Wrote.full {M M' : Mach} {t j n : Nat} (w : Wrote M M' t j n) {lv K : Nat} {F : Cnt} (h : F t K = 0) : full lv K M' F = full lv K M F := by
  funext i k
  unfold Go.Proofs.Ytbbaplcfhofeeaa.full
  rw [w.sz]
  congr 2
  exact List.map_congr_left fun s _ => by
    by_cases e : s = t
    · subst e; rw [if_neg (by omega), if_neg (by omega)]
    · rw [Mach.refs_bs (w.bs s e)]
theorem Wrote.inv1 {M M' : Mach} {t j n : Nat} (w : Wrote M M' t j n) {C : Cnt} (h : Inv1 M C) (h0 : C t 2 = 0) : Inv1 M' C :=
  ⟨by rw [w.full h0]; exact w.holds h.inv, fun s hs hp q hq => by
    have e : s ≠ t := fun e => by subst e; omega
    rw [w.owner, Mach.word_bs (w.bs s e)]
    exact w.good (h.g s (by rw [← w.sz]; exact hs) hp q hq)⟩
theorem Wrote.count {M M' : Mach} {t j n : Nat} (w : Wrote M M' t j n) (hj : j < 64) (lv : Nat) (x : Nat × Nat) : (M'.refs lv t 64).count x + (rf lv (M.word t j)).toList.count x = (M.refs lv t 64).count x + (rf lv n).toList.count x := by
  rw [refs_count, refs_count]
  have := sum_point 64 j (fun q => (rf lv (M'.word t q)).toList.count x) (fun q => (rf lv (M.word t q)).toList.count x) hj (fun s _ hs => by rw [w.else' s hs])
  rw [w.at'] at this
  exact this
theorem Wrote.full_in {M M' : Mach} {t j n : Nat} (w : Wrote M M' t j n) (hj : j < 64) {lv K : Nat} {F : Cnt} (ht : (t : Int) < M.n) (h : 0 < F t K) : (Go.Proofs.Ytbbaplcfhofeeaa.full lv K M F).plus (rf lv n).toList = (Go.Proofs.Ytbbaplcfhofeeaa.full lv K M' F).plus (rf lv (M.word t j)).toList := by
  funext a b
  unfold Go.Proofs.Ytbbaplcfhofeeaa.full Cnt.plus
  rw [w.sz]
  have := sum_point M.n.toNat t (fun s => if 0 < F s K then (M'.refs lv s 64).count (a, b) else 0) (fun s => if 0 < F s K then (M.refs lv s 64).count (a, b) else 0) (by omega) (fun s _ hs => by rw [Mach.refs_bs (w.bs s hs)])
  rw [if_pos h, if_pos h] at this
  have h2 := w.count hj lv (a, b)
  simp only at this ⊢
  omega

section
variable {lv K : Nat} {Inv : Mach → Cnt → Prop} {tk : Mach → Int → Nat → Int × Mach} {dp : Mach → Nat × Nat → Mach}
/-- an entry's reference goes, by its bits -/
def leaveG (lv : Nat) (dp : Mach → Nat × Nat → Mach) (M : Mach) (n : Nat) : Mach := match rf lv n with | none => M | some r => dp M r
theorem leaveG_same (H : Lvl lv K Inv tk dp) (M : Mach) (n : Nat) : MSame M (leaveG lv dp M n) := by
  unfold leaveG; split
  · exact .refl _
  · exact H.dp_same _ _
theorem leaveG_ok (H : Lvl lv K Inv tk dp) {M : Mach} {C : Cnt} {n : Nat} {o : Int} (h : Inv M (C.plus (rf lv n).toList)) (g : good M o n) : Inv (leaveG lv dp M n) C := by
  unfold leaveG
  cases hr : rf lv n with
  | none => rw [hr] at h; simpa [Cnt.plus_nil] using h
  | some r =>
    rw [hr] at h
    simp only [Option.toList_some, Cnt.plus_one] at h
    refine H.dp_ok h hr ?_
    unfold rf at hr
    split at hr
    · rename_i hp; cases hr; exact (g.2 hp).1
    · cases hr
/-- an entry of a table in use is changed -/
theorem InvG.change (H : Lvl lv K Inv tk dp) {M M1 M2 : Mach} {F : Cnt} {t j n : Nat} (h : InvG lv K Inv M F) (ht : (t : Int) < M.n) (hp : 0 < F t K) (hj : j < 64) (e1 : (tk M (M.fr t).owner n) = (0, M1)) (w : Wrote M1 M2 t j n)
    (hw : ∀ C, Inv M1 C → 0 < C t K → Inv M2 C) : InvG lv K Inv (leaveG lv dp M2 (M.word t j)) F := by
  have e1' : (tk M (M.fr t).owner n).1 = 0 := by rw [e1]
  have s1 := H.tk_same M (M.fr t).owner n
  obtain ⟨h1, g1⟩ := H.tk_yes h.inv e1'
  rw [e1] at h1 s1
  simp only at h1 s1
  have wt : M1.word t j = M.word t j := Mach.word_bs (s1.bs t) j
  have ht1 : (t : Int) < M1.n := by rw [s1.n]; exact ht
  rw [← full_same s1] at h1
  have h2 := hw _ h1 (by
    unfold Cnt.plus
    rw [full_other H.kind]
    omega)
  rw [w.full_in hj ht1 hp, wt] at h2
  have gold : good M2 (M.fr t).owner (M.word t j) := w.good ((h.g t ht hp j hj).same s1)
  have h3 := leaveG_ok H h2 gold
  have s3 := leaveG_same H M2 (M.word t j)
  refine ⟨by rw [full_same s3]; exact h3, fun s hs hs0 q hq => ?_⟩
  rw [s3.owner, Mach.word_bs (s3.bs s), w.owner, s1.owner]
  refine good.same (w.good ?_) s3
  have hs' : (s : Int) < M.n := by rw [← s1.n, ← w.sz, ← s3.n]; exact hs
  by_cases e : s = t
  · subst e
    by_cases eq : q = j
    · subst eq; rw [w.at']; exact g1.same s1
    · rw [w.else' q eq, Mach.word_bs (s1.bs s)]; exact (h.g s ht hp q hq).same s1
  · rw [Mach.word_bs (w.bs s e), Mach.word_bs (s1.bs s)]
    exact (h.g s hs' hs0 q hq).same s1
end
end Go.Proofs.Ytbbaplcfhofeeaa

/-
  Pins, roots and updates as plain functions; what they keep. No walk here.
-/
set_option linter.unusedSimpArgs false
set_option linter.unusedVariables false
namespace Go.Proofs.Ytbbaplcfhofeeaa

/-- a reference as a table of a level is taken, goes -/
def refT (lv : Int) (M : Mach) (o t : Int) : Int × Mach := if lv = 1 then tabG 2 take1 M o t else tabG 3 take2 M o t
def unrefT (lv : Int) (M : Mach) (t : Nat) : Mach := if lv = 1 then untabG 1 2 dp1 M t else untabG 2 3 dp2 M t
theorem refT_no {lv : Int} {M : Mach} {o t : Int} (h : (refT lv M o t).1 ≠ 0) : (refT lv M o t).2 = M := by
  unfold refT at h ⊢
  split at h
  · rename_i e; rw [if_pos e]; exact tabG_no h
  · rename_i e; rw [if_neg e]; exact tabG_no h
theorem refT_same (lv : Int) (M : Mach) (o t : Int) : MSame M (refT lv M o t).2 := by
  unfold refT; split
  · exact tabG_same lvl1 _ _ _
  · exact tabG_same lvl2 _ _ _
theorem unrefT_same (lv : Int) (M : Mach) (t : Nat) : MSame M (unrefT lv M t) := by
  unfold unrefT; split
  · exact untabG_same lvl1 _ _
  · exact untabG_same lvl2 _ _
theorem refT_yes {lv : Int} (hl : lv = 1 ∨ lv = 2) {M : Mach} {F : Cnt} {o t : Int} (h : Inv2 M F) (he : (refT lv M o t).1 = 0) : Inv2 (refT lv M o t).2 (F.add t.toNat (lv.toNat + 1)) ∧ M.is t = true ∧ (M.fr t.toNat).owner = o := by
  unfold refT at he ⊢
  rcases hl with rfl | rfl
  · rw [if_pos rfl] at he ⊢
    obtain ⟨a, b, c, _⟩ := tabG_yes lvl1 h.inv he
    exact ⟨InvG.pass' (by decide) h (tabG_same lvl1 _ _ _) a, b, c⟩
  · rw [if_neg (by decide)] at he ⊢
    obtain ⟨a, b, c, _⟩ := tabG_yes lvl2 h he
    exact ⟨a, b, c⟩
theorem unrefT_ok {lv : Int} (hl : lv = 1 ∨ lv = 2) {M : Mach} {F : Cnt} {t : Nat} (h : Inv2 M (F.add t (lv.toNat + 1))) (ht : (t : Int) < M.n) : Inv2 (unrefT lv M t) F := by
  unfold unrefT
  rcases hl with rfl | rfl
  · rw [if_pos rfl]
    exact InvG.pass (by decide) h (untabG_same lvl1 _ _) fun C hC => untabG_ok lvl1 hC ht
  · rw [if_neg (by decide)]
    exact untabG_ok lvl2 h ht
theorem Inv2.get {m : Nat} (hm : m ≤ 1) {M : Mach} {F : Cnt} {o t : Int} (h : Inv2 M F) (he : (M.get t o m).1 = 0) : Inv2 (M.get t o m).2 (F.add t.toNat m) :=
  InvG.get (by omega) (fun h e => InvG.get (by omega) (fun h e => (CHolds.get h (by omega) e).2.2.2) h e) h he

/-- the four bytes of an entry -/
def le4 (n : Nat) : List UInt8 := [UInt8.ofNat (n % 256), UInt8.ofNat (n / 256 % 256), UInt8.ofNat (n / 65536 % 256), UInt8.ofNat (n / 16777216 % 256)]
theorem word4_le4 (n : Nat) (h : n < 4294967296) (f : Fr) (o : Nat) : word4 (f.laid o (le4 n)).bs o = n := by
  have e : ∀ k, k < 4 → (f.laid o (le4 n)).bs (o + k) = (le4 n).getD k 0 := fun k hk => by
    show (if o ≤ o + k ∧ o + k < o + (le4 n).length then _ else _) = _
    rw [if_pos ⟨by omega, by show o + k < o + 4; omega⟩, show o + k - o = k by omega]
  unfold word4
  rw [show o = o + 0 from rfl, Nat.add_zero, e 1 (by omega), e 2 (by omega), e 3 (by omega)]
  have e0 := e 0 (by omega)
  rw [Nat.add_zero] at e0
  rw [e0]
  simp only [le4, List.getD_cons_zero, List.getD_cons_succ, UInt8.toNat_ofNat']
  omega
theorem write_wrote {M : Mach} {t j n : Nat} (ht : (t : Int) < M.n) (hj : j < 64) (hn : n < 4294967296) (ho : (M.fr t).owner ≠ -1) : (M.write t (4 * j : Nat) (le4 n)).1 = 0 ∧ Wrote M (M.write t (4 * j : Nat) (le4 n)).2 t j n := by
  have e : M.write t (4 * j : Nat) (le4 n) = (0, M.upd t ((M.fr t).laid (4 * j) (le4 n))) := by
    unfold Mach.write
    rw [if_neg (by simp [Mach.is_yes (show (0 : Int) ≤ (t : Int) by omega) ht]), if_neg (by rw [inP_yes (by omega) (by simp [le4]) (by simp [le4]; omega)]; decide)]
    simp only [Int.toNat_natCast]
    rw [if_neg ho]
  rw [e]
  have hd : ∀ q, q ≠ j → ∀ r, r < 4 → ((M.fr t).laid (4 * j) (le4 n)).bs (4 * q + r) = (M.fr t).bs (4 * q + r) := fun q hq r hr => by
    show (if 4 * j ≤ 4 * q + r ∧ 4 * q + r < 4 * j + (le4 n).length then _ else _) = _
    rw [if_neg (by show ¬ (4 * j ≤ 4 * q + r ∧ 4 * q + r < 4 * j + 4); omega)]
  refine ⟨rfl, rfl, ?_, ?_, ?_, ?_, fun i hi => ?_, ?_, fun q hq => ?_⟩
  · intro i; by_cases e : i = t; (subst e; rw [Mach.upd_same]; rfl); rw [Mach.upd_other _ _ _ _ e]
  · intro i; by_cases e : i = t; (subst e; rw [Mach.upd_same]; rfl); rw [Mach.upd_other _ _ _ _ e]
  · intro i; by_cases e : i = t; (subst e; rw [Mach.upd_same]; rfl); rw [Mach.upd_other _ _ _ _ e]
  · intro i; by_cases e : i = t; (subst e; rw [Mach.upd_same]; rfl); rw [Mach.upd_other _ _ _ _ e]
  · rw [Mach.upd_other _ _ _ _ hi]
  · unfold Mach.word; rw [Mach.upd_same]; exact word4_le4 n hn _ _
  · unfold Mach.word word4
    rw [Mach.upd_same]
    have h0 := hd q hq 0 (by omega); have h1 := hd q hq 1 (by omega); have h2 := hd q hq 2 (by omega); have h3 := hd q hq 3 (by omega)
    simp only [Nat.add_zero] at h0
    rw [h0, h1, h2, h3]

/-- one entry of a table of a level changed -/
def updG (lv : Nat) (tk : Mach → Int → Nat → Int × Mach) (dp : Mach → Nat × Nat → Mach) (M : Mach) (o : Int) (t j n : Nat) : Int × Mach :=
  if (tk M o n).1 ≠ 0 then ((tk M o n).1, M) else (0, leaveG lv dp ((tk M o n).2.write t (4 * j : Nat) (le4 n)).2 (M.word t j))
def domOk (d : Int) : Bool := decide (0 ≤ d) && decide (d < 8)
def updV (M : Mach) (o t i : Int) (n : Nat) : Int × Mach :=
  if domOk o = false ∨ M.is t = false ∨ idx i = false then (1, M) else
  if (M.fr t.toNat).owner ≠ o then (12, M) else
  if (M.fr t.toNat).ty = 2 then updG 1 take1 dp1 M o t.toNat i.toNat n else
  if (M.fr t.toNat).ty = 3 then updG 2 take2 dp2 M o t.toNat i.toNat n else (5, M)
theorem CHolds.of_ty {M : Mach} {C : Cnt} (h : CHolds M C) {t k : Nat} (ht : (t : Int) < M.n) (hk : 1 ≤ k) (hty : (M.fr t).ty = k) : 0 < C t k := by
  have hc := h.cnt t ht
  by_cases h0 : (M.fr t).cnt = 0
  · have := h.ty0 t ht h0; omega
  · have : 0 < C t 1 ∨ 0 < C t 2 ∨ 0 < C t 3 := by omega
    rcases this with e | e | e
    · have := h.ty t 1 ht (by omega) (by omega) e; obtain rfl : k = 1 := (by omega); exact e
    · have := h.ty t 2 ht (by omega) (by omega) e; obtain rfl : k = 2 := (by omega); exact e
    · have := h.ty t 3 ht (by omega) (by omega) e; obtain rfl : k = 3 := (by omega); exact e
theorem updG_no {lv : Nat} {tk : Mach → Int → Nat → Int × Mach} {dp : Mach → Nat × Nat → Mach} {M : Mach} {o : Int} {t j n : Nat} (h : (updG lv tk dp M o t j n).1 ≠ 0) : (updG lv tk dp M o t j n).2 = M := by
  unfold updG at h ⊢
  split
  · rfl
  · rename_i e; rw [if_neg e] at h; exact absurd rfl h
theorem updV_no {M : Mach} {o t i : Int} {n : Nat} (h : (updV M o t i n).1 ≠ 0) : (updV M o t i n).2 = M := by
  revert h
  unfold updV
  (repeat' split) <;> intro h
  · rfl
  · rfl
  · exact updG_no h
  · exact updG_no h
  · rfl
/-- the same owners and size -/
structure MOwn (M M' : Mach) : Prop where
  n : M'.n = M.n
  owner : ∀ i, (M'.fr i).owner = (M.fr i).owner
theorem MSame.own {M M' : Mach} (h : MSame M M') : MOwn M M' := ⟨h.n, h.owner⟩
theorem MOwn.trans {M M' M2 : Mach} (h : MOwn M M') (k : MOwn M' M2) : MOwn M M2 := ⟨k.n.trans h.n, fun i => (k.owner i).trans (h.owner i)⟩
theorem write_own (M : Mach) (i off : Int) (b : List UInt8) : MOwn M (M.write i off b).2 := by
  unfold Mach.write
  split
  · exact (MSame.refl _).own
  split
  · exact (MSame.refl _).own
  split
  · exact (MSame.refl _).own
  exact ⟨rfl, fun j => by by_cases e : j = i.toNat; (subst e; rw [Mach.upd_same]; rfl); rw [Mach.upd_other _ _ _ _ e]⟩
theorem updG_own {lv K : Nat} {Inv : Mach → Cnt → Prop} {tk : Mach → Int → Nat → Int × Mach} {dp : Mach → Nat × Nat → Mach} (H : Lvl lv K Inv tk dp) (M : Mach) (o : Int) (t j n : Nat) : MOwn M (updG lv tk dp M o t j n).2 := by
  unfold updG; split
  · exact (MSame.refl _).own
  · exact ((H.tk_same _ _ _).own.trans (write_own _ _ _ _)).trans (leaveG_same H _ _).own
theorem updV_own (M : Mach) (o t i : Int) (n : Nat) : MOwn M (updV M o t i n).2 := by
  unfold updV
  split
  · exact (MSame.refl _).own
  split
  · exact (MSame.refl _).own
  split
  · exact updG_own lvl1 _ _ _ _ _
  split
  · exact updG_own lvl2 _ _ _ _ _
  · exact (MSame.refl _).own
theorem updV_ok {M : Mach} {F : Cnt} {o t i : Int} {n : Nat} (h : Inv2 M F) (hn : n < 4294967296) : Inv2 (updV M o t i n).2 F := by
  by_cases he : (updV M o t i n).1 ≠ 0
  · rw [updV_no he]; exact h
  revert he
  unfold updV
  split
  · intro; exact h
  rename_i h1
  split
  · intro; exact h
  rename_i h2
  have ho : (M.fr t.toNat).owner = o := by simpa using h2
  have hd : domOk o = true := by cases e : domOk o; (exact absurd (.inl e) h1); rfl
  have hi : M.is t = true := by cases e : M.is t; (exact absurd (.inr (.inl e)) h1); rfl
  have hx : idx i = true := by cases e : idx i; (exact absurd (.inr (.inr e)) h1); rfl
  obtain ⟨i0, i1⟩ := Mach.is_iff.1 hi
  have hx' : 0 ≤ i ∧ i < 64 := by simpa [idx] using hx
  have hd' : 0 ≤ o ∧ o < 8 := by simpa [domOk] using hd
  obtain ⟨tn, rfl⟩ := Int.eq_ofNat_of_zero_le i0
  obtain ⟨j, rfl⟩ := Int.eq_ofNat_of_zero_le hx'.1
  simp only [Int.toNat_natCast] at *
  have hj : j < 64 := by omega
  have hC : CHolds M (full 1 2 M (full 2 3 M F)) := h.inv.inv
  split
  · rename_i hty
    intro he
    have hp : 0 < full 2 3 M F tn 2 := by have := hC.of_ty i1 (k := 2) (by omega) hty; rwa [full1_2] at this
    have hz : F tn 3 = 0 := by
      have := (hC.only i1 (k := 2) (by omega) (by omega) (by rw [full1_2]; exact hp)).2 3 (by omega) (by omega) (by omega)
      rw [full1_3, full_other (rf_two_ne (by decide))] at this
      exact this
    unfold updG at he ⊢
    by_cases e1 : (take1 M o n).1 = 0
    · rw [if_neg (by simpa using e1)]
      have s1 := lvl1.tk_same M o n
      obtain ⟨_, w⟩ := write_wrote (M := (take1 M o n).2) (t := tn) (j := j) (n := n) (by rw [s1.n]; exact i1) hj hn (by rw [s1.owner, ho]; omega)
      have h3 := InvG.change lvl1 h.inv i1 hp hj (show take1 M (M.fr tn).owner n = (0, (take1 M o n).2) by rw [ho]; exact Prod.ext e1 rfl) w fun C hC _ => w.holds hC
      have s3 := leaveG_same lvl1 ((take1 M o n).2.write tn (4 * j : Nat) (le4 n)).2 (M.word tn j)
      have ef : full 2 3 (leaveG 1 dp1 ((take1 M o n).2.write tn (4 * j : Nat) (le4 n)).2 (M.word tn j)) F = full 2 3 M F := by
        rw [full_same s3, w.full hz, full_same s1]
      refine ⟨by simp only; rw [ef]; exact h3, fun s hs hs0 q hq => ?_⟩
      simp only at hs ⊢
      have e : s ≠ tn := fun e => by subst e; omega
      rw [s3.owner, Mach.word_bs (s3.bs s), w.owner, Mach.word_bs (w.bs s e), s1.owner, Mach.word_bs (s1.bs s)]
      exact (w.good ((h.g s (by rw [← s1.n, ← w.sz, ← s3.n]; exact hs) hs0 q hq).same s1)).same s3
    · rw [if_pos (by simpa using e1)] at he; exact absurd e1 he
  split
  · rename_i _ hty
    intro he
    have hp : 0 < F tn 3 := by have := hC.of_ty i1 (k := 3) (by omega) hty; rwa [full1_3, full_other (rf_two_ne (by decide))] at this
    unfold updG at he ⊢
    by_cases e1 : (take2 M o n).1 = 0
    · rw [if_neg (by simpa using e1)]
      have s1 := lvl2.tk_same M o n
      obtain ⟨_, w⟩ := write_wrote (M := (take2 M o n).2) (t := tn) (j := j) (n := n) (by rw [s1.n]; exact i1) hj hn (by rw [s1.owner, ho]; omega)
      exact InvG.change lvl2 h i1 hp hj (show take2 M (M.fr tn).owner n = (0, (take2 M o n).2) by rw [ho]; exact Prod.ext e1 rfl) w fun C hC h3 => w.inv1 hC (by
        have := (hC.inv.only (i := tn) (k := 3) (by rw [s1.n]; exact i1) (by omega) (by omega) (by rw [full1_3]; exact h3)).2 2 (by omega) (by omega) (by omega)
        rwa [full1_2] at this)
    · rw [if_pos (by simpa using e1)] at he; exact absurd e1 he
  · intro; exact h
end Go.Proofs.Ytbbaplcfhofeeaa

/-
  Package pte: entries and addresses, contracts.
-/
set_option linter.unusedSimpArgs false
set_option linter.unusedVariables false
namespace Go.Proofs.Ytbbaplcfhofeeaa
open Go.RowKit
set_option maxHeartbeats 1000000

theorem bit_any (x : Bool) (w : World) : Calls Try.prog 55 #[.bool x] w fun e w' => e = .returned (.int .u32 (b2i x)) ∧ w = w' := by
  cases x
  · go_enter Try.func55, Try.ntmps55
    go_wp2
    go_ret
    exact ⟨rfl, rfl⟩
  · go_enter Try.func55, Try.ntmps55
    go_wp2
    go_ret
    exact ⟨rfl, rfl⟩
theorem bit_q (x : Bool) (w : World) : Calls Try.prog 55 #[.bool x] w fun e w' => e = .returned (.int .u32 (b2i x)) ∧ w' = w := (bit_any x w).mono fun _ _ h => ⟨h.1, h.2.symm⟩
theorem has0 (n : Nat) (w : World) (hn : n < 4294967296) : Calls Try.prog 75 #[.int .u32 n, .int .i64 0] w fun e w' => e = .returned (.bool (decide (n % 2 = 1))) ∧ w = w' := by
  have h := Lib.hid (and_one n hn)
  go_enter Try.func75, Try.ntmps75
  go_wp2
  go_ret
  exact ⟨by rw [← h.out]; rfl, rfl⟩
theorem has1 (n : Nat) (w : World) (hn : n < 4294967296) : Calls Try.prog 75 #[.int .u32 n, .int .i64 1] w fun e w' => e = .returned (.bool (decide (n / 2 % 2 = 1))) ∧ w = w' := by
  have h := Lib.hid (and_one (n / 2) (by omega))
  go_enter Try.func75, Try.ntmps75
  go_wp2
  go_ret
  exact ⟨by rw [← h.out]; rfl, rfl⟩
theorem grown_box (wd : World) (o : Obj) (n : Nat) : wd.grownBy ((wd.alloc o).drewN n) none := (World.grownBy_alloc wd o none).trans ⟨rfl, rfl, rfl, Nat.le_refl _, fun _ _ _ => rfl⟩
theorem ret_u {k : IntKind} {a c : Int} {x : Value} (h : a = c) : Ending.returned (.tuple #[.int k a, x]) = .returned (.tuple #[.int k c, x]) := by rw [h]
theorem pack_yes (w : Bool) (m : Nat) (wd : World) (hm : m < 16777216) : Calls Try.prog 43 #[.agg #[.bool true, .bool w, .int .i64 m]] wd fun e w' => e = .returned (.tuple #[.int .u32 (m * 256 + b2i true + 2 * b2i w), .int .i64 0]) ∧ wd.grownBy w' none := by
  go_enter Try.func43, Try.ntmps43
  go_wp2_with fail
  go_quiet ((go_at_call 55; exact Calls.quiet_of_same (bit_q _ _)))
  go_wp2
  go_ret2
  exact ⟨ret_u (pack_bits true w m hm), grown_box _ _ _⟩
theorem pack_nil (wd : World) : Calls Try.prog 43 #[.agg #[.bool false, .bool false, .int .i64 0]] wd fun e w' => e = .returned (.tuple #[.int .u32 0, .int .i64 0]) ∧ wd.grownBy w' none := by
  go_enter Try.func43, Try.ntmps43
  go_wp2_with fail
  go_quiet ((go_at_call 55; exact Calls.quiet_of_same (bit_q _ _)))
  go_wp2
  go_ret2
  exact ⟨ret_u (by decide +kernel), grown_box _ _ _⟩
theorem pack_bad (p w : Bool) (m : Int) (wd : World) (hm : m < 0 ∨ 16777216 ≤ m) : Calls Try.prog 43 #[.agg #[.bool p, .bool w, .int .i64 m]] wd fun e w' => e = .returned (.tuple #[.int .u32 0, .int .i64 1]) ∧ wd.grownBy w' none := by
  rcases hm with hm | hm
  · go_enter Try.func43, Try.ntmps43
    go_wp2_with fail
    go_ret2
    exact ⟨rfl, World.grownBy_alloc _ _ _⟩
  · have h0 : ¬ m < 0 := by omega
    go_enter Try.func43, Try.ntmps43
    go_wp2_with fail
    go_ret2
    exact ⟨rfl, World.grownBy_alloc _ _ _⟩
theorem pack_odd (w : Bool) (m : Nat) (wd : World) (hm : m < 16777216) (h : w = true ∨ m ≠ 0) : Calls Try.prog 43 #[.agg #[.bool false, .bool w, .int .i64 m]] wd fun e w' => e = .returned (.tuple #[.int .u32 0, .int .i64 1]) ∧ wd.grownBy w' none := by
  rcases h with rfl | h
  · go_enter Try.func43, Try.ntmps43
    go_wp2_with fail
    go_ret2
    exact ⟨rfl, World.grownBy_alloc _ _ _⟩
  · go_enter Try.func43, Try.ntmps43
    go_wp2_with fail
    all_goals go_ret2
    all_goals exact ⟨rfl, World.grownBy_alloc _ _ _⟩
theorem unpack_no (n : Nat) (wd : World) (hn : n < 4294967296) (h : n % 2 = 0) : Calls Try.prog 74 #[.int .u32 n] wd fun e w' => e = .returned (.tuple #[ent0.val, .int .i64 0]) ∧ wd.grownBy w' none := by
  have h1 : decide (n % 2 = 1) = false := by simp; omega
  go_enter Try.func74, Try.ntmps74
  go_wp2_with (go_at_call 75; refine (has0 n _ hn).mono ?_; rintro e w2 ⟨rfl, rfl⟩)
  exact bodyPost_ret (v := .tuple #[.agg #[.bool false, .bool false, .int .i64 0], .int .i64 0]) (by simp [results, Try.results74, go_sem]) rfl ⟨rfl, World.grownBy_alloc _ _ _⟩
theorem unpack_bad (n : Nat) (wd : World) (hn : n < 4294967296) (h : n % 2 = 1) (h3 : 3 < n % 256) : Calls Try.prog 74 #[.int .u32 n] wd fun e w' => e = .returned (.tuple #[ent0.val, .int .i64 4]) ∧ wd.grownBy w' none := by
  have h1 : decide (n % 2 = 1) = true := by simp [h]
  have h2 := and_252 n hn
  rw [decide_eq_true h3] at h2
  go_enter Try.func74, Try.ntmps74
  go_wp2_with (go_at_call 75; refine (has0 n _ hn).mono ?_; rintro e w2 ⟨rfl, rfl⟩)
  exact bodyPost_ret (v := .tuple #[.agg #[.bool false, .bool false, .int .i64 0], .int .i64 4]) (by simp [results, Try.results74, go_sem]) rfl ⟨rfl, World.grownBy_alloc _ _ _⟩
theorem unpack_yes (n : Nat) (wd : World) (hn : n < 4294967296) (h : n % 2 = 1) (h3 : ¬ 3 < n % 256) : Calls Try.prog 74 #[.int .u32 n] wd fun e w' => e = .returned (.tuple #[(Ent.mk true (decide (n / 2 % 2 = 1)) ((n / 256 : Nat) : Int)).val, .int .i64 0]) ∧ wd.grownBy w' none := by
  have h1 : decide (n % 2 = 1) = true := by simp [h]
  have h2 := and_252 n hn
  rw [decide_eq_false h3] at h2
  obtain ⟨x, hx⟩ : ∃ x, decide (n / 2 % 2 = 1) = x := ⟨_, rfl⟩
  have H1 := Lib.hid (hx ▸ has1 n · hn)
  rw [hx]
  clear hx
  go_enter Try.func74, Try.ntmps74
  go_wp2_with (first | (go_at_call 75; with_reducible refine (has0 n _ hn).mono ?_; rintro e w2 ⟨rfl, rfl⟩) | (go_at_call 75; refine (H1.out _).mono ?_; rintro e w2 ⟨rfl, rfl⟩))
  exact bodyPost_ret (v := .tuple #[.agg #[.bool true, .bool x, .int .i64 ((n / 256 : Nat) : Int)], .int .i64 0]) (by simp [results, Try.results74, go_sem]) rfl ⟨rfl, World.grownBy_alloc _ _ _⟩
theorem unpack_any (n : Nat) (wd : World) (hn : n < 4294967296) : Calls Try.prog 74 #[.int .u32 n] wd fun e w' => e = .returned (.tuple #[(unpackV n).1.val, .int .i64 (unpackV n).2]) ∧ wd.grownBy w' none := by
  by_cases h : n % 2 = 0
  · rw [show unpackV n = (ent0, 0) by unfold unpackV; rw [if_pos h]]; exact unpack_no n wd hn h
  have h1 : n % 2 = 1 := by omega
  by_cases h3 : 3 < n % 256
  · rw [show unpackV n = (ent0, 4) by unfold unpackV; rw [if_neg h, if_pos h3]]; exact unpack_bad n wd hn h1 h3
  · rw [show unpackV n = (⟨true, decide (n / 2 % 2 = 1), (n / 256 : Nat)⟩, 0) by
      unfold unpackV; rw [if_neg h, if_neg h3]
      congr 3; exact propext ⟨fun _ => by omega, fun _ => by omega⟩]
    exact unpack_yes n wd hn h1 h3
theorem pack_any (e : Ent) (wd : World) : Calls Try.prog 43 #[e.val] wd fun x w' => x = .returned (.tuple #[.int .u32 (ptPackV e).1, .int .i64 (ptPackV e).2]) ∧ wd.grownBy w' none := by
  obtain ⟨p, w, m⟩ := e
  by_cases hm : m < 0 ∨ 16777216 ≤ m
  · rw [show ptPackV ⟨p, w, m⟩ = (0, 1) by unfold ptPackV; rw [if_pos]; rcases hm with h | h; exact .inl h; exact .inr (.inl h)]
    exact pack_bad p w m wd hm
  obtain ⟨k, rfl⟩ : ∃ k : Nat, m = k := ⟨m.toNat, by omega⟩
  have hk : k < 16777216 := by omega
  cases p
  · by_cases ho : w = true ∨ k ≠ 0
    · rw [show ptPackV ⟨false, w, k⟩ = (0, 1) by unfold ptPackV; rw [if_pos]; refine .inr (.inr ⟨rfl, ?_⟩); rcases ho with h | h; exact .inl h; exact .inr (by simpa using h)]
      exact pack_odd w k wd hk ho
    · have hw : w = false := by cases w; rfl; exact absurd (.inl rfl) ho
      have h0 : k = 0 := by omega
      subst hw h0
      exact pack_nil wd
  · rw [show ptPackV ⟨true, w, k⟩ = ((k : Int) * 256 + b2i true + 2 * b2i w, 0) by unfold ptPackV; rw [if_neg]; rintro (h | h | h); exact hm (.inl h); exact hm (.inr h); exact absurd h.1 (by simp)]
    exact pack_yes w k wd hk
def split4 (r : Nat × Nat × Nat × Int) : Value := .tuple #[.int .i64 r.1, .int .i64 r.2.1, .int .i64 r.2.2.1, .int .i64 r.2.2.2]
theorem isIndex_yes (k : Int) (w : World) (h0 : 0 ≤ k) (h3 : k < 64) : Calls Try.prog 72 #[.int .i64 k] w fun e w' => e = .returned (.bool true) ∧ w = w' := by
  go_enter Try.func72, Try.ntmps72
  go_wp2
  go_ret
  exact ⟨rfl, rfl⟩
theorem isIndex_no (k : Int) (w : World) (h : k < 0 ∨ 63 < k) : Calls Try.prog 72 #[.int .i64 k] w fun e w' => e = .returned (.bool false) ∧ w = w' := by
  rcases h with h | h
  · go_enter Try.func72, Try.ntmps72
    go_wp2
    go_ret
    exact ⟨rfl, rfl⟩
  · have h' : ¬ k < 64 := by omega
    have h0 : 0 ≤ k := by omega
    clear h
    go_enter Try.func72, Try.ntmps72
    go_wp2
    go_ret
    exact ⟨rfl, rfl⟩
end Go.Proofs.Ytbbaplcfhofeeaa

/-
  Contracts of the small functions of package phys.
-/
set_option linter.unusedSimpArgs false
set_option linter.unusedVariables false
namespace Go.Proofs.Ytbbaplcfhofeeaa
open Go.RowKit
set_option maxHeartbeats 400000

theorem made_nil (w : World) : Calls Try.prog 22 #[.pointer none] w fun e w' => e = .returned (.bool false) ∧ w = w' := by
  go_enter Try.func22, Try.ntmps22
  go_wp2
  go_ret
  exact ⟨rfl, rfl⟩
theorem made_zero (b : Nat) (w : World) (h : w.cell? ⟨b, 0, none⟩ = some (.int .i64 0)) :
    Calls Try.prog 22 #[.pointer (some ⟨b, 0, none⟩)] w fun e w' => e = .returned (.bool false) ∧ w = w' := by
  go_enter Try.func22, Try.ntmps22
  go_wp2
  go_ret
  exact ⟨rfl, rfl⟩
theorem made_yes (b : Nat) (n : Int) (w : World) (hn : 1 ≤ n) (h : w.cell? ⟨b, 0, none⟩ = some (.int .i64 n)) :
    Calls Try.prog 22 #[.pointer (some ⟨b, 0, none⟩)] w fun e w' => e = .returned (.bool true) ∧ w = w' := by
  have hb : (n != 0) = true := by rw [bne_iff_ne]; omega
  go_enter Try.func22, Try.ntmps22
  go_wp2
  go_ret
  exact ⟨by simp [hb], rfl⟩

theorem isKind_yes (k : Int) (w : World) (h0 : 0 ≤ k) (h3 : k ≤ 3) : Calls Try.prog 50 #[.int .i64 k] w fun e w' => e = .returned (.bool true) ∧ w = w' := by
  go_enter Try.func50, Try.ntmps50
  go_wp2
  go_ret
  exact ⟨by simp [h0, h3], rfl⟩
theorem isKind_no (k : Int) (w : World) (h : k < 0 ∨ 3 < k) : Calls Try.prog 50 #[.int .i64 k] w fun e w' => e = .returned (.bool false) ∧ w = w' := by
  by_cases h0 : 0 ≤ k
  · have h3 : ¬ k ≤ 3 := by omega
    clear h
    go_enter Try.func50, Try.ntmps50
    go_wp2
    go_ret
    exact ⟨by simp [h3], rfl⟩
  · clear h
    go_enter Try.func50, Try.ntmps50
    go_wp2
    go_ret
    exact ⟨by simp, rfl⟩
theorem isDomain_yes (k : Int) (w : World) (h0 : 0 ≤ k) (h3 : k < 8) : Calls Try.prog 23 #[.int .i64 k] w fun e w' => e = .returned (.bool true) ∧ w = w' := by
  go_enter Try.func23, Try.ntmps23
  go_wp2
  go_ret
  exact ⟨by simp [h0, h3], rfl⟩
theorem isDomain_no (k : Int) (w : World) (h : k < 0 ∨ 8 ≤ k) : Calls Try.prog 23 #[.int .i64 k] w fun e w' => e = .returned (.bool false) ∧ w = w' := by
  by_cases h0 : 0 ≤ k
  · have h3 : ¬ k < 8 := by omega
    clear h
    go_enter Try.func23, Try.ntmps23
    go_wp2
    go_ret
    exact ⟨by simp [h3], rfl⟩
  · clear h
    go_enter Try.func23, Try.ntmps23
    go_wp2
    go_ret
    exact ⟨by simp, rfl⟩
theorem inPage_yes (o n : Int) (w : World) (h0 : 0 ≤ o) (h1 : 0 ≤ n) (h2 : n ≤ 256 - o) : Calls Try.prog 56 #[.int .i64 o, .int .i64 n] w fun e w' => e = .returned (.bool true) ∧ w = w' := by
  go_enter Try.func56, Try.ntmps56
  go_wp2
  go_ret
  exact ⟨by simp [h0, h1, h2], rfl⟩
theorem inPage_no (o n : Int) (w : World) (ho : o ≤ 9223372036854775807) (h : o < 0 ∨ n < 0 ∨ 256 - o < n) : Calls Try.prog 56 #[.int .i64 o, .int .i64 n] w fun e w' => e = .returned (.bool false) ∧ w = w' := by
  by_cases h0 : 0 ≤ o
  · by_cases h1 : 0 ≤ n
    · have h3 : ¬ n ≤ 256 - o := by omega
      clear h
      go_enter Try.func56, Try.ntmps56
      go_wp2
      go_ret
      exact ⟨by simp [h3], rfl⟩
    · clear h
      go_enter Try.func56, Try.ntmps56
      go_wp2
      go_ret
      exact ⟨by simp, rfl⟩
  · clear h
    go_enter Try.func56, Try.ntmps56
    go_wp2
    go_ret
    exact ⟨by simp, rfl⟩

/-- Size -/
theorem Size_nil (w : World) : Calls Try.prog 24 #[.pointer none] w fun e w' => e = .returned (.int .i64 0) ∧ w = w' := by
  go_enter Try.func24, Try.ntmps24
  go_wp2_with (go_at_call 22; refine (made_nil _).mono ?_; rintro e w' ⟨rfl, rfl⟩)
  go_ret
  exact ⟨rfl, rfl⟩
theorem Size_zero (b : Nat) (w : World) (h : w.cell? ⟨b, 0, none⟩ = some (.int .i64 0)) : Calls Try.prog 24 #[.pointer (some ⟨b, 0, none⟩)] w fun e w' => e = .returned (.int .i64 0) ∧ w = w' := by
  go_enter Try.func24, Try.ntmps24
  go_wp2_with (go_at_call 22; refine (made_zero _ _ h).mono ?_; rintro e w' ⟨rfl, rfl⟩)
  go_ret
  exact ⟨rfl, rfl⟩
theorem Size_yes (b : Nat) (n : Int) (w : World) (hn : 1 ≤ n) (h : w.cell? ⟨b, 0, none⟩ = some (.int .i64 n)) : Calls Try.prog 24 #[.pointer (some ⟨b, 0, none⟩)] w fun e w' => e = .returned (.int .i64 n) ∧ w = w' := by
  go_enter Try.func24, Try.ntmps24
  go_wp2_with (go_at_call 22; refine (made_yes _ n _ hn h).mono ?_; rintro e w' ⟨rfl, rfl⟩)
  go_ret
  exact ⟨rfl, rfl⟩

/-- at -/
theorem at_nil (i : Int) (w : World) : Calls Try.prog 39 #[.pointer none, .int .i64 i] w fun e w' => e = .returned (.tuple #[.pointer none, .int .i64 7]) ∧ w = w' := by
  go_enter Try.func39, Try.ntmps39
  go_wp2_with (go_at_call 22; refine (made_nil _).mono ?_; rintro e w' ⟨rfl, rfl⟩)
  go_ret2
  exact ⟨rfl, rfl⟩
theorem at_zero (b : Nat) (i : Int) (w : World) (h : w.cell? ⟨b, 0, none⟩ = some (.int .i64 0)) : Calls Try.prog 39 #[.pointer (some ⟨b, 0, none⟩), .int .i64 i] w fun e w' => e = .returned (.tuple #[.pointer none, .int .i64 7]) ∧ w = w' := by
  go_enter Try.func39, Try.ntmps39
  go_wp2_with (go_at_call 22; refine (made_zero _ _ h).mono ?_; rintro e w' ⟨rfl, rfl⟩)
  go_ret2
  exact ⟨rfl, rfl⟩
theorem at_no (b : Nat) (n i : Int) (w : World) (hn : 1 ≤ n) (hi : i < 0 ∨ n ≤ i) (h : w.cell? ⟨b, 0, none⟩ = some (.int .i64 n)) :
    Calls Try.prog 39 #[.pointer (some ⟨b, 0, none⟩), .int .i64 i] w fun e w' => e = .returned (.tuple #[.pointer none, .int .i64 1]) ∧ w = w' := by
  by_cases h0 : i < 0
  · clear hi
    go_enter Try.func39, Try.ntmps39
    go_wp2_with (go_at_call 22; refine (made_yes _ n _ hn h).mono ?_; rintro e w' ⟨rfl, rfl⟩)
    go_ret2
    exact ⟨rfl, rfl⟩
  · have h1 : n ≤ i := by omega
    clear hi
    go_enter Try.func39, Try.ntmps39
    go_wp2_with (go_at_call 22; refine (made_yes _ n _ hn h).mono ?_; rintro e w' ⟨rfl, rfl⟩)
    go_ret2
    exact ⟨rfl, rfl⟩
theorem at_yes (b : Nat) (n : Int) (i : Nat) (w : World) (hn : n ≤ 256) (hi : (i : Int) < n) (h : w.cell? ⟨b, 0, none⟩ = some (.int .i64 n)) :
    Calls Try.prog 39 #[.pointer (some ⟨b, 0, none⟩), .int .i64 i] w fun e w' => e = .returned (.tuple #[.pointer (some ⟨b, 1 + i * 260, none⟩), .int .i64 0]) ∧ w = w' := by
  go_enter Try.func39, Try.ntmps39
  go_wp2_with (go_at_call 22; refine (made_yes _ n _ (by omega) h).mono ?_; rintro e w' ⟨rfl, rfl⟩)
  go_ret2
  exact ⟨rfl, rfl⟩

end Go.Proofs.Ytbbaplcfhofeeaa
