/-
  Package mmu: a change of one entry, whole.
-/
import Derived.Test.YtbbaplcfhofeeaaK13
import Derived.Test.YtbbaplcfhofeeaaK11
set_option linter.unusedSimpArgs false
set_option linter.unusedVariables false
namespace Go.Proofs.Ytbbaplcfhofeeaa
open Go.RowKit
set_option maxHeartbeats 1000000

theorem CHolds.ty_cases {M : Mach} {C : Cnt} (h : CHolds M C) {t : Nat} (ht : (t : Int) < M.n) : (M.fr t).ty = 0 ∨ (M.fr t).ty = 1 ∨ (M.fr t).ty = 2 ∨ (M.fr t).ty = 3 := by
  have hc := h.cnt t ht
  by_cases h0 : (M.fr t).cnt = 0
  · exact .inl (h.ty0 t ht h0)
  · have : 0 < C t 1 ∨ 0 < C t 2 ∨ 0 < C t 3 := by omega
    rcases this with e | e | e
    · have := h.ty t 1 ht (by omega) (by omega) e; omega
    · have := h.ty t 2 ht (by omega) (by omega) e; omega
    · have := h.ty t 3 ht (by omega) (by omega) e; omega
theorem updG_core {lv : Nat} {tk : Mach → Int → Nat → Int × Mach} {dp : Mach → Nat × Nat → Mach} {M : Mach} {o : Int} {t j n : Nat} :
    (updG lv tk dp M o t j n).1 = (tk M o n).1 ∧ (updG lv tk dp M o t j n).2 = if (tk M o n).1 = 0 then leaveG lv dp ((tk M o n).2.write t (4 * j : Nat) (le4 n)).2 (M.word t j) else M := by
  unfold updG
  by_cases e : (tk M o n).1 = 0
  · rw [if_neg (by simpa using e), if_pos e, e]; exact ⟨rfl, rfl⟩
  · rw [if_pos e, if_neg e]; exact ⟨rfl, rfl⟩
/-- the old entry's reference stands at the table written anew -/
theorem upd_put {M : Mach} {F : Cnt} {t j n : Nat} {o : Int} (h : Inv2 M F) (ht : (t : Int) < M.n) (hty : (M.fr t).ty = 3) (ho : (M.fr t).owner = o) (ho1 : o ≠ -1) (hj : j < 64) (hn : n < 4294967296) (e1 : (take2 M o n).1 = 0) :
    ∀ r, rf 2 (M.word t j) = some r → (((take2 M o n).2.write t (4 * j : Nat) (le4 n)).2.put r.1 (2 : Nat)).1 = 0 := by
  intro r hr
  have hC : CHolds M (full 1 2 M (full 2 3 M F)) := h.inv.inv
  have hp : 0 < F t 3 := by have := hC.of_ty ht (k := 3) (by omega) hty; rwa [full1_3, full_other (rf_two_ne (by decide))] at this
  have s1 := lvl2.tk_same M o n
  obtain ⟨h1, g1⟩ := lvl2.tk_yes h.inv e1
  obtain ⟨_, w⟩ := write_wrote (M := (take2 M o n).2) (t := t) (j := j) (n := n) (by rw [s1.n]; exact ht) hj hn (by rw [s1.owner, ho]; exact ho1)
  have wt : (take2 M o n).2.word t j = M.word t j := Mach.word_bs (s1.bs t) j
  have ht1 : (t : Int) < (take2 M o n).2.n := by rw [s1.n]; exact ht
  rw [← full_same s1] at h1
  have h2 : Inv1 ((take2 M o n).2.write t (4 * j : Nat) (le4 n)).2 _ := w.inv1 h1 (by
    have h3 : 0 < ((full 2 3 (take2 M o n).2 F).plus (rf 2 n).toList) t 3 := by
      unfold Cnt.plus; rw [full_other (rf_two_ne (by decide))]; omega
    have := (h1.inv.only (i := t) (k := 3) ht1 (by omega) (by omega) (by rw [full1_3]; exact h3)).2 2 (by omega) (by omega) (by omega)
    rwa [full1_2] at this)
  rw [w.full_in hj ht1 hp, wt, hr] at h2
  simp only [Option.toList_some, Cnt.plus_one] at h2
  have k2 := rf_two hr
  have gd := h.g t ht hp j hj
  have hr1 : (r.1 : Int) < M.n := by
    unfold rf at hr
    split at hr
    · rename_i hpp; cases hr; exact (gd.2 hpp).1
    · cases hr
  exact Inv1.put_ok0 h2 (by unfold Cnt.add; rw [k2, if_pos ⟨rfl, rfl⟩]; omega) (by rw [w.sz, s1.n]; exact hr1)
end Go.Proofs.Ytbbaplcfhofeeaa

/-
  Page tables as plain data: what holds of machine, pins and roots behind any calls.
-/
set_option linter.unusedSimpArgs false
set_option linter.unusedVariables false
namespace Go.Proofs.Ytbbaplcfhofeeaa
open Go.RowKit
set_option maxHeartbeats 1000000

theorem count_flat (n : Nat) (f : Nat → List (Nat × Nat)) (x : Nat × Nat) : ((List.range n).flatMap f).count x = ((List.range n).map fun j => (f j).count x).sum := by
  induction n with
  | zero => rfl
  | succ k ih => rw [List.range_succ, List.flatMap_append, List.count_append, ih]; simp
/-- the references of a domain's own -/
def pinK (l : List (Int × Int)) : List (Nat × Nat) := l.map fun p => (p.1.toNat, p.2.toNat + 1)
def rootK (r : Int) : List (Nat × Nat) := if r = -1 then [] else [(r.toNat, 3)]
def spK (s : Sp) : List (Nat × Nat) := pinK s.pins ++ rootK s.root
/-- counts out of pins and roots, and E of those beside -/
def outF (sp : Nat → Sp) (E : Cnt) : Cnt := E.plus ((List.range 8).flatMap fun d => spK (sp d))
theorem outF_change {sp : Nat → Sp} {E : Cnt} {d : Nat} {s' : Sp} (hd : d < 8) (a b : List (Nat × Nat)) (h : ∀ x, (spK s').count x + a.count x = (spK (sp d)).count x + b.count x) : (outF (upS sp d s') E).plus a = (outF sp E).plus b := by
  funext i k
  have h2 := h (i, k)
  have := sum_point 8 d (fun q => (spK (upS sp d s' q)).count (i, k)) (fun q => (spK (sp q)).count (i, k)) hd (fun s _ hs => by rw [upS_other _ _ _ _ hs])
  simp only [upS_same] at this
  unfold outF Cnt.plus
  rw [count_flat, count_flat]
  omega
theorem outF_E (sp : Nat → Sp) (E : Cnt) (i k : Nat) : outF sp (E.add i k) = (outF sp E).add i k := Cnt.add_plus _ _ _ _
structure SpOk (n : Int) (s : Sp) : Prop where
  pins : ∀ p ∈ s.pins, (0 ≤ p.1 ∧ p.1 < n) ∧ (p.2 = 1 ∨ p.2 = 2)
  nodup : (s.pins.map Prod.fst).Nodup
  root : s.root ≠ -1 → 0 ≤ s.root ∧ s.root < n
/-- all that holds behind any calls -/
structure All (M : Mach) (sp : Nat → Sp) (E : Cnt) : Prop where
  inv : Inv2 M (outF sp E)
  sp : ∀ d, d < 8 → SpOk M.n (sp d)
  ok : ∃ T, M.ok T
theorem SpOk.up {n : Int} {sp : Nat → Sp} {d : Nat} {s : Sp} (h : ∀ e, e < 8 → SpOk n (sp e)) (hs : SpOk n s) : ∀ e, e < 8 → SpOk n (upS sp d s e) := fun e he => by
  by_cases ed : e = d
  · subst ed; rw [upS_same]; exact hs
  · rw [upS_other _ _ _ _ ed]; exact h e he
theorem refT_ok {M : Mach} {T : Int} (h : M.ok T) (lv o t : Int) : (refT lv M o t).2.ok (T + 5000) := by
  have hm : ∀ {A : Mach} {S S' : Int}, A.ok S → S ≤ S' → A.ok S' := fun h hs => ⟨h.n1, h.n2, fun i hi => ⟨(h.fr i hi).1, Int.le_trans (h.fr i hi).2 hs⟩⟩
  unfold refT; split
  · exact hm (tabG_ok' (c := 1) (fun h o n => take1_ok h o n) h o t) (by omega)
  · exact hm (tabG_ok' (c := 65) (fun h o n => take2_ok h o n) h o t) (by omega)
theorem unrefT_ok' {M : Mach} {T : Int} (h : M.ok T) (lv : Int) (t : Nat) : (unrefT lv M t).ok T := by
  unfold unrefT; split
  · exact untabG_ok' dp1_ok h t
  · exact untabG_ok' dp2_ok h t
theorem pinAt_fresh {l : List (Int × Int)} {i : Int} (h : ¬ 0 ≤ pinAt l i) : i ∉ l.map Prod.fst := fun e => by
  obtain ⟨p, hp, he⟩ := List.mem_map.1 e
  apply h
  unfold pinAt
  rw [if_pos (show pinIx l i < l.length from List.findIdx_lt_length_of_exists ⟨p, hp, by simp [he]⟩)]
  omega
theorem All.pin {M : Mach} {sp : Nat → Sp} {E : Cnt} (h : All M sp E) (o i lv : Int) : All (pinV M sp o i lv).2.1 (pinV M sp o i lv).2.2 E := by
  unfold pinV
  split
  · exact h
  rename_i h1
  split
  · exact h
  rename_i h2
  split
  · exact h
  rename_i h3
  have hd : domOk o = true := by cases e : domOk o; (exact absurd (.inl e) h1); rfl
  have hlv : lv = 1 ∨ lv = 2 := Classical.not_not.1 fun e => h1 (.inr (.inl e))
  obtain ⟨d, rfl, hd8⟩ := domOk_nat hd
  simp only [Int.toNat_natCast] at h2 h3 ⊢
  have he : (refT lv M d i).1 = 0 := Classical.not_not.1 h3
  obtain ⟨a, b, _⟩ := refT_yes hlv h.inv he
  obtain ⟨b0, b1⟩ := Mach.is_iff.1 b
  have sm := refT_same lv M d i
  obtain ⟨T, hT⟩ := h.ok
  refine ⟨?_, ?_, _, refT_ok hT lv d i⟩
  · have := outF_change (sp := sp) (E := E) (s' := { sp d with pins := (sp d).pins ++ [(i, lv)] }) hd8 [] [(i.toNat, lv.toNat + 1)] (fun x => by unfold spK pinK; simp only [List.map_append, List.count_append, List.map_cons, List.map_nil, List.count_nil]; omega)
    rw [Cnt.plus_nil, Cnt.plus_one] at this
    rw [this]; exact a
  · rw [sm.n]
    refine SpOk.up h.sp ⟨fun p hp => ?_, ?_, (h.sp d hd8).root⟩
    · rcases List.mem_append.1 hp with e | e
      · exact (h.sp d hd8).pins p e
      · rw [List.mem_singleton.1 e]; exact ⟨⟨b0, b1⟩, hlv⟩
    · simp only [List.map_append, List.map_cons, List.map_nil]
      rw [List.nodup_append]
      refine ⟨(h.sp d hd8).nodup, by simp, fun x hx y hy e => ?_⟩
      rw [List.mem_singleton.1 hy] at e
      exact pinAt_fresh h2 (e ▸ hx)
theorem All.unpin {M : Mach} {sp : Nat → Sp} {E : Cnt} (h : All M sp E) (o i : Int) : All (unpinV M sp o i).2.1 (unpinV M sp o i).2.2 E := by
  unfold unpinV
  split
  · exact h
  rename_i h1
  have hd : domOk o = true := by cases e : domOk o; (exact absurd e h1); rfl
  obtain ⟨d, rfl, hd8⟩ := domOk_nat hd
  simp only [Int.toNat_natCast]
  generalize hk : pinIx (sp d).pins i = k
  split
  · exact h
  rename_i p hp
  obtain ⟨hkl, hp⟩ := List.getElem?_eq_some_iff.1 hp
  obtain ⟨⟨p0, p1⟩, hlv⟩ := (h.sp d hd8).pins p (hp ▸ List.getElem_mem hkl)
  obtain ⟨T, hT⟩ := h.ok
  have e1 := outF_change (sp := sp) (E := E) (s' := { sp d with pins := (sp d).pins.eraseIdx k }) hd8 [(p.1.toNat, p.2.toNat + 1)] [] (fun x => by
    unfold spK pinK
    simp only [List.count_append, List.count_nil]
    have hperm : (sp d).pins.Perm (p :: (sp d).pins.eraseIdx k) := by
      have e : (sp d).pins = (sp d).pins.take k ++ (sp d).pins.drop k := (List.take_append_drop _ _).symm
      rw [List.drop_eq_getElem_cons hkl, hp] at e
      have e2 : (sp d).pins.eraseIdx k = (sp d).pins.take k ++ (sp d).pins.drop (k + 1) := List.eraseIdx_eq_take_drop_succ _ _
      rw [e2]
      exact (List.Perm.of_eq e).trans List.perm_middle
    have := (hperm.map fun p => (p.1.toNat, p.2.toNat + 1)).count_eq x
    simp only [List.map_cons] at this
    rw [this, List.count_cons, List.count_cons, List.count_nil]
    omega)
  rw [Cnt.plus_nil, Cnt.plus_one] at e1
  refine ⟨unrefT_ok hlv (by rw [e1]; exact h.inv) (by omega), ?_, T, unrefT_ok' hT _ _⟩
  rw [(unrefT_same _ _ _).n]
  refine SpOk.up h.sp ⟨fun p hp => (h.sp d hd8).pins p (List.mem_of_mem_eraseIdx hp), ?_, (h.sp d hd8).root⟩
  exact (h.sp d hd8).nodup.sublist ((List.eraseIdx_sublist _ _).map _)
theorem dropRoot_same (M : Mach) (r : Int) : MSame M (dropRoot M r) := by
  unfold dropRoot; split
  · exact .refl _
  · exact untabG_same lvl2 _ _
theorem dropRoot_ok {M : Mach} {T : Int} (h : M.ok T) (r : Int) : (dropRoot M r).ok T := by
  unfold dropRoot; split
  · exact h
  · exact untabG_ok' dp2_ok h _
theorem dropRoot_inv {M : Mach} {F : Cnt} {r : Int} (h : Inv2 M (F.plus (rootK r))) (hr : r ≠ -1 → 0 ≤ r ∧ r < M.n) : Inv2 (dropRoot M r) F := by
  unfold dropRoot
  unfold rootK at h
  split
  · rename_i e; rw [if_pos e, Cnt.plus_nil] at h; exact h
  · rename_i e
    rw [if_neg e, Cnt.plus_one] at h
    have := hr e
    exact untabG_ok lvl2 h (by omega)
theorem All.base {M : Mach} {sp : Nat → Sp} {E : Cnt} (h : All M sp E) (o i : Int) : All (baseV M sp o i).2.1 (baseV M sp o i).2.2 E := by
  unfold baseV
  split
  · exact h
  rename_i h1
  have hd : domOk o = true := by cases e : domOk o; (exact absurd (.inl e) h1); rfl
  obtain ⟨d, rfl, hd8⟩ := domOk_nat hd
  obtain ⟨T, hT⟩ := h.ok
  simp only [Int.toNat_natCast]
  have key : ∀ r, (outF (upS sp d { sp d with root := r }) E).plus (rootK (sp d).root) = (outF sp E).plus (rootK r) := fun r => outF_change hd8 _ _ (fun x => by unfold spK; simp only [List.count_append]; omega)
  split
  · have e := key (-1)
    rw [show rootK (-1) = [] from rfl, Cnt.plus_nil] at e
    refine ⟨dropRoot_inv (by rw [e]; exact h.inv) (h.sp d hd8).root, ?_, T, dropRoot_ok hT _⟩
    rw [(dropRoot_same _ _).n]
    exact SpOk.up h.sp ⟨(h.sp d hd8).pins, (h.sp d hd8).nodup, fun e => absurd rfl e⟩
  rename_i hi
  split
  · exact h
  rename_i h3
  have he : (tabG 3 take2 M d i).1 = 0 := Classical.not_not.1 h3
  obtain ⟨a, b, _⟩ := tabG_yes lvl2 h.inv he
  obtain ⟨b0, b1⟩ := Mach.is_iff.1 b
  have sm := tabG_same lvl2 M d i
  have e := key i
  rw [show rootK i = [(i.toNat, 3)] from if_neg hi, Cnt.plus_one] at e
  refine ⟨dropRoot_inv (by rw [e]; exact a) (by rw [sm.n]; exact (h.sp d hd8).root), ?_, _, dropRoot_ok (tabG_ok' (c := 65) (fun h o n => take2_ok h o n) hT _ _) _⟩
  rw [(dropRoot_same _ _).n, sm.n]
  exact SpOk.up h.sp ⟨(h.sp d hd8).pins, (h.sp d hd8).nodup, fun _ => ⟨b0, b1⟩⟩
theorem updV_okT {M : Mach} {T : Int} (h : M.ok T) (o t i : Int) (n : Nat) : (updV M o t i n).2.ok (T + 65) := by
  have hm : ∀ {A : Mach} {S S' : Int}, A.ok S → S ≤ S' → A.ok S' := fun h hs => ⟨h.n1, h.n2, fun i hi => ⟨(h.fr i hi).1, Int.le_trans (h.fr i hi).2 hs⟩⟩
  unfold updV
  split
  · exact hm h (by omega)
  split
  · exact hm h (by omega)
  split
  · rw [updG_core.2]
    split
    · exact hm (leaveG_ok' dp1_ok (Mach.write_ok (take1_ok h _ _) _ _ _) _) (by omega)
    · exact hm h (by omega)
  split
  · rw [updG_core.2]
    split
    · exact hm (leaveG_ok' dp2_ok (Mach.write_ok (take2_ok h _ _) _ _ _) _) (by omega)
    · exact hm h (by omega)
  · exact hm h (by omega)
theorem All.upd {M : Mach} {sp : Nat → Sp} {E : Cnt} (h : All M sp E) (o t i : Int) {n : Nat} (hn : n < 4294967296) : All (updV M o t i n).2 sp E := by
  obtain ⟨T, hT⟩ := h.ok
  exact ⟨updV_ok h.inv hn, by rw [(updV_own M o t i n).n]; exact h.sp, _, updV_okT hT _ _ _ _⟩
theorem All.get {M : Mach} {sp : Nat → Sp} {E : Cnt} (h : All M sp E) {m : Nat} (hm : m ≤ 1) {o t : Int} (he : (M.get t o m).1 = 0) : All (M.get t o m).2 sp (E.add t.toNat m) := by
  obtain ⟨T, hT⟩ := h.ok
  exact ⟨by rw [outF_E]; exact Inv2.get hm h.inv he, by rw [(Mach.get_same M t o m).n]; exact h.sp, _, Mach.get_ok hT _ _ _⟩

theorem sum_le (n b : Nat) (f : Nat → Nat) (h : ∀ j, j < n → f j ≤ b) : ((List.range n).map f).sum ≤ b * n := by
  induction n with
  | zero => simp
  | succ k ih =>
    rw [List.range_succ, List.map_append, List.sum_append]
    have := ih fun j hj => h j (by omega)
    have := h k (by omega)
    simp only [List.map_cons, List.map_nil, List.sum_cons, List.sum_nil, Nat.mul_succ]
    omega
theorem length_counts (n : Nat) : ∀ l : List Nat, (∀ x ∈ l, x < n) → l.length = ((List.range n).map fun j => l.count j).sum
  | [], _ => by
    have : ((List.range n).map fun j => ([] : List Nat).count j).sum ≤ 0 * n := sum_le n 0 _ (fun j _ => by simp)
    simp only [List.length_nil]; omega
  | x :: l, h => by
    have ih := length_counts n l fun y hy => h y (List.mem_cons_of_mem _ hy)
    have := sum_point n x (fun j => (x :: l).count j) (fun j => l.count j) (h x (by simp)) (fun s _ hs => by simp [List.count_cons, Ne.symm hs])
    simp only [List.count_cons_self] at this
    simp only [List.length_cons]
    omega
theorem nodup_count {l : List Nat} (h : l.Nodup) (x : Nat) : l.count x ≤ 1 := by
  induction l with
  | nil => simp
  | cons y l ih =>
    obtain ⟨h1, h2⟩ := List.nodup_cons.1 h
    have := ih h2
    rw [List.count_cons]
    by_cases e : y = x
    · subst e; rw [List.count_eq_zero.2 h1]; simp
    · simp [e]; omega
theorem SpOk.length {n : Int} {s : Sp} (h : SpOk n s) : s.pins.length ≤ n.toNat := by
  have hm : ∀ x ∈ (s.pins.map fun p => p.1.toNat), x < n.toNat := fun x hx => by
    obtain ⟨p, hp, rfl⟩ := List.mem_map.1 hx
    have := (h.pins p hp).1
    omega
  have hnd : (s.pins.map fun p => p.1.toNat).Nodup := by
    have := h.nodup
    unfold List.Nodup at this ⊢
    rw [List.pairwise_map] at this ⊢
    refine this.imp_of_mem fun ha hb hne e => hne ?_
    have := (h.pins _ ha).1; have := (h.pins _ hb).1
    omega
  have := length_counts n.toNat _ hm
  rw [List.length_map] at this
  rw [this]
  exact Nat.le_trans (sum_le n.toNat 1 _ fun j _ => nodup_count hnd j) (by omega)
theorem count4 (i : Nat) : ∀ l : List (Nat × Nat), l.count (i, 0) + l.count (i, 1) + l.count (i, 2) + l.count (i, 3) ≤ l.length
  | [] => by simp
  | (a, b) :: l => by
    have ih := count4 i l
    simp only [List.count_cons, List.length_cons, beq_iff_eq, Prod.mk.injEq]
    (repeat' split) <;> omega
theorem full_bound {M : Mach} {lv K : Nat} {F : Cnt} {S i : Nat} (h : F i 0 + F i 1 + F i 2 + F i 3 ≤ S) : full lv K M F i 0 + full lv K M F i 1 + full lv K M F i 2 + full lv K M F i 3 ≤ S + 64 * M.n.toNat := by
  have key : ∀ n, ((List.range n).map fun t => if 0 < F t K then (M.refs lv t 64).count (i, 0) else 0).sum + ((List.range n).map fun t => if 0 < F t K then (M.refs lv t 64).count (i, 1) else 0).sum + ((List.range n).map fun t => if 0 < F t K then (M.refs lv t 64).count (i, 2) else 0).sum + ((List.range n).map fun t => if 0 < F t K then (M.refs lv t 64).count (i, 3) else 0).sum ≤ 64 * n := by
    intro n
    induction n with
    | zero => simp
    | succ k ih =>
      simp only [List.range_succ, List.map_append, List.sum_append, List.map_cons, List.map_nil, List.sum_cons, List.sum_nil]
      have h4 := count4 i (M.refs lv k 64)
      have h5 : (M.refs lv k 64).length ≤ 64 := by
        unfold Mach.refs
        rw [List.length_flatMap]
        refine Nat.le_trans (sum_le 64 1 _ fun j _ => ?_) (by omega)
        cases rf lv (M.word k j) <;> simp
      split <;> omega
  have := key M.n.toNat
  unfold full
  omega
theorem outF_bound {sp : Nat → Sp} {E : Cnt} {n : Int} {S i : Nat} (hn : n ≤ 256) (hsp : ∀ d, d < 8 → SpOk n (sp d)) (h : E i 0 + E i 1 + E i 2 + E i 3 ≤ S) : outF sp E i 0 + outF sp E i 1 + outF sp E i 2 + outF sp E i 3 ≤ S + 2056 := by
  have h4 := count4 i ((List.range 8).flatMap fun d => spK (sp d))
  have h5 : ((List.range 8).flatMap fun d => spK (sp d)).length ≤ 257 * 8 := by
    rw [List.length_flatMap]
    refine sum_le 8 257 _ fun d hd => ?_
    have := (hsp d hd).length
    have h6 : (rootK (sp d).root).length ≤ 1 := by unfold rootK; split <;> simp
    simp only [spK, pinK, List.length_append, List.length_map]
    omega
  unfold outF Cnt.plus
  omega
/-- the machine is sound, of so many references -/
theorem All.okT {M : Mach} {sp : Nat → Sp} {E : Cnt} (h : All M sp E) {S : Nat} (hE : ∀ i, E i 0 + E i 1 + E i 2 + E i 3 ≤ S) : M.ok ((S + 34824 : Nat) : Int) := by
  obtain ⟨T, hT⟩ := h.ok
  have hC : CHolds M (full 1 2 M (full 2 3 M (outF sp E))) := h.inv.inv.inv
  refine ⟨hT.n1, hT.n2, fun i hi => ⟨(hT.fr i hi).1, ?_⟩⟩
  rw [hC.tot i hi]
  have n2 := hT.n2
  have b0 := outF_bound (sp := sp) (i := i) n2 h.sp (hE i)
  have b1 := full_bound (M := M) (lv := 2) (K := 3) b0
  have b2 := full_bound (M := M) (lv := 1) (K := 2) b1
  omega
theorem All.len {M : Mach} {sp : Nat → Sp} {E : Cnt} (h : All M sp E) {d : Nat} (hd : d < 8) : (sp d).pins.length ≤ 256 := by
  have := (h.sp d hd).length
  obtain ⟨T, hT⟩ := h.ok
  have := hT.n2
  omega
end Go.Proofs.Ytbbaplcfhofeeaa

/-
  Rows of changes and whole drops, plain.
-/
set_option linter.unusedSimpArgs false
set_option linter.unusedVariables false
namespace Go.Proofs.Ytbbaplcfhofeeaa
open Go.RowKit
set_option maxHeartbeats 1000000

abbrev Upd := Int × Int × Nat
/-- changes one by one, up to the first that is refused -/
def updsV (o : Int) : Mach → List Upd → Nat × Int × Mach
  | M, [] => (0, 0, M)
  | M, u :: l => if (updV M o u.1 u.2.1 u.2.2).1 ≠ 0 then (0, (updV M o u.1 u.2.1 u.2.2).1, M) else
    ((updsV o (updV M o u.1 u.2.1 u.2.2).2 l).1 + 1, (updsV o (updV M o u.1 u.2.1 u.2.2).2 l).2)
/-- the machine behind the first changes, as far as none was refused -/
def updsM (o : Int) (M : Mach) (l : List Upd) (k : Nat) : Mach := (l.take k).foldl (fun M u => (updV M o u.1 u.2.1 u.2.2).2) M
theorem updsM_succ (o : Int) (M : Mach) (l : List Upd) (k : Nat) (h : k < l.length) : updsM o M l (k + 1) = (updV (updsM o M l k) o l[k].1 l[k].2.1 l[k].2.2).2 := by
  unfold updsM
  rw [List.take_succ_eq_append_getElem h, List.foldl_append]
  rfl
theorem updsV_stop (o : Int) : ∀ (l : List Upd) (M : Mach) (k : Nat) (h : k < l.length), (∀ j (hj : j < k), (updV (updsM o M l j) o l[j].1 l[j].2.1 l[j].2.2).1 = 0) → (updV (updsM o M l k) o l[k].1 l[k].2.1 l[k].2.2).1 ≠ 0 → updsV o M l = (k, (updV (updsM o M l k) o l[k].1 l[k].2.1 l[k].2.2).1, updsM o M l k)
  | [], _, _, h, _, _ => by simp at h
  | u :: l, M, 0, h, _, h2 => by
    unfold updsV
    have h2' : (updV M o u.1 u.2.1 u.2.2).1 ≠ 0 := h2
    rw [if_pos h2']
    rfl
  | u :: l, M, k + 1, h, h1, h2 => by
    have h0 : (updV M o u.1 u.2.1 u.2.2).1 = 0 := h1 0 (by omega)
    have ih := updsV_stop o l (updV M o u.1 u.2.1 u.2.2).2 k (by simpa using h) (fun j hj => h1 (j + 1) (by omega)) h2
    rw [updsV, if_neg (by simpa using h0), ih]
    rfl
theorem updsV_end (o : Int) : ∀ (l : List Upd) (M : Mach), (∀ j (hj : j < l.length), (updV (updsM o M l j) o l[j].1 l[j].2.1 l[j].2.2).1 = 0) → updsV o M l = (l.length, 0, updsM o M l l.length)
  | [], M, _ => rfl
  | u :: l, M, h1 => by
    have h0 : (updV M o u.1 u.2.1 u.2.2).1 = 0 := h1 0 (by simp)
    have ih := updsV_end o l (updV M o u.1 u.2.1 u.2.2).2 (fun j hj => h1 (j + 1) (by simpa using hj))
    rw [updsV, if_neg (by simpa using h0), ih]
    rfl
def okU (l : List Upd) : Prop := ∀ u ∈ l, u.2.2 < 4294967296
theorem All.updsM {M : Mach} {sp : Nat → Sp} {E : Cnt} (h : All M sp E) (o : Int) {l : List Upd} (hl : okU l) : ∀ k, k ≤ l.length → All (Go.Proofs.Ytbbaplcfhofeeaa.updsM o M l k) sp E
  | 0, _ => h
  | k + 1, hk => by
    rw [updsM_succ o M l k (by omega)]
    exact (h.updsM o hl k (by omega)).upd _ _ _ (hl _ (List.getElem_mem _))
theorem All.upds {sp : Nat → Sp} {E : Cnt} (o : Int) : ∀ {l : List Upd} {M : Mach}, okU l → All M sp E → All (updsV o M l).2.2 sp E
  | [], _, _, h => h
  | u :: l, M, hl, h => by
    unfold updsV
    split
    · exact h
    · exact All.upds (l := l) o (fun x hx => hl x (List.mem_cons_of_mem _ hx)) (h.upd _ _ _ (hl u (by simp)))

/-- all pins of a domain go, and its root -/
def dropM (M : Mach) (l : List (Int × Int)) : Mach := l.foldl (fun M p => unrefT p.2 M p.1.toNat) M
def dropV (M : Mach) (sp : Nat → Sp) (o : Int) : Int × Mach × (Nat → Sp) :=
  if domOk o = false then (1, M, sp) else baseV (dropM M (sp o.toNat).pins) (upS sp o.toNat { sp o.toNat with pins := [] }) o (-1)
theorem dropM_succ (M : Mach) (l : List (Int × Int)) (k : Nat) (h : k < l.length) : dropM M (l.take (k + 1)) = unrefT l[k].2 (dropM M (l.take k)) l[k].1.toNat := by
  unfold dropM
  rw [List.take_succ_eq_append_getElem h, List.foldl_append]
  rfl
/-- behind the first k pins of a domain the rest stands -/
theorem All.dropped {M : Mach} {sp : Nat → Sp} {E : Cnt} {d : Nat} (h : All M sp E) (hd : d < 8) : ∀ k, k ≤ (sp d).pins.length → All (dropM M ((sp d).pins.take k)) (upS sp d { sp d with pins := (sp d).pins.drop k }) E
  | 0, _ => by
    have : upS sp d { sp d with pins := (sp d).pins.drop 0 } = sp := by
      funext e
      by_cases ed : e = d
      · subst ed; rw [upS_same]; rfl
      · rw [upS_other _ _ _ _ ed]
    rw [this]
    exact h
  | k + 1, hk => by
    have ih := h.dropped hd k (by omega)
    rw [dropM_succ M _ k (by omega)]
    have hdr : (sp d).pins.drop k = (sp d).pins[k] :: (sp d).pins.drop (k + 1) := List.drop_eq_getElem_cons (by omega)
    obtain ⟨⟨p0, p1⟩, hlv⟩ := (h.sp d hd).pins _ (List.getElem_mem (show k < (sp d).pins.length by omega))
    generalize (sp d).pins[k] = p at *
    obtain ⟨T, hT⟩ := ih.ok
    have sn : (dropM M ((sp d).pins.take k)).n = M.n := by
      unfold dropM
      generalize (sp d).pins.take k = l
      clear ih hT
      induction l generalizing M with
      | nil => rfl
      | cons q l il => 
        have : ∀ (l : List (Int × Int)) (A : Mach), (l.foldl (fun M p => unrefT p.2 M p.1.toNat) A).n = A.n := fun l => by
          induction l with
          | nil => intro A; rfl
          | cons q l il => intro A; exact (il _).trans (unrefT_same _ _ _).n
        exact this (q :: l) M
    have e1 := outF_change (sp := upS sp d { sp d with pins := (sp d).pins.drop k }) (E := E) (d := d) (s' := { sp d with pins := (sp d).pins.drop (k + 1) }) hd [(p.1.toNat, p.2.toNat + 1)] [] (fun x => by
      rw [upS_same, hdr]
      simp only [spK, pinK, List.count_append, List.map_cons, List.count_cons, List.count_nil]
      omega)
    have e2 : upS (upS sp d { sp d with pins := (sp d).pins.drop k }) d { sp d with pins := (sp d).pins.drop (k + 1) } = upS sp d { sp d with pins := (sp d).pins.drop (k + 1) } := by
      funext e
      by_cases ed : e = d
      · subst ed; rw [upS_same, upS_same]
      · rw [upS_other _ _ _ _ ed, upS_other _ _ _ _ ed, upS_other _ _ _ _ ed]
    rw [e2, Cnt.plus_nil, Cnt.plus_one] at e1
    refine ⟨unrefT_ok hlv (by rw [e1]; exact ih.inv) (by rw [sn]; omega), ?_, T, unrefT_ok' hT _ _⟩
    rw [(unrefT_same _ _ _).n, sn]
    refine SpOk.up h.sp ⟨fun q hq => (h.sp d hd).pins q (List.mem_of_mem_drop hq), ?_, (h.sp d hd).root⟩
    exact (h.sp d hd).nodup.sublist ((List.drop_sublist _ _).map _)
theorem All.dropS {M : Mach} {sp : Nat → Sp} {E : Cnt} {d : Nat} (h : All M sp E) (hd : d < 8) : All (dropM M (sp d).pins) (upS sp d { sp d with pins := [] }) E := by
  have := h.dropped hd (sp d).pins.length (Nat.le_refl _)
  rwa [List.take_length, List.drop_length] at this
theorem All.drop {M : Mach} {sp : Nat → Sp} {E : Cnt} (h : All M sp E) (o : Int) : All (dropV M sp o).2.1 (dropV M sp o).2.2 E := by
  unfold dropV
  split
  · exact h
  rename_i h1
  have hd : domOk o = true := by cases e : domOk o; (exact absurd e h1); rfl
  obtain ⟨d, rfl, hd8⟩ := domOk_nat hd
  simp only [Int.toNat_natCast]
  exact (h.dropS hd8).base _ _
end Go.Proofs.Ytbbaplcfhofeeaa

/-
  Page tables as plain data: a frame without references goes free.
-/
set_option linter.unusedSimpArgs false
set_option linter.unusedVariables false
namespace Go.Proofs.Ytbbaplcfhofeeaa
open Go.RowKit
set_option maxHeartbeats 1000000

section
variable {M : Mach} {i : Nat} {f : Fr}
theorem upd_refs {t : Nat} (h : t ≠ i) (lv k : Nat) : (M.upd i f).refs lv t k = M.refs lv t k := Mach.refs_bs (by rw [Mach.upd_other _ _ _ _ h]) lv k
theorem upd_full {lv K : Nat} {F : Cnt} (h0 : F i K = 0) : full lv K (M.upd i f) F = full lv K M F := by
  funext a b
  unfold full
  rw [show (M.upd i f).n = M.n from rfl]
  congr 2
  exact List.map_congr_left fun t _ => by
    by_cases e : t = i
    · subst e; rw [if_neg (by omega), if_neg (by omega)]
    · rw [upd_refs e]
theorem full_le (lv K : Nat) (M : Mach) (F : Cnt) (a b : Nat) : F a b ≤ full lv K M F a b := by unfold full; omega
/-- an entry of a table in use refers to no frame without references -/
theorem entry_counts {lv K t j : Nat} {F : Cnt} {r : Nat × Nat} (ht : (t : Int) < M.n) (hp : 0 < F t K) (hj : j < 64) (hr : rf lv (M.word t j) = some r) : 0 < full lv K M F r.1 r.2 := by
  have h1 : r ∈ M.refs lv t 64 := List.mem_flatMap.2 ⟨j, List.mem_range.2 hj, by rw [hr]; simp⟩
  have h2 : 0 < (M.refs lv t 64).count (r.1, r.2) := List.count_pos_iff.2 h1
  have h3 : (if 0 < F t K then (M.refs lv t 64).count (r.1, r.2) else 0) ∈ (List.range M.n.toNat).map fun t => if 0 < F t K then (M.refs lv t 64).count (r.1, r.2) else 0 := List.mem_map.2 ⟨t, List.mem_range.2 (by omega), rfl⟩
  rw [if_pos hp] at h3
  have h4 : ∀ l : List Nat, ∀ x ∈ l, x ≤ l.sum := fun l => by
    induction l with
    | nil => intro x hx; cases hx
    | cons y l ih =>
      intro x hx
      rw [List.sum_cons]
      rcases List.mem_cons.1 hx with e | e
      · subst e; omega
      · have := ih x e; omega
  have := h4 _ _ h3
  unfold full
  omega
theorem upd_InvG {lv K : Nat} {Inv : Mach → Cnt → Prop} {F : Cnt} (h : InvG lv K Inv M F) (hz : ∀ k, k ≤ 3 → full lv K M F i k = 0) (hK : K ≤ 3) (hrf : ∀ n r, rf lv n = some r → r.2 ≤ 3) (hi : Inv (M.upd i f) (full lv K M F)) : InvG lv K Inv (M.upd i f) F := by
  have h0 : F i K = 0 := by have := full_le lv K M F i K; have := hz K hK; omega
  refine ⟨by rw [upd_full h0]; exact hi, fun t ht hp j hj => ?_⟩
  have ht' : (t : Int) < M.n := ht
  have hti : t ≠ i := fun e => by subst e; omega
  have hg := h.g t ht' hp j hj
  have hw : (M.upd i f).word t j = M.word t j := Mach.word_bs (by rw [Mach.upd_other _ _ _ _ hti]) j
  rw [hw, Mach.upd_other _ _ _ _ hti]
  refine ⟨hg.1, fun hpr => ?_⟩
  obtain ⟨g1, g2⟩ := hg.2 hpr
  refine ⟨g1, ?_⟩
  have hr := rf_some (lv := lv) hpr
  have hc := entry_counts ht' hp hj hr
  have h3 := hrf _ _ hr
  have hne : (unpackV (M.word t j)).1.mfn.toNat ≠ i := fun e => by
    simp only at hc h3
    rw [e, hz _ h3] at hc
    omega
  rw [Mach.upd_other _ _ _ _ hne]
  exact g2
theorem rf_le1 : ∀ n r, rf 1 n = some r → r.2 ≤ 3 := fun n r h => by
  unfold rf at h
  split at h
  · cases h
    simp only [show ¬ ((1 : Nat) = 2) by decide, if_false]
    have := kindOf_le (unpackV n).1.w
    omega
  · cases h
theorem rf_le2 : ∀ n r, rf 2 n = some r → r.2 ≤ 3 := fun n r h => by rw [rf_two h]; omega
theorem free_inv {F : Cnt} (h : Inv2 M F) (hi : (i : Int) < M.n) (ht : (M.fr i).tot = 0) (hf : f.tot = 0 ∧ f.cnt = 0 ∧ f.ty = 0) : Inv2 (M.upd i f) F := by
  have hC : CHolds M (full 1 2 M (full 2 3 M F)) := h.inv.inv
  have hz1 : ∀ k, k ≤ 3 → full 1 2 M (full 2 3 M F) i k = 0 := fun k hk => by
    have h1 := hC.tot i hi
    rw [ht] at h1
    have : k = 0 ∨ k = 1 ∨ k = 2 ∨ k = 3 := by omega
    rcases this with rfl | rfl | rfl | rfl <;> omega
  have hz2 : ∀ k, k ≤ 3 → full 2 3 M F i k = 0 := fun k hk => by
    have := full_le 1 2 M (full 2 3 M F) i k
    have := hz1 k hk
    omega
  refine upd_InvG h hz2 (by decide) rf_le2 (upd_InvG h.inv hz1 (by decide) rf_le1 ?_)
  refine ⟨fun j hj => ?_, fun j hj => ?_, fun j k hj h1 h3 hk => ?_, fun j hj hc => ?_⟩
  · by_cases e : j = i
    · subst e; rw [Mach.upd_same, hf.1, hz1 0 (by omega), hz1 1 (by omega), hz1 2 (by omega), hz1 3 (by omega)]; rfl
    · rw [Mach.upd_other _ _ _ _ e]; exact hC.tot j hj
  · by_cases e : j = i
    · subst e; rw [Mach.upd_same, hf.2.1, hz1 1 (by omega), hz1 2 (by omega), hz1 3 (by omega)]; rfl
    · rw [Mach.upd_other _ _ _ _ e]; exact hC.cnt j hj
  · by_cases e : j = i
    · subst e; rw [hz1 k h3] at hk; omega
    · rw [Mach.upd_other _ _ _ _ e]; exact hC.ty j k hj h1 h3 hk
  · by_cases e : j = i
    · subst e; rw [Mach.upd_same]; exact hf.2.2
    · rw [Mach.upd_other _ _ _ _ e] at hc ⊢; exact hC.ty0 j hj hc
end
theorem All.free {M : Mach} {sp : Nat → Sp} {E : Cnt} (h : All M sp E) (i : Int) : All (M.free i).2 sp E := by
  obtain ⟨T, hT⟩ := h.ok
  have hok := Mach.free_ok hT i
  revert hok
  unfold Mach.free
  split
  · intro; exact h
  rename_i h1
  split
  · intro; exact h
  split
  · intro; exact h
  rename_i h3
  intro hok
  have hi : M.is i = true := by cases e : M.is i; (exact absurd e h1); rfl
  obtain ⟨i0, i1⟩ := Mach.is_iff.1 hi
  exact ⟨free_inv h.inv (by omega) (Classical.not_not.1 h3) ⟨rfl, rfl, rfl⟩, h.sp, T, hok⟩
end Go.Proofs.Ytbbaplcfhofeeaa
