/-
  Package mmu: a change of one entry, whole.
-/
import Derived.Test.YtemeihamkdpmoaaK25
import Derived.Test.YtemeihamkdpmoaaK23
import Derived.Test.YtemeihamkdpmoaaK22
set_option linter.unusedSimpArgs false
set_option linter.unusedVariables false
namespace Go.Proofs.Ytemeihamkdpmoaa
open Go.RowKit
set_option maxHeartbeats 1000000

theorem CHolds.ty_cases {M : Mach} {C : Cnt} (h : CHolds M C) {t : Nat} (ht : (t : Int) < M.n) : (M.fr t).ty = 0 ∨ (M.fr t).ty = 1 ∨ (M.fr t).ty = 2 ∨ (M.fr t).ty = 3 := by
  have hc := h.cnt t ht
  by_cases h0 : (M.fr t).cnt = 0
  · exact .inl (h.ty0 t ht h0)
  · have : 0 < C t 1 ∨ 0 < C t 2 ∨ 0 < C t 3 := by omega
    rcases this with e | e | e
    · have := h.ty t 1 ht (by omega) (by omega) e; omega
    · have := h.ty t 2 ht (by omega) (by omega) e; omega
    · have := h.ty t 3 ht (by omega) (by omega) e; omega
theorem updG_core {lv : Nat} {tk : Mach → Int → Nat → Int × Mach} {dp : Mach → Nat × Nat → Mach} {M : Mach} {o : Int} {t j n : Nat} :
    (updG lv tk dp M o t j n).1 = (tk M o n).1 ∧ (updG lv tk dp M o t j n).2 = if (tk M o n).1 = 0 then leaveG lv dp ((tk M o n).2.write t (4 * j : Nat) (le4 n)).2 (M.word t j) else M := by
  unfold updG
  by_cases e : (tk M o n).1 = 0
  · rw [if_neg (by simpa using e), if_pos e, e]; exact ⟨rfl, rfl⟩
  · rw [if_pos e, if_neg e]; exact ⟨rfl, rfl⟩
/-- the old entry's reference stands at the table written anew -/
theorem upd_put {M : Mach} {F : Cnt} {t j n : Nat} {o : Int} (h : Inv2 M F) (ht : (t : Int) < M.n) (hty : (M.fr t).ty = 3) (ho : (M.fr t).owner = o) (ho1 : o ≠ -1) (hj : j < 64) (hn : n < 4294967296) (e1 : (take2 M o n).1 = 0) :
    ∀ r, rf 2 (M.word t j) = some r → (((take2 M o n).2.write t (4 * j : Nat) (le4 n)).2.put r.1 (2 : Nat)).1 = 0 := by
  intro r hr
  have hC : CHolds M (full 1 2 M (full 2 3 M F)) := h.inv.inv
  have hp : 0 < F t 3 := by have := hC.of_ty ht (k := 3) (by omega) hty; rwa [full1_3, full_other (rf_two_ne (by decide))] at this
  have s1 := lvl2.tk_same M o n
  obtain ⟨h1, g1⟩ := lvl2.tk_yes h.inv e1
  obtain ⟨_, w⟩ := write_wrote (M := (take2 M o n).2) (t := t) (j := j) (n := n) (by rw [s1.n]; exact ht) hj hn (by rw [s1.owner, ho]; exact ho1)
  have wt : (take2 M o n).2.word t j = M.word t j := Mach.word_bs (s1.bs t) j
  have ht1 : (t : Int) < (take2 M o n).2.n := by rw [s1.n]; exact ht
  rw [← full_same s1] at h1
  have h2 : Inv1 ((take2 M o n).2.write t (4 * j : Nat) (le4 n)).2 _ := w.inv1 h1 (by
    have h3 : 0 < ((full 2 3 (take2 M o n).2 F).plus (rf 2 n).toList) t 3 := by
      unfold Cnt.plus; rw [full_other (rf_two_ne (by decide))]; omega
    have := (h1.inv.only (i := t) (k := 3) ht1 (by omega) (by omega) (by rw [full1_3]; exact h3)).2 2 (by omega) (by omega) (by omega)
    rwa [full1_2] at this)
  rw [w.full_in hj ht1 hp, wt, hr] at h2
  simp only [Option.toList_some, Cnt.plus_one] at h2
  have k2 := rf_two hr
  have gd := h.g t ht hp j hj
  have hr1 : (r.1 : Int) < M.n := by
    unfold rf at hr
    split at hr
    · rename_i hpp; cases hr; exact (gd.2 hpp).1
    · cases hr
  exact Inv1.put_ok0 h2 (by unfold Cnt.add; rw [k2, if_pos ⟨rfl, rfl⟩]; omega) (by rw [w.sz, s1.n]; exact hr1)
theorem xupdate (X B : Nat) (o t i : Int) (n : Nat) (w : World) (M : Mach) (T : Int) (F : Cnt) (h : XM w w B X M) (hok : M.ok T) (hT : T + 10000 < 4611686018427387904) (hF : Inv2 M F) (hn : n < 4294967296) :
    Calls Try.prog 97 #[.pointer (some ⟨X, 0, none⟩), .int .i64 o, .agg #[.int .i64 t, .int .i64 i, .int .u32 n]] w fun e w' => e = .returned (.int .i64 (updV M o t i n).1) ∧ XM w w' B X (updV M o t i n).2 := by
  by_cases hb : domOk o = false ∨ M.is t = false ∨ idx i = false
  · have e : updV M o t i n = (1, M) := by unfold updV; rw [if_pos hb]
    rw [e]
    exact xupdate_bad X B o t i n w M T h hok hb
  have hd : domOk o = true := by cases e : domOk o; (exact absurd (.inl e) hb); rfl
  have hi : M.is t = true := by cases e : M.is t; (exact absurd (.inr (.inl e)) hb); rfl
  have hx : idx i = true := by cases e : idx i; (exact absurd (.inr (.inr e)) hb); rfl
  obtain ⟨i0, i1⟩ := Mach.is_iff.1 hi
  have hx' : 0 ≤ i ∧ i < 64 := by simpa [idx] using hx
  obtain ⟨d, rfl, hd8⟩ := domOk_nat hd
  obtain ⟨tn, rfl⟩ := Int.eq_ofNat_of_zero_le i0
  obtain ⟨j, rfl⟩ := Int.eq_ofNat_of_zero_le hx'.1
  have hj : j < 64 := by omega
  have hC : CHolds M (full 1 2 M (full 2 3 M F)) := hF.inv.inv
  by_cases ho' : (M.fr tn).owner ≠ (d : Int)
  · have e : updV M d tn j n = (12, M) := by unfold updV; rw [if_neg hb, if_pos (by simpa using ho')]
    rw [e]
    exact xupdate_own X B d tn j n _ _ w M T h hok hd8 i1 hj rfl (by simpa using ho') rfl
  have ho := Classical.not_not.1 ho'
  by_cases h2 : (M.fr tn).ty = 2
  · have e : updV M d tn j n = updG 1 take1 dp1 M d tn j n := by unfold updV; rw [if_neg hb, if_neg (by simpa using ho), if_pos (by simpa using h2)]; rfl
    rw [e, updG_core.1, updG_core.2]
    exact xupdate_core X B 2 112 d tn j n w M _ _ T (T + 1) _ h hok hd8 i1 hj hn ho lvBy2 h2 (take1_ok hok _ _) (fun e => lvl1.tk_no e)
      (fun W hW => xte1 hW hok (by omega) d n hn) (fun _ W hW => xde1 hW (Mach.write_ok (take1_ok hok _ _) _ _ _) (by omega) _ (word4_lt _ _))
  by_cases h3 : (M.fr tn).ty = 3
  · have e : updV M d tn j n = updG 2 take2 dp2 M d tn j n := by unfold updV; rw [if_neg hb, if_neg (by simpa using ho), if_neg (by simpa using h2), if_pos (by simpa using h3)]; rfl
    rw [e, updG_core.1, updG_core.2]
    exact xupdate_core X B 3 113 d tn j n w M _ _ T (T + (65 : Nat)) _ h hok hd8 i1 hj hn ho lvBy3 h3 (take2_ok hok _ _) (fun e => lvl2.tk_no e)
      (fun W hW => xte2 hF.inv hW hok (by omega) d n hn) (fun e1 W hW => xde2 hW (Mach.write_ok (take2_ok hok _ _) _ _ _) (by omega) _ (word4_lt _ _) (upd_put hF i1 h3 ho (by omega) hj hn e1))
  · have e : updV M d tn j n = (5, M) := by unfold updV; rw [if_neg hb, if_neg (by simpa using ho), if_neg (by simpa using h2), if_neg (by simpa using h3)]
    rw [e]
    have := hC.ty_cases i1
    exact xupdate_ty X B d tn j n _ w M T h hok hd8 i1 hj ho rfl (by omega) (by omega)
end Go.Proofs.Ytemeihamkdpmoaa

/-
  Page tables as plain data: what holds of machine, pins and roots behind any calls.
-/
set_option linter.unusedSimpArgs false
set_option linter.unusedVariables false
namespace Go.Proofs.Ytemeihamkdpmoaa
open Go.RowKit
set_option maxHeartbeats 1000000

theorem count_flat (n : Nat) (f : Nat → List (Nat × Nat)) (x : Nat × Nat) : ((List.range n).flatMap f).count x = ((List.range n).map fun j => (f j).count x).sum := by
  induction n with
  | zero => rfl
  | succ k ih => rw [List.range_succ, List.flatMap_append, List.count_append, ih]; simp
/-- the references of a domain's own -/
def pinK (l : List (Int × Int)) : List (Nat × Nat) := l.map fun p => (p.1.toNat, p.2.toNat + 1)
def rootK (r : Int) : List (Nat × Nat) := if r = -1 then [] else [(r.toNat, 3)]
def spK (s : Sp) : List (Nat × Nat) := pinK s.pins ++ rootK s.root
/-- counts out of pins and roots, and E of those beside -/
def outF (sp : Nat → Sp) (E : Cnt) : Cnt := E.plus ((List.range 8).flatMap fun d => spK (sp d))
theorem outF_change {sp : Nat → Sp} {E : Cnt} {d : Nat} {s' : Sp} (hd : d < 8) (a b : List (Nat × Nat)) (h : ∀ x, (spK s').count x + a.count x = (spK (sp d)).count x + b.count x) : (outF (upS sp d s') E).plus a = (outF sp E).plus b := by
  funext i k
  have h2 := h (i, k)
  have := sum_point 8 d (fun q => (spK (upS sp d s' q)).count (i, k)) (fun q => (spK (sp q)).count (i, k)) hd (fun s _ hs => by rw [upS_other _ _ _ _ hs])
  simp only [upS_same] at this
  unfold outF Cnt.plus
  rw [count_flat, count_flat]
  omega
theorem outF_E (sp : Nat → Sp) (E : Cnt) (i k : Nat) : outF sp (E.add i k) = (outF sp E).add i k := Cnt.add_plus _ _ _ _
structure SpOk (n : Int) (s : Sp) : Prop where
  pins : ∀ p ∈ s.pins, (0 ≤ p.1 ∧ p.1 < n) ∧ (p.2 = 1 ∨ p.2 = 2)
  nodup : (s.pins.map Prod.fst).Nodup
  root : s.root ≠ -1 → 0 ≤ s.root ∧ s.root < n
/-- all that holds behind any calls -/
structure All (M : Mach) (sp : Nat → Sp) (E : Cnt) : Prop where
  inv : Inv2 M (outF sp E)
  sp : ∀ d, d < 8 → SpOk M.n (sp d)
  ok : ∃ T, M.ok T
theorem SpOk.up {n : Int} {sp : Nat → Sp} {d : Nat} {s : Sp} (h : ∀ e, e < 8 → SpOk n (sp e)) (hs : SpOk n s) : ∀ e, e < 8 → SpOk n (upS sp d s e) := fun e he => by
  by_cases ed : e = d
  · subst ed; rw [upS_same]; exact hs
  · rw [upS_other _ _ _ _ ed]; exact h e he
theorem refT_ok {M : Mach} {T : Int} (h : M.ok T) (lv o t : Int) : (refT lv M o t).2.ok (T + 5000) := by
  have hm : ∀ {A : Mach} {S S' : Int}, A.ok S → S ≤ S' → A.ok S' := fun h hs => ⟨h.n1, h.n2, fun i hi => ⟨(h.fr i hi).1, Int.le_trans (h.fr i hi).2 hs⟩⟩
  unfold refT; split
  · exact hm (tabG_ok' (c := 1) (fun h o n => take1_ok h o n) h o t) (by omega)
  · exact hm (tabG_ok' (c := 65) (fun h o n => take2_ok h o n) h o t) (by omega)
theorem unrefT_ok' {M : Mach} {T : Int} (h : M.ok T) (lv : Int) (t : Nat) : (unrefT lv M t).ok T := by
  unfold unrefT; split
  · exact untabG_ok' dp1_ok h t
  · exact untabG_ok' dp2_ok h t
theorem pinAt_fresh {l : List (Int × Int)} {i : Int} (h : ¬ 0 ≤ pinAt l i) : i ∉ l.map Prod.fst := fun e => by
  obtain ⟨p, hp, he⟩ := List.mem_map.1 e
  apply h
  unfold pinAt
  rw [if_pos (show pinIx l i < l.length from List.findIdx_lt_length_of_exists ⟨p, hp, by simp [he]⟩)]
  omega
theorem All.pin {M : Mach} {sp : Nat → Sp} {E : Cnt} (h : All M sp E) (o i lv : Int) : All (pinV M sp o i lv).2.1 (pinV M sp o i lv).2.2 E := by
  unfold pinV
  split
  · exact h
  rename_i h1
  split
  · exact h
  rename_i h2
  split
  · exact h
  rename_i h3
  have hd : domOk o = true := by cases e : domOk o; (exact absurd (.inl e) h1); rfl
  have hlv : lv = 1 ∨ lv = 2 := Classical.not_not.1 fun e => h1 (.inr (.inl e))
  obtain ⟨d, rfl, hd8⟩ := domOk_nat hd
  simp only [Int.toNat_natCast] at h2 h3 ⊢
  have he : (refT lv M d i).1 = 0 := Classical.not_not.1 h3
  obtain ⟨a, b, _⟩ := refT_yes hlv h.inv he
  obtain ⟨b0, b1⟩ := Mach.is_iff.1 b
  have sm := refT_same lv M d i
  obtain ⟨T, hT⟩ := h.ok
  refine ⟨?_, ?_, _, refT_ok hT lv d i⟩
  · have := outF_change (sp := sp) (E := E) (s' := { sp d with pins := (sp d).pins ++ [(i, lv)] }) hd8 [] [(i.toNat, lv.toNat + 1)] (fun x => by unfold spK pinK; simp only [List.map_append, List.count_append, List.map_cons, List.map_nil, List.count_nil]; omega)
    rw [Cnt.plus_nil, Cnt.plus_one] at this
    rw [this]; exact a
  · rw [sm.n]
    refine SpOk.up h.sp ⟨fun p hp => ?_, ?_, (h.sp d hd8).root⟩
    · rcases List.mem_append.1 hp with e | e
      · exact (h.sp d hd8).pins p e
      · rw [List.mem_singleton.1 e]; exact ⟨⟨b0, b1⟩, hlv⟩
    · simp only [List.map_append, List.map_cons, List.map_nil]
      rw [List.nodup_append]
      refine ⟨(h.sp d hd8).nodup, by simp, fun x hx y hy e => ?_⟩
      rw [List.mem_singleton.1 hy] at e
      exact pinAt_fresh h2 (e ▸ hx)
theorem All.unpin {M : Mach} {sp : Nat → Sp} {E : Cnt} (h : All M sp E) (o i : Int) : All (unpinV M sp o i).2.1 (unpinV M sp o i).2.2 E := by
  unfold unpinV
  split
  · exact h
  rename_i h1
  have hd : domOk o = true := by cases e : domOk o; (exact absurd e h1); rfl
  obtain ⟨d, rfl, hd8⟩ := domOk_nat hd
  simp only [Int.toNat_natCast]
  generalize hk : pinIx (sp d).pins i = k
  split
  · exact h
  rename_i p hp
  obtain ⟨hkl, hp⟩ := List.getElem?_eq_some_iff.1 hp
  obtain ⟨⟨p0, p1⟩, hlv⟩ := (h.sp d hd8).pins p (hp ▸ List.getElem_mem hkl)
  obtain ⟨T, hT⟩ := h.ok
  have e1 := outF_change (sp := sp) (E := E) (s' := { sp d with pins := (sp d).pins.eraseIdx k }) hd8 [(p.1.toNat, p.2.toNat + 1)] [] (fun x => by
    unfold spK pinK
    simp only [List.count_append, List.count_nil]
    have hperm : (sp d).pins.Perm (p :: (sp d).pins.eraseIdx k) := by
      have e : (sp d).pins = (sp d).pins.take k ++ (sp d).pins.drop k := (List.take_append_drop _ _).symm
      rw [List.drop_eq_getElem_cons hkl, hp] at e
      have e2 : (sp d).pins.eraseIdx k = (sp d).pins.take k ++ (sp d).pins.drop (k + 1) := List.eraseIdx_eq_take_drop_succ _ _
      rw [e2]
      exact (List.Perm.of_eq e).trans List.perm_middle
    have := (hperm.map fun p => (p.1.toNat, p.2.toNat + 1)).count_eq x
    simp only [List.map_cons] at this
    rw [this, List.count_cons, List.count_cons, List.count_nil]
    omega)
  rw [Cnt.plus_nil, Cnt.plus_one] at e1
  refine ⟨unrefT_ok hlv (by rw [e1]; exact h.inv) (by omega), ?_, T, unrefT_ok' hT _ _⟩
  rw [(unrefT_same _ _ _).n]
  refine SpOk.up h.sp ⟨fun p hp => (h.sp d hd8).pins p (List.mem_of_mem_eraseIdx hp), ?_, (h.sp d hd8).root⟩
  exact (h.sp d hd8).nodup.sublist ((List.eraseIdx_sublist _ _).map _)
theorem dropRoot_same (M : Mach) (r : Int) : MSame M (dropRoot M r) := by
  unfold dropRoot; split
  · exact .refl _
  · exact untabG_same lvl2 _ _
theorem dropRoot_ok {M : Mach} {T : Int} (h : M.ok T) (r : Int) : (dropRoot M r).ok T := by
  unfold dropRoot; split
  · exact h
  · exact untabG_ok' dp2_ok h _
theorem dropRoot_inv {M : Mach} {F : Cnt} {r : Int} (h : Inv2 M (F.plus (rootK r))) (hr : r ≠ -1 → 0 ≤ r ∧ r < M.n) : Inv2 (dropRoot M r) F := by
  unfold dropRoot
  unfold rootK at h
  split
  · rename_i e; rw [if_pos e, Cnt.plus_nil] at h; exact h
  · rename_i e
    rw [if_neg e, Cnt.plus_one] at h
    have := hr e
    exact untabG_ok lvl2 h (by omega)
theorem All.base {M : Mach} {sp : Nat → Sp} {E : Cnt} (h : All M sp E) (o i : Int) : All (baseV M sp o i).2.1 (baseV M sp o i).2.2 E := by
  unfold baseV
  split
  · exact h
  rename_i h1
  have hd : domOk o = true := by cases e : domOk o; (exact absurd (.inl e) h1); rfl
  obtain ⟨d, rfl, hd8⟩ := domOk_nat hd
  obtain ⟨T, hT⟩ := h.ok
  simp only [Int.toNat_natCast]
  have key : ∀ r, (outF (upS sp d { sp d with root := r }) E).plus (rootK (sp d).root) = (outF sp E).plus (rootK r) := fun r => outF_change hd8 _ _ (fun x => by unfold spK; simp only [List.count_append]; omega)
  split
  · have e := key (-1)
    rw [show rootK (-1) = [] from rfl, Cnt.plus_nil] at e
    refine ⟨dropRoot_inv (by rw [e]; exact h.inv) (h.sp d hd8).root, ?_, T, dropRoot_ok hT _⟩
    rw [(dropRoot_same _ _).n]
    exact SpOk.up h.sp ⟨(h.sp d hd8).pins, (h.sp d hd8).nodup, fun e => absurd rfl e⟩
  rename_i hi
  split
  · exact h
  rename_i h3
  have he : (tabG 3 take2 M d i).1 = 0 := Classical.not_not.1 h3
  obtain ⟨a, b, _⟩ := tabG_yes lvl2 h.inv he
  obtain ⟨b0, b1⟩ := Mach.is_iff.1 b
  have sm := tabG_same lvl2 M d i
  have e := key i
  rw [show rootK i = [(i.toNat, 3)] from if_neg hi, Cnt.plus_one] at e
  refine ⟨dropRoot_inv (by rw [e]; exact a) (by rw [sm.n]; exact (h.sp d hd8).root), ?_, _, dropRoot_ok (tabG_ok' (c := 65) (fun h o n => take2_ok h o n) hT _ _) _⟩
  rw [(dropRoot_same _ _).n, sm.n]
  exact SpOk.up h.sp ⟨(h.sp d hd8).pins, (h.sp d hd8).nodup, fun _ => ⟨b0, b1⟩⟩
theorem updV_okT {M : Mach} {T : Int} (h : M.ok T) (o t i : Int) (n : Nat) : (updV M o t i n).2.ok (T + 65) := by
  have hm : ∀ {A : Mach} {S S' : Int}, A.ok S → S ≤ S' → A.ok S' := fun h hs => ⟨h.n1, h.n2, fun i hi => ⟨(h.fr i hi).1, Int.le_trans (h.fr i hi).2 hs⟩⟩
  unfold updV
  split
  · exact hm h (by omega)
  split
  · exact hm h (by omega)
  split
  · rw [updG_core.2]
    split
    · exact hm (leaveG_ok' dp1_ok (Mach.write_ok (take1_ok h _ _) _ _ _) _) (by omega)
    · exact hm h (by omega)
  split
  · rw [updG_core.2]
    split
    · exact hm (leaveG_ok' dp2_ok (Mach.write_ok (take2_ok h _ _) _ _ _) _) (by omega)
    · exact hm h (by omega)
  · exact hm h (by omega)
theorem All.upd {M : Mach} {sp : Nat → Sp} {E : Cnt} (h : All M sp E) (o t i : Int) {n : Nat} (hn : n < 4294967296) : All (updV M o t i n).2 sp E := by
  obtain ⟨T, hT⟩ := h.ok
  exact ⟨updV_ok h.inv hn, by rw [(updV_own M o t i n).n]; exact h.sp, _, updV_okT hT _ _ _ _⟩
theorem All.get {M : Mach} {sp : Nat → Sp} {E : Cnt} (h : All M sp E) {m : Nat} (hm : m ≤ 1) {o t : Int} (he : (M.get t o m).1 = 0) : All (M.get t o m).2 sp (E.add t.toNat m) := by
  obtain ⟨T, hT⟩ := h.ok
  exact ⟨by rw [outF_E]; exact Inv2.get hm h.inv he, by rw [(Mach.get_same M t o m).n]; exact h.sp, _, Mach.get_ok hT _ _ _⟩

theorem sum_le (n b : Nat) (f : Nat → Nat) (h : ∀ j, j < n → f j ≤ b) : ((List.range n).map f).sum ≤ b * n := by
  induction n with
  | zero => simp
  | succ k ih =>
    rw [List.range_succ, List.map_append, List.sum_append]
    have := ih fun j hj => h j (by omega)
    have := h k (by omega)
    simp only [List.map_cons, List.map_nil, List.sum_cons, List.sum_nil, Nat.mul_succ]
    omega
theorem length_counts (n : Nat) : ∀ l : List Nat, (∀ x ∈ l, x < n) → l.length = ((List.range n).map fun j => l.count j).sum
  | [], _ => by
    have : ((List.range n).map fun j => ([] : List Nat).count j).sum ≤ 0 * n := sum_le n 0 _ (fun j _ => by simp)
    simp only [List.length_nil]; omega
  | x :: l, h => by
    have ih := length_counts n l fun y hy => h y (List.mem_cons_of_mem _ hy)
    have := sum_point n x (fun j => (x :: l).count j) (fun j => l.count j) (h x (by simp)) (fun s _ hs => by simp [List.count_cons, Ne.symm hs])
    simp only [List.count_cons_self] at this
    simp only [List.length_cons]
    omega
theorem nodup_count {l : List Nat} (h : l.Nodup) (x : Nat) : l.count x ≤ 1 := by
  induction l with
  | nil => simp
  | cons y l ih =>
    obtain ⟨h1, h2⟩ := List.nodup_cons.1 h
    have := ih h2
    rw [List.count_cons]
    by_cases e : y = x
    · subst e; rw [List.count_eq_zero.2 h1]; simp
    · simp [e]; omega
theorem SpOk.length {n : Int} {s : Sp} (h : SpOk n s) : s.pins.length ≤ n.toNat := by
  have hm : ∀ x ∈ (s.pins.map fun p => p.1.toNat), x < n.toNat := fun x hx => by
    obtain ⟨p, hp, rfl⟩ := List.mem_map.1 hx
    have := (h.pins p hp).1
    omega
  have hnd : (s.pins.map fun p => p.1.toNat).Nodup := by
    have := h.nodup
    unfold List.Nodup at this ⊢
    rw [List.pairwise_map] at this ⊢
    refine this.imp_of_mem fun ha hb hne e => hne ?_
    have := (h.pins _ ha).1; have := (h.pins _ hb).1
    omega
  have := length_counts n.toNat _ hm
  rw [List.length_map] at this
  rw [this]
  exact Nat.le_trans (sum_le n.toNat 1 _ fun j _ => nodup_count hnd j) (by omega)
theorem count4 (i : Nat) : ∀ l : List (Nat × Nat), l.count (i, 0) + l.count (i, 1) + l.count (i, 2) + l.count (i, 3) ≤ l.length
  | [] => by simp
  | (a, b) :: l => by
    have ih := count4 i l
    simp only [List.count_cons, List.length_cons, beq_iff_eq, Prod.mk.injEq]
    (repeat' split) <;> omega
theorem full_bound {M : Mach} {lv K : Nat} {F : Cnt} {S i : Nat} (h : F i 0 + F i 1 + F i 2 + F i 3 ≤ S) : full lv K M F i 0 + full lv K M F i 1 + full lv K M F i 2 + full lv K M F i 3 ≤ S + 64 * M.n.toNat := by
  have key : ∀ n, ((List.range n).map fun t => if 0 < F t K then (M.refs lv t 64).count (i, 0) else 0).sum + ((List.range n).map fun t => if 0 < F t K then (M.refs lv t 64).count (i, 1) else 0).sum + ((List.range n).map fun t => if 0 < F t K then (M.refs lv t 64).count (i, 2) else 0).sum + ((List.range n).map fun t => if 0 < F t K then (M.refs lv t 64).count (i, 3) else 0).sum ≤ 64 * n := by
    intro n
    induction n with
    | zero => simp
    | succ k ih =>
      simp only [List.range_succ, List.map_append, List.sum_append, List.map_cons, List.map_nil, List.sum_cons, List.sum_nil]
      have h4 := count4 i (M.refs lv k 64)
      have h5 : (M.refs lv k 64).length ≤ 64 := by
        unfold Mach.refs
        rw [List.length_flatMap]
        refine Nat.le_trans (sum_le 64 1 _ fun j _ => ?_) (by omega)
        cases rf lv (M.word k j) <;> simp
      split <;> omega
  have := key M.n.toNat
  unfold full
  omega
theorem outF_bound {sp : Nat → Sp} {E : Cnt} {n : Int} {S i : Nat} (hn : n ≤ 256) (hsp : ∀ d, d < 8 → SpOk n (sp d)) (h : E i 0 + E i 1 + E i 2 + E i 3 ≤ S) : outF sp E i 0 + outF sp E i 1 + outF sp E i 2 + outF sp E i 3 ≤ S + 2056 := by
  have h4 := count4 i ((List.range 8).flatMap fun d => spK (sp d))
  have h5 : ((List.range 8).flatMap fun d => spK (sp d)).length ≤ 257 * 8 := by
    rw [List.length_flatMap]
    refine sum_le 8 257 _ fun d hd => ?_
    have := (hsp d hd).length
    have h6 : (rootK (sp d).root).length ≤ 1 := by unfold rootK; split <;> simp
    simp only [spK, pinK, List.length_append, List.length_map]
    omega
  unfold outF Cnt.plus
  omega
/-- the machine is sound, of so many references -/
theorem All.okT {M : Mach} {sp : Nat → Sp} {E : Cnt} (h : All M sp E) {S : Nat} (hE : ∀ i, E i 0 + E i 1 + E i 2 + E i 3 ≤ S) : M.ok ((S + 34824 : Nat) : Int) := by
  obtain ⟨T, hT⟩ := h.ok
  have hC : CHolds M (full 1 2 M (full 2 3 M (outF sp E))) := h.inv.inv.inv
  refine ⟨hT.n1, hT.n2, fun i hi => ⟨(hT.fr i hi).1, ?_⟩⟩
  rw [hC.tot i hi]
  have n2 := hT.n2
  have b0 := outF_bound (sp := sp) (i := i) n2 h.sp (hE i)
  have b1 := full_bound (M := M) (lv := 2) (K := 3) b0
  have b2 := full_bound (M := M) (lv := 1) (K := 2) b1
  omega
theorem All.len {M : Mach} {sp : Nat → Sp} {E : Cnt} (h : All M sp E) {d : Nat} (hd : d < 8) : (sp d).pins.length ≤ 256 := by
  have := (h.sp d hd).length
  obtain ⟨T, hT⟩ := h.ok
  have := hT.n2
  omega
end Go.Proofs.Ytemeihamkdpmoaa

/-
  Package tenementref05: Base.
-/
set_option linter.unusedSimpArgs false
set_option linter.unusedVariables false
namespace Go.Proofs.Ytemeihamkdpmoaa
open Go.RowKit
set_option maxHeartbeats 2000000

theorem YLf.root {w w5 : World} {b Y : Nat} {L : Lay} {A : YL} {M M' : Mach} {sp : Nat → Sp} {d : Nat} (h : YS w b Y L M sp A) (hx : YM w w5 b Y (L.foot b) M') (hd : d < 8) (r : Int) : YLf w (w5.setCell ⟨A.fR, d, none⟩ (.int .i64 r)) b Y L A M' (upS sp d { sp d with root := r }) := by
  obtain ⟨L', h4, c1, f1⟩ := h.core hx
  have c3 : Chg (yfoot b Y L A) w5 (w5.setCell ⟨A.fR, d, none⟩ (.int .i64 r)) := Chg.of (grownBy_setCell w5 A.fR d none _) fun j e => .inl (.inr (.inr (.inr (.inl (Option.some.inj e).symm))))
  refine ⟨L', A, h4.setRoot hd r, (c1.mono fun k hk => .inl hk).trans c3 fun _ h => .inl h, fun k hk => ?_⟩
  rcases hk with e | e
  · exact (f1 k e).imp .inl id
  · exact .inl (.inr e)
theorem yBase_dom (b Y : Nat) (o i : Int) (w : World) (L : Lay) (M : Mach) (sp : Nat → Sp) (A : YL) (h : YS w b Y L M sp A) (hdn : o < 0 ∨ 8 ≤ o) :
    Calls Try.prog 86 #[.pointer (some ⟨Y, 0, none⟩), .int .i64 o, .int .i64 i] w fun e w' => e = .returned (.int .i64 1) ∧ YLf w w' b Y L A M sp := by
  have HS := hid h
  clear h
  go_enter Try.func86, Try.ntmps86
  go_wp2_with (go_at_call 104; refine (rDomain_no _ _ hdn).mono ?_; rintro e w1 ⟨rfl, rfl⟩)
  go_ret
  exact ⟨rfl, YLf.same HS.out (World.grownBy.refl _ _)⟩
theorem yBase_has (b Y d : Nat) (i : Int) (w : World) (L : Lay) (M : Mach) (sp : Nat → Sp) (A : YL) (h : YS w b Y L M sp A) (hd : d < 8) (hin : i ≠ -1) (hi : M.is i = false) :
    Calls Try.prog 86 #[.pointer (some ⟨Y, 0, none⟩), .int .i64 d, .int .i64 i] w fun e w' => e = .returned (.int .i64 1) ∧ YLf w w' b Y L A M sp := by
  have HS := hid h
  have y0 := h.y0
  have hd0 : (0 : Int) ≤ d := by omega
  have hd8 : (d : Int) < 8 := by omega
  have hib : (i == -1) = false := by simp [hin]
  have hinb : (i != -1) = true := by simp [hin]
  clear h
  go_enter Try.func86, Try.ntmps86
  go_wp2_with (first
    | (go_at_call 104; refine (rDomain_yes _ _ hd0 hd8).mono ?_; rintro e w1 ⟨rfl, rfl⟩)
    | (go_at_call 77; refine (yIs _ _ _ M L HS.out.r).mono ?_; rintro e w1 ⟨rfl, rfl⟩; rw [hi]))
  go_ret
  exact ⟨rfl, YLf.same HS.out (World.grownBy.refl _ _)⟩
set_option maxRecDepth 100000 in
theorem yBase_none (b Y d : Nat) (w : World) (L : Lay) (M M' : Mach) (sp : Nat → Sp) (A : YL) (h : YS w b Y L M sp A) (hd : d < 8) (hM : (sp d).root = -1 → M' = M)
    (hdr : (sp d).root ≠ -1 → 0 ≤ (sp d).root ∧ YCall 110 #[.pointer (some ⟨Y, 0, none⟩), .int .i64 (sp d).root, .int .i64 2] b Y M (.returned (.tuple #[])) M') :
    Calls Try.prog 86 #[.pointer (some ⟨Y, 0, none⟩), .int .i64 d, .int .i64 (-1)] w fun e w' => e = .returned (.int .i64 0) ∧ YLf w w' b Y L A M' (upS sp d { sp d with root := -1 }) := by
  have HS := hid h
  have y0 := h.y0
  have r2 := h.y2; have r3 := h.root hd; have r4 := h.rr.frozen d
  have hd0 : (0 : Int) ≤ d := by omega
  have hd8 : (d : Int) < 8 := by omega
  generalize hr : (sp d).root = r at *
  by_cases h1 : r = -1
  · obtain rfl := hM h1
    subst h1
    clear h hdr hM
    go_enter Try.func86, Try.ntmps86
    go_wp2_with (go_at_call 104; refine (rDomain_yes _ _ hd0 hd8).mono ?_; rintro e w1 ⟨rfl, rfl⟩)
    go_ret
    exact ⟨rfl, YLf.root HS.out HS.out.ym hd (-1)⟩
  · obtain ⟨h0, hd'⟩ := hdr h1
    have HD := hid hd'
    clear h hdr hM hd'
    go_enter Try.func86, Try.ntmps86
    go_wp2_with (first
      | (go_at_call 104; refine (rDomain_yes _ _ hd0 hd8).mono ?_; rintro e w1 ⟨rfl, rfl⟩)
      | (go_at_call 110; obtain ⟨L6, A6, hs6, hc6, hf6⟩ := YLf.root HS.out HS.out.ym hd (-1); have HZ := hid (show YS _ b Y L6 _ _ A6 from hs6); refine (HD.out _ _ hs6.ym).mono ?_; rintro e w7 ⟨rfl, h7⟩; have HE := hid (YLf.trans hc6 hf6 (YLf.of hs6 h7)); clear h7 hs6 hc6 hf6))
    go_ret
    exact ⟨rfl, HE.out⟩
set_option maxRecDepth 100000 in
theorem yBase_some (b Y d : Nat) (i : Int) (w : World) (L : Lay) (M M' M'' : Mach) (c : Int) (sp : Nat → Sp) (A : YL) (h : YS w b Y L M sp A) (hd : d < 8) (hi : M.is i = true) (hcM : c ≠ 0 → M' = M)
    (ht : YCall 109 #[.pointer (some ⟨Y, 0, none⟩), .int .i64 d, .int .i64 i, .int .i64 2] b Y M (.returned (.int .i64 c)) M')
    (hM : (sp d).root = -1 → M'' = M')
    (hdr : c = 0 → (sp d).root ≠ -1 → 0 ≤ (sp d).root ∧ YCall 110 #[.pointer (some ⟨Y, 0, none⟩), .int .i64 (sp d).root, .int .i64 2] b Y M' (.returned (.tuple #[])) M'') :
    Calls Try.prog 86 #[.pointer (some ⟨Y, 0, none⟩), .int .i64 d, .int .i64 i] w fun e w' => e = .returned (.int .i64 c) ∧ (c ≠ 0 → YLf w w' b Y L A M sp) ∧ (c = 0 → YLf w w' b Y L A M'' (upS sp d { sp d with root := i })) := by
  have HS := hid h
  have y0 := h.y0
  have hd0 : (0 : Int) ≤ d := by omega
  have hd8 : (d : Int) < 8 := by omega
  have hi0 : 0 ≤ i := (Mach.is_iff.1 hi).1
  have hib : (i == -1) = false := by simp; omega
  have hinb : (i != -1) = true := by simp; omega
  have HT := hid ht
  by_cases hz : c = 0
  · subst hz
    generalize hr : (sp d).root = r at *
    by_cases h1 : r = -1
    · obtain rfl := hM h1
      subst h1
      clear h hdr hM hcM ht
      go_enter Try.func86, Try.ntmps86
      go_wp2_with (first
        | (go_at_call 104; refine (rDomain_yes _ _ hd0 hd8).mono ?_; rintro e w1 ⟨rfl, rfl⟩)
        | (go_at_call 77; refine (yIs _ _ _ M L HS.out.r).mono ?_; rintro e w1 ⟨rfl, rfl⟩; rw [hi])
        | (go_at_call 109; refine (HT.out _ _ HS.out.ym).mono ?_; rintro e w2 ⟨rfl, h2⟩; have H2 := hid h2; obtain ⟨L4, hs4, hc4, hf4⟩ := HS.out.core h2; have HS4 := hid hs4; have r2 := hs4.y2; have r3 := hs4.root hd; have r4 := hs4.rr.frozen d; (try rw [hr] at r3); clear h2 hs4 hc4 hf4))
      go_ret
      exact ⟨rfl, fun e => absurd rfl e, fun _ => YLf.root HS.out H2.out hd i⟩
    · obtain ⟨h0, hd'⟩ := hdr rfl h1
      have HD := hid hd'
      clear h hdr hM hd' hcM ht
      go_enter Try.func86, Try.ntmps86
      go_wp2_with (first
        | (go_at_call 104; refine (rDomain_yes _ _ hd0 hd8).mono ?_; rintro e w1 ⟨rfl, rfl⟩)
        | (go_at_call 77; refine (yIs _ _ _ M L HS.out.r).mono ?_; rintro e w1 ⟨rfl, rfl⟩; rw [hi])
        | (go_at_call 109; refine (HT.out _ _ HS.out.ym).mono ?_; rintro e w2 ⟨rfl, h2⟩; have H2 := hid h2; obtain ⟨L4, hs4, hc4, hf4⟩ := HS.out.core h2; have HS4 := hid hs4; have r2 := hs4.y2; have r3 := hs4.root hd; have r4 := hs4.rr.frozen d; (try rw [hr] at r3); clear h2 hs4 hc4 hf4)
        | (go_at_call 110; obtain ⟨L6, A6, hs6, hc6, hf6⟩ := YLf.root HS.out H2.out hd i; have HZ := hid (show YS _ b Y L6 _ _ A6 from hs6); refine (HD.out _ _ hs6.ym).mono ?_; rintro e w7 ⟨rfl, h7⟩; have HE := hid (YLf.trans hc6 hf6 (YLf.of hs6 h7)); clear h7 hs6 hc6 hf6))
      go_ret
      exact ⟨rfl, fun e => absurd rfl e, fun _ => HE.out⟩
  · have hzb : (c == 0) = false := by simp [hz]
    have hznb : (c != 0) = true := by simp [hz]
    have HM := hid (hcM hz)
    clear h hdr hM hcM ht
    go_enter Try.func86, Try.ntmps86
    go_wp2_with (first
      | (go_at_call 104; refine (rDomain_yes _ _ hd0 hd8).mono ?_; rintro e w1 ⟨rfl, rfl⟩)
      | (go_at_call 77; refine (yIs _ _ _ M L HS.out.r).mono ?_; rintro e w1 ⟨rfl, rfl⟩; rw [hi])
      | (go_at_call 109; refine (HT.out _ _ HS.out.ym).mono ?_; rintro e w2 ⟨rfl, h2⟩; have H2 := hid h2; obtain ⟨L4, hs4, hc4, hf4⟩ := HS.out.core h2; have HS4 := hid hs4; have r2 := hs4.y2; have r3 := hs4.root hd; have r4 := hs4.rr.frozen d; (try rw [hr] at r3); clear h2 hs4 hc4 hf4))
    go_ret
    have h4 := H2.out
    rw [HM.out] at h4
    exact ⟨rfl, fun _ => YLf.of HS.out h4, fun e => absurd e hz⟩
end Go.Proofs.Ytemeihamkdpmoaa

/-
  Rows of changes and whole drops, plain.
-/
set_option linter.unusedSimpArgs false
set_option linter.unusedVariables false
namespace Go.Proofs.Ytemeihamkdpmoaa
open Go.RowKit
set_option maxHeartbeats 1000000

abbrev Upd := Int × Int × Nat
/-- changes one by one, up to the first that is refused -/
def updsV (o : Int) : Mach → List Upd → Nat × Int × Mach
  | M, [] => (0, 0, M)
  | M, u :: l => if (updV M o u.1 u.2.1 u.2.2).1 ≠ 0 then (0, (updV M o u.1 u.2.1 u.2.2).1, M) else
    ((updsV o (updV M o u.1 u.2.1 u.2.2).2 l).1 + 1, (updsV o (updV M o u.1 u.2.1 u.2.2).2 l).2)
/-- the machine behind the first changes, as far as none was refused -/
def updsM (o : Int) (M : Mach) (l : List Upd) (k : Nat) : Mach := (l.take k).foldl (fun M u => (updV M o u.1 u.2.1 u.2.2).2) M
theorem updsM_succ (o : Int) (M : Mach) (l : List Upd) (k : Nat) (h : k < l.length) : updsM o M l (k + 1) = (updV (updsM o M l k) o l[k].1 l[k].2.1 l[k].2.2).2 := by
  unfold updsM
  rw [List.take_succ_eq_append_getElem h, List.foldl_append]
  rfl
theorem updsV_stop (o : Int) : ∀ (l : List Upd) (M : Mach) (k : Nat) (h : k < l.length), (∀ j (hj : j < k), (updV (updsM o M l j) o l[j].1 l[j].2.1 l[j].2.2).1 = 0) → (updV (updsM o M l k) o l[k].1 l[k].2.1 l[k].2.2).1 ≠ 0 → updsV o M l = (k, (updV (updsM o M l k) o l[k].1 l[k].2.1 l[k].2.2).1, updsM o M l k)
  | [], _, _, h, _, _ => by simp at h
  | u :: l, M, 0, h, _, h2 => by
    unfold updsV
    have h2' : (updV M o u.1 u.2.1 u.2.2).1 ≠ 0 := h2
    rw [if_pos h2']
    rfl
  | u :: l, M, k + 1, h, h1, h2 => by
    have h0 : (updV M o u.1 u.2.1 u.2.2).1 = 0 := h1 0 (by omega)
    have ih := updsV_stop o l (updV M o u.1 u.2.1 u.2.2).2 k (by simpa using h) (fun j hj => h1 (j + 1) (by omega)) h2
    rw [updsV, if_neg (by simpa using h0), ih]
    rfl
theorem updsV_end (o : Int) : ∀ (l : List Upd) (M : Mach), (∀ j (hj : j < l.length), (updV (updsM o M l j) o l[j].1 l[j].2.1 l[j].2.2).1 = 0) → updsV o M l = (l.length, 0, updsM o M l l.length)
  | [], M, _ => rfl
  | u :: l, M, h1 => by
    have h0 : (updV M o u.1 u.2.1 u.2.2).1 = 0 := h1 0 (by simp)
    have ih := updsV_end o l (updV M o u.1 u.2.1 u.2.2).2 (fun j hj => h1 (j + 1) (by simpa using hj))
    rw [updsV, if_neg (by simpa using h0), ih]
    rfl
def okU (l : List Upd) : Prop := ∀ u ∈ l, u.2.2 < 4294967296
theorem All.updsM {M : Mach} {sp : Nat → Sp} {E : Cnt} (h : All M sp E) (o : Int) {l : List Upd} (hl : okU l) : ∀ k, k ≤ l.length → All (Go.Proofs.Ytemeihamkdpmoaa.updsM o M l k) sp E
  | 0, _ => h
  | k + 1, hk => by
    rw [updsM_succ o M l k (by omega)]
    exact (h.updsM o hl k (by omega)).upd _ _ _ (hl _ (List.getElem_mem _))
theorem All.upds {sp : Nat → Sp} {E : Cnt} (o : Int) : ∀ {l : List Upd} {M : Mach}, okU l → All M sp E → All (updsV o M l).2.2 sp E
  | [], _, _, h => h
  | u :: l, M, hl, h => by
    unfold updsV
    split
    · exact h
    · exact All.upds (l := l) o (fun x hx => hl x (List.mem_cons_of_mem _ hx)) (h.upd _ _ _ (hl u (by simp)))

/-- all pins of a domain go, and its root -/
def dropM (M : Mach) (l : List (Int × Int)) : Mach := l.foldl (fun M p => unrefT p.2 M p.1.toNat) M
def dropV (M : Mach) (sp : Nat → Sp) (o : Int) : Int × Mach × (Nat → Sp) :=
  if domOk o = false then (1, M, sp) else baseV (dropM M (sp o.toNat).pins) (upS sp o.toNat { sp o.toNat with pins := [] }) o (-1)
theorem dropM_succ (M : Mach) (l : List (Int × Int)) (k : Nat) (h : k < l.length) : dropM M (l.take (k + 1)) = unrefT l[k].2 (dropM M (l.take k)) l[k].1.toNat := by
  unfold dropM
  rw [List.take_succ_eq_append_getElem h, List.foldl_append]
  rfl
/-- behind the first k pins of a domain the rest stands -/
theorem All.dropped {M : Mach} {sp : Nat → Sp} {E : Cnt} {d : Nat} (h : All M sp E) (hd : d < 8) : ∀ k, k ≤ (sp d).pins.length → All (dropM M ((sp d).pins.take k)) (upS sp d { sp d with pins := (sp d).pins.drop k }) E
  | 0, _ => by
    have : upS sp d { sp d with pins := (sp d).pins.drop 0 } = sp := by
      funext e
      by_cases ed : e = d
      · subst ed; rw [upS_same]; rfl
      · rw [upS_other _ _ _ _ ed]
    rw [this]
    exact h
  | k + 1, hk => by
    have ih := h.dropped hd k (by omega)
    rw [dropM_succ M _ k (by omega)]
    have hdr : (sp d).pins.drop k = (sp d).pins[k] :: (sp d).pins.drop (k + 1) := List.drop_eq_getElem_cons (by omega)
    obtain ⟨⟨p0, p1⟩, hlv⟩ := (h.sp d hd).pins _ (List.getElem_mem (show k < (sp d).pins.length by omega))
    generalize (sp d).pins[k] = p at *
    obtain ⟨T, hT⟩ := ih.ok
    have sn : (dropM M ((sp d).pins.take k)).n = M.n := by
      unfold dropM
      generalize (sp d).pins.take k = l
      clear ih hT
      induction l generalizing M with
      | nil => rfl
      | cons q l il => 
        have : ∀ (l : List (Int × Int)) (A : Mach), (l.foldl (fun M p => unrefT p.2 M p.1.toNat) A).n = A.n := fun l => by
          induction l with
          | nil => intro A; rfl
          | cons q l il => intro A; exact (il _).trans (unrefT_same _ _ _).n
        exact this (q :: l) M
    have e1 := outF_change (sp := upS sp d { sp d with pins := (sp d).pins.drop k }) (E := E) (d := d) (s' := { sp d with pins := (sp d).pins.drop (k + 1) }) hd [(p.1.toNat, p.2.toNat + 1)] [] (fun x => by
      rw [upS_same, hdr]
      simp only [spK, pinK, List.count_append, List.map_cons, List.count_cons, List.count_nil]
      omega)
    have e2 : upS (upS sp d { sp d with pins := (sp d).pins.drop k }) d { sp d with pins := (sp d).pins.drop (k + 1) } = upS sp d { sp d with pins := (sp d).pins.drop (k + 1) } := by
      funext e
      by_cases ed : e = d
      · subst ed; rw [upS_same, upS_same]
      · rw [upS_other _ _ _ _ ed, upS_other _ _ _ _ ed, upS_other _ _ _ _ ed]
    rw [e2, Cnt.plus_nil, Cnt.plus_one] at e1
    refine ⟨unrefT_ok hlv (by rw [e1]; exact ih.inv) (by rw [sn]; omega), ?_, T, unrefT_ok' hT _ _⟩
    rw [(unrefT_same _ _ _).n, sn]
    refine SpOk.up h.sp ⟨fun q hq => (h.sp d hd).pins q (List.mem_of_mem_drop hq), ?_, (h.sp d hd).root⟩
    exact (h.sp d hd).nodup.sublist ((List.drop_sublist _ _).map _)
theorem All.dropS {M : Mach} {sp : Nat → Sp} {E : Cnt} {d : Nat} (h : All M sp E) (hd : d < 8) : All (dropM M (sp d).pins) (upS sp d { sp d with pins := [] }) E := by
  have := h.dropped hd (sp d).pins.length (Nat.le_refl _)
  rwa [List.take_length, List.drop_length] at this
theorem All.drop {M : Mach} {sp : Nat → Sp} {E : Cnt} (h : All M sp E) (o : Int) : All (dropV M sp o).2.1 (dropV M sp o).2.2 E := by
  unfold dropV
  split
  · exact h
  rename_i h1
  have hd : domOk o = true := by cases e : domOk o; (exact absurd e h1); rfl
  obtain ⟨d, rfl, hd8⟩ := domOk_nat hd
  simp only [Int.toNat_natCast]
  exact (h.dropS hd8).base _ _
end Go.Proofs.Ytemeihamkdpmoaa

/-
  Package tenementref05: Pin, Base, whole.
-/
set_option linter.unusedSimpArgs false
set_option linter.unusedVariables false
namespace Go.Proofs.Ytemeihamkdpmoaa
open Go.RowKit
set_option maxHeartbeats 1000000

theorem outF_root {sp : Nat → Sp} {E : Cnt} {d : Nat} (hd : d < 8) (hr : (sp d).root ≠ -1) : ∃ F : Cnt, outF sp E = F.add (sp d).root.toNat 3 := by
  refine ⟨outF (upS sp d { sp d with root := -1 }) E, ?_⟩
  have := outF_change (sp := sp) (E := E) (d := d) (s' := { sp d with root := -1 }) hd (rootK (sp d).root) [] (fun x => by
    simp only [spK, List.count_append, rootK]
    simp)
  rw [Cnt.plus_nil] at this
  rw [← this, show rootK (sp d).root = [((sp d).root.toNat, 3)] from if_neg hr, Cnt.plus_one]
theorem domOk_no {o : Int} (h : domOk o = false) : o < 0 ∨ 8 ≤ o := by
  simp only [domOk, Bool.and_eq_false_iff, decide_eq_false_iff_not] at h; omega
/-- a root's reference goes -/
theorem yroot {b Y : Nat} {M : Mach} {T : Int} {F : Cnt} {r : Int} (hF : Inv2 M (F.add r.toNat 3)) (h0 : 0 ≤ r) (h1 : r < M.n) (hok : M.ok T) (hT : T + 30000 < 4611686018427387904) :
    YCall 110 #[.pointer (some ⟨Y, 0, none⟩), .int .i64 r, .int .i64 2] b Y M (.returned (.tuple #[])) (untabG 2 3 dp2 M r.toNat) := by
  obtain ⟨k, rfl⟩ := Int.eq_ofNat_of_zero_le h0
  simp only [Int.toNat_natCast] at hF ⊢
  exact yun2 hok hT k h1 (hF.g k h1 (by rw [Cnt.add_at]; omega))
theorem yPin (b Y : Nat) (o i lv : Int) (w : World) (L : Lay) (M : Mach) (T : Int) (sp : Nat → Sp) (E : Cnt) (A : YL) (h : YS w b Y L M sp A) (hA : All M sp E) (hok : M.ok T) (hT : T + 50000 < 4611686018427387904) :
    Calls Try.prog 84 #[.pointer (some ⟨Y, 0, none⟩), .int .i64 o, .int .i64 i, .int .i64 lv] w fun e w' => e = .returned (.int .i64 (pinV M sp o i lv).1) ∧ YLf w w' b Y L A (pinV M sp o i lv).2.1 (pinV M sp o i lv).2.2 := by
  cases hd : domOk o with
  | false =>
    have e : pinV M sp o i lv = (1, M, sp) := by unfold pinV; rw [if_pos (.inl hd)]
    rw [e]
    exact yPin_dom b Y o i lv w L M sp A h (domOk_no hd)
  | true =>
    by_cases hlv : lv = 1 ∨ lv = 2
    · obtain ⟨d, rfl, hd8⟩ := domOk_nat hd
      have hl := hA.len hd8
      rcases hlv with rfl | rfl
      · exact yPin_core b Y d i 1 w L M sp A h hd8 (by omega) (.inl rfl) (ytab1 hA.inv.inv.holds hok (by omega) _ _)
      · exact yPin_core b Y d i 2 w L M sp A h hd8 (by omega) (.inr rfl) (ytab2 hA.inv.inv hok hT _ _)
    · have e : pinV M sp o i lv = (1, M, sp) := by unfold pinV; rw [if_pos (.inr (.inl hlv))]
      rw [e]
      obtain ⟨d, rfl, hd8⟩ := domOk_nat hd
      exact yPin_lv b Y d i lv w L M sp A h hd8 (by omega)
theorem yBase (b Y : Nat) (o i : Int) (w : World) (L : Lay) (M : Mach) (T : Int) (sp : Nat → Sp) (E : Cnt) (A : YL) (h : YS w b Y L M sp A) (hA : All M sp E) (hok : M.ok T) (hT : T + 50000 < 4611686018427387904) :
    Calls Try.prog 86 #[.pointer (some ⟨Y, 0, none⟩), .int .i64 o, .int .i64 i] w fun e w' => e = .returned (.int .i64 (baseV M sp o i).1) ∧ YLf w w' b Y L A (baseV M sp o i).2.1 (baseV M sp o i).2.2 := by
  unfold baseV
  cases hd : domOk o with
  | false => rw [if_pos (.inl rfl)]; exact yBase_dom b Y o i w L M sp A h (domOk_no hd)
  | true =>
    obtain ⟨d, rfl, hd8⟩ := domOk_nat hd
    have hrt := (hA.sp d hd8).root
    simp only [Int.toNat_natCast, Bool.true_eq_false, false_or]
    by_cases hi1 : i = -1
    · subst hi1
      rw [if_neg (by simp), if_pos rfl]
      refine yBase_none b Y d w L M _ sp A h hd8 (fun e => by unfold dropRoot; rw [if_pos e]) fun e => ⟨(hrt e).1, ?_⟩
      obtain ⟨F', hF'⟩ := outF_root (E := E) hd8 e
      unfold dropRoot
      rw [if_neg e]
      exact yroot (F := F') (by rw [← hF']; exact hA.inv) (hrt e).1 (hrt e).2 hok (by omega)
    · cases hi : M.is i with
      | false => rw [if_pos ⟨hi1, rfl⟩]; exact yBase_has b Y d i w L M sp A h hd8 hi1 hi
      | true =>
        rw [if_neg (by simp), if_neg hi1]
        have hok' : (tabG 3 take2 M d i).2.ok (T + (1 + 65 * 64 : Nat)) := tabG_ok' (c := 65) (fun h o n => take2_ok h o n) hok d i
        have hno := tabG_no (K := 3) (tk := take2) (M := M) (o := d) (t := i)
        have hye := fun he => (tabG_yes lvl2 (o := d) (t := i) hA.inv he).1
        have hsm := tabG_same lvl2 M d i
        have hta := ytab2 (b := b) (Y := Y) hA.inv.inv hok hT d i
        generalize tabG 3 take2 M d i = r at *
        obtain ⟨c, M'⟩ := r
        simp only at hok' hno hye hsm hta ⊢
        refine (yBase_some b Y d i w L M M' (dropRoot M' (sp d).root) c sp A h hd8 hi hno hta (fun e => by unfold dropRoot; rw [if_pos e]) fun hc e => ⟨(hrt e).1, ?_⟩).mono ?_
        · obtain ⟨F', hF'⟩ := outF_root (E := E) hd8 e
          have hF2 := hye hc
          rw [hF', Cnt.add_comm] at hF2
          unfold dropRoot
          rw [if_neg e]
          exact yroot hF2 (hrt e).1 (by rw [hsm.n]; exact (hrt e).2) hok' (by omega)
        · rintro e w' ⟨rfl, h1, h2⟩
          by_cases hz : c = 0
          · rw [if_neg (by simpa using hz)]; exact ⟨by rw [hz], h2 hz⟩
          · rw [if_pos hz]; exact ⟨rfl, h1 hz⟩
end Go.Proofs.Ytemeihamkdpmoaa

/-
  Package tenementref05: Unpin.
-/
set_option linter.unusedSimpArgs false
set_option linter.unusedVariables false
namespace Go.Proofs.Ytemeihamkdpmoaa
open Go.RowKit
set_option maxHeartbeats 2000000

theorem run_pins_app (w : World) (ty : TypeId) (v : Value) (l l2 : List (Int × Int)) (h : PinsAt w v l) (ad : Addr) (c : Nat) (hnews : ∀ j u, (pinC l2)[j]? = some u → w.cell? (ad.add j) = some u) (hb : l.length + l2.length ≤ 1000000) :
    ∃ v' w', (Builtin.append_ #[100, 100] ty #[v, .slice (some ad) l2.length c]).run Try.prog w = .ok v' w' ∧ PinsAt w' v' (l ++ l2) ∧ w.grownBy w' v.ownBlock ∧ (v'.ownBlock = v.ownBlock ∨ ∀ g, v'.ownBlock = some g → w.heap.size ≤ g) := by
  by_cases h2 : l2 = []
  · subst h2
    obtain ⟨i0, hi, hz0, hz1, hz2⟩ := info_parts info_pin
    rcases h with ⟨rfl, rfl⟩ | ⟨g, cap, rfl, hcap, hrow, hfull⟩
    · obtain ⟨v', w', hr, ho, hg, _⟩ := run_append_own (P := Try.prog) w w.heap.size 100 ty 158 i0 (.agg #[.int .i64 0, .int .i64 0]) 2 16 Try.underlying100 hi hz0 hz1 hz2 rfl (by decide) (.slice none 0 0) 0 [] (World.ownsRow_nil w _ _ 2) ad 0 c (pinC []) (by simp [pinC]) hnews (pinC_one []) (by unfold maxLen; omega) (by omega) (Nat.le_refl _)
      simp only [Nat.zero_add, List.nil_append] at ho
      exact ⟨v', w', hr, .of_own ho, hg, .inr (own_new ho)⟩
    · have hr := run_append_room_cells (P := Try.prog) w 100 ty 158 i0 Try.underlying100 hi g 0 l.length cap ad 0 c [] (by simp) (by simp) (by simp) (by omega) (by simp) (by simp)
      rw [setCells_nil] at hr
      rw [List.append_nil]
      exact ⟨_, _, hr, .inr ⟨g, cap, rfl, hcap, hrow, hfull⟩, World.grownBy.refl _ _, .inl rfl⟩
  · exact run_pins_append w ty v l l2 h ad c h2 hnews (by omega)
theorem wpList_pinsA {ops : Array Oper} {rest : List Oper} {o : Oper} {a : Act} {w : World} {Q : Exit → Act → World → Prop} (hgd : o.guard = none) (s x : Operand) (ho : o.op = .call { callee := .builtin .append, args := #[s, x], argTypes := #[100, 100] })
    (v : Value) (l : List (Int × Int)) (hs : a.eval s = v) (h : PinsAt w v l) (ad : Addr) (m c : Nat) (l2 : List (Int × Int)) (hx : a.eval x = .slice (some ad) m c) (hm : l2.length = m) (hnews : ∀ j u, (pinC l2)[j]? = some u → w.cell? (ad.add j) = some u) (hb : l.length + l2.length ≤ 1000000)
    (hK : ∀ v' w', PinsAt w' v' (l ++ l2) → w.grownBy w' v.ownBlock → (v'.ownBlock = v.ownBlock ∨ ∀ g, v'.ownBlock = some g → w.heap.size ≤ g) → wpList Try.prog ops Q rest (a.put o.dst v') w') : wpList Try.prog ops Q (o :: rest) a w := by
  subst hm
  obtain ⟨v', w', hr, h1, h2, h3⟩ := run_pins_app w o.type v l l2 h ad c hnews hb
  refine wpList_plain hgd fun K hK' => ?_
  unfold Oper.wp execOp
  simp only [ho, resolve, invoke, builtin, Sem.run_bind, Sem.run_pure, Result.andThen_ok, List.map_toArray, List.map_cons, List.map_nil, hs, hx, hr]
  exact hK' _ _ (hK v' w' h1 h2 h3)
theorem step_pinsA {ops : Array Oper} {o : Oper} {a : Act} {w : World} {K : Act → World → Prop} {Q : Exit → Act → World → Prop} {E : Prop} (hgd : o.guard = none) (s x : Operand)
    (ho : o.op = .call { callee := .builtin .append, args := #[s, x], argTypes := #[100, 100] }) (v : Value) (l : List (Int × Int)) (hs : a.eval s = v) (h : PinsAt w v l) (ad : Addr) (m c : Nat) (l2 : List (Int × Int)) (hx : a.eval x = .slice (some ad) m c) (hm : l2.length = m)
    (hnews : ∀ j u, (pinC l2)[j]? = some u → w.cell? (ad.add j) = some u) (hb : l.length + l2.length ≤ 1000000)
    (hK : ∀ p' c' w', PinsAt w' (.slice p' (l ++ l2).length c') (l ++ l2) → w.grownBy w' v.ownBlock → ((Value.slice p' (l ++ l2).length c').ownBlock = v.ownBlock ∨ ∀ g, (Value.slice p' (l ++ l2).length c').ownBlock = some g → w.heap.size ≤ g) → K (a.put o.dst (.slice p' (l ++ l2).length c')) w') :
    if Region.wanted o (yielded ops a.tmps) = true then Oper.wp Try.prog o a w K Q else E := by
  have hw : Region.wanted o (yielded ops a.tmps) = true := by simp [Region.wanted, hgd]
  rw [if_pos hw]
  subst hm
  obtain ⟨v', w', hr, h1, h2, h3⟩ := run_pins_app w o.type v l l2 h ad c hnews hb
  obtain ⟨p', c', rfl⟩ := h1.slice
  unfold Oper.wp execOp
  simp only [ho, resolve, invoke, builtin, Sem.run_bind, Sem.run_pure, Result.andThen_ok, List.map_toArray, List.map_cons, List.map_nil, hs, hx, hr]
  exact hK p' c' w' h1 h2 h3
theorem grown_fresh {w w1 w2 : World} {r : Option Nat} (h : w.grownBy w1 none) (h2 : w1.grownBy w2 r) (hr : ∀ g, r = some g → w.heap.size ≤ g) : w.grownBy w2 none :=
  h.andThen h2 fun j e => .inl (hr j e)
theorem yUnpin_dom (b Y : Nat) (o i : Int) (w : World) (L : Lay) (M : Mach) (sp : Nat → Sp) (A : YL) (h : YS w b Y L M sp A) (hdn : o < 0 ∨ 8 ≤ o) :
    Calls Try.prog 85 #[.pointer (some ⟨Y, 0, none⟩), .int .i64 o, .int .i64 i] w fun e w' => e = .returned (.int .i64 1) ∧ YLf w w' b Y L A M sp := by
  have HS := hid h
  clear h
  go_enter Try.func85, Try.ntmps85
  go_wp2_with (go_at_call 104; refine (rDomain_no _ _ hdn).mono ?_; rintro e w1 ⟨rfl, rfl⟩)
  go_ret
  exact ⟨rfl, YLf.same HS.out (World.grownBy.refl _ _)⟩
theorem yUnpin_none (b Y d : Nat) (i : Int) (w : World) (L : Lay) (M : Mach) (sp : Nat → Sp) (A : YL) (h : YS w b Y L M sp A) (hd : d < 8) (hl : (sp d).pins.length ≤ 1000000) (hk : (sp d).pins.length ≤ pinIx (sp d).pins i) :
    Calls Try.prog 85 #[.pointer (some ⟨Y, 0, none⟩), .int .i64 d, .int .i64 i] w fun e w' => e = .returned (.int .i64 6) ∧ YLf w w' b Y L A M sp := by
  have HS := hid h
  have hd0 : (0 : Int) ≤ d := by omega
  have hd8 : (d : Int) < 8 := by omega
  have ha := pinAt_none hk
  have hneg : (-1 : Int) < 0 := by omega
  clear h hk
  go_enter Try.func85, Try.ntmps85
  go_wp2_with (first
    | (go_at_call 104; refine (rDomain_yes _ _ hd0 hd8).mono ?_; rintro e w1 ⟨rfl, rfl⟩)
    | (go_at_call 108; refine (ypinned b Y d i _ L M sp A HS.out hd hl).mono ?_; rw [ha]; rintro e w1 ⟨rfl, rfl⟩))
  go_ret
  exact ⟨rfl, YLf.same HS.out (World.grownBy.refl _ _)⟩
set_option maxRecDepth 100000 in
theorem yUnpin_yes (b Y d k j : Nat) (lv : Int) (w : World) (L : Lay) (M M' : Mach) (sp : Nat → Sp) (A : YL) (h : YS w b Y L M sp A) (hd : d < 8) (hl : (sp d).pins.length ≤ 1000) (hk : pinIx (sp d).pins j = k) (hkl : k < (sp d).pins.length) (hp : (sp d).pins[k] = ((j : Int), lv))
    (hu : YCall 110 #[.pointer (some ⟨Y, 0, none⟩), .int .i64 j, .int .i64 lv] b Y M (.returned (.tuple #[])) M') :
    Calls Try.prog 85 #[.pointer (some ⟨Y, 0, none⟩), .int .i64 d, .int .i64 j] w fun e w' => e = .returned (.int .i64 0) ∧ YLf w w' b Y L A M' (upS sp d { sp d with pins := (sp d).pins.eraseIdx k }) := by
  have HS := hid h
  have hd0 : (0 : Int) ≤ d := by omega
  have hd8 : (d : Int) < 8 := by omega
  have HU := hid hu
  have ha : pinAt (sp d).pins j = k := pinAt_some hkl hk
  have hk0 : (0 : Int) ≤ k := by omega
  obtain ⟨n, hn⟩ : ∃ n, (sp d).pins.length = n := ⟨_, rfl⟩
  obtain ⟨g, cap, hv, hcap, hrow⟩ : ∃ g cap, A.pv d = .slice (some ⟨g, 0, none⟩) n cap ∧ n ≤ cap ∧ Row w g 158 ((sp d).pins.length * 2) (fun k => (pinC (sp d).pins).getD k undef) := by
    rcases h.pin d hd with ⟨e, e2⟩ | ⟨g, cap, e, h1, h2, _⟩
    · rw [e2] at hkl; simp at hkl
    · exact ⟨g, cap, by rw [e, hn], by rw [← hn]; exact h1, h2⟩
  have HR := hid hrow
  have hkn : (k : Int) < n := by omega
  have hkc : (k : Int) ≤ cap := by omega
  have hk1 : (k : Int) + 1 ≤ n := by omega
  have y1 := h.y1; have p0 := h.pins hd
  rw [hv] at p0
  obtain ⟨r1, r2⟩ := pinC_get _ k hkl
  rw [hp] at r1 r2
  have x1 := hrow.cell (k := k * 2 + 1) (by omega)
  simp only [List.getD, r2, Option.getD_some] at x1
  have er : (sp d).pins.eraseIdx k = (sp d).pins.take k ++ (sp d).pins.drop (k + 1) := List.eraseIdx_eq_take_drop_succ ..
  have HER := hid er
  have hlt : ((sp d).pins.take k).length = k := by rw [List.length_take]; omega
  have hld : ((sp d).pins.drop (k + 1)).length = n - (k + 1) := by rw [List.length_drop, hn]
  have HLT := hid hlt; have HLD := hid hld
  have hl2 : (sp d).pins.length ≤ 1000000 := by omega
  have HNews := hid (row_news hrow)
  have hadd : ∀ o j : Nat, (⟨g, o, none⟩ : Addr).add j = ⟨g, o + j, none⟩ := fun o j => by cases j <;> rfl
  have HN1 := hid (fun j u (hj : (pinC ((sp d).pins.take k))[j]? = some u) => HNews.out j u (pinC_take _ k (by omega) j u hj))
  have HN2 := hid (show ∀ j u, (pinC ((sp d).pins.drop (k + 1)))[j]? = some u → w.cell? ((⟨g, (k + 1) * 2, none⟩ : Addr).add j) = some u from fun j u hj => by
    have := HNews.out _ u (pinC_drop _ (k + 1) (by omega) j u hj)
    rw [hadd] at this ⊢
    rwa [Nat.zero_add] at this)
  clear hu hk hp h hrow r1 r2 hlt hld er hadd
  go_enter Try.func85, Try.ntmps85
  go_wp2_with (first
    | (go_at_call 104; refine (rDomain_yes _ _ hd0 hd8).mono ?_; rintro e w1 ⟨rfl, rfl⟩)
    | (go_at_call 108; refine (ypinned b Y d j _ L M sp A HS.out hd hl2).mono ?_; rw [ha]; rintro e w1 ⟨rfl, rfl⟩)
    | (at_builtin; refine wpList_pinsA rfl _ _ rfl (.slice none 0 0) [] rfl (.inl ⟨rfl, rfl⟩) ⟨g, 0, none⟩ k cap ((sp d).pins.take k) rfl HLT.out HN1.out (by simp; omega) ?_; intro v' w1 h1 g1 n1; rw [List.nil_append] at h1; obtain ⟨p1, c1, e1⟩ := h1.slice; rw [HLT.out] at e1; subst e1; have H1 := hid h1; have G1 := hid g1; have N1 := hid n1; clear h1 g1 n1))
  have HS1 := hid (HS.out.grown G1.out)
  have HSd := hid (HS1.out.grown (grownBy_drew w1 none))
  have Gd := hid ((show w.grownBy w1 none from G1.out).trans (grownBy_drew w1 none))
  have HPd := hid (H1.out.grown (grownBy_drew w1 none) (by simp))
  have NF := hid (show ∀ q, (Value.slice p1 k c1).ownBlock = some q → w.heap.size ≤ q from fun q e => N1.out.elim (fun e2 => by rw [e2] at e; simp [Value.ownBlock] at e) (fun e2 => e2 q e))
  have SZ := hid (show w.heap.size ≤ w1.drew.heap.size from Gd.out.size)
  have NP := hid (show (Value.slice p1 k c1).ownBlock ≠ some A.fP from fun e => by have := NF.out _ e; have := HS.out.pr.lt; omega)
  have NY := hid (show (Value.slice p1 k c1).ownBlock ≠ some Y from fun e => by have := NF.out _ e; have := HS.out.top.lt; omega)
  have HN2d := hid (fun j u hj => Gd.out.cell (HN2.out j u hj) (by simp))
  have z1 := HS1.out.y1; have z2 := HS1.out.pins hd; have z3 := HSd.out.y1; have z4 := HSd.out.pins hd; have z5 := HSd.out.pr.frozen d
  rw [hv] at z2 z4
  have hwk : IntKind.i64.wrap ((k : Int) + 1) = ((k + 1 : Nat) : Int) := by
    rw [show ((k : Int) + 1) = ((k + 1 : Nat) : Int) by omega]
    simp only [IntKind.wrap_i64]
    omega
  have hk2 : ((k + 1 : Nat) : Int) ≤ n := by omega
  have hk3 : (0 : Int) ≤ ((k + 1 : Nat) : Int) := by omega
  have hk5 : (0 : Int) ≤ (k : Int) + 1 := by omega
  clear y1 p0 x1
  by_cases hc1 : cap = k + 1
  · subst hc1
    have hkd : (k : Int) ≤ (k : Int) + 1 := by omega
    have hn0 : n = k + 1 := by omega
    have HE0 := hid (show ∀ j u, (pinC ((sp d).pins.drop (k + 1)))[j]? = some u → w1.drew.cell? ((⟨g, 0, none⟩ : Addr).add j) = some u from fun j u hj => by
      have e : (sp d).pins.drop (k + 1) = [] := List.eq_nil_of_length_eq_zero (by rw [HLD.out]; omega)
      rw [e] at hj; simp [pinC] at hj)
    go_region_law (refine step_pinsA (by rfl) _ _ (by rfl) (.slice p1 k c1) ((sp d).pins.take k) (by simp [Act.eval, Act.put]) HPd.out ⟨g, 0, none⟩ 0 0 ((sp d).pins.drop (k + 1)) (by simp [Act.eval, Act.put]) (by rw [HLD.out]; omega) HE0.out (by rw [HLT.out, HLD.out]; omega) ?_; intro p' c' w5 h5 g5 n5; rw [← HER.out] at h5 n5 ⊢; have HE := hid (YLf.pin (v := .slice p' ((sp d).pins.eraseIdx k).length c') HS.out HS.out.ym hd h5 ((grown_fresh Gd.out g5 NF.out).but _) (.inr fun q e => n5.elim (fun e2 => NF.out q (by rw [← e2]; exact e)) (fun e2 => Nat.le_trans SZ.out (e2 q e)))); have ht5 := HSd.out.pr.grown g5 (fun e => NP.out e.symm); have q0 := ht5.cell (k := d) (by omega); rw [hv] at q0; have q1 := ht5.frozen d; have q2 : w5.cell? ⟨Y, 1, none⟩ = some (.slice (some ⟨A.fP, 0, none⟩) 8 A.cP) := (HSd.out.top.grown g5 (fun e => NY.out e.symm)).cell (k := 1) (by omega); clear h5 g5 n5 ht5)
    all_goals
      obtain ⟨L6, A6, hs6, hc6, hf6⟩ := HE.out
      have HS6 := hid hs6; have HC6 := hid hc6; have HF6 := hid hf6
      clear hs6 hc6 hf6
      go_wp2_with (go_at_call 110; refine (HU.out _ _ HS6.out.ym).mono ?_; rintro e w7 ⟨rfl, h7⟩; have HZ := hid (YLf.trans HC6.out HF6.out (YLf.of HS6.out h7)); clear h7)
      go_ret
      exact ⟨rfl, HZ.out⟩
  · go_region_law (refine step_pinsA (by rfl) _ _ (by rfl) (.slice p1 k c1) ((sp d).pins.take k) (by simp [Act.eval, Act.put]) HPd.out ⟨g, (k + 1) * 2, none⟩ (n - (k + 1)) (cap - (k + 1)) ((sp d).pins.drop (k + 1)) (by simp [Act.eval, Act.put]) HLD.out HN2d.out (by rw [HLT.out, HLD.out]; omega) ?_; intro p' c' w5 h5 g5 n5; rw [← HER.out] at h5 n5 ⊢; have HE := hid (YLf.pin (v := .slice p' ((sp d).pins.eraseIdx k).length c') HS.out HS.out.ym hd h5 ((grown_fresh Gd.out g5 NF.out).but _) (.inr fun q e => n5.elim (fun e2 => NF.out q (by rw [← e2]; exact e)) (fun e2 => Nat.le_trans SZ.out (e2 q e)))); have ht5 := HSd.out.pr.grown g5 (fun e => NP.out e.symm); have q0 := ht5.cell (k := d) (by omega); rw [hv] at q0; have q1 := ht5.frozen d; have q2 : w5.cell? ⟨Y, 1, none⟩ = some (.slice (some ⟨A.fP, 0, none⟩) 8 A.cP) := (HSd.out.top.grown g5 (fun e => NY.out e.symm)).cell (k := 1) (by omega); clear h5 g5 n5 ht5)
    all_goals
      obtain ⟨L6, A6, hs6, hc6, hf6⟩ := HE.out
      have HS6 := hid hs6; have HC6 := hid hc6; have HF6 := hid hf6
      clear hs6 hc6 hf6
      go_wp2_with (go_at_call 110; refine (HU.out _ _ HS6.out.ym).mono ?_; rintro e w7 ⟨rfl, h7⟩; have HZ := hid (YLf.trans HC6.out HF6.out (YLf.of HS6.out h7)); clear h7)
      go_ret
      exact ⟨rfl, HZ.out⟩
end Go.Proofs.Ytemeihamkdpmoaa
