/-
  Package tenementref05: update, Update: whole.
-/
import Derived.Test.YtemeihamkdpmoaaK28
import Derived.Test.YtemeihamkdpmoaaK26
import Derived.Test.YtemeihamkdpmoaaK22
import Derived.Test.YtemeihamkdpmoaaK27
import Derived.Test.YtemeihamkdpmoaaK12
import Derived.WalkKit
import Derived.ProofKit
import Derived.Below
import Derived.Deep.Slices
import Derived.Deep.Fields
import Derived.ChangeSame
import Derived.SizedLaws
set_option linter.unusedSimpArgs false
set_option linter.unusedVariables false
namespace Go.Proofs.Ytemeihamkdpmoaa
open Go.RowKit
set_option maxHeartbeats 1000000

theorem yupdate (b Y : Nat) (o t i : Int) (n : Nat) (M : Mach) (T : Int) (F : Cnt) (hok : M.ok T) (hT : T + 50000 < 4611686018427387904) (hF : Inv2 M F) (hn : n < 4294967296) :
    YCall 111 #[.pointer (some ⟨Y, 0, none⟩), .int .i64 o, .agg #[.int .i64 t, .int .i64 i, .int .u32 n]] b Y M (.returned (.int .i64 (updV M o t i n).1)) (updV M o t i n).2 := by
  intro w S h
  by_cases hb : domOk o = false ∨ M.is t = false ∨ idx i = false
  · have e : updV M o t i n = (1, M) := by unfold updV; rw [if_pos hb]
    rw [e]
    by_cases hd : domOk o = false
    · refine yupdate_dom b Y o t i n w S M h ?_
      simp only [domOk, Bool.and_eq_false_iff, decide_eq_false_iff_not] at hd; omega
    · have hd' : domOk o = true := by simpa using hd
      obtain ⟨d, rfl, hd8⟩ := domOk_nat hd'
      exact yupdate_is b Y d t i n w S M h hd8 (hb.resolve_left hd)
  have hd : domOk o = true := by cases e : domOk o; (exact absurd (.inl e) hb); rfl
  have hi : M.is t = true := by cases e : M.is t; (exact absurd (.inr (.inl e)) hb); rfl
  have hx : idx i = true := by cases e : idx i; (exact absurd (.inr (.inr e)) hb); rfl
  obtain ⟨i0, i1⟩ := Mach.is_iff.1 hi
  have hx' : 0 ≤ i ∧ i < 64 := by simpa [idx] using hx
  obtain ⟨d, rfl, hd8⟩ := domOk_nat hd
  obtain ⟨tn, rfl⟩ := Int.eq_ofNat_of_zero_le i0
  obtain ⟨j, rfl⟩ := Int.eq_ofNat_of_zero_le hx'.1
  have hj : j < 64 := by omega
  have hC : CHolds M (full 1 2 M (full 2 3 M F)) := hF.inv.inv
  by_cases ho' : (M.fr tn).owner ≠ (d : Int)
  · have e : updV M d tn j n = (12, M) := by unfold updV; rw [if_neg hb, if_pos (by simpa using ho')]
    rw [e]
    exact yupdate_frame b Y d tn j n 12 w S M h hd8 i1 hj (.inl ⟨ho', rfl⟩)
  have ho := Classical.not_not.1 ho'
  by_cases h2 : (M.fr tn).ty = 2
  · have e : updV M d tn j n = updG 1 take1 dp1 M d tn j n := by unfold updV; rw [if_neg hb, if_neg (by simpa using ho), if_pos (by simpa using h2)]; rfl
    rw [e, updG_core.1, updG_core.2]
    exact yupdate_core b Y 1 2 d tn j n _ w S M _ _ h hd8 i1 hj hn ho (.inl ⟨rfl, rfl⟩) h2 (lvl1.tk_same M d n) (fun e => lvl1.tk_no e)
      (ytake1 hok (by omega) d n hn) (fun _ => yleave1 (Mach.write_ok (take1_ok hok _ _) _ _ _) (by omega) _ (word4_lt _ _))
  by_cases h3 : (M.fr tn).ty = 3
  · have e : updV M d tn j n = updG 2 take2 dp2 M d tn j n := by unfold updV; rw [if_neg hb, if_neg (by simpa using ho), if_neg (by simpa using h2), if_pos (by simpa using h3)]; rfl
    rw [e, updG_core.1, updG_core.2]
    have hp : 0 < F tn 3 := by have := hC.of_ty i1 (k := 3) (by omega) h3; rwa [full1_3, full_other (rf_two_ne (by decide))] at this
    have gd := good_rf (hF.g tn i1 hp j hj)
    exact yupdate_core b Y 2 3 d tn j n _ w S M _ _ h hd8 i1 hj hn ho (.inr ⟨rfl, rfl⟩) h3 (lvl2.tk_same M d n) (fun e => lvl2.tk_no e)
      (yte2 hC hok (by omega) d n hn) (fun _ => yle2 (Mach.write_ok (take2_ok hok _ _) _ _ _) (by omega) _ (word4_lt _ _) (fun r hr => by
        rw [(write_own _ _ _ _).n, (lvl2.tk_same M d n).n]; exact gd r hr))
  · have e : updV M d tn j n = (5, M) := by unfold updV; rw [if_neg hb, if_neg (by simpa using ho), if_neg (by simpa using h2), if_neg (by simpa using h3)]
    rw [e]
    exact yupdate_frame b Y d tn j n 5 w S M h hd8 i1 hj (.inr ⟨ho, h2, h3, rfl⟩)
theorem yUpdate (b Y : Nat) (o : Int) (v : Value) (l : List Upd) (w : World) (S : Nat → Prop) (M : Mach) (sp : Nat → Sp) (E : Cnt) (T : Int) (h : YM w w b Y S M) (hA : All M sp E) (hT : ∀ A, All A sp E → A.ok T) (hT2 : T + 50000 < 4611686018427387904) (hu : UpdsIn w S v l) (hl : okU l) (hlen : l.length ≤ 140737488355328) :
    Calls Try.prog 87 #[.pointer (some ⟨Y, 0, none⟩), .int .i64 o, v] w fun e w' => e = .returned (.tuple #[.int .i64 (updsV o M l).1, .int .i64 (updsV o M l).2.1]) ∧ YM w w' b Y S (updsV o M l).2.2 :=
  yUpdate_of b Y o v l w S M h hu hlen fun j hj => by
    have hA' := hA.updsM o hl j (by omega)
    exact yupdate b Y o _ _ _ _ T _ (hT _ hA') hT2 hA'.inv (hl _ (List.getElem_mem hj))
end Go.Proofs.Ytemeihamkdpmoaa

/-
  Page tables as plain data: a frame without references goes free.
-/
set_option linter.unusedSimpArgs false
set_option linter.unusedVariables false
namespace Go.Proofs.Ytemeihamkdpmoaa
open Go.RowKit
set_option maxHeartbeats 1000000

section
variable {M : Mach} {i : Nat} {f : Fr}
theorem upd_refs {t : Nat} (h : t ≠ i) (lv k : Nat) : (M.upd i f).refs lv t k = M.refs lv t k := Mach.refs_bs (by rw [Mach.upd_other _ _ _ _ h]) lv k
theorem upd_full {lv K : Nat} {F : Cnt} (h0 : F i K = 0) : full lv K (M.upd i f) F = full lv K M F := by
  funext a b
  unfold full
  rw [show (M.upd i f).n = M.n from rfl]
  congr 2
  exact List.map_congr_left fun t _ => by
    by_cases e : t = i
    · subst e; rw [if_neg (by omega), if_neg (by omega)]
    · rw [upd_refs e]
theorem full_le (lv K : Nat) (M : Mach) (F : Cnt) (a b : Nat) : F a b ≤ full lv K M F a b := by unfold full; omega
/-- an entry of a table in use refers to no frame without references -/
theorem entry_counts {lv K t j : Nat} {F : Cnt} {r : Nat × Nat} (ht : (t : Int) < M.n) (hp : 0 < F t K) (hj : j < 64) (hr : rf lv (M.word t j) = some r) : 0 < full lv K M F r.1 r.2 := by
  have h1 : r ∈ M.refs lv t 64 := List.mem_flatMap.2 ⟨j, List.mem_range.2 hj, by rw [hr]; simp⟩
  have h2 : 0 < (M.refs lv t 64).count (r.1, r.2) := List.count_pos_iff.2 h1
  have h3 : (if 0 < F t K then (M.refs lv t 64).count (r.1, r.2) else 0) ∈ (List.range M.n.toNat).map fun t => if 0 < F t K then (M.refs lv t 64).count (r.1, r.2) else 0 := List.mem_map.2 ⟨t, List.mem_range.2 (by omega), rfl⟩
  rw [if_pos hp] at h3
  have h4 : ∀ l : List Nat, ∀ x ∈ l, x ≤ l.sum := fun l => by
    induction l with
    | nil => intro x hx; cases hx
    | cons y l ih =>
      intro x hx
      rw [List.sum_cons]
      rcases List.mem_cons.1 hx with e | e
      · subst e; omega
      · have := ih x e; omega
  have := h4 _ _ h3
  unfold full
  omega
theorem upd_InvG {lv K : Nat} {Inv : Mach → Cnt → Prop} {F : Cnt} (h : InvG lv K Inv M F) (hz : ∀ k, k ≤ 3 → full lv K M F i k = 0) (hK : K ≤ 3) (hrf : ∀ n r, rf lv n = some r → r.2 ≤ 3) (hi : Inv (M.upd i f) (full lv K M F)) : InvG lv K Inv (M.upd i f) F := by
  have h0 : F i K = 0 := by have := full_le lv K M F i K; have := hz K hK; omega
  refine ⟨by rw [upd_full h0]; exact hi, fun t ht hp j hj => ?_⟩
  have ht' : (t : Int) < M.n := ht
  have hti : t ≠ i := fun e => by subst e; omega
  have hg := h.g t ht' hp j hj
  have hw : (M.upd i f).word t j = M.word t j := Mach.word_bs (by rw [Mach.upd_other _ _ _ _ hti]) j
  rw [hw, Mach.upd_other _ _ _ _ hti]
  refine ⟨hg.1, fun hpr => ?_⟩
  obtain ⟨g1, g2⟩ := hg.2 hpr
  refine ⟨g1, ?_⟩
  have hr := rf_some (lv := lv) hpr
  have hc := entry_counts ht' hp hj hr
  have h3 := hrf _ _ hr
  have hne : (unpackV (M.word t j)).1.mfn.toNat ≠ i := fun e => by
    simp only at hc h3
    rw [e, hz _ h3] at hc
    omega
  rw [Mach.upd_other _ _ _ _ hne]
  exact g2
theorem rf_le1 : ∀ n r, rf 1 n = some r → r.2 ≤ 3 := fun n r h => by
  unfold rf at h
  split at h
  · cases h
    simp only [show ¬ ((1 : Nat) = 2) by decide, if_false]
    have := kindOf_le (unpackV n).1.w
    omega
  · cases h
theorem rf_le2 : ∀ n r, rf 2 n = some r → r.2 ≤ 3 := fun n r h => by rw [rf_two h]; omega
theorem free_inv {F : Cnt} (h : Inv2 M F) (hi : (i : Int) < M.n) (ht : (M.fr i).tot = 0) (hf : f.tot = 0 ∧ f.cnt = 0 ∧ f.ty = 0) : Inv2 (M.upd i f) F := by
  have hC : CHolds M (full 1 2 M (full 2 3 M F)) := h.inv.inv
  have hz1 : ∀ k, k ≤ 3 → full 1 2 M (full 2 3 M F) i k = 0 := fun k hk => by
    have h1 := hC.tot i hi
    rw [ht] at h1
    have : k = 0 ∨ k = 1 ∨ k = 2 ∨ k = 3 := by omega
    rcases this with rfl | rfl | rfl | rfl <;> omega
  have hz2 : ∀ k, k ≤ 3 → full 2 3 M F i k = 0 := fun k hk => by
    have := full_le 1 2 M (full 2 3 M F) i k
    have := hz1 k hk
    omega
  refine upd_InvG h hz2 (by decide) rf_le2 (upd_InvG h.inv hz1 (by decide) rf_le1 ?_)
  refine ⟨fun j hj => ?_, fun j hj => ?_, fun j k hj h1 h3 hk => ?_, fun j hj hc => ?_⟩
  · by_cases e : j = i
    · subst e; rw [Mach.upd_same, hf.1, hz1 0 (by omega), hz1 1 (by omega), hz1 2 (by omega), hz1 3 (by omega)]; rfl
    · rw [Mach.upd_other _ _ _ _ e]; exact hC.tot j hj
  · by_cases e : j = i
    · subst e; rw [Mach.upd_same, hf.2.1, hz1 1 (by omega), hz1 2 (by omega), hz1 3 (by omega)]; rfl
    · rw [Mach.upd_other _ _ _ _ e]; exact hC.cnt j hj
  · by_cases e : j = i
    · subst e; rw [hz1 k h3] at hk; omega
    · rw [Mach.upd_other _ _ _ _ e]; exact hC.ty j k hj h1 h3 hk
  · by_cases e : j = i
    · subst e; rw [Mach.upd_same]; exact hf.2.2
    · rw [Mach.upd_other _ _ _ _ e] at hc ⊢; exact hC.ty0 j hj hc
end
theorem All.free {M : Mach} {sp : Nat → Sp} {E : Cnt} (h : All M sp E) (i : Int) : All (M.free i).2 sp E := by
  obtain ⟨T, hT⟩ := h.ok
  have hok := Mach.free_ok hT i
  revert hok
  unfold Mach.free
  split
  · intro; exact h
  rename_i h1
  split
  · intro; exact h
  split
  · intro; exact h
  rename_i h3
  intro hok
  have hi : M.is i = true := by cases e : M.is i; (exact absurd e h1); rfl
  obtain ⟨i0, i1⟩ := Mach.is_iff.1 hi
  exact ⟨free_inv h.inv (by omega) (Classical.not_not.1 h3) ⟨rfl, rfl, rfl⟩, h.sp, T, hok⟩
end Go.Proofs.Ytemeihamkdpmoaa

/-
  Page tables as plain data: the start; what is undone leaves the machine as it was.
-/
set_option linter.unusedSimpArgs false
set_option linter.unusedVariables false
namespace Go.Proofs.Ytemeihamkdpmoaa
open Go.RowKit
set_option maxHeartbeats 1000000

def sp0 : Nat → Sp := fun _ => ⟨-1, []⟩
def E0 : Cnt := fun _ _ => 0
theorem outF_start (i k : Nat) : outF sp0 E0 i k = 0 := by
  unfold outF Cnt.plus E0
  rw [count_flat]
  have : ∀ n, ((List.range n).map fun j => (spK (sp0 j)).count (i, k)).sum = 0 := fun n => by
    induction n with
    | zero => rfl
    | succ m ih => rw [List.range_succ, List.map_append, List.sum_append, ih]; rfl
  rw [this]
theorem full_zero {lv K : Nat} {M : Mach} {F : Cnt} (h : ∀ i k, F i k = 0) (i k : Nat) : full lv K M F i k = 0 := by
  unfold full
  rw [h i k]
  have : ∀ n, ((List.range n).map fun t => if 0 < F t K then (M.refs lv t 64).count (i, k) else 0).sum = 0 := fun n => by
    induction n with
    | zero => rfl
    | succ m ih => rw [List.range_succ, List.map_append, List.sum_append, ih]; simp [h m K]
  rw [this]
theorem All.start {M : Mach} {T : Int} (hok : M.ok T) (h : ∀ i : Nat, (i : Int) < M.n → (M.fr i).tot = 0 ∧ (M.fr i).cnt = 0 ∧ (M.fr i).ty = 0) : All M sp0 E0 := by
  have z0 := outF_start
  have z1 := full_zero (lv := 2) (K := 3) (M := M) z0
  have z2 := full_zero (lv := 1) (K := 2) (M := M) z1
  refine ⟨⟨⟨⟨fun i hi => ?_, fun i hi => ?_, fun i k hi h1 h3 hk => ?_, fun i hi _ => (h i hi).2.2⟩, fun t ht hp => ?_⟩, fun t ht hp => ?_⟩, fun d _ => ⟨fun p hp => ?_, ?_, fun e => ?_⟩, T, hok⟩
  · rw [z2, z2, z2, z2]; exact (h i hi).1
  · rw [z2, z2, z2]; exact (h i hi).2.1
  · rw [z2] at hk; omega
  · rw [z1] at hp; omega
  · rw [z0] at hp; omega
  · cases hp
  · exact List.nodup_nil
  · exact absurd rfl e
theorem upS_upS (sp : Nat → Sp) (d : Nat) (s t : Sp) : upS (upS sp d s) d t = upS sp d t := by
  funext e
  by_cases ed : e = d
  · subst ed; rw [upS_same, upS_same]
  · rw [upS_other _ _ _ _ ed, upS_other _ _ _ _ ed, upS_other _ _ _ _ ed]
theorem upS_self (sp : Nat → Sp) (d : Nat) : upS sp d (sp d) = sp := by
  funext e
  by_cases ed : e = d
  · subst ed; rw [upS_same]
  · rw [upS_other _ _ _ _ ed]
theorem pinV_no {M : Mach} {sp : Nat → Sp} {o i lv : Int} (h : (pinV M sp o i lv).1 ≠ 0) : (pinV M sp o i lv).2.1 = M := by
  revert h
  unfold pinV
  (repeat' split) <;> intro h
  · rfl
  · rfl
  · rfl
  · exact absurd rfl h
theorem baseV_no {M : Mach} {sp : Nat → Sp} {o i : Int} (h : (baseV M sp o i).1 ≠ 0) : (baseV M sp o i).2.1 = M := by
  revert h
  unfold baseV
  (repeat' split) <;> intro h
  · rfl
  · exact absurd rfl h
  · rfl
  · exact absurd rfl h
/-- a pin that is undone leaves all as it was -/
theorem pin_undone {M : Mach} {sp : Nat → Sp} {E : Cnt} (h : All M sp E) {o i lv : Int} (he : (pinV M sp o i lv).1 = 0) : unpinV (pinV M sp o i lv).2.1 (pinV M sp o i lv).2.2 o i = (0, M, sp) := by
  have hA := h.pin o i lv
  have hB := hA.unpin o i
  revert he hB hA
  unfold pinV
  split
  · intro h _ _; cases h
  rename_i h1
  split
  · intro h _ _; cases h
  rename_i h2
  split
  · rename_i h3; intro h _ _; exact absurd h h3
  rename_i h3
  have hd : domOk o = true := by cases e : domOk o; (exact absurd (.inl e) h1); rfl
  obtain ⟨d, rfl, hd8⟩ := domOk_nat hd
  simp only [Int.toNat_natCast] at h2 h3 ⊢
  intro _ hA hB
  have hfresh := pinAt_fresh h2
  have hix : pinIx ((sp d).pins ++ [(i, lv)]) i = (sp d).pins.length := by
    unfold pinIx
    rw [List.findIdx_append, List.findIdx_eq_length.2 (fun p hp => by
      have : p.1 ≠ i := fun e => hfresh (List.mem_map.2 ⟨p, hp, e⟩)
      simpa using this)]
    simp [List.findIdx_cons]
  have hget : ((sp d).pins ++ [(i, lv)])[(sp d).pins.length]? = some (i, lv) := by simp
  have hers : ((sp d).pins ++ [(i, lv)]).eraseIdx (sp d).pins.length = (sp d).pins := by
    rw [List.eraseIdx_append_of_length_le (Nat.le_refl _)]; simp
  have e : unpinV (refT lv M d i).2 (upS sp d { sp d with pins := (sp d).pins ++ [(i, lv)] }) d i = (0, unrefT lv (refT lv M d i).2 i.toNat, sp) := by
    unfold unpinV
    rw [if_neg (by rw [hd]; simp)]
    simp only [Int.toNat_natCast, upS_same]
    rw [hix, hget]
    simp only
    rw [hers, upS_upS, show ({ root := (sp d).root, pins := (sp d).pins } : Sp) = sp d from rfl, upS_self]
  rw [e] at hB ⊢
  have hu := InvG.uniq lvl2 h.inv hB.inv ((refT_same lv M d i).trans (unrefT_same _ _ _))
  simp only at hu
  rw [← hu]
/-- a root that is undone leaves all as it was -/
theorem base_undone {M : Mach} {sp : Nat → Sp} {E : Cnt} (h : All M sp E) {o i : Int} (hr : domOk o = true → (sp o.toNat).root = -1) (he : (baseV M sp o i).1 = 0) : baseV (baseV M sp o i).2.1 (baseV M sp o i).2.2 o (-1) = (0, M, sp) := by
  have hd : domOk o = true := by
    cases e : domOk o
    · unfold baseV at he; rw [if_pos (.inl e)] at he; cases he
    · rfl
  have hr' := hr hd
  obtain ⟨d, rfl, hd8⟩ := domOk_nat hd
  simp only [Int.toNat_natCast] at hr'
  have hz : ∀ A : Mach, dropRoot A (-1) = A := fun A => by unfold dropRoot; rw [if_pos rfl]
  have hself : upS sp d { root := -1, pins := (sp d).pins } = sp := by
    have : ({ root := -1, pins := (sp d).pins } : Sp) = sp d := by rw [← hr']
    rw [this, upS_self]
  by_cases hi1 : i = -1
  · subst hi1
    have e1 : baseV M sp d (-1) = (0, M, sp) := by
      unfold baseV
      rw [if_neg (by rw [hd]; simp), if_pos rfl]
      simp only [Int.toNat_natCast, hr', hz, hself]
    rw [e1]
    exact e1
  · have hi : M.is i = true := by
      cases e : M.is i
      · unfold baseV at he; rw [if_pos (.inr ⟨hi1, e⟩)] at he; cases he
      · rfl
    have hn : ¬ (domOk (d : Int) = false ∨ (i ≠ -1 ∧ M.is i = false)) := by rw [hd, hi]; simp
    have h3 : (tabG 3 take2 M d i).1 = 0 := by
      by_cases e : (tabG 3 take2 M d i).1 = 0
      · exact e
      · unfold baseV at he; rw [if_neg hn, if_neg hi1, if_pos e] at he; exact he
    have e2 : baseV M sp d i = (0, (tabG 3 take2 M d i).2, upS sp d { root := i, pins := (sp d).pins }) := by
      unfold baseV
      rw [if_neg hn, if_neg hi1, if_neg (by simpa using h3)]
      simp only [Int.toNat_natCast, hr', hz]
    have hA := h.base d i
    rw [e2] at hA
    have e3 : baseV (tabG 3 take2 M d i).2 (upS sp d { root := i, pins := (sp d).pins }) d (-1) = (0, dropRoot (tabG 3 take2 M d i).2 i, sp) := by
      unfold baseV
      rw [if_neg (by rw [hd]; simp), if_pos rfl]
      simp only [Int.toNat_natCast, upS_same, upS_upS, hself]
    have hB := hA.base d (-1)
    simp only at hB
    rw [e3] at hB
    rw [e2]
    simp only
    rw [e3]
    have hu := InvG.uniq lvl2 h.inv hB.inv ((tabG_same lvl2 _ _ _).trans (dropRoot_same _ _))
    simp only at hu
    rw [← hu]
end Go.Proofs.Ytemeihamkdpmoaa

/-
  Package tenementref05: New.
-/
set_option linter.unusedSimpArgs false
set_option linter.unusedVariables false
namespace Go.Proofs.Ytemeihamkdpmoaa
open Go.RowKit
set_option maxHeartbeats 1000000

theorem info_pins : (Try.prog.info? 100).map (fun i => (i.zero, i.size, i.bytes)) = some (some (.slice none 0 0), 1, 24) := by kernel_rfl
theorem info_int' : (Try.prog.info? 3).map (fun i => (i.zero, i.size, i.bytes)) = some (some (.int .i64 0), 1, 8) := by kernel_rfl
def topY (b : Nat) (vP vR : Value) : Nat → Value
  | 0 => .pointer (some ⟨b, 0, none⟩)
  | 1 => vP
  | _ => vR
/-- New under way: so many rows of pins, so many roots -/
structure NewY (w W : World) (b Y kP kR : Nat) (vP vR : Value) : Prop where
  top : Row W Y 156 3 (topY b vP vR)
  pr : W.ownsRow (Y + 1) 100 1 vP kP (List.replicate kP (.slice none 0 0))
  rr : W.ownsRow (Y + 1) 3 1 vR kR (List.replicate kR (.int .i64 (-1)))
  hb : w.heap.size ≤ Y
  grown : w.grownBy W none
theorem NewY.ext {w W X : World} {b Y kP kR : Nat} {vP vR : Value} (h : NewY w W b Y kP kR vP vR) (hX : W.grownBy X none) : NewY w X b Y kP kR vP vR :=
  ⟨h.top.grown hX (by simp), h.pr.kept hX (none_row' _), h.rr.kept hX (none_row' _), h.hb, h.grown.trans hX⟩
theorem NewY.stepP {w X w1 : World} {b Y kP kR : Nat} {vP vR v' : Value} (h : NewY w X b Y kP kR vP vR) (hgrow : X.grownBy w1 vP.ownBlock)
    (hown : w1.ownsRow (Y + 1) 100 1 v' (kP + 1) (List.replicate kP (.slice none 0 0) ++ [.slice none 0 0])) : NewY w (w1.setCell ⟨Y, 1, none⟩ v') b Y (kP + 1) kR v' vR := by
  have h1 := h.top.grown hgrow (own_ne_row h.pr h.top (by decide))
  have hR := h.rr.kept hgrow (own_ne_own h.rr h.pr (by decide))
  have hs := grownBy_setCell w1 Y 1 none v'
  rw [← List.replicate_succ'] at hown
  refine ⟨h1.set rfl fun j hj h0 => ?_, hown.kept hs (own_ne hown (by omega)), hR.kept hs (own_ne hR (by omega)), h.hb, (h.grown.andThen hgrow fun j e => .inl ?_).andThen hs fun j e => .inl ?_⟩
  · match j, h0 with
    | 0, _ => rfl
    | 1, h0 => exact absurd rfl h0
    | j + 2, _ => rfl
  · have := (h.pr.lt j e).1; have := h.hb; omega
  · cases e; exact h.hb
theorem NewY.stepR {w X w1 : World} {b Y kP kR : Nat} {vP vR v' : Value} (h : NewY w X b Y kP kR vP vR) (hgrow : X.grownBy w1 vR.ownBlock)
    (hown : w1.ownsRow (Y + 1) 3 1 v' (kR + 1) (List.replicate kR (.int .i64 (-1)) ++ [.int .i64 (-1)])) : NewY w (w1.setCell ⟨Y, 2, none⟩ v') b Y kP (kR + 1) vP v' := by
  have h1 := h.top.grown hgrow (own_ne_row h.rr h.top (by decide))
  have hP := h.pr.kept hgrow (own_ne_own h.pr h.rr (by decide))
  have hs := grownBy_setCell w1 Y 2 none v'
  rw [← List.replicate_succ'] at hown
  refine ⟨h1.set rfl fun j hj h0 => ?_, hP.kept hs (own_ne hP (by omega)), hown.kept hs (own_ne hown (by omega)), h.hb, (h.grown.andThen hgrow fun j e => .inl ?_).andThen hs fun j e => .inl ?_⟩
  · match j, hj, h0 with
    | 0, _, _ => rfl
    | 1, _, _ => rfl
    | 2, _, h0 => exact absurd rfl h0
  · have := (h.rr.lt j e).1; have := h.hb; omega
  · cases e; exact h.hb
theorem NewY.done {w W : World} {b Y : Nat} {L : Lay} {M : Mach} {vP vR : Value} (h : NewY w W b Y 8 8 vP vR) (hr : RM W b M L) : ∃ A, YS W b Y L M sp0 A ∧ ∀ k, yfoot b Y L A k → L.foot b k ∨ w.heap.size ≤ k := by
  obtain ⟨gP, cP, rfl, hgP, rP⟩ := ownsRow_row h.pr
  obtain ⟨gR, cR, rfl, hgR, rR⟩ := ownsRow_row h.rr
  have hb := h.hb
  refine ⟨⟨gP, cP, gR, cR, fun _ => .slice none 0 0⟩, ⟨hr, h.top.congr fun k hk => ?_, rP.congr fun k hk => ?_, rR.congr fun k hk => ?_, fun d _ => .inl ⟨rfl, rfl⟩, fun d e g _ _ _ h1 => by simp [Value.ownBlock] at h1⟩, ?_⟩
  · match k, hk with
    | 0, _ => rfl
    | 1, _ => rfl
    | 2, _ => rfl
  · have : k < 8 := by omega
    simp only [List.getD, List.getElem?_replicate, this, if_true, Option.getD_some]
  · have : k < 8 := by omega
    simp only [List.getD, List.getElem?_replicate, this, if_true, Option.getD_some, rootV, sp0]
  · rintro k (e | rfl | rfl | rfl | ⟨d, _, e⟩)
    · exact .inl e
    · exact .inr hb
    · exact .inr (by omega)
    · exact .inr (by omega)
    · simp [Value.ownBlock] at e
set_option maxRecDepth 100000 in
theorem yNew (b : Nat) (w : World) (M : Mach) (L : Lay) (h : RM w b M L) :
    Calls Try.prog 83 #[.pointer (some ⟨b, 0, none⟩)] w fun e w' => ∃ Y A, e = .returned (.pointer (some ⟨Y, 0, none⟩)) ∧ YS w' b Y L M sp0 A ∧ w.grownBy w' none ∧ w.heap.size ≤ Y ∧ ∀ k, yfoot b Y L A k → L.foot b k ∨ w.heap.size ≤ k := by
  have HR := hid h
  obtain ⟨i4, hi, hz0, hz1, hz2⟩ := info_parts info_pins
  have Hi := hid hi; have Hz0 := hid hz0; have Hz1 := hid hz1; have Hz2 := hid hz2
  clear hi hz0 hz1 hz2
  obtain ⟨i3, hi, hz0, hz1, hz2⟩ := info_parts info_int'
  have Ji := hid hi; have Jz0 := hid hz0; have Jz1 := hid hz1; have Jz2 := hid hz2
  clear hi hz0 hz1 hz2 h
  go_enter Try.func83, Try.ntmps83
  go_wp2
  obtain ⟨W0, hW0⟩ : ∃ W0, w.alloc (.cells #[.pointer (some ⟨b, 0, none⟩), .slice none 0 0, .slice none 0 0] 156) = W0 := ⟨_, rfl⟩
  have HS0 := hid (show NewY w W0 b w.heap.size 0 0 (.slice none 0 0) (.slice none 0 0) from by
    rw [← hW0]
    refine ⟨⟨_, heap_alloc_new w _, by simp, fun k hk => ?_⟩, World.ownsRow_nil _ _ _ _, World.ownsRow_nil _ _ _ _, Nat.le_refl _, World.grownBy_alloc w _ none⟩
    match k, hk with
    | 0, _ => rfl
    | 1, _ => rfl
    | 2, _ => rfl)
  rw [hW0]
  clear hW0
  go_loopw [4] (fun i wr => ∃ (k : Nat) (vP vR : Value), i = .int .i64 k ∧ k ≤ 8 ∧ NewY w wr b w.heap.size k k vP vR) (fun i _ => 8 - (intOf i).toNat)
  case atStart => exact ⟨0, _, _, rfl, by omega, HS0.out⟩
  case round =>
    obtain ⟨k, vP, vR, rfl, hk, hst⟩ := hrel
    by_cases hlt : k < 8
    · have hlt' : (k : Int) < 8 := by omega
      have HS := hid hst
      have cF := hst.top.cell (k := 1) (by omega)
      have fF := hst.top.frozen 1
      have HX := hid (hst.ext (World.grownBy_alloc wr (.cells #[.slice none 0 0] 100) none))
      have HBs := hid (show w.heap.size + 1 ≤ (wr.alloc (.cells #[.slice none 0 0] 100)).heap.size from by have := hst.top.lt; simp; omega)
      have cF' := HX.out.top.cell (k := 1) (by omega)
      simp only [topY] at cF cF'
      clear hst
      go_wp2_with (first
        | (at_builtin; refine wpList_append_own _ rfl _ _ 154 rfl (w.heap.size + 1) 100 i4 (.slice none 0 0) 1 24 Try.underlying154 Hi.out Hz0.out Hz1.out Hz2.out rfl (by decide) _ _ _ rfl HX.out.pr ⟨wr.heap.size, 0, none⟩ 1 1 [.slice none 0 0] rfl rfl (World.news_of_block (heap_alloc_new wr _)) (by simp [Value.oneCell']) (by unfold maxLen; omega) (by omega) HBs.out ?_; intro v' w1 hown' hgrow hnil; clear hnil; obtain ⟨gf, cf, rfl⟩ := ownsRow_succ hown'; have HS1 := hid (HX.out.stepP hgrow hown'); have cF1 := (HX.out.top.grown hgrow (own_ne_row HX.out.pr HX.out.top (by decide))).cell (k := 1) (by omega); have fF1 := (HX.out.top.grown hgrow (own_ne_row HX.out.pr HX.out.top (by decide))).frozen 1; have cR1 := (HX.out.top.grown hgrow (own_ne_row HX.out.pr HX.out.top (by decide))).cell (k := 2) (by omega); have HX2 := hid (HS1.out.ext (World.grownBy_alloc _ (.cells #[.int .i64 (-1)] 3) none)); have HN2 := hid (World.news_of_block (show ((w1.setCell ⟨w.heap.size, 1, none⟩ (.slice (some ⟨gf, 0, none⟩) (k + 1) cf)).alloc (.cells #[.int .i64 (-1)] 3)).heap[w1.heap.size]? = some (.cells #[.int .i64 (-1)] 3 (0, 0)) by have h9 := heap_alloc_new (w1.setCell ⟨w.heap.size, 1, none⟩ (.slice (some ⟨gf, 0, none⟩) (k + 1) cf)) (.cells #[.int .i64 (-1)] 3); simpa using h9)); simp only [topY] at cF1 cR1; clear hown' hgrow)
        | (at_builtin; refine wpList_append_own _ rfl _ _ 139 rfl (w.heap.size + 1) 3 i3 (.int .i64 0) 1 8 Try.underlying139 Ji.out Jz0.out Jz1.out Jz2.out rfl (by decide) _ _ _ rfl HX2.out.rr ⟨w1.heap.size, 0, none⟩ 1 1 [.int .i64 (-1)] rfl rfl HN2.out (by simp [Value.oneCell']) (by unfold maxLen; omega) (by omega) (HX2.out.top.lt) ?_; intro v2 w2 hown' hgrow hnil; clear hnil; obtain ⟨gr, cr, rfl⟩ := ownsRow_succ hown'; have HS3 := hid (HX2.out.stepR hgrow hown'); have cR2 := (HX2.out.top.grown hgrow (own_ne_row HX2.out.rr HX2.out.top (by decide))).cell (k := 2) (by omega); have fR2 := (HX2.out.top.grown hgrow (own_ne_row HX2.out.rr HX2.out.top (by decide))).frozen 2; simp only [topY] at cR2; clear hown' hgrow))
      go_roundw
      case rel => exact ⟨k + 1, _, _, by go_num, by omega, HS3.out⟩
      case measure => simp [intOf]; omega
    · have hge : (8 : Int) ≤ k := by omega
      obtain rfl : k = 8 := by omega
      have HS := hid hst
      clear hst
      go_wp2
      go_ret
      obtain ⟨A, h1, h2⟩ := HS.out.done (HR.out.grown HS.out.grown)
      exact ⟨_, A, rfl, h1, HS.out.grown, Nat.le_refl _, h2⟩
end Go.Proofs.Ytemeihamkdpmoaa

/-
  Page tables as plain data: when all pins and roots are gone nothing is left.
-/
set_option linter.unusedSimpArgs false
set_option linter.unusedVariables false
namespace Go.Proofs.Ytemeihamkdpmoaa
open Go.RowKit
set_option maxHeartbeats 1000000

theorem dropV_yes (M : Mach) (sp : Nat → Sp) {d : Nat} (hd : d < 8) : dropV M sp d = (0, dropRoot (dropM M (sp d).pins) (sp d).root, upS sp d ⟨-1, []⟩) := by
  unfold dropV
  rw [if_neg (by rw [domOk_cast hd]; simp)]
  unfold baseV
  rw [if_neg (by rw [domOk_cast hd]; simp), if_pos rfl]
  simp only [Int.toNat_natCast, upS_same, upS_upS]
theorem outF_none {sp : Nat → Sp} (h : ∀ d, d < 8 → sp d = ⟨-1, []⟩) (i k : Nat) : outF sp E0 i k = 0 := by
  unfold outF Cnt.plus E0
  rw [count_flat]
  have : ∀ n, n ≤ 8 → ((List.range n).map fun j => (spK (sp j)).count (i, k)).sum = 0 := fun n hn => by
    induction n with
    | zero => rfl
    | succ m ih => rw [List.range_succ, List.map_append, List.sum_append, ih (by omega)]; simp [h m (by omega), spK, pinK, rootK]
  rw [this 8 (by omega)]
theorem All.none {M : Mach} {sp : Nat → Sp} (h : All M sp E0) (hs : ∀ d, d < 8 → sp d = ⟨-1, []⟩) {i : Nat} (hi : (i : Int) < M.n) : (M.fr i).tot = 0 ∧ (M.fr i).cnt = 0 ∧ (M.fr i).ty = 0 := by
  have hC : CHolds M (full 1 2 M (full 2 3 M (outF sp E0))) := h.inv.inv.inv
  have z0 := outF_none hs
  have z1 := full_zero (lv := 2) (K := 3) (M := M) z0
  have z2 := full_zero (lv := 1) (K := 2) (M := M) z1
  have h1 := hC.tot i hi
  have h2 := hC.cnt i hi
  rw [z2, z2, z2, z2] at h1
  rw [z2, z2, z2] at h2
  exact ⟨h1, h2, hC.ty0 i hi h2⟩
/-- the first k domains dropped -/
def dropsV (M : Mach) (sp : Nat → Sp) : Nat → Mach × (Nat → Sp)
  | 0 => (M, sp)
  | k + 1 => ((dropV (dropsV M sp k).1 (dropsV M sp k).2 k).2.1, (dropV (dropsV M sp k).1 (dropsV M sp k).2 k).2.2)
theorem All.drops {M : Mach} {sp : Nat → Sp} {E : Cnt} (h : All M sp E) : ∀ k, k ≤ 8 → All (dropsV M sp k).1 (dropsV M sp k).2 E ∧ (∀ d, d < k → (dropsV M sp k).2 d = ⟨-1, []⟩)
  | 0, _ => ⟨h, fun d hd => by omega⟩
  | k + 1, hk => by
    obtain ⟨a, b⟩ := h.drops k (by omega)
    refine ⟨a.drop k, fun d hd => ?_⟩
    unfold dropsV
    rw [dropV_yes _ _ (show k < 8 by omega)]
    simp only
    by_cases e : d = k
    · subst e; rw [upS_same]
    · rw [upS_other _ _ _ _ e]; exact b d (by omega)
/-- behind the drop of all domains nothing is left, if nothing was taken beside -/
theorem All.gone {M : Mach} {sp : Nat → Sp} (h : All M sp E0) {i : Nat} (hi : (i : Int) < (dropsV M sp 8).1.n) : ((dropsV M sp 8).1.fr i).tot = 0 ∧ ((dropsV M sp 8).1.fr i).cnt = 0 ∧ ((dropsV M sp 8).1.fr i).ty = 0 := by
  obtain ⟨a, b⟩ := h.drops 8 (by omega)
  exact a.none b hi
end Go.Proofs.Ytemeihamkdpmoaa

/-
  Package mmu: New.
-/
set_option linter.unusedSimpArgs false
set_option linter.unusedVariables false
namespace Go.Proofs.Ytemeihamkdpmoaa
open Go.RowKit
set_option maxHeartbeats 4000000
def spJ (j : Nat) : Nat → Sp := fun d => ⟨if d < j then -1 else 0, []⟩
theorem spJ_end {B : Nat} {pv : Nat → Value} {k : Nat} (hk : k < 17) : xtop B (spJ 8) pv k = xtop B sp0 pv k := by
  unfold xtop spJ sp0
  by_cases h0 : k = 0
  · rw [if_pos h0, if_pos h0]
  · rw [if_neg h0, if_neg h0]
    by_cases h1 : k % 2 = 1
    · rw [if_pos h1, if_pos h1]
      simp only
      rw [if_pos (show k / 2 < 8 by omega)]
    · rw [if_neg h1, if_neg h1]
set_option maxRecDepth 100000 in
theorem xNew (B : Nat) (w : World) (M : Mach) (T : Int) (h : PM w B M) (hok : M.ok T) :
    Calls Try.prog 53 #[.pointer (some ⟨B, 0, none⟩)] w fun e w' => ∃ X, e = .returned (.pointer (some ⟨X, 0, none⟩)) ∧ PS w' B X M sp0 (fun _ => .slice none 0 0) ∧ w.grownBy w' none ∧ w.heap.size ≤ X := by
  have HS := hid (Size_yes B M.n w hok.n1 h.size)
  have HM := hid h
  have hn0 : (M.n == 0) = false := by have := hok.n1; simp; omega
  have hn1 : (M.n != 0) = true := by have := hok.n1; simp; omega
  clear h hok
  go_enter Try.func53, Try.ntmps53
  go_wp2_with (go_at_call 40; refine HS.out.mono ?_; rintro e w' ⟨rfl, rfl⟩)
  obtain ⟨W0, hW⟩ : ∃ W, w.alloc (.cells #[.pointer (some ⟨B, 0, none⟩), .int .i64 0, .slice none 0 0, .int .i64 0, .slice none 0 0, .int .i64 0, .slice none 0 0, .int .i64 0, .slice none 0 0, .int .i64 0, .slice none 0 0, .int .i64 0, .slice none 0 0, .int .i64 0, .slice none 0 0, .int .i64 0, .slice none 0 0] 105) = W := ⟨_, rfl⟩
  have G0 := hid (show w.grownBy W0 none by rw [← hW]; exact World.grownBy_alloc w _ none)
  have R0 := hid (show Row W0 w.heap.size 105 17 (xtop B (spJ 0) (fun _ => .slice none 0 0)) by
    rw [← hW]
    refine ⟨_, heap_alloc_new w _, by simp, fun k hk => ?_⟩
    have : k = 0 ∨ k = 1 ∨ k = 2 ∨ k = 3 ∨ k = 4 ∨ k = 5 ∨ k = 6 ∨ k = 7 ∨ k = 8 ∨ k = 9 ∨ k = 10 ∨ k = 11 ∨ k = 12 ∨ k = 13 ∨ k = 14 ∨ k = 15 ∨ k = 16 := by omega
    rcases this with rfl | rfl | rfl | rfl | rfl | rfl | rfl | rfl | rfl | rfl | rfl | rfl | rfl | rfl | rfl | rfl | rfl <;> rfl)
  rw [hW]
  clear hW
  go_loopw [11] (fun x wr => ∃ j : Nat, x = .int .i64 j ∧ j ≤ 8 ∧ Row wr w.heap.size 105 17 (xtop B (spJ j) (fun _ => .slice none 0 0)) ∧ w.grownBy wr none) (fun x _ => 8 - (intOf x).toNat)
  case atStart => exact ⟨0, rfl, by omega, R0.out, G0.out⟩
  case round =>
    obtain ⟨j, rfl, hj, hr, hg⟩ := hrel
    have HR := hid hr; have HG := hid hg
    have hj0 : (0 : Int) ≤ j := by omega
    by_cases hj8 : j < 8
    · have hj8' : (j : Int) < 8 := by omega
      have z0 := hr.cell (k := 1 + j * 2) (by omega)
      have z1 := hr.frozen (1 + j * 2)
      have hset := hid (hr.set (k := 1 + j * 2) (v := .int .i64 (-1)) (X' := xtop B (spJ (j + 1)) (fun _ => .slice none 0 0)) (by
        unfold xtop spJ
        rw [if_neg (by omega), if_pos (by omega), show (1 + j * 2) / 2 = j by omega]
        simp) (fun q hq hne => by
        unfold xtop spJ
        by_cases h0 : q = 0
        · rw [if_pos h0, if_pos h0]
        · rw [if_neg h0, if_neg h0]
          by_cases h1 : q % 2 = 1
          · rw [if_pos h1, if_pos h1]
            have : q / 2 ≠ j := by omega
            simp only
            by_cases h2 : q / 2 < j
            · rw [if_pos h2, if_pos (by omega)]
            · rw [if_neg h2, if_neg (by omega)]
          · rw [if_neg h1, if_neg h1]))
      have hgs := hid (grown_set hg (b := w.heap.size) (o := 1 + j * 2) (Nat.le_refl _) (.int .i64 (-1)))
      clear hr hg
      go_wp2
      go_roundw
      case rel => exact ⟨j + 1, by go_num, by omega, hset.out, hgs.out⟩
      case measure => simp [intOf]; omega
    · obtain rfl : j = 8 := by omega
      clear hr hg
      go_wp2
      go_ret
      exact ⟨_, rfl, ⟨HM.out.grown HG.out (by simp), HR.out.congr fun k hk => (spJ_end hk).symm, fun d _ => .inl ⟨rfl, rfl⟩, fun d e g _ _ _ h1 => by simp [Value.ownBlock] at h1⟩, HG.out, Nat.le_refl _⟩
end Go.Proofs.Ytemeihamkdpmoaa

/-
  Contracts of package tenementref01: New.
-/
set_option linter.unusedSimpArgs false
set_option linter.unusedVariables false
namespace Go.Proofs.Ytemeihamkdpmoaa
open Go.RowKit
set_option maxHeartbeats 400000

theorem rNew_no (n : Int) (w : World) (h : n < 1 ∨ 256 < n) : Calls Try.prog 16 #[.int .i64 n] w fun e w' => e = .returned (.tuple #[.pointer none, .int .i64 1]) ∧ w = w' := by
  by_cases h1 : n < 1
  · clear h
    go_enter Try.func16, Try.ntmps16
    go_wp2
    go_ret2
    exact ⟨rfl, rfl⟩
  · have h2 : 256 < n := by omega
    clear h
    go_enter Try.func16, Try.ntmps16
    go_wp2
    go_ret2
    exact ⟨rfl, rfl⟩
theorem zeroRef : (Try.prog.info? 122).map (fun i => (i.zero, i.size)) = some (some (.agg #[.slice none 0 0, .slice none 0 0]), 2) := by kernel_rfl

theorem NewSt.cong {w W : World} {b kF kB : Nat} {fc : Nat → List Value} {f f' : Nat → Fr} {g cg : Nat → Nat} {vF vB : Value} (h : NewSt w W b kF kB fc f g cg vF vB) (he : ∀ i, i < kB → f' i = f i) : NewSt w W b kF kB fc f' g cg vF vB :=
  ⟨h.top, h.fr, h.bs, fun i hi => by rw [he i hi]; exact h.row i hi, h.cap, h.inj, h.hb, h.grown⟩
set_option maxRecDepth 100000 in
theorem rNew_yes (n : Nat) (w : World) (h1 : 1 ≤ n) (h2 : n ≤ 256) : Calls Try.prog 16 #[.int .i64 n] w fun e w' => ∃ v, e = .returned (.tuple #[v, .int .i64 0]) ∧ NewRef w (upTo n n) v w' := by
  have g1 : (1 : Int) ≤ n := by omega
  have g2 : (n : Int) ≤ 256 := by omega
  obtain ⟨i4, hi, hz0, hz1, hz2⟩ := info_parts info_frame
  have Hi := hid hi; have Hz0 := hid hz0; have Hz1 := hid hz1; have Hz2 := hid hz2
  clear hi hz0 hz1 hz2
  obtain ⟨i3, hi, hz0, hz1, hz2⟩ := info_parts info_bytes
  have Ji := hid hi; have Jz0 := hid hz0; have Jz1 := hid hz1; have Jz2 := hid hz2
  clear hi hz0 hz1 hz2
  go_enter Try.func16, Try.ntmps16
  go_wp2
  obtain ⟨W0, hW0⟩ : ∃ W0, w.alloc (.cells #[.slice none 0 0, .slice none 0 0] 122) = W0 := ⟨_, rfl⟩
  have HS0 := hid (show NewSt w W0 w.heap.size 0 0 frs (fun _ => blankFr) (fun _ => 0) (fun _ => 0) (.slice none 0 0) (.slice none 0 0) from by
    rw [← hW0]
    refine ⟨⟨_, heap_alloc_new w _, by simp, fun k hk => ?_⟩, World.ownsRow_nil _ _ _ _, World.ownsRow_nil _ _ _ _, fun i hi => by omega, fun i hi => by omega, fun i j hi => by omega, Nat.le_refl _, World.grownBy_alloc w _ none⟩
    match k, hk with
    | 0, _ => rfl
    | 1, _ => rfl)
  rw [hW0]
  clear hW0
  go_loopw [5] (fun i wr => ∃ (k : Nat) (g cg : Nat → Nat) (vF vB : Value), i = .int .i64 k ∧ k ≤ n ∧ NewSt w wr w.heap.size k k frs (fun _ => blankFr) g cg vF vB) (fun i _ => n - (intOf i).toNat)
  case atStart => exact ⟨0, _, _, _, _, rfl, by omega, HS0.out⟩
  case round =>
    obtain ⟨k, g, cg, vF, vB, rfl, hk, hst⟩ := hrel
    by_cases hlt : k < n
    · have hlt' : (k : Int) < n := by omega
      have hk256 : k < 256 := by omega
      have HS := hid hst
      have cF := hst.top.cell (k := 0) (by omega)
      have fF := hst.top.frozen 0
      have HX := hid (hst.ext (World.grownBy_alloc wr (.cells #[.int .i64 (-1), .int .i64 0, .int .i64 0, .int .i64 0] 93) none))
      have HBs := hid (show w.heap.size + 1 ≤ (wr.alloc (.cells #[.int .i64 (-1), .int .i64 0, .int .i64 0, .int .i64 0] 93)).heap.size from by have := hst.top.lt; simp; omega)
      have cF' := HX.out.top.cell (k := 0) (by omega)
      simp only [top2] at cF cF'
      clear hst
      go_wp2_with (at_builtin; refine wpList_append_own _ rfl _ _ 119 rfl (w.heap.size + 1) 93 i4 (.agg #[.int .i64 0, .int .i64 0, .int .i64 0, .int .i64 0]) 4 32 Try.underlying119 Hi.out Hz0.out Hz1.out Hz2.out rfl (by decide) _ _ _ rfl HX.out.fr ⟨wr.heap.size, 0, none⟩ 1 1 [.int .i64 (-1), .int .i64 0, .int .i64 0, .int .i64 0] rfl rfl (World.news_of_block (heap_alloc_new wr _)) (by simp [Value.oneCell']) (by unfold maxLen; omega) (by omega) HBs.out ?_; intro v' w1 hown' hgrow hnil; clear hnil; obtain ⟨gf, cf, rfl⟩ := ownsRow_succ hown'; rw [← frs_succ] at hown'; have HS1 := hid (HX.out.stepF hgrow hown'); have cF1 := (HX.out.top.grown hgrow (own_ne_row HX.out.fr HX.out.top (by decide))).cell (k := 0) (by omega); have fF1 := (HX.out.top.grown hgrow (own_ne_row HX.out.fr HX.out.top (by decide))).frozen 0; simp only [top2] at cF1; clear hown' hgrow)
      obtain ⟨W1, hW1⟩ : ∃ W1, w1.setCell ⟨w.heap.size, 0, none⟩ (.slice (some ⟨gf, 0, none⟩) (k + 1) cf) = W1 := ⟨_, rfl⟩
      have HS2 := hid (show NewSt w W1 w.heap.size (k + 1) k frs (fun _ => blankFr) g cg (.slice (some ⟨gf, 0, none⟩) (k + 1) cf) vB from hW1 ▸ HS1.out)
      rw [hW1]
      clear hW1 cF cF' fF cF1 fF1
      have hmk := make_zeros
      have HZ1 := hid (HS2.out.ext (World.grownBy_alloc W1 (.cells zeros 5) none))
      obtain ⟨X, hX⟩ : ∃ X, (W1.alloc (.cells zeros 5)).alloc (.cells #[.slice (some ⟨W1.heap.size, 0, none⟩) 256 256] 31) = X := ⟨_, rfl⟩
      have hXg : (W1.alloc (.cells zeros 5)).grownBy X none := hX ▸ World.grownBy_alloc _ _ none
      have HZ2 := hid (HZ1.out.ext hXg)
      have HZr := hid (show Row X W1.heap.size 5 256 (byt blankFr) from (zeros_row W1).grown hXg (by simp))
      have HXs := hid (show X.heap.size = W1.heap.size + 2 by rw [← hX]; simp)
      have HXn := hid (show X.heap[W1.heap.size + 1]? = some (.cells #[.slice (some ⟨W1.heap.size, 0, none⟩) 256 256] 31 (0, 0)) from by rw [← hX]; have := heap_alloc_new (W1.alloc (.cells zeros 5)) (.cells #[.slice (some ⟨W1.heap.size, 0, none⟩) 256 256] 31); simpa using this)
      have c1 := HS2.out.top.cell (k := 1) (by omega)
      have c1' := HZ1.out.top.cell (k := 1) (by omega)
      have c1'' := HZ2.out.top.cell (k := 1) (by omega)
      simp only [top2] at c1 c1' c1''
      have HbX := hid (show w.heap.size + 1 ≤ X.heap.size from by have := HZ2.out.top.lt; omega)
      clear hXg
      go_region_law (refine step_append_lies _ (by rfl) _ _ 120 (by rfl) (w.heap.size + 1) 31 i3 (.slice none 0 0) 1 24 Try.underlying120 Ji.out Jz0.out Jz1.out Jz2.out rfl (by decide) vB k (sls g cg k) (by rfl) HZ2.out.bs ⟨W1.heap.size + 1, 0, none⟩ 1 1 [.slice (some ⟨W1.heap.size, 0, none⟩) 256 256] (by rfl) rfl (World.news_of_block HXn.out) (by simp [Value.oneCell']) (by omega) (by unfold maxLen; omega) (by omega) HbX.out (W1.heap.size + 2) HXs.out ?_; intro gb cb w2 hown' hgrow hat hlt2; have hgrow2 : X.grownBy w2 vB.ownBlock := (by first | exact hgrow | exact (grownBy_drew X _).trans hgrow); have hc2 := (HZ2.out.top.grown hgrow2 (own_ne_row HZ2.out.bs HZ2.out.top (by decide))).cell (k := 1) (by omega); have hf2 := (HZ2.out.top.grown hgrow2 (own_ne_row HZ2.out.bs HZ2.out.top (by decide))).frozen 1; simp only [top2] at hc2; have HS3 := hid (HZ2.out.stepB HZr.out HS2.out.top.lt (fun i hi e => Nat.lt_irrefl _ (e ▸ (HS2.out.row i hi).1.lt)) (Nat.le_refl 256) hgrow2 hown'); clear hown' hgrow hat hlt2 hgrow2)
      all_goals clear hmk hX c1 c1' c1''
      all_goals go_wp2
      all_goals go_roundw
      all_goals first
        | exact ⟨k + 1, _, _, _, _, by go_num, by omega, HS3.out⟩
        | exact ⟨k + 1, _, _, _, _, by go_num, by omega, HS3.out.ext (grownBy_drew _ none)⟩
        | (simp [intOf]; omega)
    · have hge : (n : Int) ≤ k := by omega
      obtain rfl : k = n := by omega
      have HS := hid hst
      clear hst
      go_wp2
      go_ret2
      obtain ⟨m, rfl⟩ : ∃ m, k = m + 1 := ⟨k - 1, by omega⟩
      exact ⟨_, rfl, NewSt.done (M := upTo ((m + 1 : Nat) : Int) (m + 1)) (HS.out.cong fun i hi => by simp [upTo, hi]) rfl fun q hq => by
        have h4 : q / 4 < m + 1 := by omega
        simp [frs, hd, upTo, List.getD, hq, h4]⟩
end Go.Proofs.Ytemeihamkdpmoaa

/-
  Both machines side by side.
-/
set_option linter.unusedSimpArgs false
set_option linter.unusedVariables false
namespace Go.Proofs.Ytemeihamkdpmoaa
open Go.RowKit
set_option maxHeartbeats 2000000

theorem Mach.alloc_vn (M : Mach) (o : Int) : (M.alloc o).2.2.n = M.n := by unfold Mach.alloc; (repeat' split) <;> rfl
theorem Mach.give_vn (M : Mach) (i t : Int) : (M.give i t).2.n = M.n := by unfold Mach.give; (repeat' split) <;> rfl
theorem Mach.get_vn (M : Mach) (i o k : Int) : (M.get i o k).2.n = M.n := by unfold Mach.get Mach.take; (repeat' split) <;> rfl
theorem upTo_ok' (n : Nat) (h1 : 1 ≤ n) (h2 : n ≤ 256) : (upTo n n).ok 0 := ⟨by show (1 : Int) ≤ n; omega, by show (n : Int) ≤ 256; omega, fun i hi => by
  have h : i < n := by simp only [upTo] at hi; omega
  show ((if i < n then blankFr else zeroFr).ok ∧ (if i < n then blankFr else zeroFr).tot ≤ 0)
  rw [if_pos h]; exact ⟨blankFr_ok, by decide⟩⟩
/-- both machines, made behind w -/
structure Bg (w W : World) (B b : Nat) (M : Mach) (L : Lay) (T : Int) : Prop where
  m : PM W B M
  r : RM W b M L
  ok : M.ok T
  farB : w.heap.size ≤ B
  far : ∀ k, L.foot b k → w.heap.size ≤ k
  grown : w.grownBy W none
theorem Bg.more {w W W' : World} {B b : Nat} {M : Mach} {L : Lay} {T : Int} (h : Bg w W B b M L T) (hg : W.grownBy W' none) : Bg w W' B b M L T := ⟨h.m.grown hg (by simp), h.r.grown hg, h.ok, h.farB, h.far, h.grown.trans hg⟩
theorem grown_own {w W W' : World} {B : Nat} (h : w.grownBy W none) (g : W.grownBy W' (some B)) (hB : w.heap.size ≤ B) : w.grownBy W' none :=
  (Chg.of (S := fun k => w.heap.size ≤ k) g fun j e => .inl (by cases e; exact hB)).grown h fun _ h => h
theorem Bg.step {w W w1 w2 : World} {B b : Nat} {M M' : Mach} {L L' : Lay} {T T' : Int} (h : Bg w W B b M L T) (h1 : PM w1 B M') (g1 : W.grownBy w1 (some B)) (h2 : RM w2 b M' L') (c2 : Chg (L.foot b) w1 w2) (f2 : ∀ k, L'.foot b k → L.foot b k ∨ w1.heap.size ≤ k) (hok : M'.ok T') : Bg w w2 B b M' L' T' :=
  ⟨h1.chg c2 (h.r.off h.m), h2, hok, h.farB, fun k hk => (f2 k hk).elim (h.far k) (fun h' => Nat.le_trans (Nat.le_trans h.grown.size g1.size) h'), c2.grown (grown_own h.grown g1 h.farB) h.far⟩
theorem Bg.r1 {w W w1 : World} {B b : Nat} {M : Mach} {L : Lay} {T : Int} (h : Bg w W B b M L T) (g1 : W.grownBy w1 (some B)) : RM w1 b M L := h.r.keep h.m g1
theorem InBytes.grown {w w' : World} {pa : Option Addr} {l : List UInt8} (h : InBytes w pa l) (hg : w.grownBy w' none) : InBytes w' pa l := by
  rcases h with h | ⟨b, o, e, hb, hc⟩
  · exact .inl h
  · exact .inr ⟨b, o, e, Nat.lt_of_lt_of_le hb hg.size, fun k hk => hg.cell (hc k hk) (by simp)⟩
/-- bytes that came in, apart from what was made later -/
theorem InBytes.apart {w W : World} {pa : Option Addr} {l : List UInt8} (h : InBytes w pa l) (hg : w.grownBy W none) {L : Lay} {b : Nat} (far : ∀ k, L.foot b k → w.heap.size ≤ k) : Apart W L b pa l := fun k hk => by
  rcases h with h | ⟨sb, so, e, hb, hc⟩
  · rw [h] at hk; simp at hk
  · exact ⟨sb, so, e, fun h' => by have := far _ h'; omega, hg.cell (hc k hk) (by simp)⟩
/-- bytes that came in, as bytes apart from a block -/
theorem InBytes.is' {w : World} {pa : Option Addr} {l : List UInt8} (h : InBytes w pa l) (B : Nat) (hB : ∀ b o, pa = some ⟨b, o, none⟩ → l ≠ [] → b ≠ B) (cap : Nat) : IsBytes w B (.slice pa l.length cap) l := by
  by_cases h0 : l = []
  · subst h0; exact .inl ⟨⟨_, _, rfl⟩, rfl⟩
  rcases h with h | ⟨b, o, e, hb, hc⟩
  · exact absurd h h0
  · subst e
    refine .inr ⟨_, _, rfl, hB b o rfl h0, fun k x hx => ?_⟩
    obtain ⟨hk, rfl⟩ := List.getElem?_eq_some_iff.1 hx
    have e : (⟨b, o, none⟩ : Addr).add k = ⟨b, o + k, none⟩ := by unfold Addr.add; split <;> simp_all
    rw [e, hc k hk]
    simp [List.getD, List.getElem?_eq_getElem hk]
theorem InBytes.far {w W : World} {pa : Option Addr} {l : List UInt8} (h : InBytes w pa l) (hg : w.grownBy W none) {B : Nat} (hB : w.heap.size ≤ B) (cap : Nat) : IsBytes W B (.slice pa l.length cap) l := by
  refine (h.grown hg).is' B (fun b o e h0 => ?_) cap
  rcases h with h | ⟨b', o', e', hb, _⟩
  · exact absurd h h0
  · rw [e'] at e; cases e; omega
end Go.Proofs.Ytemeihamkdpmoaa

/-
  Slices of structs whose fields are one cell each, that came in, opened; for any program. No walk here.
-/
set_option linter.unusedSimpArgs false
set_option linter.unusedVariables false
namespace Go.Proofs.Ytemeihamkdpmoaa.Flat
open Go.RowKit Go.ChangeShapes Go.WideShapes Go.ChangeAt Go.Deep

/-- a struct of fields of one cell each, of these types -/
def isFlat (P : Program) (te : TypeId) (tys : List TypeId) : Bool :=
  match P.underlying te with
  | some (.struct fs) => (fs.toList.map (·.type) == tys) && (fs.toList.map (·.offset) == List.range tys.length) && (P.cellsOf te == tys.length) && tys.all (fun t => P.cellsOf t == 1)
  | _ => false
theorem isFlat_is {P : Program} {te : TypeId} {tys : List TypeId} (h : isFlat P te tys = true) : ∃ fs, P.underlying te = some (.struct fs) ∧ fs.toList.map (·.type) = tys ∧ fs.toList.map (·.offset) = List.range tys.length ∧ P.cellsOf te = tys.length ∧ ∀ t ∈ tys, P.cellsOf t = 1 := by
  unfold isFlat at h
  split at h
  · rename_i fs hu
    simp only [Bool.and_eq_true, beq_iff_eq, List.all_eq_true] at h
    exact ⟨fs, hu, h.1.1.1, h.1.1.2, h.1.2, h.2⟩
  · cases h

section
variable {H : Type} {enc : TypeId × Value → H} {P : Program} {w : World} {base : Nat} {spare : Nat → Bool} {held : Bool}

/-- one value that came in, of type t, no part of which is over-long -/
def Came (enc : TypeId × Value → H) (P : Program) (w : World) (base : Nat) (spare : Nat → Bool) (held : Bool) (t : TypeId) (v : Value) : Prop :=
  ∃ fuel y, DataW.trod enc P w base spare held fuel t [v] = some y ∧ ∀ n ∈ y.1.weights P t, n ≤ reachBytes

/-- a struct's cells -/
theorem open_flat {te : TypeId} {tys : List TypeId} (hfl : isFlat P te tys = true) {fuel : Nat} {a : Addr} {cs : List Value} {y : DataW H × List MemPlace} (hc : w.cells? base a tys.length = some cs)
    (h : DataW.trod enc P w base spare held fuel te cs = some y) (hsz : ∀ n ∈ y.1.weights P te, n ≤ reachBytes) :
    ∀ j t, tys[j]? = some t → ∃ v, w.cell? (a.add j) = some v ∧ Came enc P w base spare held t v := by
  intro j t hj
  obtain ⟨fs, hu, hty, hof, hce, hone⟩ := isFlat_is hfl
  obtain ⟨xs, n, rfl, hy, hcl, hxl, hf⟩ := DataW.trod_struct hu h
  obtain ⟨_, hcs, hat⟩ := World.cells?_some hc
  have hlen : fs.size = tys.length := by rw [← hty]; simp
  obtain ⟨hjl, rfl⟩ := List.getElem?_eq_some_iff.1 hj
  have hg : fs[j]? = some (fs[j]'(by omega)) := Array.getElem?_eq_getElem (by omega)
  have hft : (fs[j]'(by omega)).type = tys[j] := by
    have : (fs.toList.map (·.type))[j]? = tys[j]? := by rw [hty]
    rw [List.getElem?_map, Array.getElem?_toList, hg, hj] at this
    simpa using this
  have hfo : (fs[j]'(by omega)).offset = j := by
    have : (fs.toList.map (·.offset))[j]? = (List.range tys.length)[j]? := by rw [hof]
    rw [List.getElem?_map, Array.getElem?_toList, hg, List.getElem?_range hjl] at this
    simpa using this
  have ht := hf j _ hg
  rw [hft, hfo, hone _ (List.getElem_mem hjl)] at ht
  have hjc : j < cs.length := by omega
  have htk : (cs.drop j).take 1 = [cs[j]] := by
    rw [List.drop_eq_getElem_cons hjc]; rfl
  rw [htk] at ht
  have hjx : j < xs.length := by omega
  rw [List.getElem?_eq_getElem hjx] at ht
  refine ⟨cs[j], ?_, n, xs[j], ht, fun k hk => hsz k ?_⟩
  · rw [hat j hjl, List.getElem?_eq_getElem hjc]
  · rw [hy]
    simp only [DataW.weights, hu]
    refine DataW.weights_mem_each (j := j) (t := tys[j]) (d := xs[j].1) ?_ ?_ k hk
    · rw [hty]; exact hj
    · rw [List.getElem?_map, List.getElem?_eq_getElem hjx]; rfl
theorem all_mem {e : TypeId} : ∀ {l : List (DataW H)} {d : DataW H}, d ∈ l → ∀ n ∈ d.weights P e, n ∈ DataW.weightsAll P e l
  | x :: r, d, hd, n, hn => by
    simp only [DataW.weightsAll, List.mem_append]
    rcases List.mem_cons.1 hd with rfl | hd
    · exact .inl hn
    · exact .inr (all_mem hd n hn)

/-- a slice of structs: each struct's cells -/
theorem open_flats {ts te : TypeId} {tys : List TypeId} (hs : P.underlying ts = some (.slice te)) (hfl : isFlat P te tys = true) (hpos : 0 < tys.length) {v : Value} (h : Came enc P w base spare held ts v) :
    ∃ p len cap, v = .slice p len cap ∧ len * P.bytesOf te ≤ reachBytes ∧ len ≤ maxLen ∧
      ∀ i, i < len → ∃ b off, p = some ⟨b, off, none⟩ ∧ b < w.heap.size ∧ ∀ j t, tys[j]? = some t → ∃ v, w.cell? ⟨b, off + i * tys.length + j, none⟩ = some v ∧ Came enc P w base spare held t v := by
  obtain ⟨fuel, x, h, hsz⟩ := h
  obtain ⟨fs, hu, hty, hof, hce, hone⟩ := isFlat_is hfl
  rcases open_slice hs h with ⟨hcs, _⟩ | ⟨a, len, cap, m, n, D, Pl, hcs, _, hl, hm, hmm, hx, hi⟩
  · simp only [List.cons.injEq, and_true] at hcs
    exact ⟨none, 0, 0, hcs, by simp [reachBytes], by unfold maxLen; omega, fun i hi => by omega⟩
  · simp only [List.cons.injEq, and_true] at hcs
    have hml : len ≤ m := by rw [hmm]; split <;> omega
    refine ⟨some a, len, cap, hcs, ?_, by omega, fun i hil => ?_⟩
    · have := hsz ((((List.range len).map D).length + ((List.range (m - len)).map fun j => D (len + j)).length) * P.bytesOf te) (by rw [hx]; simp [DataW.weights, hs])
      simp only [List.length_map, List.length_range] at this
      exact Nat.le_trans (Nat.mul_le_mul_right _ (by omega)) this
    · have one : ∀ i, i < len → ∀ j t, tys[j]? = some t → ∃ v, w.cell? ((a.add (i * tys.length)).add j) = some v ∧ Came enc P w base spare held t v := fun i hil => by
        obtain ⟨cs', hc, ht⟩ := hi i (by omega)
        rw [hce] at hc
        exact open_flat hfl hc ht (fun n hn => hsz n (by
          rw [hx]
          simp only [DataW.weights, hs, List.mem_cons, List.mem_append]
          exact .inr (.inl (all_mem (List.mem_map.2 ⟨i, List.mem_range.2 hil, rfl⟩) n hn))))
      obtain ⟨v0, hv0, _⟩ := one 0 (by omega) 0 tys[0] (List.getElem?_eq_getElem hpos)
      obtain ⟨b, off, spot⟩ := a
      have ea : ∀ (o j : Nat) (s : Option Nat), (⟨b, o, s⟩ : Addr).add 0 = ⟨b, o, s⟩ := fun o j s => by simp [Addr.add]
      obtain rfl : spot = none := by
        simp only [Nat.zero_mul, ea _ 0] at hv0
        exact World.cell?_spot hv0
      have eb : ∀ (o j : Nat), (⟨b, o, none⟩ : Addr).add j = ⟨b, o + j, none⟩ := fun o j => by unfold Addr.add; split <;> simp_all
      refine ⟨b, off, rfl, ?_, fun j t hj => ?_⟩
      · simp only [eb] at hv0
        exact World.block_lt_of_cell? w _ hv0
      · obtain ⟨v, hv, hc⟩ := one i hil j t hj
        simp only [eb] at hv
        exact ⟨v, hv, hc⟩

theorem Came.int {t : TypeId} {k : IntKind} (ht : P.underlying t = some (.int k)) {v : Value} (h : Came enc P w base spare held t v) : ∃ n, v = .int k n ∧ (Lit.int k n).wf = true := by
  obtain ⟨fuel, y, h, _⟩ := h
  obtain ⟨n, e, _, hw⟩ := DataW.trod_int ht h
  exact ⟨n, by simpa using e, hw⟩
theorem Came.bool {t : TypeId} (ht : P.underlying t = some .bool) {v : Value} (h : Came enc P w base spare held t v) : ∃ b, v = .bool b := by
  obtain ⟨fuel, y, h, _⟩ := h
  obtain ⟨n, e, _⟩ := DataW.trod_bool ht h
  exact ⟨n, by simpa using e⟩
theorem Came.string {t : TypeId} (ht : P.underlying t = some .string) {v : Value} (h : Came enc P w base spare held t v) : ∃ s : ByteArray, v = .string s ∧ s.size ≤ maxLen := by
  obtain ⟨fuel, y, h, _⟩ := h
  obtain ⟨n, e, _, hs⟩ := DataW.trod_string ht h
  exact ⟨n, by simpa using e, hs⟩
/-- a slice of integers of one kind -/
theorem Came.ints {ts te : TypeId} {k : IntKind} (hs : P.underlying ts = some (.slice te)) (he : P.underlying te = some (.int k)) (hone : P.cellsOf te = 1) {v : Value} (h : Came enc P w base spare held ts v) :
    ∃ p len cap, v = .slice p len cap ∧ len * P.bytesOf te ≤ reachBytes ∧ len ≤ maxLen ∧
      ∀ i, i < len → ∃ b off n, p = some ⟨b, off, none⟩ ∧ b < w.heap.size ∧ w.cell? ⟨b, off + i, none⟩ = some (.int k n) ∧ (Lit.int k n).wf = true := by
  obtain ⟨fuel, x, h, hsz⟩ := h
  rcases open_slice hs h with ⟨hcs, _⟩ | ⟨a, len, cap, m, n, D, Pl, hcs, _, hl, hm, hmm, hx, hi⟩
  · simp only [List.cons.injEq, and_true] at hcs
    exact ⟨none, 0, 0, hcs, by simp [reachBytes], by unfold maxLen; omega, fun i hi => by omega⟩
  · simp only [List.cons.injEq, and_true] at hcs
    have hml : len ≤ m := by rw [hmm]; split <;> omega
    refine ⟨some a, len, cap, hcs, ?_, by omega, fun i hil => ?_⟩
    · have := hsz ((((List.range len).map D).length + ((List.range (m - len)).map fun j => D (len + j)).length) * P.bytesOf te) (by rw [hx]; simp [DataW.weights, hs])
      simp only [List.length_map, List.length_range] at this
      exact Nat.le_trans (Nat.mul_le_mul_right _ (by omega)) this
    · have one : ∀ i, i < len → ∃ n, w.cell? (a.add i) = some (.int k n) ∧ (Lit.int k n).wf = true := fun i hil => by
        obtain ⟨cs', hc, ht⟩ := hi i (by omega)
        rw [hone] at hc
        obtain ⟨_, hcl, hat⟩ := World.cells?_some hc
        obtain ⟨n, rfl, _, hw⟩ := DataW.trod_int he ht
        have := hat 0 (by omega)
        have e0 : (a.add (i * 1)).add 0 = a.add i := by simp [Addr.add]
        rw [e0] at this
        exact ⟨n, this, hw⟩
      obtain ⟨v0, hv0, _⟩ := one 0 (by omega)
      obtain ⟨b, off, spot⟩ := a
      obtain rfl : spot = none := by
        have : w.cell? (⟨b, off, spot⟩ : Addr) = some (.int k v0) := by simpa [Addr.add] using hv0
        exact World.cell?_spot this
      have eb : ∀ (o j : Nat), (⟨b, o, none⟩ : Addr).add j = ⟨b, o + j, none⟩ := fun o j => by unfold Addr.add; split <;> simp_all
      obtain ⟨n, hn, hw⟩ := one i hil
      rw [eb] at hn hv0
      exact ⟨b, off, n, rfl, World.block_lt_of_cell? w _ hn, hn, hw⟩
end
end Go.Proofs.Ytemeihamkdpmoaa.Flat

/-
  Bytes that came in.
-/
set_option linter.unusedSimpArgs false
set_option linter.unusedVariables false
namespace Go.Proofs.Ytemeihamkdpmoaa
open Go.RowKit Go.ChangeShapes Go.WideShapes Go.ChangeAt Go.Deep
set_option maxHeartbeats 1000000
theorem exists_list {α : Type} (P : Nat → α → Prop) : ∀ n, (∀ i, i < n → ∃ a, P i a) → ∃ l : List α, l.length = n ∧ ∀ i (h : i < l.length), P i l[i]
  | 0, _ => ⟨[], rfl, fun i h => by simp at h⟩
  | n + 1, h => by
    obtain ⟨l, hl, hp⟩ := exists_list P n fun i hi => h i (by omega)
    obtain ⟨a, ha⟩ := h n (by omega)
    refine ⟨l ++ [a], by simp [hl], fun i hi => ?_⟩
    by_cases e : i < l.length
    · rw [List.getElem_append_left e]; exact hp i e
    · have : i = n := by simp at hi; omega
      subst this
      rw [List.getElem_append_right (by omega)]
      simpa using ha
section
variable {H : Type} {enc : TypeId × Value → H} {w : World}
theorem u8_bytes : Try.prog.bytesOf 5 = 1 := by kernel_rfl
theorem came_bytes {v : Value} (h : Flat.Came enc Try.prog w 0 (fun _ => true) true 31 v) : ∃ pa l cap, v = .slice pa (List.length (α := UInt8) l) cap ∧ InBytes w pa l ∧ l.length ≤ 140737488351232 := by
  have hb := h.ints Try.underlying31 Try.underlying5 (by kernel_rfl)
  obtain ⟨fuel, y, h, _⟩ := h
  obtain ⟨p, len, cap, e, hl, _, _⟩ := hb
  rw [u8_bytes, Nat.mul_one] at hl
  unfold reachBytes at hl
  rcases open_ints Try.underlying31 Try.underlying5 (by kernel_rfl) h with ⟨hcs, hy⟩ | ⟨x, len', c, zs, hcs, _, hl', hm, hz, hy, hcell, hwz⟩
  · simp only [List.cons.injEq, and_true] at hcs
    subst hcs
    exact ⟨none, [], 0, rfl, .inl rfl, by simp⟩
  · simp only [List.cons.injEq, and_true] at hcs
    subst hcs
    injection e with _ e2
    subst e2
    have hlz : len' ≤ zs.length := by rw [hz]; split <;> omega
    exact ⟨some x, asBytes zs len', c, by rw [asBytes_len _ _ hlz], asBytes_in hlz hcell hwz, by rw [asBytes_len _ _ hlz]; omega⟩
end
end Go.Proofs.Ytemeihamkdpmoaa
