/-
  Package image: Read, Trim.
-/
import Derived.Test.YtcogchalfdeagaaImO
set_option linter.unusedSimpArgs false
set_option linter.unusedVariables false
namespace Go.Proofs.Ytcogchalfdeagaa
open Go.RowKit Gen CM
set_option maxHeartbeats 1000000

section
variable {w : World} {b g m : Nat} {I : Im}
theorem iRead_none (p : Option Addr) (s : Int) (w : World) (h : NoI w p) : Calls Try.prog 22 #[.pointer p, .int .i64 s] w fun e w' => e = .returned (.tuple #[.slice none 0 0, .int .i64 7]) ∧ w = w' := by
  have H := hid h
  clear h
  go_enter Try.func22, Try.ntmps22
  go_wp2_with (go_at_call 26; refine (ilook_none _ _ _ H.out).mono ?_; rintro e w' ⟨rfl, rfl⟩)
  go_ret2
  exact ⟨rfl, rfl⟩
theorem iRead_no (h : PI w b g m I) (s : Int) (hs : I.is s = false) : Calls Try.prog 22 #[.pointer (some ⟨b, 0, none⟩), .int .i64 s] w fun e w' => e = .returned (.tuple #[.slice none 0 0, .int .i64 1]) ∧ w = w' := by
  have H := hid h
  have HS := hid hs
  clear h hs
  go_enter Try.func22, Try.ntmps22
  go_wp2_with (go_at_call 26; refine (ilook_no H.out _ HS.out).mono ?_; rintro e w' ⟨rfl, rfl⟩)
  go_ret2
  exact ⟨rfl, rfl⟩
theorem is_i64 {I : Im} (hok : I.ok) {s : Int} (hs : I.is s = true) : I64 s := by
  obtain ⟨h0, h1⟩ := Im.is_yes.1 hs
  have := hok.n256
  exact I64.of (by omega) (by omega)
theorem iRead_yes (h : PI w b g m I) (hok : I.ok) (s : Int) (hs : I.is s = true) :
    Calls Try.prog 22 #[.pointer (some ⟨b, 0, none⟩), .int .i64 s] w fun e w' => ∃ v, e = .returned (.tuple #[v, .int .i64 0]) ∧ NewB w (I.at s) v w' := by
  have H := hid h
  have HS := hid hs
  have c1 := h.c1
  have HM := hid h.map
  have HI := hid (is_i64 hok hs)
  have HL := hid (Im.val_len hok s)
  have HV := hid (val_eq I s)
  cases hh : I.has s with
  | true =>
    have HH := hid ((has_eq I s).trans hh)
    have HA := hid (show I.at s = I.val s by unfold Im.at Im.val; unfold Im.has at hh; cases e : I.own s with | none => rw [e] at hh; cases hh | some l => rfl)
    clear h hs hok hh
    go_enter Try.func22, Try.ntmps22
    go_wp2_with (first
      | (go_at_call 26; refine (ilook_yes H.out _ HS.out).mono ?_; rintro e w' ⟨rfl, rfl⟩)
      | (at_lookup; refine wpList_look_ok_cmap _ rfl _ _ 53 rfl 3 59 int_key Try.underlying3 Try.underlying53 _ (zero_blk _) m I.used (blkF I.own) rfl HM.out s rfl HI.out ?_; rw [HV.out, HH.out])
      | (refine wpList_alloc_blk rfl rfl ?_; intro w1 hs1 hb1 hg1; have HB1 := hid hb1; have HG1 := hid hg1; clear hs1 hb1 hg1)
      | (refine wpList_store_blk rfl (.tmp 7) (.tmp 22) rfl _ (I.val s) HL.out rfl rfl zs64 HB1.out ?_; intro w2 hs2 hb2 hg2; have HG2 := hid (HG1.out.andThen hg2 fun j hj => by cases hj; exact .inl (Nat.le_refl _)); have HC := hid (iClone (some ⟨w.heap.size, 0, none⟩) 64 (I.val s) w2 hb2.ba (by rw [HL.out]; omega)); clear hs2 hb2 hg2)
      | (refine wpList_slice_blk rfl (.tmp 7) rfl w.heap.size 0 rfl ?_)
      | (go_at_call 35; refine (show Calls _ _ #[.slice _ 64 64] _ _ from HL.out ▸ HC.out).mono ?_; rintro e w3 ⟨v, rfl, hv⟩; have HV3 := hid (hv.first HG2.out); clear hv))
    go_ret2
    rw [HA.out]
    exact ⟨v, rfl, HV3.out⟩
  | false =>
    have HH := hid ((has_eq I s).trans hh)
    have HA := hid (show I.at s = I.base s by unfold Im.at; unfold Im.has at hh; cases e : I.own s with | none => rfl | some l => rw [e] at hh; cases hh)
    have HK := hid (fun (w' : World) (hg : w.grownBy w' none) => iBase_yes (h.grown hg) hok s hs)
    clear h hs hok hh
    go_enter Try.func22, Try.ntmps22
    go_wp2_with (first
      | (go_at_call 26; refine (ilook_yes H.out _ HS.out).mono ?_; rintro e w' ⟨rfl, rfl⟩)
      | (at_lookup; refine wpList_look_ok_cmap _ rfl _ _ 53 rfl 3 59 int_key Try.underlying3 Try.underlying53 _ (zero_blk _) m I.used (blkF I.own) rfl HM.out s rfl HI.out ?_; rw [HV.out, HH.out])
      | (refine wpList_alloc_blk rfl rfl ?_; intro w1 hs1 hb1 hg1; have HB1 := hid hb1; have HG1 := hid hg1; clear hs1 hb1 hg1)
      | (refine wpList_store_blk rfl (.tmp 7) (.tmp 22) rfl _ (I.val s) HL.out rfl rfl zs64 HB1.out ?_; intro w2 hs2 hb2 hg2; have HG2 := hid (HG1.out.andThen hg2 fun j hj => by cases hj; exact .inl (Nat.le_refl _)); clear hs2 hb2 hg2)
      | (go_at_call 21; refine (HK.out _ HG2.out).mono ?_; rintro e w3 ⟨v, rfl, hv⟩; have HV3 := hid (hv.first HG2.out); clear hv))
    go_ret2
    rw [HA.out]
    exact ⟨v, rfl, HV3.out⟩
/-- the image I in blocks b, g, m, the map alone changed since w -/
structure IL (w : World) (b g m : Nat) (I : Im) (w' : World) : Prop where
  i : PI w' b g m I
  c : Chg (fun k => k = m) w w'
theorem iTrim_none (p : Option Addr) (s : Int) (w : World) (h : NoI w p) : Calls Try.prog 20 #[.pointer p, .int .i64 s] w fun e w' => e = .returned (.int .i64 7) ∧ w = w' := by
  have H := hid h
  clear h
  go_enter Try.func20, Try.ntmps20
  go_wp2_with (go_at_call 26; refine (ilook_none _ _ _ H.out).mono ?_; rintro e w' ⟨rfl, rfl⟩)
  go_ret
  exact ⟨rfl, rfl⟩
theorem iTrim (h : PI w b g m I) (hok : I.ok) (s : Int) : Calls Try.prog 20 #[.pointer (some ⟨b, 0, none⟩), .int .i64 s] w fun e w' => e = .returned (.int .i64 (I.trimE s).2) ∧ IL w b g m (I.trimE s).1 w' := by
  have H := hid h
  have c1 := h.c1
  have HM := hid h.map
  cases hs : I.is s with
  | false =>
    have HS := hid hs
    have HV := hid (show I.trimE s = (I, 1) by unfold Im.trimE; rw [hs]; rfl)
    rw [HV.out]
    clear h hs hok
    go_enter Try.func20, Try.ntmps20
    go_wp2_with (go_at_call 26; refine (ilook_no H.out _ HS.out).mono ?_; rintro e w' ⟨rfl, rfl⟩)
    go_ret
    exact ⟨rfl, H.out, Chg.refl _ _⟩
  | true =>
    have HS := hid hs
    have HI := hid (is_i64 hok hs)
    have HV := hid (show I.trimE s = (I.clr s, 0) by unfold Im.trimE; rw [if_pos hs])
    rw [HV.out]
    clear h hs hok
    go_enter Try.func20, Try.ntmps20
    go_wp2_with (first
      | (go_at_call 26; refine (ilook_yes H.out _ HS.out).mono ?_; rintro e w' ⟨rfl, rfl⟩)
      | (at_delete; refine wpList_delete_cmap _ rfl _ _ 53 3 rfl 59 int_key Try.underlying3 Try.underlying53 _ m I.used (blkF I.own) rfl HM.out s rfl HI.out ?_; intro w1 h1 g1; have HM1 := hid h1; have HG1 := hid g1; clear h1 g1))
    go_ret
    have hm := HM1.out
    rw [has_eq] at hm
    refine ⟨rfl, ⟨H.out.top.grown HG1.out (by have := H.out.mb; simp; omega), H.out.base.grown HG1.out (by have := H.out.mg; simp; omega), ?_⟩, Chg.one HG1.out rfl⟩
    refine hm.congr fun x => ?_
    unfold blkF Im.clr
    by_cases e : x = s <;> simp [e]
end
end Go.Proofs.Ytcogchalfdeagaa
