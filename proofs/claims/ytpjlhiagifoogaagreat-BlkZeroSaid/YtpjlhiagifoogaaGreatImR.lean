/-
  Package image: Read, Trim.
-/
import Derived.Test.YtpjlhiagifoogaaGreatImO
set_option linter.unusedSimpArgs false
set_option linter.unusedVariables false
namespace Go.Proofs.YtpjlhiagifoogaaGreat.Imx
open Go.RowKit Gen CM
set_option maxHeartbeats 1000000

section
variable {w : World} {b g m : Nat} {I : Im}
theorem iRead_none (p : Option Addr) (s : Int) (w : World) (h : NoI w p) : Calls Tryz.prog 105 #[.pointer p, .int .i64 s] w fun e w' => e = .returned (.tuple #[.slice none 0 0, .int .i64 7]) ∧ w = w' := by
  have H := hid h
  clear h
  go_enter Tryz.func105, Tryz.ntmps105
  go_wp2_with (go_at_call 110; refine (ilook_none _ _ _ H.out).mono ?_; rintro e w' ⟨rfl, rfl⟩)
  go_ret2
  exact ⟨rfl, rfl⟩
theorem iRead_no (h : PI w b g m I) (s : Int) (hs : I.is s = false) : Calls Tryz.prog 105 #[.pointer (some ⟨b, 0, none⟩), .int .i64 s] w fun e w' => e = .returned (.tuple #[.slice none 0 0, .int .i64 1]) ∧ w = w' := by
  have H := hid h
  have HS := hid hs
  clear h hs
  go_enter Tryz.func105, Tryz.ntmps105
  go_wp2_with (go_at_call 110; refine (ilook_no H.out _ HS.out).mono ?_; rintro e w' ⟨rfl, rfl⟩)
  go_ret2
  exact ⟨rfl, rfl⟩
theorem is_i64 {I : Im} (hok : I.ok) {s : Int} (hs : I.is s = true) : I64 s := by
  obtain ⟨h0, h1⟩ := Im.is_yes.1 hs
  have := hok.n256
  exact I64.of (by omega) (by omega)
theorem iRead_yes (h : PI w b g m I) (hok : I.ok) (s : Int) (hs : I.is s = true) :
    Calls Tryz.prog 105 #[.pointer (some ⟨b, 0, none⟩), .int .i64 s] w fun e w' => ∃ v, e = .returned (.tuple #[v, .int .i64 0]) ∧ NewB w (I.at s) v w' := by
  have H := hid h
  have HS := hid hs
  have c1 := h.c1
  have HM := hid h.map
  have HI := hid (is_i64 hok hs)
  have HL := hid (Im.val_len hok s)
  have HV := hid (val_eq I s)
  cases hh : I.has s with
  | true =>
    have HH := hid ((has_eq I s).trans hh)
    have HA := hid (show I.at s = I.val s by unfold Im.at Im.val; unfold Im.has at hh; cases e : I.own s with | none => rw [e] at hh; cases hh | some l => rfl)
    clear h hs hok hh
    go_enter Tryz.func105, Tryz.ntmps105
    go_wp2_with (first
      | (go_at_call 110; refine (ilook_yes H.out _ HS.out).mono ?_; rintro e w' ⟨rfl, rfl⟩)
      | (at_lookup; refine wpList_look_ok_cmap _ rfl _ _ 187 rfl 3 191 int_key Tryz.underlying3 Tryz.underlying187 _ (zero_blk _) m I.used (blkF I.own) rfl HM.out s rfl HI.out ?_; rw [HV.out, HH.out])
      | (refine wpList_alloc_blk rfl rfl ?_; intro w1 hs1 hb1 hg1; have HB1 := hid hb1; have HG1 := hid hg1; clear hs1 hb1 hg1)
      | (refine wpList_store_blk rfl (.tmp 7) (.tmp 22) rfl _ (I.val s) HL.out rfl rfl zs64 HB1.out ?_; intro w2 hs2 hb2 hg2; have HG2 := hid (HG1.out.andThen hg2 fun j hj => by cases hj; exact .inl (Nat.le_refl _)); have HC := hid (iClone (some ⟨w.heap.size, 0, none⟩) 64 (I.val s) w2 hb2.ba (by rw [HL.out]; omega)); clear hs2 hb2 hg2)
      | (refine wpList_slice_blk rfl (.tmp 7) rfl w.heap.size 0 rfl ?_)
      | (go_at_call 111; refine (show Calls _ _ #[.slice _ 64 64] _ _ from HL.out ▸ HC.out).mono ?_; rintro e w3 ⟨v, rfl, hv⟩; have HV3 := hid (hv.first HG2.out); clear hv))
    go_ret2
    rw [HA.out]
    exact ⟨v, rfl, HV3.out⟩
  | false =>
    have HH := hid ((has_eq I s).trans hh)
    have HA := hid (show I.at s = I.base s by unfold Im.at; unfold Im.has at hh; cases e : I.own s with | none => rfl | some l => rw [e] at hh; cases hh)
    have HK := hid (fun (w' : World) (hg : w.grownBy w' none) => iBase_yes (h.grown hg) hok s hs)
    clear h hs hok hh
    go_enter Tryz.func105, Tryz.ntmps105
    go_wp2_with (first
      | (go_at_call 110; refine (ilook_yes H.out _ HS.out).mono ?_; rintro e w' ⟨rfl, rfl⟩)
      | (at_lookup; refine wpList_look_ok_cmap _ rfl _ _ 187 rfl 3 191 int_key Tryz.underlying3 Tryz.underlying187 _ (zero_blk _) m I.used (blkF I.own) rfl HM.out s rfl HI.out ?_; rw [HV.out, HH.out])
      | (refine wpList_alloc_blk rfl rfl ?_; intro w1 hs1 hb1 hg1; have HB1 := hid hb1; have HG1 := hid hg1; clear hs1 hb1 hg1)
      | (refine wpList_store_blk rfl (.tmp 7) (.tmp 22) rfl _ (I.val s) HL.out rfl rfl zs64 HB1.out ?_; intro w2 hs2 hb2 hg2; have HG2 := hid (HG1.out.andThen hg2 fun j hj => by cases hj; exact .inl (Nat.le_refl _)); clear hs2 hb2 hg2)
      | (go_at_call 36; refine (HK.out _ HG2.out).mono ?_; rintro e w3 ⟨v, rfl, hv⟩; have HV3 := hid (hv.first HG2.out); clear hv))
    go_ret2
    rw [HA.out]
    exact ⟨v, rfl, HV3.out⟩
/-- the image I in blocks b, g, m, the map alone changed since w -/
structure IL (w : World) (b g m : Nat) (I : Im) (w' : World) : Prop where
  i : PI w' b g m I
  c : Chg (fun k => k = m) w w'
end
end Go.Proofs.YtpjlhiagifoogaaGreat.Imx
