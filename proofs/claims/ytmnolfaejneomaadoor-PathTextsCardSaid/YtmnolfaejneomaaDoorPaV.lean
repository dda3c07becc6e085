/-
  Package path: the reference's Text.
-/
import Derived.Test.YtmnolfaejneomaaDoorPaU
set_option linter.unusedSimpArgs false
set_option linter.unusedVariables false
namespace Go.Proofs.YtmnolfaejneomaaDoor
open Go.RowKit
set_option maxHeartbeats 2000000
theorem conv8 (x : Int) (h : domB x = true) : wrap64 (48 + x) % 256 = ((48 + x.toNat : Nat) : Int) := by
  simp only [domB, Bool.and_eq_true, decide_eq_true_eq] at h
  have e : wrap64 (48 + x) = 48 + x := by unfold wrap64; omega
  rw [e]
  omega
theorem convOne (W X : World) (hW : W.heap.size = X.heap.size) (x : Int) (h : domB x = true) : (convert 61 9 (.slice (some ⟨X.heap.size, 0, none⟩) 1 1)).run Tryd.prog (W.alloc (Obj.cells #[Value.int IntKind.u8 (wrap64 (48 + x) % 256)] 5)) = .ok (.string ⟨#[UInt8.ofNat (48 + x.toNat)]⟩) (W.alloc (Obj.cells #[Value.int IntKind.u8 (wrap64 (48 + x) % 256)] 5)) := by
  rw [conv8 x h]
  simp only [domB, Bool.and_eq_true, decide_eq_true_eq] at h
  refine run_convert_bytes_back _ 61 9 5 ⟨X.heap.size, 0, none⟩ 1 [UInt8.ofNat (48 + x.toNat)] Tryd.underlying61 Tryd.underlying5 Tryd.underlying9 (fun j hj => ?_)
  obtain rfl : j = 0 := by simpa using hj
  have e : (⟨X.heap.size, 0, none⟩ : Addr).add 0 = ⟨X.heap.size, 0, none⟩ := by simp [Addr.add]
  rw [e, ← hW]
  have e2 : (48 + x.toNat) % 256 = 48 + x.toNat := by omega
  simp [go_sem]
  omega
theorem wrote1 {s : ByteArray} {pre : List UInt8} {d : PD} {sd : ByteArray} {c : UInt8} (hs : s.data.toList = pre) (hd : sd = ⟨#[UInt8.ofNat (48 + d.1.toNat)]⟩) (hc : c = UInt8.ofNat (letV d)) :
    ((s ++ ⟨#[c]⟩) ++ sd).data.toList = pre ++ partV d := by
  rw [hd, hc]
  simp [hs, partV]
theorem wrote2 {s : ByteArray} {pre : List UInt8} {d : PD} {sd : ByteArray} {c : UInt8} (hs : s.data.toList = pre) (hd : sd = ⟨#[UInt8.ofNat (48 + d.1.toNat)]⟩) (hc : c = UInt8.ofNat (letV d)) :
    (((s ++ ⟨#[44]⟩) ++ ⟨#[c]⟩) ++ sd).data.toList = pre ++ [44] ++ partV d := by
  rw [hd, hc]
  simp [hs, partV]
set_option maxRecDepth 100000 in
theorem rfText (l : List PD) (p : Option Addr) (c : Nat) (w : World) (hl : l.length ≤ 140737488355328) (hc : l.length ≤ c) (hg : PG w p l) :
    Calls Tryd.prog 23 #[.slice p l.length c] w (TxtPost l w) := by
  by_cases h0 : l = []
  · subst h0
    go_enter Tryd.func23, Tryd.ntmps23
    go_wp2
    go_ret2
    exact TxtPost.no (by simp [txV]) (Below.refl _ _)
  by_cases h8 : 8 < l.length
  · have HV := hid (show txV l = ([], 1) by unfold txV; rw [if_pos (.inr h8)])
    have e1 : ((l.length : Int) == 0) = false := by simp; omega
    clear h0
    go_enter Tryd.func23, Tryd.ntmps23
    go_wp2
    go_ret2
    exact TxtPost.no HV.out (Below.refl _ _)
  have H08 := hid (show ¬ (l = [] ∨ 8 < l.length) from fun h => h.elim h0 h8)
  have e1 : ((l.length : Int) == 0) = false := by simpa using h0
  have HG := hid hg
  clear h0 hg
  go_enter Tryd.func23, Tryd.ntmps23
  go_wp2
  go_loopw [4, 5] (fun t4 t5 wr => ∃ (k : Nat) (s : ByteArray), t5 = .int .i64 k ∧ t4 = .string s ∧ k ≤ l.length ∧ (∀ j, j < k → okAt l j = true) ∧ s.data.toList = tacc l k ∧ s.size ≤ 3 * k ∧ Below w.heap.size w wr) (fun _ t _ => l.length - (intOf t).toNat)
  case atStart => exact ⟨0, ⟨#[]⟩, rfl, rfl, Nat.zero_le _, fun j hj => by omega, rfl, Nat.le_refl _, Below.refl _ _⟩
  case round =>
    obtain ⟨k, s, rfl, rfl, hk, hj, hs, hsz, hb⟩ := hrel
    have HJ := hid hj
    have HB := hid hb
    have HS := hid hs
    clear hj hb hs
    by_cases hkn : k < l.length
    · obtain ⟨d, hd⟩ : ∃ d, l[k]? = some d := ⟨_, List.getElem?_eq_getElem hkn⟩
      have HDk := hid (show l.getD k (0, false, false) = d by rw [List.getD_eq_getElem?_getD, hd]; rfl)
      obtain ⟨b, o, rfl, hlt', x0, x1, x2⟩ := (HG.out.below HB.out) k d hd
      have HH := hid fun n => (rfHas l (some ⟨b, o, none⟩) k c d.1 (wr.drewN n) hk hl ((HG.out.below HB.out).below (below_drewN' (Below.refl _ _) n)))
      clear hd
      cases hdm : domB d.1 with
      | false =>
        have HO := hid (show okAt l k = false by unfold okAt; rw [HDk.out, hdm]; rfl)
        by_cases hneg : d.1 < 0
        · have e2 : decide (d.1 < 0) = true := by simpa using hneg
          clear hdm hneg
          go_wp2
          go_quiet (fail)
          go_wp2
          go_ret2
          exact TxtPost.no (txV_no H08.out hkn HO.out) (below_drewN' HB.out _)
        · have e2 : decide (d.1 < 0) = false := by simpa using hneg
          have e3 : decide (8 ≤ d.1) = true := by simp [domB] at hdm ⊢; omega
          clear hdm hneg
          go_wp2
          go_quiet (fail)
          go_wp2
          go_ret2
          exact TxtPost.no (txV_no H08.out hkn HO.out) (below_drewN' HB.out _)
      | true =>
        have hdm' := hid hdm
        have e2 : decide (d.1 < 0) = false := by simp [domB] at hdm ⊢; omega
        have e3 : decide (8 ≤ d.1) = false := by simp [domB] at hdm ⊢; omega
        have hd0 : 0 ≤ d.1 ∧ d.1 < 8 := by simpa [domB] using hdm
        have HD0 := hid hd0
        clear hdm hd0
        cases hhv : hasV (l.take k) d.1 with
        | true =>
          rw [hhv] at HH
          have HO := hid (show okAt l k = false by unfold okAt; rw [HDk.out, hhv]; simp)
          clear hhv
          go_wp2
          go_quiet (first | (go_at_call 40; exact Calls.quiet_of_same (v := .bool true) ((HH.out _).mono (by rintro e w9 ⟨rfl, rfl⟩; exact ⟨rfl, rfl⟩))))
          go_wp2
          go_ret2
          exact TxtPost.no (txV_no H08.out hkn HO.out) (below_drewN' HB.out _)
        | false =>
          rw [hhv] at HH
          have HO := hid (show okAt l k = true by unfold okAt; rw [HDk.out, hdm'.out, hhv]; rfl)
          clear hhv
          obtain ⟨sd, hsd⟩ : ∃ sd : ByteArray, sd = ⟨#[UInt8.ofNat (48 + d.1.toNat)]⟩ := ⟨_, rfl⟩
          have HSd := hid hsd
          have HSz := hid (show sd.size = 1 by rw [hsd]; rfl)
          have hs1 : sd.size ≤ 1 := by rw [HSz.out]; exact Nat.le_refl _
          have hcv : ∀ n, (convert 61 9 (.slice (some ⟨wr.heap.size, 0, none⟩) 1 1)).run Tryd.prog ((wr.drewN n).alloc (Obj.cells #[Value.int IntKind.u8 (wrap64 (48 + d.1) % 256)] 5)) = .ok (.string sd) ((wr.drewN n).alloc (Obj.cells #[Value.int IntKind.u8 (wrap64 (48 + d.1) % 256)] 5)) := fun n => by rw [hsd]; exact convOne (wr.drewN n) wr (by simp) d.1 hdm'.out
          clear hsd
          by_cases hk0 : k = 0
          · have hpos : ¬ 0 < k := by omega
            have hpos' : decide (0 < (k : Int)) = false := by simp; omega
            have HPos := hid hpos
            clear hk0
            go_wp2
            go_quiet (first | (go_at_call 40; exact Calls.quiet_of_same (v := .bool false) ((HH.out _).mono (by rintro e w9 ⟨rfl, rfl⟩; exact ⟨rfl, rfl⟩))))
            go_wp2_with (fail)
            all_goals
              go_roundw
              case rel =>
                refine ⟨k + 1, _, by go_num, rfl, by omega, fun j hj => ?_, ?_, ?_, (below_drewN' HB.out _).alloc (by simpa using HB.out.size) _⟩
                · by_cases e : j = k
                  · rw [e]; exact HO.out
                  · exact HJ.out j (by omega)
                · rw [tacc, HDk.out, if_neg HPos.out, List.append_nil]
                  exact wrote1 HS.out HSd.out (by simp [letV, *])
                · have h3 := HSz.out
                  have e1 : ∀ x : UInt8, (ByteArray.mk #[x]).size = 1 := fun _ => rfl
                  simp only [ByteArray.size_append, e1, h3]
                  omega
              case measure => simp [intOf]; omega
          · have hpos : 0 < k := by omega
            have hpos' : decide (0 < (k : Int)) = true := by simp; omega
            have HPos := hid hpos
            clear hk0
            go_wp2
            go_quiet (first | (go_at_call 40; exact Calls.quiet_of_same (v := .bool false) ((HH.out _).mono (by rintro e w9 ⟨rfl, rfl⟩; exact ⟨rfl, rfl⟩))))
            go_wp2_with (fail)
            all_goals
              go_roundw
              case rel =>
                refine ⟨k + 1, _, by go_num, rfl, by omega, fun j hj => ?_, ?_, ?_, (below_drewN' HB.out _).alloc (by simpa using HB.out.size) _⟩
                · by_cases e : j = k
                  · rw [e]; exact HO.out
                  · exact HJ.out j (by omega)
                · rw [tacc, HDk.out, if_pos HPos.out]
                  exact wrote2 HS.out HSd.out (by simp [letV, *])
                · have h3 := HSz.out
                  have e1 : ∀ x : UInt8, (ByteArray.mk #[x]).size = 1 := fun _ => rfl
                  simp only [ByteArray.size_append, e1, h3]
                  omega
              case measure => simp [intOf]; omega
    · have HK := hid (show k = l.length by omega)
      go_wp2
      go_ret2
      have hv := txV_yes H08.out (fun j hj => HJ.out j (by rw [HK.out]; exact hj))
      exact ⟨s, by rw [hv, HS.out, HK.out], by rw [hv]; rfl, HB.out⟩
end Go.Proofs.YtmnolfaejneomaaDoor
