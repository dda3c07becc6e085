/-
  Package path: Under.
-/
import Derived.Test.YtmnolfaejneomaaDoorPaC
set_option linter.unusedSimpArgs false
set_option linter.unusedVariables false
namespace Go.Proofs.YtmnolfaejneomaaDoor
open Go.RowKit
set_option maxHeartbeats 1000000
theorem take_prefix {xs ys : List ByteArray} : (xs.map (·.data.toList)).isPrefixOf (ys.map (·.data.toList)) = decide (xs = ys.take xs.length) := by
  rw [Bool.eq_iff_iff, List.isPrefixOf_iff_prefix, decide_eq_true_eq, List.prefix_iff_eq_take, List.length_map, ← List.map_take]
  exact ⟨fun h => map_inj h, fun h => by rw [← h]⟩
theorem paEqual (b1 o1 c b2 o2 d : Nat) (xs ys : List ByteArray) (w : World) (hl : xs.length ≤ ys.length) (h8 : ys.length ≤ 8) (hc1 : ∀ j x, xs[j]? = some x → w.cell? ⟨b1, o1 + j, none⟩ = some (.string x)) (hc2 : ∀ j x, ys[j]? = some x → w.cell? ⟨b2, o2 + j, none⟩ = some (.string x)) :
    Calls Tryd.prog 26 #[.slice (some ⟨b1, o1, none⟩) xs.length c, .slice (some ⟨b2, o2, none⟩) xs.length d] w fun e w' => e = .returned (.bool (decide (xs = ys.take xs.length))) ∧ Below w.heap.size w w' := by
  have g : ∀ (zs : List ByteArray) (j : Nat), j < zs.length → zs[j]? = some (zs.getD j ByteArray.empty) := fun zs j hj => by rw [List.getD_eq_getElem?_getD, List.getElem?_eq_getElem hj]; rfl
  refine (Tryd.slices_Equal_string b1 o1 xs.length c b2 o2 xs.length d xs ys w (Nat.le_refl _) hl (by omega) (by omega) (fun j hj => hc1 j _ (g xs j hj)) (fun j hj => hc2 j _ (g ys j hj))).mono ?_
  rintro e w' ⟨rfl, q, rfl⟩
  exact ⟨by rw [List.take_of_length_le (Nat.le_refl xs.length)], ⟨rfl, rfl, rfl, Nat.le_refl _, fun _ _ => rfl⟩⟩

theorem psOk_none {l : List UInt8} (h : psOk l = false) : ∃ a k, psV l = ([], a, k) ∧ k ≠ 0 := by
  have hk : (psV l).2.2 ≠ 0 := by simpa [psOk] using h
  exact ⟨(psV l).2.1, (psV l).2.2, by rw [← psV_none hk], hk⟩
theorem psOk_zero {l : List UInt8} (h : psOk l = true) : (psV l).2.2 = 0 := by simpa [psOk] using h
theorem psOk_nil {l : List UInt8} (h : psOk l = true) (h0 : (psV l).1 = []) : psV l = ([], 0, 0) := by
  have := psV_zero (psOk_zero h)
  rw [h0] at this
  exact this
def UnPost (a b : ByteArray) (w : World) (e : Ending) (w' : World) : Prop := e = .returned (.bool (unV a.data.toList b.data.toList)) ∧ Below w.heap.size w w'
theorem UnPost.of {a b : ByteArray} {w w' : World} {v : Bool} (h : unV a.data.toList b.data.toList = v) (hb : Below w.heap.size w w') : UnPost a b w (.returned (.bool v)) w' := ⟨by rw [h], hb⟩
theorem paUnder (a b : ByteArray) (w : World) (hm : Ml w) (ha : a.size ≤ 9223372036854775807) (hb : b.size ≤ 9223372036854775807) : Calls Tryd.prog 11 #[.string a, .string b] w (UnPost a b w) := by
  have HM := hid hm
  clear hm
  cases hoa : psOk a.data.toList with
  | false =>
    obtain ⟨p, k, hk, hk0⟩ := psOk_none hoa
    have HV := hid (unV_no (b := b.data.toList) hoa).1
    have HA := hid (paParse_none a w p k HM.out ha hk)
    have k1 : ((k : Int) == 0) = false := by simp; omega
    have k2 : ((k : Int) != 0) = true := by simp; omega
    clear hoa hk hk0
    go_enter Tryd.func11, Tryd.ntmps11
    go_wp2_with (go_at_call 14; refine HA.out.mono ?_; rintro e w1 ⟨rfl, hb1⟩; have HB1 := hid hb1; clear hb1)
    go_ret
    exact UnPost.of HV.out HB1.out
  | true =>
  cases hob : psOk b.data.toList with
  | false =>
    obtain ⟨p, k, hk, hk0⟩ := psOk_none hob
    have HV := hid (unV_no (b := a.data.toList) hob).2
    have k1 : ((k : Int) == 0) = false := by simp; omega
    have k2 : ((k : Int) != 0) = true := by simp; omega
    by_cases ha0 : (psV a.data.toList).1 = []
    · have HA := hid (paParse_none a w 0 0 HM.out ha (psOk_nil hoa ha0))
      have HK := hid hk
      clear hoa hob hk hk0 ha0
      go_enter Tryd.func11, Tryd.ntmps11
      go_wp2_with (go_at_call 14; first
        | ((with_reducible refine HA.out.mono ?_); rintro e w1 ⟨rfl, hb1⟩; have HB1 := hid hb1; have HN := hid (paParse_none b w1 p k (HM.out.below hb1) hb HK.out); clear hb1)
        | (refine HN.out.mono ?_; rintro e w2 ⟨rfl, hb2⟩; have HB2 := hid hb2; clear hb2))
      go_ret
      exact UnPost.of HV.out (HB1.out.trans (HB2.out.mono HB1.out.size))
    · have HA := hid (paParse_cons a w HM.out ha (psOk_zero hoa) ha0)
      have HK := hid hk
      clear hoa hob hk hk0 ha0
      go_enter Tryd.func11, Tryd.ntmps11
      go_wp2_with (go_at_call 14; first
        | ((with_reducible refine HA.out.mono ?_); rintro e w1 ⟨b1, o1, c1, xs, rfl, hx, hne, hc, h8, hlt, hce, hb1⟩; have HB1 := hid hb1; have HN := hid (paParse_none b w1 p k (HM.out.below hb1) hb HK.out); clear hb1 hx hne hc h8 hlt hce)
        | (refine HN.out.mono ?_; rintro e w2 ⟨rfl, hb2⟩; have HB2 := hid hb2; clear hb2))
      go_ret
      exact UnPost.of HV.out (HB1.out.trans (HB2.out.mono HB1.out.size))
  | true =>
  have HV := hid (show unV a.data.toList b.data.toList = (psV a.data.toList).1.isPrefixOf (psV b.data.toList).1 by simp [unV, hoa, hob])
  by_cases ha0 : (psV a.data.toList).1 = []
  · have HV' := hid (show unV a.data.toList b.data.toList = true by rw [HV.out, ha0]; simp)
    have HA := hid (paParse_none a w 0 0 HM.out ha (psOk_nil hoa ha0))
    by_cases hb0 : (psV b.data.toList).1 = []
    · have HK := hid (psOk_nil hob hb0)
      clear hoa hob ha0 hb0
      go_enter Tryd.func11, Tryd.ntmps11
      go_wp2_with (first
        | (go_at_call 14; first
          | ((with_reducible refine HA.out.mono ?_); rintro e w1 ⟨rfl, hb1⟩; have HB1 := hid hb1; have HN := hid (paParse_none b w1 0 0 (HM.out.below hb1) hb HK.out); clear hb1)
          | (refine HN.out.mono ?_; rintro e w2 ⟨rfl, hb2⟩; have HB2 := hid hb2; clear hb2))
        | (go_at_call 26; refine (Tryd.slices_Equal_string_empty _ _ _ _ _ _ (by omega)).mono ?_; rintro e w3 ⟨rfl, rfl⟩))
      go_ret
      exact UnPost.of HV'.out (HB1.out.trans (HB2.out.mono HB1.out.size))
    · have HK := hid (And.intro (psOk_zero hob) hb0)
      clear hoa hob ha0 hb0
      go_enter Tryd.func11, Tryd.ntmps11
      go_wp2_with (first
        | (go_at_call 14; first
          | ((with_reducible refine HA.out.mono ?_); rintro e w1 ⟨rfl, hb1⟩; have HB1 := hid hb1; have HN := hid (paParse_cons b w1 (HM.out.below hb1) hb HK.out.1 HK.out.2); clear hb1)
          | (refine HN.out.mono ?_; rintro e w2 ⟨b2, o2, c2, ys, rfl, hy, hyne, hyc, hy8, hylt, hyce, hb2⟩; have HB2 := hid hb2; clear hb2 hy hyne hylt hyce))
        | (go_at_call 26; refine (Tryd.slices_Equal_string_empty _ _ _ _ _ _ (by omega)).mono ?_; rintro e w3 ⟨rfl, rfl⟩))
      go_ret
      exact UnPost.of HV'.out (HB1.out.trans (HB2.out.mono HB1.out.size))
  · have HA := hid (paParse_cons a w HM.out ha (psOk_zero hoa) ha0)
    by_cases hb0 : (psV b.data.toList).1 = []
    · have HV' := hid (show unV a.data.toList b.data.toList = false by
        rw [HV.out, hb0]
        cases hl : (psV a.data.toList).1 with
        | nil => exact absurd hl ha0
        | cons _ _ => rfl)
      have HK := hid (psOk_nil hob hb0)
      clear hoa hob ha0 hb0
      go_enter Tryd.func11, Tryd.ntmps11
      go_wp2_with (go_at_call 14; first
          | ((with_reducible refine HA.out.mono ?_); rintro e w1 ⟨b1, o1, c1, xs, rfl, hx, hne, hc, h8, hlt, hce, hb1⟩; have HB1 := hid hb1; have HN := hid (paParse_none b w1 0 0 (HM.out.below hb1) hb HK.out); have hpos : 0 < xs.length := List.length_pos_iff.2 hne; clear hb1 hx hne hc h8 hlt hce)
          | (refine HN.out.mono ?_; rintro e w2 ⟨rfl, hb2⟩; have HB2 := hid hb2; clear hb2))
      go_ret
      exact UnPost.of HV'.out (HB1.out.trans (HB2.out.mono HB1.out.size))
    · have HK := hid (And.intro (psOk_zero hob) hb0)
      clear hoa hob ha0 hb0
      go_enter Tryd.func11, Tryd.ntmps11
      go_wp2_with (first
        | (go_at_call 14; first
          | ((with_reducible refine HA.out.mono ?_); rintro e w1 ⟨b1, o1, c1, xs, rfl, hx, hne, hc, h8, hlt, hce, hb1⟩; have HB1 := hid hb1; have HN := hid (paParse_cons b w1 (HM.out.below hb1) hb HK.out.1 HK.out.2); have HX := hid hx; have HR1 := hid (And.intro hlt hce); have HNE := hid hne; clear hb1 hx hne hc hlt hce)
          | (refine HN.out.mono ?_; rintro e w2 ⟨b2, o2, c2, ys, rfl, hy, hyne, hyc, hy8, hylt, hyce, hb2⟩; have HB2 := hid hb2; have HY := hid hy; have HR2 := hid (And.intro hylt hyce); clear hb2 hy hyne hylt hyce))
        | (go_at_call 26; refine (paEqual b1 o1 c1 b2 o2 c2 xs ys w2 (by omega) hy8 (fun j x hj => by rw [HB2.out.cell (p := ⟨b1, o1 + j, none⟩) HR1.out.1]; exact HR1.out.2 j x hj) HR2.out.2).mono ?_; rintro e w3 ⟨rfl, hb3⟩; have HB3 := hid hb3; clear hb3))
      all_goals go_ret
      · refine UnPost.of ?_ (HB1.out.trans (HB2.out.mono HB1.out.size))
        have hlt : ys.length < xs.length := by assumption
        rw [HV.out, ← HX.out, ← HY.out, take_prefix]
        exact decide_eq_false fun e => by have := congrArg List.length e; rw [List.length_take] at this; omega
      · refine UnPost.of ?_ ((HB1.out.trans (HB2.out.mono HB1.out.size)).trans (HB3.out.mono (by have := HB1.out.size; have := HB2.out.size; omega)))
        rw [HV.out, ← HX.out, ← HY.out, take_prefix]
end Go.Proofs.YtmnolfaejneomaaDoor
