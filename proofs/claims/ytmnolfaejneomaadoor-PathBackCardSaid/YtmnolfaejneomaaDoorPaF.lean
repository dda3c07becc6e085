/-
  The law's texts, the reference's Under, awake.
-/
import Derived.Test.YtmnolfaejneomaaDoorPaD
import Derived.Test.YtmnolfaejneomaaDoorPaE
import Derived.Deep.QuietTactic
import Derived.BigQuiet
set_option linter.unusedSimpArgs false
set_option linter.unusedVariables false
namespace Go.Proofs.YtmnolfaejneomaaDoor
open Go.RowKit
set_option maxHeartbeats 1000000
def CellsOf (w : World) (b o : Nat) (xs : List ByteArray) : Prop := ∀ j x, xs[j]? = some x → w.cell? ⟨b, o + j, none⟩ = some (.string x)
def TxRel (w : World) (b1 o1 b2 o2 : Nat) (xs ys : List ByteArray) (t : Value) (wr : World) : Prop :=
  ∃ k q : Nat, t = .int .i64 k ∧ k ≤ xs.length ∧ wr = w.drewN q ∧ xs.take k = ys.take k
def TxPost (v : Bool) (w : World) (e : Ending) (w' : World) : Prop := e = .returned (.bool v) ∧ ∃ q, w' = w.drewN q
theorem TxPost.one {v v' : Bool} {w : World} {q : Nat} (h : v = v') : TxPost v w (.returned (.bool v')) (w.drewN q) := ⟨by rw [h], q, rfl⟩
theorem TxPost.two {v v' : Bool} {w : World} {q n : Nat} (h : v = v') : TxPost v w (.returned (.bool v')) ((w.drewN q).drewN n) := ⟨by rw [h], q + n, by simp [World.drewN, Nat.add_assoc]⟩
theorem lawTexts (b1 o1 c1 b2 o2 c2 : Nat) (xs ys : List ByteArray) (w : World) (hl : xs.length = ys.length) (h8 : xs.length ≤ 8) (hc1 : CellsOf w b1 o1 xs) (hc2 : CellsOf w b2 o2 ys) :
    Calls Tryd.prog 21 #[.slice (some ⟨b1, o1, none⟩) xs.length c1, .slice (some ⟨b2, o2, none⟩) ys.length c2] w (TxPost (decide (xs = ys)) w) := by
  have HC1 := hid hc1
  have HC2 := hid hc2
  have e1 : ((xs.length : Int) == (ys.length : Int)) = true := by simp; omega
  have e2 : ((xs.length : Int) != (ys.length : Int)) = false := by simp; omega
  have HL := hid hl
  clear hc1 hc2 hl
  go_enter Tryd.func21, Tryd.ntmps21
  go_wp2
  go_loopw [5] (fun t wr => TxRel w b1 o1 b2 o2 xs ys t wr) (fun t _ => xs.length - (intOf t).toNat)
  case atStart => exact ⟨0, 0, rfl, Nat.zero_le _, rfl, rfl⟩
  case round =>
    obtain ⟨k, q, rfl, hk, rfl, ht⟩ := hrel
    have HT := hid ht
    clear ht
    by_cases hlt : k < xs.length
    · obtain ⟨x, hx⟩ : ∃ x, xs[k]? = some x := ⟨_, List.getElem?_eq_getElem hlt⟩
      obtain ⟨y, hy⟩ : ∃ y, ys[k]? = some y := ⟨_, List.getElem?_eq_getElem (by have := HL.out; omega)⟩
      have k1 := HC1.out k x hx
      have k2 := HC2.out k y hy
      have hlt2 : k < ys.length := by have := HL.out; omega
      have hi0 : (0 : Int) ≤ (k : Int) := by omega
      have hi1 : (k : Int) < (xs.length : Int) := by omega
      have hi2 : (k : Int) < (ys.length : Int) := by omega
      have HX := hid hx
      have HY := hid hy
      clear hx hy
      cases hxy : (x.toList == y.toList) with
      | true =>
        have HXY := hid (show x = y from ba_eq (by have := beq_iff_eq.1 hxy; rwa [ByteArray.toList_eq, ByteArray.toList_eq] at this))
        go_wp2
        go_quiet (fail)
        go_wp2
        go_roundw
        case rel => exact ⟨k + 1, _, by go_num, by omega, rfl, by rw [List.take_add_one, List.take_add_one, HT.out, HX.out, HY.out, HXY.out]⟩
        case measure => simp [intOf]; omega
      | false =>
        have HXY := hid (show x ≠ y from fun e => by rw [e] at hxy; simp at hxy)
        go_wp2
        go_quiet (fail)
        go_wp2
        go_ret
        have hv : xs ≠ ys := fun e => HXY.out (by have h1 := HX.out; have h2 := HY.out; rw [e, h2] at h1; exact (Option.some.inj h1).symm)
        exact TxPost.two (decide_eq_false hv)
    · have hv : xs = ys := by
        have h1 := HT.out
        rwa [List.take_of_length_le (by omega), List.take_of_length_le (by have := HL.out; omega)] at h1
      have HV := hid hv
      clear hv
      go_wp2
      go_ret
      exact TxPost.one (decide_eq_true HV.out)
theorem below_drewN' {B : Nat} {a w : World} (h : Below B a w) (n : Nat) : Below B a (w.drewN n) := h.trans ⟨rfl, rfl, rfl, Nat.le_refl _, fun _ _ => rfl⟩
theorem lawTexts_eq (v1 v2 : Value) (xs : List ByteArray) (w : World) (h8 : xs.length ≤ 8) (h1 : SRow w v1 xs) (h2 : SRow w v2 xs) : Calls Tryd.prog 21 #[v1, v2] w (TxPost true w) := by
  rcases h1 with ⟨rfl, rfl⟩ | ⟨hne, b1, o1, c1, rfl, _, _, hc1⟩
  · rcases h2 with ⟨_, rfl⟩ | ⟨h0, _⟩
    · go_enter Tryd.func21, Tryd.ntmps21
      go_wp2
      go_loopw [5] (fun t wr => t = .int .i64 0 ∧ wr = w) (fun _ _ => 0)
      case atStart => exact ⟨rfl, rfl⟩
      case round =>
        obtain ⟨rfl, rfl⟩ := hrel
        go_wp2
        go_ret
        exact ⟨rfl, 0, rfl⟩
    · exact absurd rfl h0
  · rcases h2 with ⟨h0, _⟩ | ⟨_, b2, o2, c2, rfl, _, _, hc2⟩
    · exact absurd h0 hne
    · have := lawTexts b1 o1 c1 b2 o2 c2 xs xs w rfl h8 hc1 hc2
      rwa [decide_eq_true rfl] at this
theorem rfParse_none (s : ByteArray) (w : World) (a k : Nat) (hs : s.size ≤ 9223372036854775807) (h : psV s.data.toList = ([], a, k)) :
    Calls Tryd.prog 20 #[.string s] w fun e w' => e = .returned (.tuple #[.slice none 0 0, .int .i64 a, .int .i64 k]) ∧ Below w.heap.size w w' := by
  refine (rfParse s w hs).mono ?_
  rintro e w' ⟨v, xs, rfl, hx, hr, hb⟩
  rw [h] at hx
  have hx0 : xs = [] := by simpa using hx
  subst hx0
  rcases hr with ⟨_, rfl⟩ | ⟨h0, _⟩
  · exact ⟨by rw [h], hb⟩
  · exact absurd rfl h0
theorem rfParse_cons (s : ByteArray) (w : World) (hs : s.size ≤ 9223372036854775807) (h0 : (psV s.data.toList).2.2 = 0) (h1 : (psV s.data.toList).1 ≠ []) :
    Calls Tryd.prog 20 #[.string s] w (CoPost s w) := by
  refine (rfParse s w hs).mono ?_
  rintro e w' ⟨v, xs, rfl, hx, hr, hb⟩
  rcases hr with ⟨rfl, _⟩ | ⟨hne, b, o, c, rfl, hc, hlt, hce⟩
  · exact absurd hx.symm h1
  · have h8 := psV_len s.data.toList
    rw [← hx, List.length_map] at h8
    exact ⟨b, o, c, xs, by rw [psV_zero h0]; rfl, hx, hne, hc, h8, hlt, hce, hb⟩
theorem rfUnder (a b : ByteArray) (w : World) (ha : a.size ≤ 9223372036854775807) (hb : b.size ≤ 9223372036854775807) : Calls Tryd.prog 12 #[.string a, .string b] w (UnPost a b w) := by
  cases hoa : psOk a.data.toList with
  | false =>
    obtain ⟨pa, ka, hka, hk0⟩ := psOk_none hoa
    have HV := hid (unV_no (b := b.data.toList) hoa).1
    have HA := hid (rfParse_none a w pa ka ha hka)
    have k1 : ((ka : Int) == 0) = false := by simp; omega
    have k2 : ((ka : Int) != 0) = true := by simp; omega
    clear hoa hka hk0
    by_cases hb0 : (psV b.data.toList).1 = []
    · obtain ⟨pb, kb, hkb⟩ : ∃ pb kb, psV b.data.toList = ([], pb, kb) := ⟨_, _, by rw [← hb0]⟩
      have HK := hid hkb
      clear hb0 hkb
      go_enter Tryd.func12, Tryd.ntmps12
      go_wp2_with (go_at_call 20; first
        | ((with_reducible refine HA.out.mono ?_); rintro e w1 ⟨rfl, hb1⟩; have HB1 := hid hb1; have HN := hid (rfParse_none b w1 pb kb hb HK.out); clear hb1)
        | (refine HN.out.mono ?_; rintro e w2 ⟨rfl, hb2⟩; have HB2 := hid hb2; clear hb2))
      go_ret
      exact UnPost.of HV.out (HB1.out.trans (HB2.out.mono HB1.out.size))
    · have hob : psOk b.data.toList = true := by
        cases h : psOk b.data.toList with
        | true => rfl
        | false => exact absurd (psV_none (by simpa [psOk] using h)) hb0
      have HK := hid (And.intro (psOk_zero hob) hb0)
      clear hb0 hob
      go_enter Tryd.func12, Tryd.ntmps12
      go_wp2_with (go_at_call 20; first
        | ((with_reducible refine HA.out.mono ?_); rintro e w1 ⟨rfl, hb1⟩; have HB1 := hid hb1; have HN := hid (rfParse_cons b w1 hb HK.out.1 HK.out.2); clear hb1)
        | (refine HN.out.mono ?_; rintro e w2 ⟨b2, o2, c2, ys, rfl, hy, hyne, hyc, hy8, hylt, hyce, hb2⟩; have HB2 := hid hb2; have HY := hid hy; have HR2 := hid (And.intro hylt hyce); clear hb2 hy hyne hyc hylt hyce))
      go_ret
      exact UnPost.of HV.out (HB1.out.trans (HB2.out.mono HB1.out.size))
  | true =>
  cases hob : psOk b.data.toList with
  | false =>
    obtain ⟨pb, kb, hkb, hk0⟩ := psOk_none hob
    have HV := hid (unV_no (b := a.data.toList) hob).2
    have k1 : ((kb : Int) == 0) = false := by simp; omega
    have k2 : ((kb : Int) != 0) = true := by simp; omega
    have HK := hid hkb
    by_cases ha0 : (psV a.data.toList).1 = []
    · have HA := hid (rfParse_none a w 0 0 ha (psOk_nil hoa ha0))
      clear hoa hob hkb hk0 ha0
      go_enter Tryd.func12, Tryd.ntmps12
      go_wp2_with (go_at_call 20; first
        | ((with_reducible refine HA.out.mono ?_); rintro e w1 ⟨rfl, hb1⟩; have HB1 := hid hb1; have HN := hid (rfParse_none b w1 pb kb hb HK.out); clear hb1)
        | (refine HN.out.mono ?_; rintro e w2 ⟨rfl, hb2⟩; have HB2 := hid hb2; clear hb2))
      go_ret
      exact UnPost.of HV.out (HB1.out.trans (HB2.out.mono HB1.out.size))
    · have HA := hid (rfParse_cons a w ha (psOk_zero hoa) ha0)
      clear hoa hob hkb hk0 ha0
      go_enter Tryd.func12, Tryd.ntmps12
      go_wp2_with (go_at_call 20; first
        | ((with_reducible refine HA.out.mono ?_); rintro e w1 ⟨b1, o1, c1, xs, rfl, hx, hne, hc, h8, hlt, hce, hb1⟩; have HB1 := hid hb1; have HN := hid (rfParse_none b w1 pb kb hb HK.out); have HX := hid hx; have HR1 := hid (And.intro hlt hce); have HNE := hid hne; have hpos : 0 < xs.length := List.length_pos_iff.2 hne; clear hb1 hx hne hc hlt hce)
        | (refine HN.out.mono ?_; rintro e w2 ⟨rfl, hb2⟩; have HB2 := hid hb2; clear hb2))
      go_ret
      exact UnPost.of HV.out (HB1.out.trans (HB2.out.mono HB1.out.size))
  | true =>
  have HV := hid (show unV a.data.toList b.data.toList = (psV a.data.toList).1.isPrefixOf (psV b.data.toList).1 by simp [unV, hoa, hob])
  by_cases ha0 : (psV a.data.toList).1 = []
  · have HV' := hid (show unV a.data.toList b.data.toList = true by rw [HV.out, ha0]; simp)
    have HA := hid (rfParse_none a w 0 0 ha (psOk_nil hoa ha0))
    by_cases hb0 : (psV b.data.toList).1 = []
    · have HK := hid (psOk_nil hob hb0)
      clear hoa hob ha0 hb0
      go_enter Tryd.func12, Tryd.ntmps12
      go_wp2_with (go_at_call 20; first
        | ((with_reducible refine HA.out.mono ?_); rintro e w1 ⟨rfl, hb1⟩; have HB1 := hid hb1; have HN := hid (rfParse_none b w1 0 0 hb HK.out); clear hb1)
        | (refine HN.out.mono ?_; rintro e w2 ⟨rfl, hb2⟩; have HB2 := hid hb2; clear hb2))
      go_loopw [11] (fun t wr => t = .int .i64 0 ∧ wr = w2) (fun _ _ => 0)
      case atStart => exact ⟨rfl, rfl⟩
      case round =>
        obtain ⟨rfl, rfl⟩ := hrel
        go_wp2
        go_ret
        exact UnPost.of HV'.out (HB1.out.trans (HB2.out.mono HB1.out.size))
    · have HK := hid (And.intro (psOk_zero hob) hb0)
      clear hoa hob ha0 hb0
      go_enter Tryd.func12, Tryd.ntmps12
      go_wp2_with (go_at_call 20; first
        | ((with_reducible refine HA.out.mono ?_); rintro e w1 ⟨rfl, hb1⟩; have HB1 := hid hb1; have HN := hid (rfParse_cons b w1 hb HK.out.1 HK.out.2); clear hb1)
        | (refine HN.out.mono ?_; rintro e w2 ⟨b2, o2, c2, ys, rfl, hy, hyne, hyc, hy8, hylt, hyce, hb2⟩; have HB2 := hid hb2; have HY := hid hy; have HR2 := hid (And.intro hylt hyce); clear hb2 hy hyne hyc hylt hyce))
      go_loopw [11] (fun t wr => t = .int .i64 0 ∧ wr = w2) (fun _ _ => 0)
      case atStart => exact ⟨rfl, rfl⟩
      case round =>
        obtain ⟨rfl, rfl⟩ := hrel
        go_wp2
        go_ret
        exact UnPost.of HV'.out (HB1.out.trans (HB2.out.mono HB1.out.size))
  · have HA := hid (rfParse_cons a w ha (psOk_zero hoa) ha0)
    by_cases hb0 : (psV b.data.toList).1 = []
    · have HV' := hid (show unV a.data.toList b.data.toList = false by
        rw [HV.out, hb0]
        cases hl : (psV a.data.toList).1 with
        | nil => exact absurd hl ha0
        | cons _ _ => rfl)
      have HK := hid (psOk_nil hob hb0)
      clear hoa hob ha0 hb0
      go_enter Tryd.func12, Tryd.ntmps12
      go_wp2_with (go_at_call 20; first
        | ((with_reducible refine HA.out.mono ?_); rintro e w1 ⟨b1, o1, c1, xs, rfl, hx, hne, hc, h8, hlt, hce, hb1⟩; have HB1 := hid hb1; have HN := hid (rfParse_none b w1 0 0 hb HK.out); have HX := hid hx; have HR1 := hid (And.intro hlt hce); have HNE := hid hne; have hpos : 0 < xs.length := List.length_pos_iff.2 hne; clear hb1 hx hne hc hlt hce)
        | (refine HN.out.mono ?_; rintro e w2 ⟨rfl, hb2⟩; have HB2 := hid hb2; clear hb2))
      go_ret
      exact UnPost.of HV'.out (HB1.out.trans (HB2.out.mono HB1.out.size))
    · have HK := hid (And.intro (psOk_zero hob) hb0)
      clear hoa hob ha0 hb0
      go_enter Tryd.func12, Tryd.ntmps12
      go_wp2_with (go_at_call 20; first
        | ((with_reducible refine HA.out.mono ?_); rintro e w1 ⟨b1, o1, c1, xs, rfl, hx, hne, hc, h8, hlt, hce, hb1⟩; have HB1 := hid hb1; have HN := hid (rfParse_cons b w1 hb HK.out.1 HK.out.2); have HX := hid hx; have HR1 := hid (And.intro hlt hce); have HNE := hid hne; have hpos : 0 < xs.length := List.length_pos_iff.2 hne; clear hb1 hx hne hc hlt hce)
        | (refine HN.out.mono ?_; rintro e w2 ⟨b2, o2, c2, ys, rfl, hy, hyne, hyc, hy8, hylt, hyce, hb2⟩; have HB2 := hid hb2; have HY := hid hy; have HR2 := hid (And.intro hylt hyce); clear hb2 hy hyne hyc hylt hyce))
      · go_ret
        refine UnPost.of ?_ (HB1.out.trans (HB2.out.mono HB1.out.size))
        have hlt : ys.length < xs.length := by assumption
        rw [HV.out, ← HX.out, ← HY.out, take_prefix]
        exact decide_eq_false fun e => by have := congrArg List.length e; rw [List.length_take] at this; omega
      · have hle : xs.length ≤ ys.length := by omega
        have HC1 := hid (show CellsOf w2 b1 o1 xs from fun j x hj => by rw [HB2.out.cell (p := ⟨b1, o1 + j, none⟩) HR1.out.1]; exact HR1.out.2 j x hj)
        have HC2 := hid (show CellsOf w2 b2 o2 ys from HR2.out.2)
        go_loopw [11] (fun t wr => TxRel w2 b1 o1 b2 o2 xs ys t wr) (fun t _ => xs.length - (intOf t).toNat)
        case atStart => exact ⟨0, 0, rfl, Nat.zero_le _, rfl, rfl⟩
        case round =>
          obtain ⟨k, q, rfl, hk, rfl, ht⟩ := hrel
          have HT := hid ht
          clear ht
          by_cases hlt : k < xs.length
          · obtain ⟨x, hx⟩ : ∃ x, xs[k]? = some x := ⟨_, List.getElem?_eq_getElem hlt⟩
            obtain ⟨y, hy⟩ : ∃ y, ys[k]? = some y := ⟨_, List.getElem?_eq_getElem (by omega)⟩
            have k1 := HC1.out k x hx
            have k2 := HC2.out k y hy
            have hlt2 : k < ys.length := by omega
            have hi0 : (0 : Int) ≤ (k : Int) := by omega
            have hi1 : (k : Int) < (xs.length : Int) := by omega
            have hi2 : (k : Int) < (ys.length : Int) := by omega
            have HXK := hid hx
            have HYK := hid hy
            clear hx hy
            cases hxy : (x.toList == y.toList) with
            | true =>
              have HXY := hid (show x = y from ba_eq (by have := beq_iff_eq.1 hxy; rwa [ByteArray.toList_eq, ByteArray.toList_eq] at this))
              go_wp2
              go_quiet (fail)
              go_wp2
              go_roundw
              case rel => exact ⟨k + 1, _, by go_num, by omega, rfl, by rw [List.take_add_one, List.take_add_one, HT.out, HXK.out, HYK.out, HXY.out]⟩
              case measure => simp [intOf]; omega
            | false =>
              have HXY := hid (show x ≠ y from fun e => by rw [e] at hxy; simp at hxy)
              go_wp2
              go_quiet (fail)
              go_wp2
              go_ret
              refine UnPost.of ?_ (below_drewN' (below_drewN' (HB1.out.trans (HB2.out.mono HB1.out.size)) _) _)
              rw [HV.out, ← HX.out, ← HY.out, take_prefix]
              exact decide_eq_false fun e => HXY.out (by
                have h1 := HXK.out
                rw [e, List.getElem?_take_of_lt hlt, HYK.out] at h1
                exact (Option.some.inj h1).symm)
          · have hv : xs = ys.take xs.length := by
              have h1 := HT.out
              rw [show k = xs.length by omega, List.take_of_length_le (Nat.le_refl _)] at h1
              exact h1
            have HVV := hid hv
            clear hv
            go_wp2
            go_ret
            refine UnPost.of ?_ (below_drewN' (HB1.out.trans (HB2.out.mono HB1.out.size)) _)
            rw [HV.out, ← HX.out, ← HY.out, take_prefix]
            exact decide_eq_true HVV.out
theorem awake (w : World) (hm : Ml w) : Calls Tryd.prog 13 #[] w fun e w' => e = .returned (.bool true) ∧ Below w.heap.size w w' := by
  have H1 := hid ((paUnder ⟨#[47, 97]⟩ ⟨#[47, 97, 47, 98]⟩ w hm (by decide) (by decide)).mono fun e w' (h : UnPost _ _ _ e w') => (⟨by rw [h.1]; exact congrArg (fun b => Ending.returned (.bool b)) unV_one, h.2⟩ : e = .returned (.bool true) ∧ Below w.heap.size w w'))
  have HM := hid hm
  clear hm
  go_enter Tryd.func13, Tryd.ntmps13
  go_wp2_with (go_at_call 11; first
    | ((with_reducible refine H1.out.mono ?_); rintro e w1 ⟨rfl, hb1⟩; have HB1 := hid hb1; have H2 := hid ((paUnder ⟨#[47, 97]⟩ ⟨#[47, 97, 98]⟩ w1 (HM.out.below hb1) (by decide) (by decide)).mono fun e w' (h : UnPost _ _ _ e w') => (⟨by rw [h.1]; exact congrArg (fun b => Ending.returned (.bool b)) unV_two, h.2⟩ : e = .returned (.bool false) ∧ Below w1.heap.size w1 w')); clear hb1)
    | (refine H2.out.mono ?_; rintro e w2 ⟨rfl, hb2⟩; have HB2 := hid hb2; clear hb2))
  go_ret
  exact ⟨rfl, HB1.out.trans (HB2.out.mono HB1.out.size)⟩
end Go.Proofs.YtmnolfaejneomaaDoor
