/-
  Package path: Parse.
-/
import Derived.Test.YtmnolfaejneomaaDoorPaA
import Derived.Test.YtmnolfaejneomaaDoorPaShelf
set_option linter.unusedSimpArgs false
set_option linter.unusedVariables false
namespace Go.Proofs.YtmnolfaejneomaaDoor
open Go.RowKit
set_option maxHeartbeats 1000000

/-! ### Strings as lists of bytes -/
theorem bs_data (l : List UInt8) : (ByteArray.mk l.toArray).data.toList = l := rfl
theorem bs_size (l : List UInt8) : (ByteArray.mk l.toArray).size = l.length := by simp [ByteArray.size]
theorem ba_size (s : ByteArray) : s.size = s.data.toList.length := Lib.size_eq s
theorem ba_eq {s t : ByteArray} (h : s.data.toList = t.data.toList) : s = t := by
  obtain ⟨⟨a⟩⟩ := s
  obtain ⟨⟨b⟩⟩ := t
  simp only at h
  rw [h]
theorem map_inj : ∀ {xs ys : List ByteArray}, xs.map (·.data.toList) = ys.map (·.data.toList) → xs = ys
  | [], [], _ => rfl
  | [], _ :: _, h => by simp at h
  | _ :: _, [], h => by simp at h
  | x :: xs, y :: ys, h => by
    simp only [List.map_cons, List.cons.injEq] at h
    rw [ba_eq h.1, map_inj h.2]

/-- A row of strings in memory. -/
def SRow (w : World) (v : Value) (xs : List ByteArray) : Prop :=
  (xs = [] ∧ v = .slice none 0 0) ∨ (xs ≠ [] ∧ ∃ b o c, v = .slice (some ⟨b, o, none⟩) xs.length c ∧ xs.length ≤ c ∧ b < w.heap.size ∧ ∀ j x, xs[j]? = some x → w.cell? ⟨b, o + j, none⟩ = some (.string x))
theorem SRow.below {w w' : World} {v : Value} {xs : List ByteArray} (h : SRow w v xs) (hb : Below w.heap.size w w') : SRow w' v xs := by
  rcases h with h | ⟨hne, b, o, c, rfl, hc, hlt, hx⟩
  · exact .inl h
  · exact .inr ⟨hne, b, o, c, rfl, hc, by have := hb.size; omega, fun j x hj => by rw [hb.cell (p := ⟨b, o + j, none⟩) hlt]; exact hx j x hj⟩
/-- The library's own variable holds a number. -/
def Ml (w : World) : Prop := 0 < w.heap.size ∧ ∃ m, w.cell? ⟨0, 0, none⟩ = some (.int .i64 m)
theorem Ml.below {w w' : World} (h : Ml w) (hb : Below w.heap.size w w') : Ml w' := by
  obtain ⟨h0, m, hm⟩ := h
  exact ⟨by have := hb.size; omega, m, by rw [hb.cell (p := ⟨0, 0, none⟩) h0]; exact hm⟩

/-! ### The library's calls, in these words -/
theorem paCut_no (s : ByteArray) (w : World) (h : ∀ t, s.data.toList ≠ 47 :: t) : Calls Tryd.prog 27 #[.string s, .string ⟨#[47]⟩] w fun e w' => e = .returned (.tuple #[.string s, .bool false]) ∧ w = w' := by
  refine (Tryd.strings_CutPrefix s ⟨#[47]⟩ w).mono fun e w' ⟨he, hw⟩ => ⟨?_, hw.symm⟩
  have hp : Lib.hasPrefix s.data.toList [47] = false := by
    cases hl : s.data.toList with
    | nil => rfl
    | cons c t =>
      have : c ≠ 47 := fun e => h t (by rw [hl, e])
      simp [Lib.hasPrefix, List.isPrefixOf, Ne.symm this]
  have e1 : (ByteArray.mk #[47]).data.toList = [47] := rfl
  rw [he, e1, hp, Lib.trimPrefix, hp]
  rfl
theorem paCut_yes (s : ByteArray) (t : List UInt8) (w : World) (h : s.data.toList = 47 :: t) : Calls Tryd.prog 27 #[.string s, .string ⟨#[47]⟩] w fun e w' => e = .returned (.tuple #[.string ⟨t.toArray⟩, .bool true]) ∧ w = w' := by
  refine (Tryd.strings_CutPrefix s ⟨#[47]⟩ w).mono fun e w' ⟨he, hw⟩ => ⟨?_, hw.symm⟩
  have hp : Lib.hasPrefix s.data.toList [47] = true := by rw [h]; simp [Lib.hasPrefix, List.isPrefixOf]
  have e1 : (ByteArray.mk #[47]).data.toList = [47] := rfl
  rw [he, e1, hp, Lib.trimPrefix, hp, h]
  rfl
def SpPost (s : ByteArray) (w : World) (e : Ending) (w' : World) : Prop :=
  ∃ xs : List ByteArray, xs.map (·.data.toList) = segs s.data.toList ∧ xs ≠ [] ∧ e = .returned (.slice (some ⟨w.heap.size, 0, none⟩) xs.length xs.length) ∧ (∀ j x, xs[j]? = some x → w'.cell? ⟨w.heap.size, j, none⟩ = some (.string x)) ∧ Below w.heap.size w w' ∧ w.heap.size < w'.heap.size
theorem paSplit (s : ByteArray) (w : World) (hs : s.size ≤ 256) (hm : Ml w) : Calls Tryd.prog 28 #[.string s, .string ⟨#[47]⟩] w (SpPost s w) := by
  obtain ⟨_, m, hm⟩ := hm
  refine (Tryd.strings_Split s ⟨#[47]⟩ m w (by omega) hm (by decide)).mono fun e w' ⟨he, hw⟩ => ?_
  have hl := Lib.splitB_all ⟨#[47]⟩ (by decide) 0 _ s rfl
  refine ⟨Lib.splitB ⟨#[47]⟩ 0 (Lib.countB s ⟨#[47]⟩) s, splitB_segs s, ?_, ?_, ?_, ?_, ?_⟩
  · intro e0; rw [e0] at hl; simp at hl
  · rw [he, hl]
  · intro j x hj
    rw [hw]
    simp [go_sem, hj]
  · rw [hw]; exact (Below.refl _ w).alloc (Nat.le_refl _) _
  · rw [hw]; simp
theorem nmGo_zero (l : List UInt8) : ∀ i, (nmGo l i).2 = 0 → nmGo l i = (0, 0) := by
  induction l with
  | nil => intro i _; rfl
  | cons c t ih =>
    intro i h
    unfold nmGo at h ⊢
    split at h
    · rename_i hc
      rw [if_pos hc]
      split at h
      · cases h
      · rename_i h3; rw [if_neg h3]; exact ih _ h
    · cases h
theorem nmV_zero {l : List UInt8} (h : (nmV l).2 = 0) : nmV l = (0, 0) := by
  unfold nmV at h ⊢
  split at h
  · cases h
  · rename_i hl; rw [if_neg hl]; exact nmGo_zero _ _ h
theorem paName_ok (s : ByteArray) (w : World) (h : (nmV s.data.toList).2 = 0) : Calls Tryd.prog 18 #[.string s] w fun e w' => e = .returned (.tuple #[.int .i64 0, .int .i64 0]) ∧ Below w.heap.size w w' :=
  (paName s w).mono fun e w' ⟨he, hb⟩ => ⟨by rw [he, nmV_zero h]; rfl, hb⟩
theorem paName_no (s : ByteArray) (w : World) (a k : Nat) (h : nmV s.data.toList = (a, k)) : Calls Tryd.prog 18 #[.string s] w fun e w' => e = .returned (.tuple #[.int .i64 a, .int .i64 k]) ∧ Below w.heap.size w w' :=
  (paName s w).mono fun e w' ⟨he, hb⟩ => ⟨by rw [he, h], hb⟩

/-! ### Parse -/
def PsPost (s : ByteArray) (w : World) (e : Ending) (w' : World) : Prop :=
  ∃ v xs, e = .returned (.tuple #[v, .int .i64 (psV s.data.toList).2.1, .int .i64 (psV s.data.toList).2.2]) ∧ xs.map (·.data.toList) = (psV s.data.toList).1 ∧ SRow w' v xs ∧ Below w.heap.size w w'
theorem PsPost.no {s : ByteArray} {w w' : World} (a k : Nat) (h : psV s.data.toList = ([], a, k)) (hb : Below w.heap.size w w') : PsPost s w (.returned (.tuple #[.slice none 0 0, .int .i64 a, .int .i64 k])) w' :=
  ⟨.slice none 0 0, [], by rw [h], by rw [h]; rfl, .inl ⟨rfl, rfl⟩, hb⟩
def PaRel (w : World) (xs : List ByteArray) (t29 t8 : Value) (wr : World) : Prop :=
  ∃ k p : Nat, t29 = .int .i64 k ∧ t8 = .int .i64 p ∧ k ≤ xs.length ∧ k ≤ 8 ∧ p ≤ 1 + 33 * k ∧ pgGo ((xs.map (·.data.toList)).drop k) k p = pgGo (xs.map (·.data.toList)) 0 1 ∧ (∀ j x, xs[j]? = some x → wr.cell? ⟨w.heap.size, j, none⟩ = some (.string x)) ∧ Below w.heap.size w wr ∧ w.heap.size < wr.heap.size
theorem paParse (s : ByteArray) (w : World) (hm : Ml w) (hs : s.size ≤ 9223372036854775807) : Calls Tryd.prog 14 #[.string s] w (PsPost s w) := by
  by_cases hlong : 256 < s.size
  · have HV := hid (show psV s.data.toList = ([], 0, 2) by unfold psV; rw [if_pos (by rw [← ba_size]; exact hlong)])
    go_enter Tryd.func14, Tryd.ntmps14
    go_wp2
    go_ret3
    exact PsPost.no 0 2 HV.out (Below.refl _ _)
  have hsz : s.size ≤ 256 := by omega
  by_cases hno : ∀ t, s.data.toList ≠ 47 :: t
  · have HV := hid (show psV s.data.toList = ([], 0, 90) by
      unfold psV
      rw [if_neg (by rw [← ba_size]; exact hlong)]
      cases hl : s.data.toList with
      | nil => rfl
      | cons c t =>
        have : c ≠ 47 := fun e => hno t (by rw [hl, e])
        simp only [if_neg this])
    have HC := hid (paCut_no s w hno)
    clear hno
    go_enter Tryd.func14, Tryd.ntmps14
    go_wp2_with (go_at_call 27; refine HC.out.mono ?_; rintro e w' ⟨rfl, rfl⟩)
    go_ret3
    exact PsPost.no 0 90 HV.out (Below.refl _ _)
  obtain ⟨t, ht⟩ : ∃ t, s.data.toList = 47 :: t := by
    apply Classical.byContradiction
    intro h
    exact hno fun t e => h ⟨t, e⟩
  have hlt : t.length + 1 = s.size := by rw [ba_size, ht]; rfl
  clear hno
  have HC := hid (paCut_yes s t w ht)
  by_cases ht0 : t = []
  · subst ht0
    have HV := hid (show psV s.data.toList = ([], 0, 0) by rw [ht]; simp [psV])
    clear ht
    go_enter Tryd.func14, Tryd.ntmps14
    go_wp2_with (go_at_call 27; refine HC.out.mono ?_; rintro e w' ⟨rfl, rfl⟩)
    go_ret3
    exact PsPost.no 0 0 HV.out (Below.refl _ _)
  have n1 : t.isEmpty = false := by cases t with | nil => exact absurd rfl ht0 | cons _ _ => rfl
  have HP := hid (show psV s.data.toList = if (pgGo (segs t) 0 1).2 = 0 then (segs t, 0, 0) else ([], (pgGo (segs t) 0 1).1, (pgGo (segs t) 0 1).2) by
    unfold psV
    rw [if_neg (by rw [← ba_size]; exact hlong), ht]
    simp only [if_true, if_neg ht0])
  have HS := hid (paSplit ⟨t.toArray⟩ w (by rw [bs_size]; omega) hm)
  clear ht ht0 hlong hm
  go_enter Tryd.func14, Tryd.ntmps14
  go_wp2_with (first
    | (go_at_call 27; refine HC.out.mono ?_; rintro e w' ⟨rfl, rfl⟩)
    | (go_at_call 28; refine HS.out.mono ?_; rintro e w1 ⟨xs, hx, hne, rfl, hc, hb, hl⟩; have HX := hid hx; have HCe := hid hc; have HB := hid hb; have hne' := hid hne; clear hx hc hb hne))
  go_loopw [29, 8] (fun t29 t8 wr => PaRel w xs t29 t8 wr) (fun t29 _ _ => xs.length - (intOf t29).toNat)
  case atStart => exact ⟨0, 1, rfl, rfl, Nat.zero_le _, by omega, by omega, rfl, HCe.out, HB.out, hl⟩
  case round =>
    obtain ⟨k, p, rfl, rfl, hk, hk8, hp, hg, hc, hb, hl'⟩ := hrel
    have HG := hid hg
    have HC2 := hid hc
    have HB2 := hid hb
    clear hg hc hb
    by_cases hkn : k < xs.length
    · obtain ⟨x, hx⟩ : ∃ x, xs[k]? = some x := ⟨_, List.getElem?_eq_getElem hkn⟩
      have c0 := HC2.out k x hx
      have HD := hid (show (xs.map (·.data.toList)).drop k = x.data.toList :: (xs.map (·.data.toList)).drop (k + 1) by
        rw [List.drop_eq_getElem_cons (by simpa using hkn)]
        congr 1
        rw [List.getElem_map]
        rw [List.getElem?_eq_getElem hkn] at hx
        rw [Option.some.inj hx])
      clear hx
      by_cases he : k = 8
      · have e1 : ((k : Int) == 8) = true := by simp; omega
        have HE := hid he
        clear he
        go_wp2
        go_ret3
        have hv : pgGo (segs t) 0 1 = (p, 2) := by rw [← HX.out, ← HG.out, HD.out, pgGo, if_pos HE.out]
        exact PsPost.no p 2 (by rw [HP.out, hv]; rfl) HB2.out
      · have e1 : ((k : Int) == 8) = false := by simp; omega
        have HE := hid he
        clear he
        by_cases hz : (nmV x.data.toList).2 = 0
        · have hx32 : x.size ≤ 32 := by rw [ba_size]; exact (nmV_ok hz).2.1
          have HN := hid (paName_ok x wr hz)
          have HZ := hid hz
          clear hz
          have hk7 : k ≤ 7 := by simp at e1; omega
          go_wp2_with (go_at_call 18; refine HN.out.mono ?_; rintro e w2 ⟨rfl, hb2⟩; have HB3 := hid hb2; clear hb2)
          go_roundw
          case rel =>
            refine ⟨k + 1, p + x.size + 1, by go_num, by go_num, by omega, by omega, by omega, ?_, ?_, HB2.out.trans (HB3.out.mono (by omega)), by have := HB3.out.size; omega⟩
            · rw [← HG.out, HD.out, pgGo, if_neg HE.out, if_pos HZ.out, ba_size]
            · intro j y hj
              rw [HB3.out.cell (p := ⟨w.heap.size, j, none⟩) hl']
              exact HC2.out j y hj
          case measure => simp [intOf]; omega
        · obtain ⟨a, q, hq⟩ : ∃ a q, nmV x.data.toList = (a, q) := ⟨_, _, rfl⟩
          have ha : a ≤ 32 := by have := nmV_at x.data.toList; rw [hq] at this; exact this
          have hq0 : q ≠ 0 := fun e => hz (by rw [hq]; exact e)
          have HN := hid (paName_no x wr a q hq)
          have HQ := hid hq
          have HZ := hid hz
          have q1 : ((q : Int) == 0) = false := by simp; omega
          have q2 : ((q : Int) != 0) = true := by simp; omega
          have HQ0 := hid hq0
          clear hz hq hq0
          go_wp2_with (go_at_call 18; refine HN.out.mono ?_; rintro e w2 ⟨rfl, hb2⟩; have HB3 := hid hb2; clear hb2)
          go_ret3
          have hv : pgGo (segs t) 0 1 = (p + a, q) := by rw [← HX.out, ← HG.out, HD.out, pgGo, if_neg HE.out, if_neg HZ.out, HQ.out]
          exact PsPost.no (p + a) q (by rw [HP.out, hv, if_neg HQ0.out]) (HB2.out.trans (HB3.out.mono (by omega)))
    · have hkn' : k = xs.length := by omega
      have HK := hid hkn'
      clear hkn'
      go_wp2
      go_ret3
      have hv : pgGo (segs t) 0 1 = (0, 0) := by rw [← HX.out, ← HG.out, List.drop_of_length_le (by rw [HK.out]; simp)]; rfl
      exact ⟨.slice (some ⟨w.heap.size, 0, none⟩) xs.length xs.length, xs, by rw [HP.out, hv]; rfl, by rw [HP.out, hv, HX.out]; rfl, .inr ⟨hne', w.heap.size, 0, xs.length, rfl, Nat.le_refl _, hl', fun j x hj => by rw [Nat.zero_add]; exact HC2.out j x hj⟩, HB2.out⟩
theorem psV_zero {l : List UInt8} (h : (psV l).2.2 = 0) : psV l = ((psV l).1, 0, 0) := by
  unfold psV at h ⊢
  split at h
  · cases h
  · rename_i hl
    rw [if_neg hl]
    cases l with
    | nil => cases h
    | cons c t =>
      simp only at h ⊢
      split at h
      · rename_i hc
        rw [if_pos hc]
        split at h
        · rename_i ht; rw [if_pos ht]
        · rename_i ht
          rw [if_neg ht]
          split at h
          · rename_i hp; rw [if_pos hp]
          · rename_i hp; exact absurd h hp
      · cases h
theorem paParse_none (s : ByteArray) (w : World) (a k : Nat) (hm : Ml w) (hs : s.size ≤ 9223372036854775807) (h : psV s.data.toList = ([], a, k)) :
    Calls Tryd.prog 14 #[.string s] w fun e w' => e = .returned (.tuple #[.slice none 0 0, .int .i64 a, .int .i64 k]) ∧ Below w.heap.size w w' := by
  refine (paParse s w hm hs).mono ?_
  rintro e w' ⟨v, xs, rfl, hx, hr, hb⟩
  rw [h] at hx
  have hx0 : xs = [] := by simpa using hx
  subst hx0
  rcases hr with ⟨_, rfl⟩ | ⟨h0, _⟩
  · exact ⟨by rw [h], hb⟩
  · exact absurd rfl h0
def CoPost (s : ByteArray) (w : World) (e : Ending) (w' : World) : Prop :=
  ∃ b o c xs, e = .returned (.tuple #[.slice (some ⟨b, o, none⟩) xs.length c, .int .i64 0, .int .i64 0]) ∧ xs.map (·.data.toList) = (psV s.data.toList).1 ∧ xs ≠ [] ∧ xs.length ≤ c ∧ xs.length ≤ 8 ∧ b < w'.heap.size ∧ (∀ j x, xs[j]? = some x → w'.cell? ⟨b, o + j, none⟩ = some (.string x)) ∧ Below w.heap.size w w'
theorem paParse_cons (s : ByteArray) (w : World) (hm : Ml w) (hs : s.size ≤ 9223372036854775807) (h0 : (psV s.data.toList).2.2 = 0) (h1 : (psV s.data.toList).1 ≠ []) :
    Calls Tryd.prog 14 #[.string s] w (CoPost s w) := by
  refine (paParse s w hm hs).mono ?_
  rintro e w' ⟨v, xs, rfl, hx, hr, hb⟩
  rcases hr with ⟨rfl, _⟩ | ⟨hne, b, o, c, rfl, hc, hlt, hce⟩
  · exact absurd hx.symm h1
  · have h8 := psV_len s.data.toList
    rw [← hx, List.length_map] at h8
    exact ⟨b, o, c, xs, by rw [psV_zero h0]; rfl, hx, hne, hc, h8, hlt, hce, hb⟩
end Go.Proofs.YtmnolfaejneomaaDoor
