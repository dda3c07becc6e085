/-
  Package path: Join of both sides.
-/
import Derived.Test.YtmnolfaejneomaaDoorPaB
import Derived.Test.YtmnolfaejneomaaDoorPaC
set_option linter.unusedSimpArgs false
set_option linter.unusedVariables false
namespace Go.Proofs.YtmnolfaejneomaaDoor
open Go.RowKit
set_option maxHeartbeats 1000000
/-- texts that lie in a row somewhere -/
def SG (w : World) (p : Option Addr) (xs : List ByteArray) : Prop := ∀ j x, xs[j]? = some x → ∃ b o, p = some ⟨b, o, none⟩ ∧ b < w.heap.size ∧ w.cell? ⟨b, o + j, none⟩ = some (.string x)
theorem SG.below {w w' : World} {p : Option Addr} {xs : List ByteArray} (h : SG w p xs) (hb : Below w.heap.size w w') : SG w' p xs := fun j x hj => by
  obtain ⟨b, o, e, hlt, hc⟩ := h j x hj
  exact ⟨b, o, e, by have := hb.size; omega, by rw [hb.cell (p := ⟨b, o + j, none⟩) hlt]; exact hc⟩
def dl (xs : List ByteArray) : List (List UInt8) := xs.map (·.data.toList)
theorem dl_drop {xs : List ByteArray} {k : Nat} {x : ByteArray} (hx : xs[k]? = some x) : (dl xs).drop k = x.data.toList :: (dl xs).drop (k + 1) := by
  have hk := (List.getElem?_eq_some_iff.1 hx).1
  unfold dl
  rw [List.drop_eq_getElem_cons (by simpa using hk)]
  congr 1
  rw [List.getElem_map]
  rw [List.getElem?_eq_getElem hk] at hx
  rw [Option.some.inj hx]
theorem dl_get {xs : List ByteArray} {k : Nat} {x : ByteArray} (hx : xs[k]? = some x) : (dl xs)[k]? = some x.data.toList := by simp [dl, hx]
theorem dl_len (xs : List ByteArray) : (dl xs).length = xs.length := by simp [dl]
theorem jnE_e : ∀ l : List (List UInt8), jnE l = 0 ∨ jnE l = 2 ∨ jnE l = 90
  | [] => .inl rfl
  | x :: r => by
    rw [jnE]
    split
    · exact jnE_e r
    · exact nmV_e x
theorem jnE_all : ∀ {l : List (List UInt8)}, jnE l = 0 → ∀ x ∈ l, (nmV x).2 = 0
  | [], _, x, hx => by cases hx
  | y :: r, h, x, hx => by
    rw [jnE] at h
    split at h
    · rename_i hy
      rcases List.mem_cons.1 hx with rfl | hx
      · exact hy
      · exact jnE_all h x hx
    · rename_i hy; exact absurd h hy
theorem tail_len : ∀ (l : List (List UInt8)), (∀ x ∈ l, x.length ≤ 32) → (Lib.joinTail [47] l).length ≤ 33 * l.length
  | [], _ => by simp [Lib.joinTail]
  | x :: r, h => by
    have := tail_len r fun y hy => h y (List.mem_cons_of_mem _ hy)
    have hx := h x (List.mem_cons_self ..)
    simp only [Lib.joinTail, List.map_cons, List.flatten_cons, List.length_append, List.length_cons, List.length_nil] at this ⊢
    omega
theorem tail_join {l : List (List UInt8)} (h : l ≠ []) : Lib.joinTail [47] l = 47 :: Lib.join l [47] := by
  cases l with
  | nil => exact absurd rfl h
  | cons x r => rw [Lib.join_cons]; simp [Lib.joinTail]
def JnPost (xs : List ByteArray) (w : World) (e : Ending) (w' : World) : Prop :=
  ∃ s : ByteArray, s.data.toList = (jnV (dl xs)).1 ∧ e = .returned (.tuple #[.string s, .int .i64 (jnV (dl xs)).2]) ∧ Below w.heap.size w w'
theorem JnPost.no {xs : List ByteArray} {w w' : World} {k : Nat} (h : jnV (dl xs) = ([], k)) (hb : Below w.heap.size w w') : JnPost xs w (.returned (.tuple #[.string ⟨#[]⟩, .int .i64 k])) w' :=
  ⟨⟨#[]⟩, by rw [h], by rw [h], hb⟩
theorem paJoin (xs : List ByteArray) (p : Option Addr) (c : Nat) (w : World) (hc : xs.length ≤ c) (hl : xs.length ≤ 140737488355328) (hg : SG w p xs) :
    Calls Tryd.prog 15 #[.slice p xs.length c, ] w (JnPost xs w) := by
  by_cases h8 : 8 < xs.length
  · have HV := hid (show jnV (dl xs) = ([], 2) by unfold jnV; rw [if_pos (by rw [dl_len]; exact h8)])
    go_enter Tryd.func15, Tryd.ntmps15
    go_wp2
    go_ret2
    exact JnPost.no HV.out (Below.refl _ _)
  have HV := hid (show jnV (dl xs) = if jnE (dl xs) = 0 then (if 256 < (47 :: Lib.join (dl xs) [47]).length then ([], 2) else (47 :: Lib.join (dl xs) [47], 0)) else ([], jnE (dl xs)) by unfold jnV; rw [if_neg (by rw [dl_len]; exact h8)])
  have HG := hid hg
  clear hg
  go_enter Tryd.func15, Tryd.ntmps15
  go_wp2
  go_loopw [14] (fun t wr => ∃ k : Nat, t = .int .i64 k ∧ k ≤ xs.length ∧ jnE ((dl xs).drop k) = jnE (dl xs) ∧ Below w.heap.size w wr) (fun t _ => xs.length - (intOf t).toNat)
  case atStart => exact ⟨0, rfl, Nat.zero_le _, rfl, Below.refl _ _⟩
  case round =>
    obtain ⟨k, rfl, hk, hj, hb⟩ := hrel
    have HJ := hid hj
    have HB := hid hb
    clear hj hb
    by_cases hkn : k < xs.length
    · obtain ⟨x, hx⟩ : ∃ x, xs[k]? = some x := ⟨_, List.getElem?_eq_getElem hkn⟩
      obtain ⟨b, o, rfl, hlt, hcell⟩ := (HG.out.below HB.out) k x hx
      have HD := hid (dl_drop hx)
      clear hx hlt
      by_cases hz : (nmV x.data.toList).2 = 0
      · have HN := hid (paName_ok x wr hz)
        have HZ := hid hz
        clear hz
        go_wp2_with (go_at_call 18; refine HN.out.mono ?_; rintro e w2 ⟨rfl, hb2⟩; have HB3 := hid hb2; clear hb2)
        go_roundw
        case rel =>
          refine ⟨k + 1, by go_num, by omega, ?_, HB.out.trans (HB3.out.mono HB.out.size)⟩
          rw [← HJ.out, HD.out, jnE, if_pos HZ.out]
        case measure => simp [intOf]; omega
      · obtain ⟨a, q, hq⟩ : ∃ a q, nmV x.data.toList = (a, q) := ⟨_, _, rfl⟩
        have hq0 : q ≠ 0 := fun e => hz (by rw [hq]; exact e)
        have HN := hid (paName_no x wr a q hq)
        have HQ := hid hq
        have HZ := hid hz
        have q1 : ((q : Int) == 0) = false := by simp; omega
        have q2 : ((q : Int) != 0) = true := by simp; omega
        have HQ0 := hid hq0
        clear hz hq hq0
        go_wp2_with (go_at_call 18; refine HN.out.mono ?_; rintro e w2 ⟨rfl, hb2⟩; have HB3 := hid hb2; clear hb2)
        go_ret2
        have hv : jnE (dl xs) = q := by rw [← HJ.out, HD.out, jnE, if_neg HZ.out, HQ.out]
        exact JnPost.no (by rw [HV.out, hv, if_neg HQ0.out]) (HB.out.trans (HB3.out.mono HB.out.size))
    · have HK := hid (show k = xs.length by omega)
      have hv : jnE (dl xs) = 0 := by rw [← HJ.out, List.drop_of_length_le (by rw [HK.out, dl_len]; exact Nat.le_refl _)]; rfl
      have h32 : ∀ x ∈ dl xs, x.length ≤ 32 := fun x hx => (nmV_ok (jnE_all hv x hx)).2.1
      have HH := hid hv
      have HW := hid (show jnV (dl xs) = (if 256 < (47 :: Lib.join (dl xs) [47]).length then ([], 2) else (47 :: Lib.join (dl xs) [47], 0)) by rw [HV.out, if_pos hv])
      clear hv
      by_cases hx0 : xs = []
      · subst hx0
        clear h32 HK
        have HE := hid (Tryd.strings_Join_none p c ⟨#[47]⟩ wr)
        go_wp2_with (go_at_call 29; refine HE.out.mono ?_; rintro e w3 ⟨rfl, rfl⟩)
        go_ret2
        exact ⟨⟨#[47]⟩, by rw [HW.out]; rfl, by rw [HW.out]; rfl, HB.out⟩
      · obtain ⟨j, hj⟩ : ∃ j : List UInt8, j = Lib.join (dl xs) [47] := ⟨_, rfl⟩
        have hlen : j.length ≤ 264 := by
          have h1 := tail_len (dl xs) h32
          rw [tail_join (by unfold dl; simpa using hx0), dl_len, ← hj] at h1
          simp only [List.length_cons] at h1
          omega
        rw [← hj] at HW
        obtain ⟨x0, hx0'⟩ : ∃ x, xs[0]? = some x := ⟨_, List.getElem?_eq_getElem (List.length_pos_iff.2 hx0)⟩
        obtain ⟨b, o, rfl, hlt, _⟩ := (HG.out.below HB.out) 0 x0 hx0'
        have HE := hid (show Calls Tryd.prog 29 #[.slice (some ⟨b, o, none⟩) xs.length c, .string ⟨#[47]⟩] wr fun e w' => e = .returned (.string ⟨j.toArray⟩) ∧ Below wr.heap.size wr w' by
          have := Tryd.strings_Join b o c xs ⟨#[47]⟩ wr (fun i x hi => by
            obtain ⟨b', o', e, _, hc'⟩ := (HG.out.below HB.out) i x hi
            cases e
            exact hc') hlt hl hc (by
            show (Lib.join (dl xs) [47]).length ≤ _
            rw [← hj]; omega)
          rw [show (Lib.join (xs.map (·.data.toList)) (ByteArray.mk #[47]).data.toList) = j from hj.symm] at this
          exact this)
        clear h32 HK hj hx0 hx0' hlt
        by_cases h256 : 256 < (47 :: j).length
        · rw [if_pos h256] at HW
          have h2 : 256 < j.length + 1 := by simpa using h256
          clear h256
          go_wp2_with (go_at_call 29; refine HE.out.mono ?_; rintro e w3 ⟨rfl, hb3⟩; have HB3 := hid hb3; clear hb3)
          go_ret2
          exact JnPost.no HW.out (HB.out.trans (HB3.out.mono HB.out.size))
        · rw [if_neg h256] at HW
          have h2 : ¬ 256 < j.length + 1 := by simpa using h256
          clear h256
          go_wp2_with (go_at_call 29; refine HE.out.mono ?_; rintro e w3 ⟨rfl, hb3⟩; have HB3 := hid hb3; clear hb3)
          go_ret2
          exact ⟨(⟨#[47]⟩ ++ ⟨j.toArray⟩ : ByteArray), by rw [HW.out]; simp, by rw [HW.out]; rfl, HB.out.trans (HB3.out.mono HB.out.size)⟩
theorem rfJoin (xs : List ByteArray) (p : Option Addr) (c : Nat) (w : World) (hl : xs.length ≤ 140737488355328) (hsz : ∀ x ∈ xs, x.size ≤ 9223372036854775807) (hg : SG w p xs) :
    Calls Tryd.prog 22 #[.slice p xs.length c] w (JnPost xs w) := by
  by_cases h8 : 8 < xs.length
  · have HV := hid (show jnV (dl xs) = ([], 2) by unfold jnV; rw [if_pos (by rw [dl_len]; exact h8)])
    go_enter Tryd.func22, Tryd.ntmps22
    go_wp2
    go_ret2
    exact JnPost.no HV.out (Below.refl _ _)
  have HV := hid (show jnV (dl xs) = if jnE (dl xs) = 0 then (if 256 < (47 :: Lib.join (dl xs) [47]).length then ([], 2) else (47 :: Lib.join (dl xs) [47], 0)) else ([], jnE (dl xs)) by unfold jnV; rw [if_neg (by rw [dl_len]; exact h8)])
  have HG := hid hg
  have HSz := hid hsz
  clear hg hsz
  go_enter Tryd.func22, Tryd.ntmps22
  go_wp2
  go_loopw [4, 5] (fun t4 t5 wr => ∃ (k : Nat) (s : ByteArray), t5 = .int .i64 k ∧ t4 = .string s ∧ k ≤ xs.length ∧ s.size ≤ 33 * k ∧ s.data.toList = Lib.joinTail [47] ((dl xs).take k) ∧ (∀ x ∈ (dl xs).take k, (nmV x).2 = 0) ∧ jnE ((dl xs).drop k) = jnE (dl xs) ∧ Below w.heap.size w wr) (fun _ t _ => xs.length - (intOf t).toNat)
  case atStart => exact ⟨0, ⟨#[]⟩, rfl, rfl, Nat.zero_le _, by decide, rfl, by simp, rfl, Below.refl _ _⟩
  case round =>
    obtain ⟨k, s, rfl, rfl, hk, hs, hst, hin, hj, hb⟩ := hrel
    have HJ := hid hj
    have HB := hid hb
    have HST := hid hst
    have HIN := hid hin
    clear hj hb hst hin
    by_cases hkn : k < xs.length
    · obtain ⟨x, hx⟩ : ∃ x, xs[k]? = some x := ⟨_, List.getElem?_eq_getElem hkn⟩
      obtain ⟨b, o, rfl, hlt, hcell⟩ := (HG.out.below HB.out) k x hx
      have HD := hid (dl_drop hx)
      have HX := hid hx
      have hxs := HSz.out x (List.mem_of_getElem? hx)
      clear hx
      by_cases hz : (nmV x.data.toList).2 = 0
      · have HN := hid ((rfName x wr (by omega)).mono fun e w' (h : NmPost x wr e w') => (⟨by rw [h.1, nmV_zero hz]; rfl, h.2⟩ : e = .returned (.tuple #[.int .i64 0, .int .i64 0]) ∧ Below wr.heap.size wr w'))
        have hx32 : x.size ≤ 32 := by rw [ba_size]; exact (nmV_ok hz).2.1
        have HZ := hid hz
        have HC := hid hcell
        clear hz hxs
        go_wp2_with (go_at_call 19; refine HN.out.mono ?_; rintro e w2 ⟨rfl, hb2⟩; have HB3 := hid hb2; replace hcell : w2.cell? ⟨b, o + k, none⟩ = some (.string x) := by rw [hb2.cell (p := ⟨b, o + k, none⟩) hlt]; exact HC.out)
        go_roundw
        case rel =>
          refine ⟨k + 1, (s ++ ⟨#[47]⟩) ++ x, by go_num, rfl, by omega, ?_, ?_, ?_, ?_, HB.out.trans (HB3.out.mono HB.out.size)⟩
          · have e1 : (ByteArray.mk #[47]).size = 1 := rfl
            rw [ByteArray.size_append, ByteArray.size_append, e1]; omega
          · rw [Lib.joinTail_take_succ [47] (dl xs) k x.data.toList (dl_get HX.out), ← HST.out]
            simp
          · intro y hy
            rw [List.take_add_one, dl_get HX.out] at hy
            rcases List.mem_append.1 hy with hy | hy
            · exact HIN.out y hy
            · have hy' : y = x.data.toList := by simpa using hy
              rw [hy']; exact HZ.out
          · rw [← HJ.out, HD.out, jnE, if_pos HZ.out]
        case measure => simp [intOf]; omega
      · obtain ⟨a, q, hq⟩ : ∃ a q, nmV x.data.toList = (a, q) := ⟨_, _, rfl⟩
        have hq0 : q ≠ 0 := fun e => hz (by rw [hq]; exact e)
        have HN := hid ((rfName x wr (by omega)).mono fun e w' (h : NmPost x wr e w') => (⟨by rw [h.1, hq], h.2⟩ : e = .returned (.tuple #[.int .i64 a, .int .i64 q]) ∧ Below wr.heap.size wr w'))
        have HQ := hid hq
        have HZ := hid hz
        have q1 : ((q : Int) == 0) = false := by simp; omega
        have q2 : ((q : Int) != 0) = true := by simp; omega
        have HQ0 := hid hq0
        clear hz hq hq0 hxs
        go_wp2_with (go_at_call 19; refine HN.out.mono ?_; rintro e w2 ⟨rfl, hb2⟩; have HB3 := hid hb2; clear hb2)
        go_ret2
        have hv : jnE (dl xs) = q := by rw [← HJ.out, HD.out, jnE, if_neg HZ.out, HQ.out]
        exact JnPost.no (by rw [HV.out, hv, if_neg HQ0.out]) (HB.out.trans (HB3.out.mono HB.out.size))
    · have HK := hid (show k = xs.length by omega)
      have hv : jnE (dl xs) = 0 := by rw [← HJ.out, List.drop_of_length_le (by rw [HK.out, dl_len]; exact Nat.le_refl _)]; rfl
      have HW := hid (show jnV (dl xs) = (if 256 < (47 :: Lib.join (dl xs) [47]).length then ([], 2) else (47 :: Lib.join (dl xs) [47], 0)) by rw [HV.out, if_pos hv])
      have HT := hid (show s.data.toList = Lib.joinTail [47] (dl xs) by rw [HST.out, List.take_of_length_le (by rw [HK.out, dl_len]; exact Nat.le_refl _)])
      clear hv
      by_cases hx0 : xs = []
      · subst hx0
        have hs0 : s = ⟨#[]⟩ := ba_eq (by rw [HT.out]; rfl)
        subst hs0
        clear HK
        go_wp2
        go_ret2
        exact ⟨⟨#[47]⟩, by rw [HW.out]; rfl, by rw [HW.out]; rfl, HB.out⟩
      · have HE := hid (show s.data.toList = 47 :: Lib.join (dl xs) [47] by rw [HT.out, tail_join (by unfold dl; simpa using hx0)])
        rw [← HE.out, ← ba_size] at HW
        have hne : s ≠ ⟨#[]⟩ := fun e => by have := HE.out; rw [e] at this; cases this
        have n1 := ne_empty hne
        have HNE := hid hne
        clear HK hx0 hne
        by_cases h256 : 256 < s.size
        · rw [if_pos h256] at HW
          go_wp2
          go_ret2
          exact JnPost.no HW.out HB.out
        · rw [if_neg h256] at HW
          go_wp2
          go_ret2
          exact ⟨s, by rw [HW.out], by rw [HW.out]; rfl, HB.out⟩
end Go.Proofs.YtmnolfaejneomaaDoor
