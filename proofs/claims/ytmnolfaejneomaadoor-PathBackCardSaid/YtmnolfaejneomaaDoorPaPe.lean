/-
  Package path: Perms, whole.
-/
import Derived.Test.YtmnolfaejneomaaDoorPaZz
set_option linter.unusedSimpArgs false
set_option linter.unusedVariables false
namespace Go.Proofs.YtmnolfaejneomaaDoor
open Go.RowKit
set_option maxHeartbeats 4000000
def sepd (l : List PD) (m : Nat) : List UInt8 := tacc l m ++ (if 0 < m then [44] else [])
theorem tacc_sep (l : List PD) (m : Nat) : tacc l (m + 1) = sepd l m ++ partV (l.getD m (0, false, false)) := by rw [tacc, sepd]
theorem getD_app {l : List PD} {d : PD} {k : Nat} (hk : k < l.length) : (l ++ [d]).getD k (0, false, false) = l.getD k (0, false, false) := by
  rw [List.getD_eq_getElem?_getD, List.getD_eq_getElem?_getD, List.getElem?_append_left hk]
theorem getD_end (l : List PD) (d : PD) : (l ++ [d]).getD l.length (0, false, false) = d := by
  rw [List.getD_eq_getElem?_getD, List.getElem?_append_right (Nat.le_refl _)]; simp
theorem tacc_app (l : List PD) (d : PD) : ∀ k, k ≤ l.length → tacc (l ++ [d]) k = tacc l k
  | 0, _ => rfl
  | k + 1, h => by rw [tacc, tacc, tacc_app l d k (by omega), getD_app (by omega)]
theorem sepd_app (l : List PD) (d : PD) (k : Nat) (h : k ≤ l.length) : sepd (l ++ [d]) k = sepd l k := by rw [sepd, sepd, tacc_app l d k h]
theorem okAt_app {l : List PD} {d : PD} {j : Nat} (hj : j < l.length) : okAt (l ++ [d]) j = okAt l j := by
  unfold okAt
  rw [getD_app hj, List.take_append_of_le_length (by omega)]
theorem okAt_end (l : List PD) (d : PD) : okAt (l ++ [d]) l.length = (domB d.1 && !hasV l d.1) := by
  unfold okAt
  rw [getD_end, List.take_append_of_le_length (Nat.le_refl _), List.take_of_length_le (Nat.le_refl _)]
structure PInv (t : ByteArray) (pos : Nat) (l : List PD) (nx : PD) (ph m : Nat) : Prop where
  len8 : l.length ≤ 8
  ok : ∀ j, j < l.length → okAt l j = true
  at_ : pos = 3 * m + ph
  p0 : ph = 0 → l.length = m ∧ t.data.toList.take pos = sepd l m
  p1 : ph = 1 → l.length = m ∧ m < 8 ∧ t.data.toList.take pos = sepd l m ++ [UInt8.ofNat (letV nx)]
  p2 : ph = 2 → l.length = m + 1 ∧ t.data.toList.take pos = tacc l (m + 1)
theorem pm_let {c : UInt8} {x y : Bool} (h : pmV (c.toNat : Int) = some (x, y)) (z : Int) : c = UInt8.ofNat (letV (z, x, y)) := by
  have hc : ∀ n : Nat, (c.toNat : Int) = n → c = UInt8.ofNat n := fun n e => by rw [← UInt8.ofNat_toNat (x := c)]; congr 1; omega
  unfold pmV at h
  split at h
  · rename_i e; obtain ⟨rfl, rfl⟩ : false = x ∧ false = y := by simpa using h
    exact hc 110 e
  · split at h
    · rename_i e; obtain ⟨rfl, rfl⟩ : true = x ∧ false = y := by simpa using h
      exact hc 114 e
    · split at h
      · rename_i e; obtain ⟨rfl, rfl⟩ : false = x ∧ true = y := by simpa using h
        exact hc 119 e
      · split at h
        · rename_i e; obtain ⟨rfl, rfl⟩ : true = x ∧ true = y := by simpa using h
          exact hc 98 e
        · cases h
theorem take_at {t : ByteArray} {pos : Nat} (h : pos < t.size) : t.data.toList.take (pos + 1) = t.data.toList.take pos ++ [t[pos]] := by
  rw [List.take_succ_eq_append_getElem (by rw [← ba_size]; exact h)]; rfl
theorem pm_high {r : Int} (h : 128 ≤ r) : pmV r = none := by unfold pmV; rw [if_neg (by omega), if_neg (by omega), if_neg (by omega), if_neg (by omega)]
theorem dom_high {r : Int} (h : 128 ≤ r) : domB (r - 48) = false := by unfold domB; simp; omega
theorem mod3 {pos m ph : Nat} (h : pos = 3 * m + ph) (hp : ph < 3) : (pos : Int).tmod 3 = ph := by rw [Int.tmod_eq_emod_of_nonneg (by omega)]; omega
theorem dig_byte {c : UInt8} (h : domB ((c.toNat : Int) - 48) = true) : c = UInt8.ofNat (48 + ((c.toNat : Int) - 48).toNat) := by
  have := dig_num (r := 0) h
  rw [← UInt8.ofNat_toNat (x := c)]
  congr 1
  rw [UInt8.toNat_ofNat_of_lt' (by have := UInt8.toNat_lt c; omega)]
  omega
abbrev TakeAt (b : Nat) (a r : Int) (W : World) (Q : Ending → World → Prop) : Prop := Calls Tryd.prog 30 #[.pointer (some ⟨b, 0, none⟩), .int .i64 a, .int .i32 r] W Q
theorem tk_step (t : ByteArray) (pos : Nat) (hpos : pos < t.size) (l : List PD) (nx : PD) (ph m : Nat) (hph : ph < 3) (W : World) (b B0 : Nat) (hI : PInv t pos l nx ph m) (hP : PT W b B0 l nx) :
    TakeAt b pos (Utf8.decode t pos).1 W (TkNo W · · b) ∨ ∃ l' nx' ph' m', ph' < 3 ∧ (Utf8.decode t pos).2 = 1 ∧ TakeAt b pos (Utf8.decode t pos).1 W (TkPost b B0 l' nx' W) ∧ PInv t (pos + (Utf8.decode t pos).2) l' nx' ph' m' := by
  have hm := mod3 hI.at_ hph
  have hle := decode_le t pos
  by_cases hc : (t[pos]'hpos).toNat < 128
  · rw [decode_ascii t pos hpos hc]
    have htk := take_at hpos
    generalize (t[pos]'hpos) = c at hc htk
    obtain h0 | h1 | h2 : ph = 0 ∨ ph = 1 ∨ ph = 2 := by omega
    · subst h0
      obtain ⟨hl, ht⟩ := hI.p0 rfl
      by_cases h8 : l.length = 8
      · exact .inl (tk0_full b B0 l nx pos c.toNat W hP (by simpa using hm) h8)
      · cases hr : pmV (c.toNat : Int) with
        | none => exact .inl (tk0_no b B0 l nx pos c.toNat W hP (by simpa using hm) (by have := hI.len8; omega) hr)
        | some xy =>
          obtain ⟨x, y⟩ := xy
          refine .inr ⟨l, (0, x, y), 1, m, by decide, rfl, tk0_yes b B0 l nx pos c.toNat W hP (by simpa using hm) (by have := hI.len8; omega) x y hr, ⟨hI.len8, hI.ok, by have := hI.at_; omega, fun h => (by cases h), fun _ => ⟨hl, by have := hI.len8; omega, ?_⟩, fun h => (by cases h)⟩⟩
          rw [htk, ht, pm_let hr 0]
    · subst h1
      obtain ⟨hl, hm8, ht⟩ := hI.p1 rfl
      have hl8 : l.length < 8 := by omega
      cases hd : domB ((c.toNat : Int) - 48) with
      | false => exact .inl (tk1_no b B0 l nx pos c.toNat W hP (by simpa using hm) hl8 (by omega) (by omega) hd)
      | true =>
        cases hv : hasV l ((c.toNat : Int) - 48) with
        | true => exact .inl (tk1_has b B0 l nx pos c.toNat W hP (by simpa using hm) hl8 (by omega) (by omega) hd hv)
        | false =>
          refine .inr ⟨l ++ [((c.toNat : Int) - 48, nx.2)], ((c.toNat : Int) - 48, nx.2), 2, m, by decide, rfl, tk1_yes b B0 l nx pos c.toNat W hP (by simpa using hm) hl8 (by omega) (by omega) hd hv, ⟨by simp; omega, fun j hj => ?_, by have := hI.at_; omega, fun h => (by cases h), fun h => (by cases h), fun _ => ⟨by simp; omega, ?_⟩⟩⟩
          · by_cases e : j = l.length
            · rw [e, okAt_end]; simp [hd, hv]
            · have : j < l.length := by simp at hj; omega
              rw [okAt_app this]; exact hI.ok j this
          · rw [htk, ht, tacc_sep, sepd_app _ _ _ (by omega), ← hl, getD_end, partV, List.append_assoc]
            congr 1
            rw [← dig_byte hd]
            rfl
    · subst h2
      obtain ⟨hl, ht⟩ := hI.p2 rfl
      by_cases h44 : (c.toNat : Int) = 44
      · refine .inr ⟨l, nx, 0, m + 1, by decide, rfl, tk2_yes b B0 l nx pos c.toNat W hP (by simpa using hm) (.inl h44), ⟨hI.len8, hI.ok, by have := hI.at_; omega, fun _ => ⟨hl, ?_⟩, fun h => (by cases h), fun h => (by cases h)⟩⟩
        rw [htk, ht, sepd, if_pos (by omega)]
        congr 2
        rw [← UInt8.ofNat_toNat (x := c), show c.toNat = 44 by omega]
        rfl
      · exact .inl (tk2_no b B0 l nx pos c.toNat W hP (by simpa using hm) h44 (by omega))
  · have hh := (decode_high t pos hpos (by omega)).1
    generalize (Utf8.decode t pos).1 = r at hh hle
    obtain h0 | h1 | h2 : ph = 0 ∨ ph = 1 ∨ ph = 2 := by omega
    · subst h0
      by_cases h8 : l.length = 8
      · exact .inl (tk0_full b B0 l nx pos r W hP (by simpa using hm) h8)
      · exact .inl (tk0_no b B0 l nx pos r W hP (by simpa using hm) (by have := hI.len8; omega) (pm_high (by omega)))
    · subst h1
      obtain ⟨hl, hm8, ht⟩ := hI.p1 rfl
      exact .inl (tk1_no b B0 l nx pos r W hP (by simpa using hm) (by omega) (by omega) (by omega) (dom_high (by omega)))
    · subst h2
      exact .inl (tk2_no b B0 l nx pos r W hP (by simpa using hm) (by omega) (by omega))
theorem tk_end (t : ByteArray) (l : List PD) (nx : PD) (ph m : Nat) (hph : ph < 3) (W : World) (b B0 : Nat) (hI : PInv t t.size l nx ph m) (hP : PT W b B0 l nx) :
    TakeAt b t.size (-1) W (TkNo W · · b) ∨ (TakeAt b t.size (-1) W (TkPost b B0 l nx W) ∧ txV l = (t.data.toList, 0)) := by
  have hm := mod3 hI.at_ hph
  have hall : t.data.toList.take t.size = t.data.toList := List.take_of_length_le (by rw [ba_size]; exact Nat.le_refl _)
  obtain h0 | h1 | h2 : ph = 0 ∨ ph = 1 ∨ ph = 2 := by omega
  · subst h0
    by_cases h8 : l.length = 8
    · exact .inl (tk0_full b B0 l nx t.size (-1) W hP (by simpa using hm) h8)
    · exact .inl (tk0_no b B0 l nx t.size (-1) W hP (by simpa using hm) (by have := hI.len8; omega) (by decide))
  · subst h1
    obtain ⟨hl, hm8, ht⟩ := hI.p1 rfl
    exact .inl (tk1_no b B0 l nx t.size (-1) W hP (by simpa using hm) (by omega) (by omega) (by omega) (by decide))
  · subst h2
    obtain ⟨hl, ht⟩ := hI.p2 rfl
    refine .inr ⟨tk2_yes b B0 l nx t.size (-1) W hP (by simpa using hm) (.inr rfl), ?_⟩
    rw [txV_yes (fun h => ?_) hI.ok, ← hall, ht, hl]
    rcases h with rfl | h
    · cases hl
    · have := hI.len8; omega
end Go.Proofs.YtmnolfaejneomaaDoor
