/-
  Package cons, the reference: a byte told, a letter.
-/
import Derived.Test.YtnplkifohocekaaDoorCoC
import Derived.Shelf.RegionOpen
set_option linter.unusedSimpArgs false
set_option linter.unusedVariables false
namespace Go.Proofs.YtnplkifohocekaaDoor.Co
open Go.RowKit Go.Lib Go.Proofs.YtnplkifohocekaaDoor.Bk
set_option maxHeartbeats 2000000
abbrev digS : ByteArray := ⟨#[48, 49, 50, 51, 52, 53, 54, 55, 56, 57, 97, 98, 99, 100, 101, 102]⟩
theorem dig_cut (n : Nat) (h : n < 16) (W : World) : (Instr.slice 9 (.string digS) (some (.int .u8 (n : Int))) (some (.int .u8 ((n : Int) + 1))) none).run Tryd.prog W = .ok (.string ⟨#[digV n]⟩) W := by
  have hz : digS.size = 16 := rfl
  rw [run_slice_string W 9 digS .u8 .u8 n ((n : Int) + 1) Tryd.underlying9 (by omega) (by omega) (by omega)]
  rcases (show n = 0 ∨ n = 1 ∨ n = 2 ∨ n = 3 ∨ n = 4 ∨ n = 5 ∨ n = 6 ∨ n = 7 ∨ n = 8 ∨ n = 9 ∨ n = 10 ∨ n = 11 ∨ n = 12 ∨ n = 13 ∨ n = 14 ∨ n = 15 by omega) with rfl | rfl | rfl | rfl | rfl | rfl | rfl | rfl | rfl | rfl | rfl | rfl | rfl | rfl | rfl | rfl <;> rfl
set_option maxRecDepth 100000 in
theorem rHex (x : UInt8) (w : World) : Calls Tryd.prog 33 #[.int .u8 x.toNat] w fun e w' => e = .returned (.string ⟨(hexV x).toArray⟩) ∧ ∃ n, w' = w.drewN n := by
  have hx256 : (x.toNat : Int) < 256 := by have := UInt8.toNat_lt x; omega
  have hx0 : (0 : Int) ≤ x.toNat := by omega
  obtain ⟨d1, hd1⟩ : ∃ d, digV (x.toNat / 16) = d := ⟨_, rfl⟩
  obtain ⟨d2, hd2⟩ : ∃ d, digV (x.toNat % 16) = d := ⟨_, rfl⟩
  have hi1 := hid (dig_cut (x.toNat / 16) (by omega))
  have hi2 := hid (dig_cut (x.toNat % 16) (by omega))
  rw [hd1] at hi1
  rw [hd2] at hi2
  have HD := hid (show hexV x = [92, 120, d1, d2] by unfold hexV; rw [hd1, hd2])
  clear hd1 hd2
  have i1 : ∀ W, (Instr.slice 9 (.string ⟨#[48, 49, 50, 51, 52, 53, 54, 55, 56, 57, 97, 98, 99, 100, 101, 102]⟩) (some (.int .u8 ((x.toNat : Int) / 16))) (some (.int .u8 ((x.toNat : Int) / 16 + 1))) none).run Tryd.prog W = .ok (.string ⟨#[d1]⟩) W := fun W => by have := hi1.out W; simpa using this
  have i2 : ∀ W, (Instr.slice 9 (.string ⟨#[48, 49, 50, 51, 52, 53, 54, 55, 56, 57, 97, 98, 99, 100, 101, 102]⟩) (some (.int .u8 ((x.toNat : Int) % 16))) (some (.int .u8 ((x.toNat : Int) % 16 + 1))) none).run Tryd.prog W = .ok (.string ⟨#[d2]⟩) W := fun W => by have := hi2.out W; simpa using this
  rw [HD.out]
  have q1 : (x.toNat : Int).tdiv 16 = (x.toNat : Int) / 16 := by rw [Int.tdiv_eq_ediv_of_nonneg hx0]
  have q2 : (x.toNat : Int).tmod 16 = (x.toNat : Int) % 16 := by rw [Int.tmod_eq_emod_of_nonneg hx0]
  go_enter Tryd.func33, Tryd.ntmps33
  go_wp2
  go_region
  go_wp2
  go_ret
  exact ⟨rfl, 1, rfl⟩
theorem letterV_no {c : UInt8} {t : List UInt8} {n v0 : Nat} (hh : headL c.toNat = (n, v0)) (h : n = 0 ∨ tailV (n - 1) v0 t = none) : letterV (c :: t) = (0, 0) := by
  rw [letterV_cons hh]
  split
  · rfl
  · rcases h with h | h
    · omega
    · rw [h]
theorem tailV_short {n v0 : Nat} {t : List UInt8} (h : t.length < n) : tailV n v0 t = none := by
  cases hq : tailV n v0 t with
  | none => rfl
  | some u => have := (tailV_len hq).1; omega
theorem letterV_fit {c : UInt8} {t : List UInt8} {n v0 v : Nat} (hh : headL c.toNat = (n, v0)) (hn : n ≠ 0) (h : tailV (n - 1) v0 t = some v) : letterV (c :: t) = if fitL n v then (n, v) else (0, 0) := by
  rw [letterV_cons hh, if_neg hn, h]
/-- the bytes behind the first one, gone over -/
def LR (L : List UInt8) (n v0 : Nat) (i v : Nat) : Prop := 1 ≤ i ∧ i ≤ n ∧ ((i = 1 ∧ v < 32) ∨ (i = 2 ∧ v < 2048) ∨ (i = 3 ∧ v < 131072) ∨ (i = 4 ∧ v < 8388608)) ∧ tailV (n - i) v (L.drop i) = tailV (n - 1) v0 (L.drop 1)
theorem LR.next {L : List UInt8} {n v0 i v : Nat} (h : LR L n v0 i v) (hi : i < n) (hn : n ≤ 4) (hl : i < L.length) (hx : ¬ ((L.getD i 0).toNat < 128 ∨ 192 ≤ (L.getD i 0).toNat)) : LR L n v0 (i + 1) (64 * v + (L.getD i 0).toNat - 128) := by
  obtain ⟨h1, h2, h3, h4⟩ := h
  refine ⟨by omega, by omega, by omega, ?_⟩
  rw [← h4, show n - i = (n - (i + 1)) + 1 by omega, List.drop_eq_getElem_cons hl, tailV]
  have e : L.getD i 0 = L[i] := by simp [List.getD, List.getElem?_eq_getElem hl]
  rw [e] at hx ⊢
  rw [if_neg hx]
theorem LR.none {L : List UInt8} {n v0 i v : Nat} (h : LR L n v0 i v) (hi : i < n) (hl : i < L.length) (hx : (L.getD i 0).toNat < 128 ∨ 192 ≤ (L.getD i 0).toNat) : tailV (n - 1) v0 (L.drop 1) = Option.none := by
  obtain ⟨h1, h2, h3, h4⟩ := h
  rw [← h4, show n - i = (n - (i + 1)) + 1 by omega, List.drop_eq_getElem_cons hl, tailV]
  have e : L.getD i 0 = L[i] := by simp [List.getD, List.getElem?_eq_getElem hl]
  rw [e] at hx
  rw [if_pos hx]
theorem LR.done {L : List UInt8} {n v0 v : Nat} (h : LR L n v0 n v) : tailV (n - 1) v0 (L.drop 1) = some v := by
  obtain ⟨h1, h2, h3, h4⟩ := h
  rw [← h4, Nat.sub_self, tailV]
def LetPost (L : List UInt8) (w : World) (e : Ending) (w' : World) : Prop := e = .returned (.tuple #[.int .i64 (letterV L).1, .int .i64 (letterV L).2]) ∧ w' = w
theorem LetPost.no {L : List UInt8} {w : World} (h : letterV L = (0, 0)) : LetPost L w (.returned (.tuple #[.int .i64 0, .int .i64 0])) w := ⟨by rw [h]; rfl, rfl⟩
theorem LetPost.yes {L : List UInt8} {w : World} {n v : Nat} {z : Int} (h : letterV L = (n, v)) (hz : z = n) : LetPost L w (.returned (.tuple #[.int .i64 z, .int .i64 v])) w := ⟨by rw [h, hz], rfl⟩
set_option maxRecDepth 100000 in
theorem rLetter2 (c : UInt8) (t : List UInt8) (b o cap : Nat) (w : World) (hl : (c :: t).length ≤ 140737488355328) (hb : BA w (some ⟨b, o, none⟩) (c :: t)) (hc : 194 ≤ c.toNat ∧ c.toNat < 224) :
    Calls Tryd.prog 32 #[.slice (some ⟨b, o, none⟩) (c :: t).length cap] w (LetPost (c :: t) w) := by
  have c0 : w.cell? ⟨b, o, none⟩ = some (.int .u8 c.toNat) := by simpa using hb.at (k := 0) (by simp)
  have HB := hid hb
  have HH := hid (headL_2 hc)
  have h1 : ¬ ((c.toNat : Int) < 128) := by omega
  have h2 : (194 : Int) ≤ c.toNat := by omega
  have h3 : (c.toNat : Int) < 224 := by omega
  have HNO := hid (show (2 = 0 ∨ tailV (2 - 1) (c.toNat - 192) ((c :: t).drop 1) = none) → LetPost (c :: t) w (.returned (.tuple #[.int .i64 0, .int .i64 0])) w from fun h => LetPost.no (w := w) (letterV_no (t := t) (headL_2 hc) h))
  have HFIT := hid (show ∀ v, tailV (2 - 1) (c.toNat - 192) ((c :: t).drop 1) = some v → letterV (c :: t) = if fitL 2 v then (2, v) else (0, 0) from fun v => letterV_fit (t := t) (v := v) (headL_2 hc) (show 2 ≠ 0 by decide))
  generalize hcn : c.toNat = cn at *
  generalize hL : c :: t = L at *
  have h0 : 0 < L.length := by rw [← hL]; simp
  have HV0 := hid (show cn - 192 < 32 by omega)
  have HVI := hid (show (cn : Int) - 192 = ((cn - 192 : Nat) : Int) by omega)
  generalize cn - 192 = v0 at HH HNO HFIT HV0 HVI
  have hll : (L.length : Int) ≤ 140737488355328 := by omega
  have hcn1 : (cn : Int) < 256 := by omega
  clear hb hl hc hcn hL t c
  go_enter Tryd.func32, Tryd.ntmps32
  by_cases hs : L.length < 2
  · have hsi : (L.length : Int) < 2 := by omega
    go_wp2
    go_ret2
    exact HNO.out (.inr (tailV_short (by rw [List.length_drop]; omega)))
  · have hsi : ¬ ((L.length : Int) < 2) := by omega
    go_wp2
    go_loop [6, 7] (fun tv ti => ∃ i v : Nat, tv = .int .i64 v ∧ ti = .int .i64 i ∧ LR L 2 v0 i v) (fun _ ti => 2 - (Lib.intOf ti).toNat)
    case atStart =>
      exact ⟨1, v0, by rw [HVI.out], rfl, by omega, by omega, .inl ⟨rfl, HV0.out⟩, rfl⟩
    case round =>
      obtain ⟨i, v, rfl, rfl, hLR⟩ := hrel
      have HLR := hid hLR
      rename w = w => hww
      clear hww
      have b1 := hLR.1
      have b2 := hLR.2.1
      have b3 := hLR.2.2.1
      clear hLR
      have hvb : (v : Int) ≤ 8388607 := by omega
      clear b3
      by_cases hin : i < 2
      · have hil : i < L.length := by omega
        have cx := HB.out.at hil
        obtain ⟨x, hx⟩ : ∃ x, (L.getD i 0).toNat = x := ⟨_, rfl⟩
        have hx256 : x < 256 := by rw [← hx]; exact UInt8.toNat_lt _
        rw [hx] at cx
        have HX := hid hx
        clear hx
        by_cases hx1 : x < 128
        · have hx1i : (x : Int) < 128 := by omega
          go_wp2
          go_ret2
          exact HNO.out (.inr (HLR.out.none hin hil (.inl (by rw [HX.out]; exact hx1))))
        · by_cases hx2 : 192 ≤ x
          · have hx1i : ¬ (x : Int) < 128 := by omega
            have hx2i : (192 : Int) ≤ x := by omega
            go_wp2
            go_ret2
            exact HNO.out (.inr (HLR.out.none hin hil (.inr (by rw [HX.out]; exact hx2))))
          · have hx1i : ¬ (x : Int) < 128 := by omega
            have hx2i : ¬ (192 : Int) ≤ x := by omega
            go_wp2
            refine ⟨⟨i + 1, 64 * v + x - 128, ?_, ?_, ?_⟩, ?_⟩
            · congr 1; omega
            · go_num
            · have := HLR.out.next hin (by decide) hil (by rw [HX.out]; omega)
              rw [HX.out] at this
              exact this
            · simp [Lib.intOf]; omega
      · obtain rfl : i = 2 := by omega
        have HT := hid (HFIT.out v HLR.out.done)
        go_wp2
        go_ret2
        exact LetPost.yes (HT.out.trans (by rw [if_pos (fit2 v)])) rfl
set_option maxRecDepth 100000 in
theorem rLetter3 (c : UInt8) (t : List UInt8) (b o cap : Nat) (w : World) (hl : (c :: t).length ≤ 140737488355328) (hb : BA w (some ⟨b, o, none⟩) (c :: t)) (hc : 224 ≤ c.toNat ∧ c.toNat < 240) :
    Calls Tryd.prog 32 #[.slice (some ⟨b, o, none⟩) (c :: t).length cap] w (LetPost (c :: t) w) := by
  have c0 : w.cell? ⟨b, o, none⟩ = some (.int .u8 c.toNat) := by simpa using hb.at (k := 0) (by simp)
  have HB := hid hb
  have HH := hid (headL_3 hc)
  have h1 : ¬ ((c.toNat : Int) < 128) := by omega
  have h2 : (224 : Int) ≤ c.toNat := by omega
  have h3 : (c.toNat : Int) < 240 := by omega
  have HNO := hid (show (3 = 0 ∨ tailV (3 - 1) (c.toNat - 224) ((c :: t).drop 1) = none) → LetPost (c :: t) w (.returned (.tuple #[.int .i64 0, .int .i64 0])) w from fun h => LetPost.no (w := w) (letterV_no (t := t) (headL_3 hc) h))
  have HFIT := hid (show ∀ v, tailV (3 - 1) (c.toNat - 224) ((c :: t).drop 1) = some v → letterV (c :: t) = if fitL 3 v then (3, v) else (0, 0) from fun v => letterV_fit (t := t) (v := v) (headL_3 hc) (show 3 ≠ 0 by decide))
  generalize hcn : c.toNat = cn at *
  generalize hL : c :: t = L at *
  have h0 : 0 < L.length := by rw [← hL]; simp
  have HV0 := hid (show cn - 224 < 32 by omega)
  have HVI := hid (show (cn : Int) - 224 = ((cn - 224 : Nat) : Int) by omega)
  generalize cn - 224 = v0 at HH HNO HFIT HV0 HVI
  have hll : (L.length : Int) ≤ 140737488355328 := by omega
  have hcn1 : (cn : Int) < 256 := by omega
  clear hb hl hc hcn hL t c
  go_enter Tryd.func32, Tryd.ntmps32
  by_cases hs : L.length < 3
  · have hsi : (L.length : Int) < 3 := by omega
    go_wp2
    go_ret2
    exact HNO.out (.inr (tailV_short (by rw [List.length_drop]; omega)))
  · have hsi : ¬ ((L.length : Int) < 3) := by omega
    go_wp2
    go_loop [6, 7] (fun tv ti => ∃ i v : Nat, tv = .int .i64 v ∧ ti = .int .i64 i ∧ LR L 3 v0 i v) (fun _ ti => 3 - (Lib.intOf ti).toNat)
    case atStart =>
      exact ⟨1, v0, by rw [HVI.out], rfl, by omega, by omega, .inl ⟨rfl, HV0.out⟩, rfl⟩
    case round =>
      obtain ⟨i, v, rfl, rfl, hLR⟩ := hrel
      have HLR := hid hLR
      rename w = w => hww
      clear hww
      have b1 := hLR.1
      have b2 := hLR.2.1
      have b3 := hLR.2.2.1
      clear hLR
      have hvb : (v : Int) ≤ 8388607 := by omega
      clear b3
      by_cases hin : i < 3
      · have hil : i < L.length := by omega
        have cx := HB.out.at hil
        obtain ⟨x, hx⟩ : ∃ x, (L.getD i 0).toNat = x := ⟨_, rfl⟩
        have hx256 : x < 256 := by rw [← hx]; exact UInt8.toNat_lt _
        rw [hx] at cx
        have HX := hid hx
        clear hx
        by_cases hx1 : x < 128
        · have hx1i : (x : Int) < 128 := by omega
          go_wp2
          go_ret2
          exact HNO.out (.inr (HLR.out.none hin hil (.inl (by rw [HX.out]; exact hx1))))
        · by_cases hx2 : 192 ≤ x
          · have hx1i : ¬ (x : Int) < 128 := by omega
            have hx2i : (192 : Int) ≤ x := by omega
            go_wp2
            go_ret2
            exact HNO.out (.inr (HLR.out.none hin hil (.inr (by rw [HX.out]; exact hx2))))
          · have hx1i : ¬ (x : Int) < 128 := by omega
            have hx2i : ¬ (192 : Int) ≤ x := by omega
            go_wp2
            refine ⟨⟨i + 1, 64 * v + x - 128, ?_, ?_, ?_⟩, ?_⟩
            · congr 1; omega
            · go_num
            · have := HLR.out.next hin (by decide) hil (by rw [HX.out]; omega)
              rw [HX.out] at this
              exact this
            · simp [Lib.intOf]; omega
      · obtain rfl : i = 3 := by omega
        have HT := hid (HFIT.out v HLR.out.done)
        by_cases g1 : v < 2048
        · have g1i : (v : Int) < 2048 := by omega
          go_wp2
          go_ret2
          exact LetPost.no (HT.out.trans (by rw [if_neg]; rw [fit3]; omega))
        · have g1i : ¬ (v : Int) < 2048 := by omega
          by_cases g2 : 55296 ≤ v
          · have g2i : (55296 : Int) ≤ v := by omega
            by_cases g3 : v < 57344
            · have g3i : (v : Int) < 57344 := by omega
              go_wp2
              go_ret2
              exact LetPost.no (HT.out.trans (by rw [if_neg]; rw [fit3]; omega))
            · have g3i : ¬ (v : Int) < 57344 := by omega
              go_wp2
              go_ret2
              exact LetPost.yes (HT.out.trans (by rw [if_pos]; rw [fit3]; omega)) rfl
          · have g2i : ¬ (55296 : Int) ≤ v := by omega
            go_wp2
            go_ret2
            exact LetPost.yes (HT.out.trans (by rw [if_pos]; rw [fit3]; omega)) rfl
set_option maxRecDepth 100000 in
theorem rLetter4 (c : UInt8) (t : List UInt8) (b o cap : Nat) (w : World) (hl : (c :: t).length ≤ 140737488355328) (hb : BA w (some ⟨b, o, none⟩) (c :: t)) (hc : 240 ≤ c.toNat ∧ c.toNat < 245) :
    Calls Tryd.prog 32 #[.slice (some ⟨b, o, none⟩) (c :: t).length cap] w (LetPost (c :: t) w) := by
  have c0 : w.cell? ⟨b, o, none⟩ = some (.int .u8 c.toNat) := by simpa using hb.at (k := 0) (by simp)
  have HB := hid hb
  have HH := hid (headL_4 hc)
  have h1 : ¬ ((c.toNat : Int) < 128) := by omega
  have h2 : (240 : Int) ≤ c.toNat := by omega
  have h3 : (c.toNat : Int) < 245 := by omega
  have HNO := hid (show (4 = 0 ∨ tailV (4 - 1) (c.toNat - 240) ((c :: t).drop 1) = none) → LetPost (c :: t) w (.returned (.tuple #[.int .i64 0, .int .i64 0])) w from fun h => LetPost.no (w := w) (letterV_no (t := t) (headL_4 hc) h))
  have HFIT := hid (show ∀ v, tailV (4 - 1) (c.toNat - 240) ((c :: t).drop 1) = some v → letterV (c :: t) = if fitL 4 v then (4, v) else (0, 0) from fun v => letterV_fit (t := t) (v := v) (headL_4 hc) (show 4 ≠ 0 by decide))
  generalize hcn : c.toNat = cn at *
  generalize hL : c :: t = L at *
  have h0 : 0 < L.length := by rw [← hL]; simp
  have HV0 := hid (show cn - 240 < 32 by omega)
  have HVI := hid (show (cn : Int) - 240 = ((cn - 240 : Nat) : Int) by omega)
  generalize cn - 240 = v0 at HH HNO HFIT HV0 HVI
  have hll : (L.length : Int) ≤ 140737488355328 := by omega
  have hcn1 : (cn : Int) < 256 := by omega
  clear hb hl hc hcn hL t c
  go_enter Tryd.func32, Tryd.ntmps32
  by_cases hs : L.length < 4
  · have hsi : (L.length : Int) < 4 := by omega
    go_wp2
    go_ret2
    exact HNO.out (.inr (tailV_short (by rw [List.length_drop]; omega)))
  · have hsi : ¬ ((L.length : Int) < 4) := by omega
    go_wp2
    go_loop [6, 7] (fun tv ti => ∃ i v : Nat, tv = .int .i64 v ∧ ti = .int .i64 i ∧ LR L 4 v0 i v) (fun _ ti => 4 - (Lib.intOf ti).toNat)
    case atStart =>
      exact ⟨1, v0, by rw [HVI.out], rfl, by omega, by omega, .inl ⟨rfl, HV0.out⟩, rfl⟩
    case round =>
      obtain ⟨i, v, rfl, rfl, hLR⟩ := hrel
      have HLR := hid hLR
      rename w = w => hww
      clear hww
      have b1 := hLR.1
      have b2 := hLR.2.1
      have b3 := hLR.2.2.1
      clear hLR
      have hvb : (v : Int) ≤ 8388607 := by omega
      clear b3
      by_cases hin : i < 4
      · have hil : i < L.length := by omega
        have cx := HB.out.at hil
        obtain ⟨x, hx⟩ : ∃ x, (L.getD i 0).toNat = x := ⟨_, rfl⟩
        have hx256 : x < 256 := by rw [← hx]; exact UInt8.toNat_lt _
        rw [hx] at cx
        have HX := hid hx
        clear hx
        by_cases hx1 : x < 128
        · have hx1i : (x : Int) < 128 := by omega
          go_wp2
          go_ret2
          exact HNO.out (.inr (HLR.out.none hin hil (.inl (by rw [HX.out]; exact hx1))))
        · by_cases hx2 : 192 ≤ x
          · have hx1i : ¬ (x : Int) < 128 := by omega
            have hx2i : (192 : Int) ≤ x := by omega
            go_wp2
            go_ret2
            exact HNO.out (.inr (HLR.out.none hin hil (.inr (by rw [HX.out]; exact hx2))))
          · have hx1i : ¬ (x : Int) < 128 := by omega
            have hx2i : ¬ (192 : Int) ≤ x := by omega
            go_wp2
            refine ⟨⟨i + 1, 64 * v + x - 128, ?_, ?_, ?_⟩, ?_⟩
            · congr 1; omega
            · go_num
            · have := HLR.out.next hin (by decide) hil (by rw [HX.out]; omega)
              rw [HX.out] at this
              exact this
            · simp [Lib.intOf]; omega
      · obtain rfl : i = 4 := by omega
        have HT := hid (HFIT.out v HLR.out.done)
        by_cases g1 : v < 65536
        · have g1i : (v : Int) < 65536 := by omega
          go_wp2
          go_ret2
          exact LetPost.no (HT.out.trans (by rw [if_neg]; rw [fit4]; omega))
        · have g1i : ¬ (v : Int) < 65536 := by omega
          by_cases g2 : 1114111 < v
          · have g2i : (1114111 : Int) < v := by omega
            go_wp2
            go_ret2
            exact LetPost.no (HT.out.trans (by rw [if_neg]; rw [fit4]; omega))
          · have g2i : ¬ (1114111 : Int) < v := by omega
            go_wp2
            go_ret2
            exact LetPost.yes (HT.out.trans (by rw [if_pos]; rw [fit4]; omega)) rfl
set_option maxRecDepth 100000 in
theorem rLetter (L : List UInt8) (p : Option Addr) (cap : Nat) (w : World) (hn : L ≠ []) (hl : L.length ≤ 140737488355328) (hb : BA w p L) :
    Calls Tryd.prog 32 #[.slice p L.length cap] w (LetPost L w) := by
  obtain ⟨c, t, rfl⟩ : ∃ c t, L = c :: t := by cases L with
    | nil => exact absurd rfl hn
    | cons c t => exact ⟨c, t, rfl⟩
  obtain ⟨b, o, rfl⟩ := hb.ptr (by simp)
  by_cases h2 : 194 ≤ c.toNat ∧ c.toNat < 224
  · exact rLetter2 c t b o cap w hl hb h2
  by_cases h3 : 224 ≤ c.toNat ∧ c.toNat < 240
  · exact rLetter3 c t b o cap w hl hb h3
  by_cases h4 : 240 ≤ c.toNat ∧ c.toNat < 245
  · exact rLetter4 c t b o cap w hl hb h4
  have c0 : w.cell? ⟨b, o, none⟩ = some (.int .u8 c.toNat) := by simpa using hb.at (k := 0) (by simp)
  have hcn1 : (c.toNat : Int) < 256 := by have := UInt8.toNat_lt c; omega
  have h0 : 0 < (c :: t).length := by simp
  have hli : ((c :: t).length : Int) ≤ 140737488355328 := by omega
  by_cases h1 : c.toNat < 128
  · have HL := hid (letterV_one (l := t) h1)
    have h1i : (c.toNat : Int) < 128 := by omega
    generalize c.toNat = cn at *
    generalize c :: t = L at *
    clear hb hn h2 h3 h4
    go_enter Tryd.func32, Tryd.ntmps32
    go_wp2
    go_ret2
    exact LetPost.yes HL.out rfl
  · have HL := hid (letterV_no (t := t) (headL_0 h1 h2 h3 h4) (.inl rfl))
    have h1i : ¬ (c.toNat : Int) < 128 := by omega
    generalize c.toNat = cn at *
    generalize c :: t = L at *
    clear hb hn
    go_enter Tryd.func32, Tryd.ntmps32
    by_cases k2 : 194 ≤ cn
    · have k2i : (194 : Int) ≤ cn := by omega
      have k3i : ¬ (cn : Int) < 224 := by omega
      by_cases k4 : 224 ≤ cn
      · have k4i : (224 : Int) ≤ cn := by omega
        have k5i : ¬ (cn : Int) < 240 := by omega
        have k6i : (240 : Int) ≤ cn := by omega
        have k7i : ¬ (cn : Int) < 245 := by omega
        clear h2 h3 h4 k2 k4 h1
        go_wp2
        go_ret2
        exact LetPost.no HL.out
      · omega
    · have k2i : ¬ (194 : Int) ≤ cn := by omega
      have k4i : ¬ (224 : Int) ≤ cn := by omega
      have k6i : ¬ (240 : Int) ≤ cn := by omega
      clear h2 h3 h4 k2 h1
      go_wp2
      go_ret2
      exact LetPost.no HL.out
end Go.Proofs.YtnplkifohocekaaDoor.Co
