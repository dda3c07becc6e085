/-
  Package cons, plain: the letters by the document's words are those of the language's own decoder, and a letter told again has the bytes that it was read from. No walk here.
-/
import Derived.Test.YtnplkifohocekaaDoorCoP
import Derived.Lib.DecodeN
import Derived.Shelf.Unicode.DecodeSlow
import Derived.Lib.RuneBytes
import Derived.Lib.Strings
set_option linter.unusedSimpArgs false
set_option linter.unusedVariables false
namespace Go.Proofs.YtnplkifohocekaaDoor.Co
open Go.Lib
set_option maxHeartbeats 4000000

/-- the letter by four bytes and how many there are -/
def letN (n b0 b1 b2 b3 : Nat) : Nat × Nat :=
  if b0 < 128 then (1, b0)
  else if 194 ≤ b0 ∧ b0 < 224 then (if 1 < n ∧ 128 ≤ b1 ∧ b1 < 192 then (2, 64 * (b0 - 192) + (b1 - 128)) else (0, 0))
  else if 224 ≤ b0 ∧ b0 < 240 then
    (if 2 < n ∧ (128 ≤ b1 ∧ b1 < 192) ∧ (128 ≤ b2 ∧ b2 < 192) ∧ 2048 ≤ 64 * (64 * (b0 - 224) + (b1 - 128)) + (b2 - 128) ∧ (64 * (64 * (b0 - 224) + (b1 - 128)) + (b2 - 128) < 55296 ∨ 57344 ≤ 64 * (64 * (b0 - 224) + (b1 - 128)) + (b2 - 128)) then
      (3, 64 * (64 * (b0 - 224) + (b1 - 128)) + (b2 - 128)) else (0, 0))
  else if 240 ≤ b0 ∧ b0 < 245 then
    (if 3 < n ∧ (128 ≤ b1 ∧ b1 < 192) ∧ (128 ≤ b2 ∧ b2 < 192) ∧ (128 ≤ b3 ∧ b3 < 192) ∧ 65536 ≤ 64 * (64 * (64 * (b0 - 240) + (b1 - 128)) + (b2 - 128)) + (b3 - 128) ∧ 64 * (64 * (64 * (b0 - 240) + (b1 - 128)) + (b2 - 128)) + (b3 - 128) ≤ 1114111 then
      (4, 64 * (64 * (64 * (b0 - 240) + (b1 - 128)) + (b2 - 128)) + (b3 - 128)) else (0, 0))
  else (0, 0)
def bN (l : List UInt8) (k : Nat) : Nat := (l.getD k 0).toNat
theorem headL_1 {c : Nat} (h : c < 128) : headL c = (1, c) := by unfold headL; rw [if_pos h]
theorem headL_2 {c : Nat} (h : 194 ≤ c ∧ c < 224) : headL c = (2, c - 192) := by unfold headL; rw [if_neg (by omega), if_pos h]
theorem headL_3 {c : Nat} (h : 224 ≤ c ∧ c < 240) : headL c = (3, c - 224) := by unfold headL; rw [if_neg (by omega), if_neg (by omega), if_pos h]
theorem headL_4 {c : Nat} (h : 240 ≤ c ∧ c < 245) : headL c = (4, c - 240) := by unfold headL; rw [if_neg (by omega), if_neg (by omega), if_neg (by omega), if_pos h]
theorem headL_0 {c : Nat} (h1 : ¬ c < 128) (h2 : ¬ (194 ≤ c ∧ c < 224)) (h3 : ¬ (224 ≤ c ∧ c < 240)) (h4 : ¬ (240 ≤ c ∧ c < 245)) : headL c = (0, 0) := by
  unfold headL; rw [if_neg h1, if_neg h2, if_neg h3, if_neg h4]
theorem letterV_cons {c : UInt8} {t : List UInt8} {n v0 : Nat} (hh : headL c.toNat = (n, v0)) : letterV (c :: t) = if n = 0 then (0, 0) else match tailV (n - 1) v0 t with
    | none => (0, 0)
    | some v => if fitL n v then (n, v) else (0, 0) := by
  simp only [letterV, hh]
  rfl
theorem fit2 (v : Nat) : fitL 2 v = true := by simp [fitL]
theorem fit3 (v : Nat) : (fitL 3 v = true) = (2048 ≤ v ∧ (v < 55296 ∨ 57344 ≤ v)) := by simp only [fitL]; apply propext; simp
theorem fit4 (v : Nat) : (fitL 4 v = true) = (65536 ≤ v ∧ v ≤ 1114111) := by simp only [fitL]; apply propext; simp
theorem letterV_letN (c : UInt8) (t : List UInt8) : letterV (c :: t) = letN (c :: t).length (bN (c :: t) 0) (bN (c :: t) 1) (bN (c :: t) 2) (bN (c :: t) 3) := by
  have e0 : bN (c :: t) 0 = c.toNat := rfl
  rw [e0]
  by_cases h1 : c.toNat < 128
  · rw [letterV_one h1]; unfold letN; rw [if_pos h1]
  by_cases h2 : 194 ≤ c.toNat ∧ c.toNat < 224
  · unfold letN
    rw [letterV_cons (headL_2 h2), if_neg h1, if_pos h2]
    rcases t with _ | ⟨x, t⟩
    · simp [tailV]
    · rw [if_neg (show ¬ (2 = 0) by omega)]
      by_cases hx : x.toNat < 128 ∨ 192 ≤ x.toNat
      · simp only [tailV, if_pos hx]
        rw [if_neg]
        simp only [bN, List.getD_cons_succ, List.getD_cons_zero]
        omega
      · simp only [tailV, if_neg hx, fit2, if_true]
        rw [if_pos]
        · simp only [bN, List.getD_cons_succ, List.getD_cons_zero]
          simp
          omega
        · simp only [bN, List.getD_cons_succ, List.getD_cons_zero, List.length_cons]
          omega
  by_cases h3 : 224 ≤ c.toNat ∧ c.toNat < 240
  · unfold letN
    rw [letterV_cons (headL_3 h3), if_neg h1, if_neg h2, if_pos h3]
    rcases t with _ | ⟨x, _ | ⟨y, t⟩⟩
    · simp [tailV]
    · simp [tailV]
    · simp only [tailV, bN, List.getD_cons_succ, List.getD_cons_zero, List.length_cons, fit2, fit3, fit4]
      split
      · rename_i e; simp at e
      · split
        · rename_i hx; split at hx
          · rw [if_neg (by omega)]
          · split at hx
            · rw [if_neg (by omega)]
            · simp at hx
        · rename_i v hv
          split at hv
          · simp at hv
          · split at hv
            · simp at hv
            · simp at hv
              subst hv
              rw [show 64 * (64 * (c.toNat - 224) + x.toNat - 128) + y.toNat - 128 = 64 * (64 * (c.toNat - 224) + (x.toNat - 128)) + (y.toNat - 128) by omega]
              by_cases hf : 2048 ≤ 64 * (64 * (c.toNat - 224) + (x.toNat - 128)) + (y.toNat - 128) ∧ (64 * (64 * (c.toNat - 224) + (x.toNat - 128)) + (y.toNat - 128) < 55296 ∨ 57344 ≤ 64 * (64 * (c.toNat - 224) + (x.toNat - 128)) + (y.toNat - 128))
              · rw [if_pos hf, if_pos (by omega)]
              · rw [if_neg hf, if_neg (by omega)]
  by_cases h4 : 240 ≤ c.toNat ∧ c.toNat < 245
  · unfold letN
    rw [letterV_cons (headL_4 h4), if_neg h1, if_neg h2, if_neg h3, if_pos h4]
    rcases t with _ | ⟨x, _ | ⟨y, _ | ⟨z, t⟩⟩⟩
    · simp [tailV]
    · simp [tailV]
    · simp [tailV]
    · simp only [tailV, bN, List.getD_cons_succ, List.getD_cons_zero, List.length_cons, fit2, fit3, fit4]
      split
      · rename_i e; simp at e
      · split
        · rename_i hx; split at hx
          · rw [if_neg (by omega)]
          · split at hx
            · rw [if_neg (by omega)]
            · split at hx
              · rw [if_neg (by omega)]
              · simp at hx
        · rename_i v hv
          split at hv
          · simp at hv
          · split at hv
            · simp at hv
            · split at hv
              · simp at hv
              · simp at hv
                subst hv
                rw [show 64 * (64 * (64 * (c.toNat - 240) + x.toNat - 128) + y.toNat - 128) + z.toNat - 128 = 64 * (64 * (64 * (c.toNat - 240) + (x.toNat - 128)) + (y.toNat - 128)) + (z.toNat - 128) by omega]
                by_cases hf : 65536 ≤ 64 * (64 * (64 * (c.toNat - 240) + (x.toNat - 128)) + (y.toNat - 128)) + (z.toNat - 128) ∧ 64 * (64 * (64 * (c.toNat - 240) + (x.toNat - 128)) + (y.toNat - 128)) + (z.toNat - 128) ≤ 1114111
                · rw [if_pos hf, if_pos (by omega)]
                · rw [if_neg hf, if_neg (by omega)]
  · unfold letN
    rw [letterV_cons (headL_0 h1 h2 h3 h4), if_neg h1, if_neg h2, if_neg h3, if_neg h4]
    rfl
set_option maxRecDepth 100000
theorem letN_decodeN (n b0 b1 b2 b3 : Nat) (hn : 1 ≤ n) (h0 : b0 < 256) (h1 : b1 < 256) (h2 : b2 < 256) (h3 : b3 < 256) :
    decodeN n b0 b1 b2 b3 = if (letN n b0 b1 b2 b3).1 = 0 then (65533, 1) else ((letN n b0 b1 b2 b3).2, (letN n b0 b1 b2 b3).1) := by
  by_cases c1 : b0 < 128
  · unfold decodeN letN; rw [if_pos c1, if_pos c1]; rfl
  by_cases c2 : 194 ≤ b0 ∧ b0 < 224
  · by_cases hc : 1 < n ∧ 128 ≤ b1 ∧ b1 < 192
    · have e : letN n b0 b1 b2 b3 = (2, 64 * (b0 - 192) + (b1 - 128)) := by unfold letN; rw [if_neg c1, if_pos c2, if_pos hc]
      rw [e]
      show decodeN n b0 b1 b2 b3 = (64 * (b0 - 192) + (b1 - 128), 2)
      unfold decodeN
      rw [if_neg c1, if_pos (show b0 / 32 = 6 ∧ (1 < n ∧ b1 / 64 = 2) by omega), if_pos (by omega)]
      exact Prod.ext (by simp only; omega) rfl
    · have e : letN n b0 b1 b2 b3 = (0, 0) := by unfold letN; rw [if_neg c1, if_pos c2, if_neg hc]
      rw [e]
      show decodeN n b0 b1 b2 b3 = (65533, 1)
      unfold decodeN
      rw [if_neg c1]
      by_cases hb : b0 / 32 = 6 ∧ (1 < n ∧ b1 / 64 = 2)
      · rw [if_pos hb, if_neg (by omega)]
      · rw [if_neg hb, if_neg (by omega), if_neg (by omega)]
  by_cases c3 : 224 ≤ b0 ∧ b0 < 240
  · by_cases hc : 2 < n ∧ (128 ≤ b1 ∧ b1 < 192) ∧ (128 ≤ b2 ∧ b2 < 192) ∧ 2048 ≤ 64 * (64 * (b0 - 224) + (b1 - 128)) + (b2 - 128) ∧ (64 * (64 * (b0 - 224) + (b1 - 128)) + (b2 - 128) < 55296 ∨ 57344 ≤ 64 * (64 * (b0 - 224) + (b1 - 128)) + (b2 - 128))
    · have e : letN n b0 b1 b2 b3 = (3, 64 * (64 * (b0 - 224) + (b1 - 128)) + (b2 - 128)) := by unfold letN; rw [if_neg c1, if_neg c2, if_pos c3, if_pos hc]
      rw [e]
      show decodeN n b0 b1 b2 b3 = (64 * (64 * (b0 - 224) + (b1 - 128)) + (b2 - 128), 3)
      unfold decodeN
      rw [if_neg c1, if_neg (by omega), if_pos (show b0 / 16 = 14 ∧ (1 < n ∧ b1 / 64 = 2) ∧ (2 < n ∧ b2 / 64 = 2) by omega), if_pos (by omega)]
      exact Prod.ext (by simp only; omega) rfl
    · have e : letN n b0 b1 b2 b3 = (0, 0) := by unfold letN; rw [if_neg c1, if_neg c2, if_pos c3, if_neg hc]
      rw [e]
      show decodeN n b0 b1 b2 b3 = (65533, 1)
      unfold decodeN
      rw [if_neg c1, if_neg (by omega)]
      by_cases hb : b0 / 16 = 14 ∧ (1 < n ∧ b1 / 64 = 2) ∧ (2 < n ∧ b2 / 64 = 2)
      · rw [if_pos hb, if_neg (by omega)]
      · rw [if_neg hb, if_neg (by omega)]
  by_cases c4 : 240 ≤ b0 ∧ b0 < 245
  · by_cases hc : 3 < n ∧ (128 ≤ b1 ∧ b1 < 192) ∧ (128 ≤ b2 ∧ b2 < 192) ∧ (128 ≤ b3 ∧ b3 < 192) ∧ 65536 ≤ 64 * (64 * (64 * (b0 - 240) + (b1 - 128)) + (b2 - 128)) + (b3 - 128) ∧ 64 * (64 * (64 * (b0 - 240) + (b1 - 128)) + (b2 - 128)) + (b3 - 128) ≤ 1114111
    · have e : letN n b0 b1 b2 b3 = (4, 64 * (64 * (64 * (b0 - 240) + (b1 - 128)) + (b2 - 128)) + (b3 - 128)) := by unfold letN; rw [if_neg c1, if_neg c2, if_neg c3, if_pos c4, if_pos hc]
      rw [e]
      show decodeN n b0 b1 b2 b3 = (64 * (64 * (64 * (b0 - 240) + (b1 - 128)) + (b2 - 128)) + (b3 - 128), 4)
      unfold decodeN
      rw [if_neg c1, if_neg (by omega), if_neg (by omega), if_pos (show b0 / 8 = 30 ∧ (1 < n ∧ b1 / 64 = 2) ∧ (2 < n ∧ b2 / 64 = 2) ∧ (3 < n ∧ b3 / 64 = 2) by omega), if_pos (by omega)]
      exact Prod.ext (by simp only; omega) rfl
    · have e : letN n b0 b1 b2 b3 = (0, 0) := by unfold letN; rw [if_neg c1, if_neg c2, if_neg c3, if_pos c4, if_neg hc]
      rw [e]
      show decodeN n b0 b1 b2 b3 = (65533, 1)
      unfold decodeN
      rw [if_neg c1, if_neg (by omega), if_neg (by omega)]
      by_cases hb : b0 / 8 = 30 ∧ (1 < n ∧ b1 / 64 = 2) ∧ (2 < n ∧ b2 / 64 = 2) ∧ (3 < n ∧ b3 / 64 = 2)
      · rw [if_pos hb, if_neg (by omega)]
      · rw [if_neg hb]
  · have e : letN n b0 b1 b2 b3 = (0, 0) := by unfold letN; rw [if_neg c1, if_neg c2, if_neg c3, if_neg c4]
    rw [e]
    show decodeN n b0 b1 b2 b3 = (65533, 1)
    unfold decodeN
    rw [if_neg c1]
    by_cases d1 : b0 / 32 = 6 ∧ (1 < n ∧ b1 / 64 = 2)
    · rw [if_pos d1, if_neg (by omega)]
    · rw [if_neg d1, if_neg (by omega)]
      by_cases d2 : b0 / 8 = 30 ∧ (1 < n ∧ b1 / 64 = 2) ∧ (2 < n ∧ b2 / 64 = 2) ∧ (3 < n ∧ b3 / 64 = 2)
      · rw [if_pos d2, if_neg (by omega)]
      · rw [if_neg d2]
theorem get_bN (s : ByteArray) (pos k : Nat) : (s.get! (pos + k)).toNat = bN (s.data.toList.drop pos) k := by
  unfold bN
  rw [List.getD_eq_getElem?_getD, List.getElem?_drop, Array.getElem?_toList]
  show (s.data[pos + k]!).toNat = _
  rw [getElem!_def]
  cases s.data[pos + k]? <;> rfl
theorem bN_lt (l : List UInt8) (k : Nat) : bN l k < 256 := UInt8.toNat_lt _
/-- what the language's decoder tells of a letter's place -/
def decV (l : List UInt8) : Nat × Nat := if (letterV l).1 = 0 then (65533, 1) else ((letterV l).2, (letterV l).1)
theorem decode_let (s : ByteArray) (pos : Nat) (h : pos < s.size) : Utf8.decode s pos = decV (s.data.toList.drop pos) := by
  rw [Lib.decode_at]
  have hl : (s.data.toList.drop pos).length = s.size - pos := by rw [List.length_drop, Array.length_toList]; rfl
  have h0 := get_bN s pos 0
  rw [Nat.add_zero] at h0
  rw [h0, get_bN s pos 1, get_bN s pos 2, get_bN s pos 3, letN_decodeN _ _ _ _ _ (by omega) (bN_lt _ _) (bN_lt _ _) (bN_lt _ _) (bN_lt _ _)]
  unfold decV
  rw [← hl]
  generalize s.data.toList.drop pos = l at hl
  cases l with
  | nil => simp at hl; omega
  | cons c t => rw [letterV_letN]
theorem decodeGo_let (s : ByteArray) (h : 0 < s.size) : Lib.decodeGo s = decV s.data.toList := by
  unfold Lib.decodeGo
  rw [if_neg (by omega), decode_let s 0 h]
  rfl
theorem decV_step (l : List UInt8) : (decV l).2 = stepV l := by
  unfold decV stepV
  split <;> simp only <;> omega
theorem take1 {l : List UInt8} (h : 0 < l.length) : l.take 1 = [l.getD 0 0] := by
  rcases l with _ | ⟨a, l⟩
  · simp at h
  · rfl
theorem take2 {l : List UInt8} (h : 1 < l.length) : l.take 2 = [l.getD 0 0, l.getD 1 0] := by
  rcases l with _ | ⟨a, _ | ⟨b, l⟩⟩
  · simp at h
  · simp at h
  · rfl
theorem take3 {l : List UInt8} (h : 2 < l.length) : l.take 3 = [l.getD 0 0, l.getD 1 0, l.getD 2 0] := by
  rcases l with _ | ⟨a, _ | ⟨b, _ | ⟨c, l⟩⟩⟩
  · simp at h
  · simp at h
  · simp at h
  · rfl
theorem take4 {l : List UInt8} (h : 3 < l.length) : l.take 4 = [l.getD 0 0, l.getD 1 0, l.getD 2 0, l.getD 3 0] := by
  rcases l with _ | ⟨a, _ | ⟨b, _ | ⟨c, _ | ⟨d, l⟩⟩⟩⟩
  · simp at h
  · simp at h
  · simp at h
  · simp at h
  · rfl
theorem u8_of {x : UInt8} {z : Int} (h : z = x.toNat) : z.toNat.toUInt8 = x := by
  subst h
  simp
/-- a letter told again has the bytes that it was read from -/
theorem enc_let (l : List UInt8) (h : l ≠ []) (hn : 0 < (letterV l).1) : Lib.encodeRune ((letterV l).2 : Int) = l.take (letterV l).1 := by
  obtain ⟨c, t, rfl⟩ : ∃ c t, l = c :: t := by cases l with
    | nil => exact absurd rfl h
    | cons c t => exact ⟨c, t, rfl⟩
  rw [letterV_letN] at hn ⊢
  generalize hL : c :: t = L at hn ⊢
  have b0 := bN_lt L 0
  have b1 := bN_lt L 1
  have b2 := bN_lt L 2
  have b3 := bN_lt L 3
  have hl : 0 < L.length := by rw [← hL]; simp
  unfold letN at hn ⊢
  unfold Lib.encodeRune
  by_cases c1 : bN L 0 < 128
  · rw [if_pos c1]
    simp only
    rw [Lib.encodeRuneZ_one (by omega) (by omega), take1 hl]
    simp only [List.map_cons, List.map_nil]
    rw [u8_of (x := L.getD 0 0) (show _ = ((bN L 0 : Nat) : Int) from rfl)]
  rw [if_neg c1] at hn ⊢
  by_cases c2 : 194 ≤ bN L 0 ∧ bN L 0 < 224
  · rw [if_pos c2] at hn ⊢
    split at hn
    · rename_i hc
      rw [if_pos hc]
      simp only
      rw [Lib.encodeRuneZ_two (by omega) (by omega), take2 hc.1]
      simp only [List.map_cons, List.map_nil]
      rw [u8_of (x := L.getD 0 0) (show _ = ((bN L 0 : Nat) : Int) by omega), u8_of (x := L.getD 1 0) (show _ = ((bN L 1 : Nat) : Int) by omega)]
    · simp at hn
  rw [if_neg c2] at hn ⊢
  by_cases c3 : 224 ≤ bN L 0 ∧ bN L 0 < 240
  · rw [if_pos c3] at hn ⊢
    split at hn
    · rename_i hc
      rw [if_pos hc]
      simp only
      rw [Lib.encodeRuneZ_three (by omega), take3 hc.1]
      simp only [List.map_cons, List.map_nil]
      rw [u8_of (x := L.getD 0 0) (show _ = ((bN L 0 : Nat) : Int) by omega), u8_of (x := L.getD 1 0) (show _ = ((bN L 1 : Nat) : Int) by omega), u8_of (x := L.getD 2 0) (show _ = ((bN L 2 : Nat) : Int) by omega)]
    · simp at hn
  rw [if_neg c3] at hn ⊢
  by_cases c4 : 240 ≤ bN L 0 ∧ bN L 0 < 245
  · rw [if_pos c4] at hn ⊢
    split at hn
    · rename_i hc
      rw [if_pos hc]
      simp only
      rw [Lib.encodeRuneZ_four (by omega) (by omega), take4 hc.1]
      simp only [List.map_cons, List.map_nil]
      rw [u8_of (x := L.getD 0 0) (show _ = ((bN L 0 : Nat) : Int) by omega), u8_of (x := L.getD 1 0) (show _ = ((bN L 1 : Nat) : Int) by omega), u8_of (x := L.getD 2 0) (show _ = ((bN L 2 : Nat) : Int) by omega), u8_of (x := L.getD 3 0) (show _ = ((bN L 3 : Nat) : Int) by omega)]
    · simp at hn
  · rw [if_neg c4] at hn
    simp at hn
/-- is the byte, or the letter, that begins here hidden? -/
def hideV (l : List UInt8) : Bool := ((decV l).1 == 65533 && (decV l).2 == 1) || !goodV (decV l).1
theorem letterV_n {l : List UInt8} (h : l ≠ []) : (letterV l).1 = 0 ∧ letterV l = (0, 0) ∨ ((letterV l).1 = 1 ∧ (letterV l).2 < 128) ∨ 2 ≤ (letterV l).1 := by
  obtain ⟨c, t, rfl⟩ : ∃ c t, l = c :: t := by cases l with
    | nil => exact absurd rfl h
    | cons c t => exact ⟨c, t, rfl⟩
  rw [letterV_letN]
  generalize bN (c :: t) 0 = b0
  generalize bN (c :: t) 1 = b1
  generalize bN (c :: t) 2 = b2
  generalize bN (c :: t) 3 = b3
  generalize (c :: t).length = n
  unfold letN
  split
  · exact .inr (.inl ⟨rfl, by simpa⟩)
  split
  · split
    · exact .inr (.inr (by simp))
    · exact .inl ⟨rfl, rfl⟩
  split
  · split
    · exact .inr (.inr (by simp))
    · exact .inl ⟨rfl, rfl⟩
  split
  · split
    · exact .inr (.inr (by simp))
    · exact .inl ⟨rfl, rfl⟩
  · exact .inl ⟨rfl, rfl⟩
theorem decV_lt {l : List UInt8} (h : l ≠ []) : (decV l).1 < 1114112 ∧ 1 ≤ (decV l).2 ∧ (decV l).2 ≤ l.length := by
  have hs := decV_step l
  have h1 := stepV_pos l
  have h2 := stepV_len h
  refine ⟨?_, by omega, by omega⟩
  unfold decV
  split
  · decide
  · rename_i hn
    obtain ⟨c, t, rfl⟩ : ∃ c t, l = c :: t := by cases l with
      | nil => exact absurd rfl h
      | cons c t => exact ⟨c, t, rfl⟩
    simp only
    rw [letterV_letN] at hn ⊢
    have b0 := bN_lt (c :: t) 0
    have b1 := bN_lt (c :: t) 1
    have b2 := bN_lt (c :: t) 2
    have b3 := bN_lt (c :: t) 3
    generalize bN (c :: t) 0 = b0 at *
    generalize bN (c :: t) 1 = b1 at *
    generalize bN (c :: t) 2 = b2 at *
    generalize bN (c :: t) 3 = b3 at *
    unfold letN
    repeat' split
    all_goals (simp only; omega)
/-- what is hidden is told byte by byte, and no byte of it is a backslash -/
theorem piece_hide {l : List UInt8} (h : l ≠ []) (hh : hideV l = true) : pieceV l = (l.take (decV l).2).flatMap hexV ∧ ∀ x ∈ l.take (decV l).2, x ≠ 92 := by
  have hs := decV_step l
  rcases letterV_n h with ⟨e1, e2⟩ | ⟨e1, e2⟩ | e1
  · have hd : decV l = (65533, 1) := by unfold decV; rw [if_pos e1]
    have hst : stepV l = 1 := by rw [← hs, hd]
    refine ⟨?_, ?_⟩
    · unfold pieceV
      rw [e2, hd]
      rfl
    · rw [hd]
      obtain ⟨c, t, rfl⟩ : ∃ c t, l = c :: t := by cases l with
        | nil => exact absurd rfl h
        | cons c t => exact ⟨c, t, rfl⟩
      intro x hx e
      simp only [List.take_succ_cons, List.take_zero, List.mem_singleton] at hx
      subst hx
      subst e
      rw [letterV_one (by decide)] at e1
      simp at e1
  · obtain ⟨c, t, rfl⟩ : ∃ c t, l = c :: t := by cases l with
      | nil => exact absurd rfl h
      | cons c t => exact ⟨c, t, rfl⟩
    have hd : decV (c :: t) = ((letterV (c :: t)).2, 1) := by unfold decV; rw [if_neg (by omega), e1]
    have hc : c.toNat < 128 ∧ (letterV (c :: t)).2 = c.toNat := by
      by_cases hc : c.toNat < 128
      · exact ⟨hc, by rw [letterV_one hc]⟩
      · exfalso
        rw [letterV_letN] at e1
        have e0 : bN (c :: t) 0 = c.toNat := rfl
        rw [e0] at e1
        unfold letN at e1
        rw [if_neg hc] at e1
        repeat' split at e1
        all_goals simp at e1
    unfold hideV at hh
    rw [hd] at hh ⊢
    rw [hc.2] at hh ⊢
    have hne : ((c.toNat == 65533) = false) := by simp; omega
    have hg : goodV c.toNat = false := by simpa [hne] using hh
    refine ⟨?_, ?_⟩
    · unfold pieceV
      rw [e1, hc.2]
      have : c.toNat ≠ 92 := fun e => by rw [e] at hg; revert hg; decide
      simp only
      rw [if_neg this, hg]
      rfl
    · intro x hx e
      simp only [List.take_succ_cons, List.take_zero, List.mem_singleton] at hx
      subst hx
      subst e
      revert hg
      decide
  · have hn0 : (letterV l).1 ≠ 0 := by omega
    have hd : decV l = ((letterV l).2, (letterV l).1) := by unfold decV; rw [if_neg hn0]
    have hbig : ∀ x ∈ l.take (letterV l).1, 128 ≤ x.toNat := by
      obtain ⟨c, t, rfl⟩ : ∃ c t, l = c :: t := by cases l with
        | nil => exact absurd rfl h
        | cons c t => exact ⟨c, t, rfl⟩
      have hc : ¬ c.toNat < 128 := fun hc => by rw [letterV_one hc] at e1; simp at e1
      rcases letterV_is (c := c) (l := t) with e | ⟨v, ht, e, hp⟩
      · rw [e] at e1; simp at e1
      · obtain ⟨_, hk⟩ := tailV_len ht
        rw [e]
        intro x hx
        obtain ⟨k, hk1⟩ : ∃ k, (headL c.toNat).1 = k + 1 := ⟨(headL c.toNat).1 - 1, by omega⟩
        simp only [hk1, List.take_succ_cons, List.mem_cons] at hx
        rcases hx with rfl | hx
        · omega
        · exact hk x (by rw [hk1]; exact hx)
    unfold hideV at hh
    rw [hd] at hh ⊢
    have hne : (((letterV l).1 == 1) = false) := by simp; omega
    have hg : goodV (letterV l).2 = false := by simpa [hne] using hh
    refine ⟨?_, ?_⟩
    · unfold pieceV
      have : (letterV l).2 ≠ 92 := fun e => by rw [e] at hg; revert hg; decide
      simp only
      rw [if_neg this, hg, Nat.max_eq_left (show 1 ≤ (letterV l).1 by omega)]
      simp
    · intro x hx e
      have := hbig x hx
      rw [e] at this
      revert this
      decide
theorem piece_back {l : List UInt8} (_ : hideV l = false) (h92 : (decV l).1 = 92) : pieceV l = [92, 92] := by
  unfold decV at h92
  split at h92
  · simp at h92
  · unfold pieceV
    simp only at h92 ⊢
    rw [if_pos h92]
theorem piece_self {l : List UInt8} (h : l ≠ []) (hh : hideV l = false) (h92 : (decV l).1 ≠ 92) : pieceV l = Lib.encodeRune ((decV l).1 : Int) := by
  unfold hideV at hh
  by_cases hn : (letterV l).1 = 0
  · have hd : decV l = (65533, 1) := by unfold decV; rw [if_pos hn]
    rw [hd] at hh
    exact absurd hh (by decide)
  · have hd : decV l = ((letterV l).2, (letterV l).1) := by unfold decV; rw [if_neg hn]
    rw [hd] at hh h92 ⊢
    simp only [Bool.or_eq_false_iff, Bool.not_eq_false'] at hh
    unfold pieceV
    simp only
    rw [if_neg h92, hh.2, enc_let l h (by omega)]
    simp
    omega
end Go.Proofs.YtnplkifohocekaaDoor.Co
