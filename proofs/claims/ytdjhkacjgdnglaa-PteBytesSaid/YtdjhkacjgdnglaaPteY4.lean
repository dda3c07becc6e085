/-
  Byte by byte and run by run: the same. No walk of code here.
-/
import Derived.Test.YtdjhkacjgdnglaaPteY3
import Derived.Test.YtdjhkacjgdnglaaPteV
namespace Go.Proofs.Ytdjhkacjgdnglaa
open Go.RowKit
set_option maxHeartbeats 1000000

theorem mks_getD {off m1 m2 n j : Nat} (h : j < n) : (mks off m1 m2 n).getD j 0 = mkK off m1 m2 j := by simp [mks, List.getD, h]
theorem oks_getD {off n j : Nat} (h : j < n) : (oks off n).getD j 0 = okK off j := by simp [oks, List.getD, h]
/-- the cases of a range -/
inductive Rg (M : Mach) (r : Int) (va : Nat) (n : Int) (x : Bool) : List Run × Int → List Nat × List Nat × Int → Prop
  | zero : n = 0 → Rg M r va n x ([], 0) ([], [], 0)
  | bad (c : Int) : c ≠ 0 → n ≠ 0 → Rg M r va n x ([], c) ([], [], c)
  | one (m m2 off k : Nat) : n = k → 0 < k → k ≤ 256 - off → off < 256 → (m : Int) < M.n → Rg M r va n x ([⟨m, off, k⟩], 0) (mks off m m2 k, oks off k, 0)
  | two (m m2 off k : Nat) : n = k → k ≤ 256 → 256 - off < k → off < 256 → (m : Int) < M.n → (m2 : Int) < M.n → Rg M r va n x ([⟨m, off, 256 - off⟩, ⟨m2, 0, k - (256 - off)⟩], 0) (mks off m m2 k, oks off k, 0)
theorem rg (M : Mach) (r : Int) (va : Nat) (n : Int) (x : Bool) : Rg M r va n x (M.runsV r va n x) (M.eachV r va n x) := by
  unfold Mach.runsV Mach.eachV
  by_cases h0 : n = 0
  · rw [if_pos h0, if_pos h0]; exact .zero h0
  rw [if_neg h0, if_neg h0]
  by_cases hb : badR va n
  · rw [if_pos hb, if_pos hb]; exact .bad 1 (by decide) h0
  rw [if_neg hb, if_neg hb]
  unfold badR at hb
  unfold runsOf eachOf
  by_cases h1 : (M.pageV r (va / 256) x).2 ≠ 0
  · rw [if_pos h1, if_pos h1]; exact .bad _ h1 h0
  rw [if_neg h1, if_neg h1]
  have i1 := Mach.is_iff.1 (M.page_is r _ x (Classical.byContradiction h1))
  by_cases h2 : n.toNat ≤ 256 - va % 256
  · rw [if_pos h2, if_pos h2]; exact .one _ _ _ _ (by omega) (by omega) h2 (by omega) (by omega)
  rw [if_neg h2, if_neg h2]
  by_cases h3 : (M.pageV r (va / 256 + 1) x).2 ≠ 0
  · rw [if_pos h3, if_pos h3]; exact .bad _ h3 h0
  · rw [if_neg h3, if_neg h3]
    have i3 := Mach.is_iff.1 (M.page_is r _ x (Classical.byContradiction h3))
    exact .two _ _ _ _ (by omega) (by omega) (by omega) (by omega) (by omega) (by omega)
section
variable {M : Mach} {r : Int} {va : Nat} {n : Int} {x : Bool} {R : List Run × Int} {E : List Nat × List Nat × Int}
theorem Rg.err (h : Rg M r va n x R E) : E.2.2 = R.2 := by cases h <;> rfl
theorem Rg.nil (h : Rg M r va n x R E) (hc : E.2.2 ≠ 0) : E.1 = [] := by
  cases h with
  | zero => rfl
  | bad => rfl
  | one => exact absurd rfl hc
  | two => exact absurd rfl hc
theorem Rg.len (h : Rg M r va n x R E) (hc : E.2.2 = 0) : (E.1.length : Int) = n := by
  cases h with
  | zero h => simp [h]
  | bad c h => exact absurd hc h
  | one m m2 off k h => simp only [mks_len]; omega
  | two m m2 off k h => simp only [mks_len]; omega
theorem Rg.pl (h : Rg M r va n x R E) : PlOk M E.1 E.2.1 := by
  cases h with
  | zero h => exact ⟨rfl, by simp, fun j h => by simp at h⟩
  | bad c h => exact ⟨rfl, by simp, fun j h => by simp at h⟩
  | one m m2 off k hn hp hk ho hm =>
    refine ⟨by simp only [mks_len, oks_len], by simp only [mks_len]; omega, fun j hj => ?_⟩
    simp only [mks_len] at hj
    simp only [mks_getD hj, oks_getD hj]
    unfold mkK okK
    rw [if_pos (by omega), if_pos (by omega)]
    exact ⟨hm, by omega⟩
  | two m m2 off k hn hp hk ho hm hm2 =>
    refine ⟨by simp only [mks_len, oks_len], by simp only [mks_len]; omega, fun j hj => ?_⟩
    simp only [mks_len] at hj
    simp only [mks_getD hj, oks_getD hj]
    unfold mkK okK
    by_cases hc : off + j < 256
    · rw [if_pos hc, if_pos hc]; exact ⟨hm, by omega⟩
    · rw [if_neg hc, if_neg hc]; exact ⟨hm2, by omega⟩
theorem Rg.bytes (h : Rg M r va n x R E) : M.atPl E.1 E.2.1 E.1.length = M.bytesOf R.1 := by
  cases h with
  | zero h => rfl
  | bad c h => rfl
  | one m m2 off k hn hp hk ho hm =>
    simp only [mks_len]
    refine List.ext_getElem (by simp [Mach.atPl, Mach.bytesOf, Fr.part]) fun j h1 h2 => ?_
    have hj : j < k := by simpa [Mach.atPl] using h1
    simp only [Mach.atPl, List.getElem_map, List.getElem_range, mks_getD hj, oks_getD hj]
    simp only [Mach.bytesOf, List.flatMap_cons, List.flatMap_nil, List.append_nil, Fr.part, List.getElem_map, List.getElem_range]
    unfold mkK okK
    rw [if_pos (by omega), if_pos (by omega)]
  | two m m2 off k hn hp hk ho hm hm2 =>
    simp only [mks_len]
    refine List.ext_getElem (by simp [Mach.atPl, Mach.bytesOf, Fr.part]; omega) fun j h1 h2 => ?_
    have hj : j < k := by simpa [Mach.atPl] using h1
    simp only [Mach.atPl, List.getElem_map, List.getElem_range, mks_getD hj, oks_getD hj]
    simp only [Mach.bytesOf, List.flatMap_cons, List.flatMap_nil, List.append_nil]
    unfold mkK okK
    by_cases hc : off + j < 256
    · rw [List.getElem_append_left (by simp [Fr.part]; omega), if_pos hc, if_pos hc]
      simp only [Fr.part, List.getElem_map, List.getElem_range]
    · rw [List.getElem_append_right (by simp [Fr.part]; omega), if_neg hc, if_neg hc]
      simp only [Fr.part, List.getElem_map, List.getElem_range, List.length_map, List.length_range]
      rw [show off + j - 256 = 0 + (j - (256 - off)) by omega]
end
theorem take_snoc' {l : List UInt8} {k : Nat} (h : k < l.length) : l.take (k + 1) = l.take k ++ [l.getD k 0] := by
  rw [List.take_succ_eq_append_getElem h]; simp [List.getD, List.getElem?_eq_getElem h]
theorem byteV_one (M : Mach) (fs os : List Nat) (l : List UInt8) (m off : Nat) : ∀ k, k ≤ l.length → off + k ≤ 256 → (∀ j, j < k → fs.getD j 0 = m ∧ os.getD j 0 = off + j) → M.byteV fs os l k = (M.write m off (l.take k)).2
  | 0, _, _, _ => by rw [List.take_zero]; exact (M.write_nil m off).symm
  | k + 1, hk, ho, hf => by
    have ih := byteV_one M fs os l m off k (by omega) (by omega) fun j hj => hf j (by omega)
    show ((M.byteV fs os l k).write (fs.getD k 0 : Nat) (os.getD k 0 : Nat) [l.getD k 0]).2 = _
    rw [ih, (hf k (by omega)).1, (hf k (by omega)).2, take_snoc' (by omega)]
    have := M.write_snoc m off (l.take k) (l.getD k 0) (by rw [List.length_take]; omega)
    rw [this, show (l.take k).length = k by rw [List.length_take]; omega]
theorem byteV_two (M : Mach) (fs os : List Nat) (l : List UInt8) (q m2 : Nat) : ∀ i, q + i ≤ l.length → i ≤ 256 → (∀ j, j < i → fs.getD (q + j) 0 = m2 ∧ os.getD (q + j) 0 = j) → M.byteV fs os l (q + i) = ((M.byteV fs os l q).write m2 0 ((l.drop q).take i)).2
  | 0, _, _, _ => by rw [List.take_zero]; exact ((M.byteV fs os l q).write_nil m2 0).symm
  | i + 1, hk, ho, hf => by
    have ih := byteV_two M fs os l q m2 i (by omega) (by omega) fun j hj => hf j (by omega)
    show ((M.byteV fs os l (q + i)).write (fs.getD (q + i) 0 : Nat) (os.getD (q + i) 0 : Nat) [l.getD (q + i) 0]).2 = _
    rw [ih, (hf i (by omega)).1, (hf i (by omega)).2, take_snoc' (l := l.drop q) (k := i) (by rw [List.length_drop]; omega)]
    have := (M.byteV fs os l q).write_snoc m2 0 ((l.drop q).take i) ((l.drop q).getD i 0) (by rw [List.length_take, List.length_drop]; omega)
    rw [show ((0 : Nat) : Int) = 0 from rfl] at this
    rw [this, show ((l.drop q).take i).length = i by rw [List.length_take, List.length_drop]; omega, getD_drop, Nat.zero_add]
theorem Rg.lay {M : Mach} {r : Int} {va : Nat} {l : List UInt8} {x : Bool} {R : List Run × Int} {E : List Nat × List Nat × Int} (h : Rg M r va l.length x R E) : M.byteV E.1 E.2.1 l E.1.length = M.layV R.1 l := by
  cases h with
  | zero h => rfl
  | bad c h => rfl
  | one m m2 off k hn hp hk ho hm =>
    have hl : l.length = k := by omega
    simp only [mks_len]
    rw [byteV_one M _ _ l m off k (by omega) (by omega) fun j hj => by rw [mks_getD hj, oks_getD hj]; unfold mkK okK; rw [if_pos (by omega), if_pos (by omega)]; exact ⟨rfl, rfl⟩]
    rfl
  | two m m2 off k hn hp hk ho hm hm2 =>
    have hl : l.length = k := by omega
    simp only [mks_len]
    obtain ⟨q, hq⟩ : ∃ q, 256 - off = q := ⟨_, rfl⟩
    obtain ⟨i, hi⟩ : ∃ i, k - q = i := ⟨_, rfl⟩
    have hk' : k = q + i := by omega
    rw [hq]
    rw [hk', byteV_two M _ _ l q m2 i (by omega) (by omega) fun j hj => by rw [mks_getD (by omega), oks_getD (by omega)]; unfold mkK okK; rw [if_neg (by omega), if_neg (by omega)]; exact ⟨rfl, by omega⟩,
      byteV_one M _ _ l m off q (by omega) (by omega) fun j hj => by rw [mks_getD (by omega), oks_getD (by omega)]; unfold mkK okK; rw [if_pos (by omega), if_pos (by omega)]; exact ⟨rfl, rfl⟩]
    show _ = (((M.write m off (l.take q)).2.write m2 0 ((l.drop q).take (q + i - q))).2)
    rw [show q + i - q = i by omega]
/-- the reference's Fetch and Store, by the same plain functions -/
theorem rFetch (b : Nat) (r : Int) (va : Nat) (n : Int) (w : World) (M : Mach) (L : Lay) (hR : RM w b M L) (hv : va < 4294967296) : Calls Try.prog 30 #[.pointer (some ⟨b, 0, none⟩), .int .i64 r, .int .u32 va, .int .i64 n] w fun e w' => ∃ v, e = .returned (.tuple #[v, .int .i64 (M.fetchV r va n).2]) ∧ OutBytes w (M.fetchV r va n).1 v w' := by
  have h := rg M r va n false
  have := rFetch_of b r va n w M L hR _ _ _ (rEach b r va n false w M L hR hv) h.pl h.nil
  rw [h.bytes, h.err] at this
  exact this
theorem rStore (b : Nat) (r : Int) (va : Nat) (v : Value) (l : List UInt8) (w : World) (M : Mach) (L : Lay) (hR : RM w b M L) (hv : va < 4294967296) (hl : SR w L b v l) (hmax : l.length ≤ 9223372036854775807) : Calls Try.prog 32 #[.pointer (some ⟨b, 0, none⟩), .int .i64 r, .int .u32 va, v] w (RLeft b L w (M.storeV r va l).1 (M.storeV r va l).2) := by
  have h := rg M r va l.length true
  have := rStore_of b r va v l w M L hR hl hmax _ _ _ (rEach b r va l.length true w M L hR hv) h.pl h.nil (fun hc => by have := h.len hc; omega)
  rw [h.lay, h.err] at this
  exact this
end Go.Proofs.Ytdjhkacjgdnglaa
