/-
  What a store through tables leaves, on plain data. No walk of code here.
-/
import Derived.Test.YtdjhkacjgdnglaaPteU
import Derived.Test.YtdjhkacjgdnglaaPteI
namespace Go.Proofs.Ytdjhkacjgdnglaa
open Go.RowKit
set_option maxHeartbeats 1000000

theorem Mach.write_fr_other (M : Mach) (t off : Int) (l : List UInt8) (j : Nat) (h : (j : Int) ≠ t) : ((M.write t off l).2).fr j = M.fr j := by
  unfold Mach.write
  split
  · rfl
  rename_i hi
  split
  · rfl
  split
  · rfl
  · have hi' := Mach.is_iff.1 (by simpa using hi)
    exact Mach.upd_other _ _ _ _ (by omega)
theorem Mach.write_owner (M : Mach) (t off : Int) (l : List UInt8) (j : Nat) : (((M.write t off l).2).fr j).owner = (M.fr j).owner := by
  by_cases h : (j : Int) = t
  · subst h
    unfold Mach.write
    split
    · rfl
    split
    · rfl
    split
    · rfl
    · simp only [Int.toNat_natCast]; rw [Mach.upd_same]; rfl
  · rw [M.write_fr_other t off l j h]
theorem Mach.write_done (M : Mach) (t off : Nat) (l : List UInt8) (ht : (t : Int) < M.n) (ho : (M.fr t).owner ≠ -1) (hl : off + l.length ≤ 256) : (M.write t off l).2 = M.upd t ((M.fr t).laid off l) := by
  unfold Mach.write
  rw [if_neg (by rw [Mach.is_yes (by omega) ht]; simp), if_neg (by rw [inP_yes (by omega) (by omega) (by omega)]; simp), if_neg (by simpa using ho)]
  rfl
theorem Fr.laid_out (f : Fr) (off : Nat) (l : List UInt8) (k : Nat) (h : k < off ∨ off + l.length ≤ k) : (f.laid off l).bs k = f.bs k := by
  unfold Fr.laid; simp only; rw [if_neg (by omega)]
theorem Fr.laid_in (f : Fr) (off : Nat) (l : List UInt8) (k : Nat) (h : k < l.length) : (f.laid off l).bs (off + k) = l.getD k 0 := by
  unfold Fr.laid; simp only; rw [if_pos (by omega)]; congr 1; omega
theorem Fr.part_laid (f : Fr) (off : Nat) (l : List UInt8) : (f.laid off l).part off l.length = l := by
  refine List.ext_getElem (by simp [Fr.part]) fun k h1 h2 => ?_
  simp only [Fr.part, List.getElem_map, List.getElem_range]
  rw [f.laid_in off l k h2]
  simp [List.getD, List.getElem?_eq_getElem h2]
theorem b4_word (x : Nat) (hx : x < 4294967296) (f : Fr) (o : Nat) : word4 (f.laid o (b4 x)).bs o = x := by
  have h0 := f.laid_in o (b4 x) 0 (by rw [b4_len]; omega)
  have h1 := f.laid_in o (b4 x) 1 (by rw [b4_len]; omega)
  have h2 := f.laid_in o (b4 x) 2 (by rw [b4_len]; omega)
  have h3 := f.laid_in o (b4 x) 3 (by rw [b4_len]; omega)
  rw [Nat.add_zero] at h0
  unfold word4
  rw [h0, h1, h2, h3]
  have g0 : ((b4 x).getD 0 0).toNat = x % 256 := by unfold b4; show (UInt8.ofNat _).toNat = _; rw [UInt8.toNat_ofNat']; omega
  have g1 : ((b4 x).getD 1 0).toNat = x / 256 % 256 := by unfold b4; show (UInt8.ofNat _).toNat = _; rw [UInt8.toNat_ofNat']; omega
  have g2 : ((b4 x).getD 2 0).toNat = x / 65536 % 256 := by unfold b4; show (UInt8.ofNat _).toNat = _; rw [UInt8.toNat_ofNat']; omega
  have g3 : ((b4 x).getD 3 0).toNat = x / 16777216 := by unfold b4; show (UInt8.ofNat _).toNat = _; rw [UInt8.toNat_ofNat']; omega
  rw [g0, g1, g2, g3]
  omega
theorem word4_out (f : Fr) (o : Nat) (l : List UInt8) (i : Nat) (h : i + 4 ≤ o ∨ o + l.length ≤ i) : word4 (f.laid o l).bs i = word4 f.bs i := by
  unfold word4
  rw [f.laid_out o l i (by omega), f.laid_out o l (i + 1) (by omega), f.laid_out o l (i + 2) (by omega), f.laid_out o l (i + 3) (by omega)]
theorem pent_of {M : Mach} {t i x m : Nat} (ht : (t : Int) < M.n) (hi : i < 64) (hw : word4 (M.fr t).bs (4 * i) = x) (hx : x = m * 256 + 3) : M.pent t i = (⟨true, true, m⟩, 0) := by
  unfold Mach.pent
  rw [show M.pat t i = (x, 0) by
    unfold Mach.pat
    rw [if_neg (by simp [idx]; omega), if_neg (by rw [Mach.is_yes (by omega) ht]; simp)]
    simp [hw]]
  unfold entV
  subst hx
  rw [if_neg (by simp), if_neg (by simp only; omega)]
  unfold unpackV
  simp only
  rw [if_neg (by omega), if_neg (by omega)]
  congr 2
  · rw [decide_eq_true_iff]; omega
  · have : (m * 256 + 3) / 256 = m := by omega
    rw [this]
theorem page_of {M : Mach} {pg one : Nat} {wr : Bool} (h1 : M.pent ((0 : Nat) : Int) ((pg / 64 : Nat) : Int) = (⟨true, true, ((1 : Nat) : Int)⟩, 0)) (h2 : M.pent ((1 : Nat) : Int) ((pg % 64 : Nat) : Int) = (⟨true, true, (one : Int)⟩, 0)) (ho : (one : Int) < M.n) : M.pageV 0 pg wr = ((one : Int), 0) := by
  unfold Mach.pageV
  simp only
  rw [show (0 : Int) = ((0 : Nat) : Int) from rfl, h1]
  simp only
  rw [if_neg (by simp), h2]
  simp only
  rw [if_neg (by simp), if_neg (by simp), if_neg (by rw [Mach.is_yes (by omega) ho]; simp)]

/-- the machine that PteKept begins with -/
def kM : Mach := pB 8 8
theorem kM_n : kM.n = 8 := pB_n 8 8
theorem kM_ok : kM.ok 0 := pB_ok 8 (by omega) (by omega) 8
theorem kM_owner : ∀ j, j < 8 → (kM.fr j).owner = 0 := by unfold kM; decide +kernel
theorem kM_100 : ∀ j, j < 8 → (kM.fr j).bs 100 = 0 := by unfold kM; decide +kernel
def kM3 (l2 l1 one two : Nat) : Mach := ((((kM.write 0 ((4 * l2 : Nat) : Int) (b4 259)).2.write 1 ((4 * l1 : Nat) : Int) (b4 (one * 256 + 3))).2).write 1 ((4 * (l1 + 1) : Nat) : Int) (b4 (two * 256 + 3))).2
structure KOk (M : Mach) (l2 l1 one two : Nat) : Prop where
  n : M.n = 8
  ok : M.ok 0
  owner : ∀ j, j < 8 → (M.fr j).owner = 0
  e0 : word4 (M.fr 0).bs (4 * l2) = 259
  e1 : word4 (M.fr 1).bs (4 * l1) = one * 256 + 3
  e2 : word4 (M.fr 1).bs (4 * (l1 + 1)) = two * 256 + 3
theorem kM3_ok {l2 l1 one two : Nat} (h2 : l2 < 64) (h1 : l1 < 63) (ho : one < 8) (ht : two < 8) : KOk (kM3 l2 l1 one two) l2 l1 one two ∧ ∀ j, 2 ≤ j → (kM3 l2 l1 one two).fr j = kM.fr j := by
  have e1 : (kM.write 0 ((4 * l2 : Nat) : Int) (b4 259)).2 = kM.upd 0 ((kM.fr 0).laid (4 * l2) (b4 259)) := kM.write_done 0 (4 * l2) (b4 259) (by rw [kM_n]; decide) (by rw [kM_owner 0 (by omega)]; decide) (by rw [b4_len]; omega)
  have o1 : ((kM.upd 0 ((kM.fr 0).laid (4 * l2) (b4 259))).fr 1).owner = 0 := by rw [Mach.upd_other _ _ _ _ (by omega)]; exact kM_owner 1 (by omega)
  have e2 : ((kM.write 0 ((4 * l2 : Nat) : Int) (b4 259)).2.write 1 ((4 * l1 : Nat) : Int) (b4 (one * 256 + 3))).2 = (kM.upd 0 ((kM.fr 0).laid (4 * l2) (b4 259))).upd 1 ((kM.fr 1).laid (4 * l1) (b4 (one * 256 + 3))) := by
    rw [e1]
    refine (Mach.write_done (kM.upd 0 ((kM.fr 0).laid (4 * l2) (b4 259))) 1 (4 * l1) (b4 (one * 256 + 3)) (show (1 : Int) < kM.n by rw [kM_n]; decide) (by rw [o1]; decide) (by rw [b4_len]; omega)).trans ?_
    rw [Mach.upd_other _ _ _ _ (show (1 : Nat) ≠ 0 by omega)]
  have e3 : kM3 l2 l1 one two = (kM.upd 0 ((kM.fr 0).laid (4 * l2) (b4 259))).upd 1 (((kM.fr 1).laid (4 * l1) (b4 (one * 256 + 3))).laid (4 * (l1 + 1)) (b4 (two * 256 + 3))) := by
    unfold kM3
    rw [e2]
    refine (Mach.write_done ((kM.upd 0 ((kM.fr 0).laid (4 * l2) (b4 259))).upd 1 ((kM.fr 1).laid (4 * l1) (b4 (one * 256 + 3)))) 1 (4 * (l1 + 1)) (b4 (two * 256 + 3)) (show (1 : Int) < kM.n by rw [kM_n]; decide) (by rw [Mach.upd_same]; show (kM.fr 1).owner ≠ -1; rw [kM_owner 1 (by omega)]; decide) (by rw [b4_len]; omega)).trans ?_
    rw [Mach.upd_same, Mach.upd_upd]
  refine ⟨⟨?_, ?_, ?_, ?_, ?_, ?_⟩, ?_⟩
  · rw [e3]; exact kM_n
  · exact Mach.write_ok (Mach.write_ok (Mach.write_ok kM_ok _ _ _) _ _ _) _ _ _
  · intro j hj
    unfold kM3
    rw [Mach.write_owner, Mach.write_owner, Mach.write_owner, kM_owner j hj]
  · rw [e3, Mach.upd_other _ _ _ _ (by omega), Mach.upd_same]; exact b4_word 259 (by omega) _ _
  · rw [e3, Mach.upd_same, word4_out _ _ _ _ (by omega)]; exact b4_word _ (by omega) _ _
  · rw [e3, Mach.upd_same]; exact b4_word _ (by omega) _ _
  · intro j hj; rw [e3, Mach.upd_other _ _ _ _ (by omega), Mach.upd_other _ _ _ _ (by omega)]
theorem KOk.page1 {M : Mach} {l2 l1 one two pg : Nat} (h : KOk M l2 l1 one two) (h2 : l2 < 64) (h1 : l1 < 63) (ho : one < 8) (e2 : pg / 64 = l2) (e1 : pg % 64 = l1) (wr : Bool) : M.pageV 0 pg wr = ((one : Int), 0) :=
  page_of (by rw [e2]; exact pent_of (by rw [h.n]; decide) h2 h.e0 (by omega)) (by rw [e1]; exact pent_of (by rw [h.n]; decide) (by omega) h.e1 rfl) (by rw [h.n]; omega)
theorem KOk.page2 {M : Mach} {l2 l1 one two pg : Nat} (h : KOk M l2 l1 one two) (h2 : l2 < 64) (h1 : l1 < 63) (ht : two < 8) (e2 : pg / 64 = l2) (e1 : pg % 64 = l1) (wr : Bool) : M.pageV 0 (pg + 1) wr = ((two : Int), 0) :=
  page_of (by rw [show (pg + 1) / 64 = l2 by omega]; exact pent_of (by rw [h.n]; decide) h2 h.e0 (by omega)) (by rw [show (pg + 1) % 64 = l1 + 1 by omega]; exact pent_of (by rw [h.n]; decide) (by omega) h.e2 rfl) (by rw [h.n]; omega)
/-- the runs of PteKept -/
def kRuns (off n one two : Nat) : List Run := if n = 0 then [] else if n ≤ 256 - off then [⟨one, off, n⟩] else [⟨one, off, 256 - off⟩, ⟨two, 0, n - (256 - off)⟩]
theorem KOk.runs {M : Mach} {l2 l1 one two va n : Nat} (h : KOk M l2 l1 one two) (ho : one < 8) (ht : two < 8) (hv : va < 1048576) (e2 : va / 16384 = l2) (e1 : va / 256 % 64 = l1) (h1 : l1 < 63) (hn : n ≤ 256) (wr : Bool) : M.runsV 0 va n wr = (kRuns (va % 256) n one two, 0) := by
  unfold Mach.runsV kRuns
  by_cases h0 : n = 0
  · subst h0; rfl
  rw [if_neg (by omega), if_neg h0, if_neg (by unfold badR; omega)]
  have p1 := h.page1 (pg := va / 256) (by omega) h1 ho (by omega) e1 wr
  have p2 := h.page2 (pg := va / 256) (by omega) h1 ht (by omega) e1 wr
  unfold runsOf
  rw [p1, p2]
  simp only [Int.toNat_natCast]
  rw [if_neg (by simp)]
  split
  · rfl
  · rw [if_neg (by simp)]
theorem layV_other (rs : List Run) (M : Mach) (b : List UInt8) (j : Nat) (h : ∀ r ∈ rs, r.m ≠ j) : (M.layV rs b).fr j = M.fr j := by
  induction rs generalizing M b with
  | nil => rfl
  | cons r rs ih =>
    show ((M.write r.m r.o (b.take r.n)).2.layV rs (b.drop r.n)).fr j = _
    rw [ih _ _ fun q hq => h q (List.mem_cons_of_mem _ hq)]
    exact M.write_fr_other _ _ _ _ (by have := h r (List.mem_cons_self ..); omega)
theorem layV_owner (rs : List Run) (M : Mach) (b : List UInt8) (j : Nat) : ((M.layV rs b).fr j).owner = (M.fr j).owner := by
  induction rs generalizing M b with
  | nil => rfl
  | cons r rs ih => exact (ih _ _).trans (M.write_owner _ _ _ _)
theorem layV_n (rs : List Run) (M : Mach) (b : List UInt8) : (M.layV rs b).n = M.n := by
  induction rs generalizing M b with
  | nil => rfl
  | cons r rs ih => exact (ih _ _).trans (Mach.write_n _ _ _ _)
theorem layV_ok (rs : List Run) (M : Mach) (b : List UInt8) (T : Int) (h : M.ok T) : (M.layV rs b).ok T := by
  induction rs generalizing M b with
  | nil => exact h
  | cons r rs ih => exact ih _ _ (Mach.write_ok h _ _ _)
theorem kRuns_m {off n one two : Nat} : ∀ r ∈ kRuns off n one two, r.m = one ∨ r.m = two := by
  unfold kRuns
  split
  · intro r h; simp at h
  split
  · intro r h; simp at h; subst h; exact .inl rfl
  · intro r h; simp at h; rcases h with rfl | rfl; exact .inl rfl; exact .inr rfl
theorem KOk.lay {M : Mach} {l2 l1 one two off n : Nat} (h : KOk M l2 l1 one two) (ho : 2 ≤ one) (ht : 2 ≤ two) (b : List UInt8) : KOk (M.layV (kRuns off n one two) b) l2 l1 one two := by
  have f0 : (M.layV (kRuns off n one two) b).fr 0 = M.fr 0 := layV_other _ _ _ _ fun r hr => by rcases kRuns_m r hr with e | e <;> omega
  have f1 : (M.layV (kRuns off n one two) b).fr 1 = M.fr 1 := layV_other _ _ _ _ fun r hr => by rcases kRuns_m r hr with e | e <;> omega
  exact ⟨(layV_n _ _ _).trans h.n, layV_ok _ _ _ _ h.ok, fun j hj => (layV_owner _ _ _ _).trans (h.owner j hj), by rw [f0]; exact h.e0, by rw [f1]; exact h.e1, by rw [f1]; exact h.e2⟩
/-- what was stored is fetched -/
theorem kept_bytes {M : Mach} {off one two : Nat} {b : List UInt8} (hn : M.n = 8) (hown : ∀ j, j < 8 → (M.fr j).owner = 0) (ho : one < 8) (ht : two < 8) (hne : one ≠ two) (hoff : off < 256) (hb : b.length ≤ 256) : (M.layV (kRuns off b.length one two) b).bytesOf (kRuns off b.length one two) = b := by
  unfold kRuns
  by_cases h0 : b.length = 0
  · rw [if_pos h0]; rw [List.length_eq_zero_iff.1 h0]; rfl
  rw [if_neg h0]
  by_cases h1 : b.length ≤ 256 - off
  · rw [if_pos h1]
    show ((M.write one off (b.take b.length)).2).bytesOf [⟨one, off, b.length⟩] = b
    rw [List.take_length, M.write_done one off b (by omega) (by rw [hown one ho]; decide) (by omega)]
    simp only [Mach.bytesOf, List.flatMap_cons, List.flatMap_nil, List.append_nil]
    rw [Mach.upd_same, Fr.part_laid]
  · rw [if_neg h1]
    obtain ⟨r, hr⟩ : ∃ r, 256 - off = r := ⟨_, rfl⟩
    rw [hr]
    have t1 : (b.take r).length = r := by rw [List.length_take]; omega
    have t2 : (b.drop r).length = b.length - r := List.length_drop
    show (((M.write one off (b.take r)).2.write two 0 ((b.drop r).take (b.length - r))).2).bytesOf [⟨one, off, r⟩, ⟨two, 0, b.length - r⟩] = b
    rw [show (b.drop r).take (b.length - r) = b.drop r by rw [← t2, List.take_length]]
    rw [M.write_done one off (b.take r) (by omega) (by rw [hown one ho]; decide) (by omega)]
    rw [show (0 : Int) = ((0 : Nat) : Int) from rfl, Mach.write_done (M.upd one ((M.fr one).laid off (b.take r))) two 0 (b.drop r) (show (two : Int) < M.n by omega) (by rw [Mach.upd_other _ _ _ _ (Ne.symm hne), hown two ht]; decide) (by omega)]
    simp only [Mach.bytesOf, List.flatMap_cons, List.flatMap_nil, List.append_nil]
    rw [Mach.upd_other _ _ _ _ hne, Mach.upd_same, Mach.upd_same, Mach.upd_other _ _ _ _ (Ne.symm hne)]
    have p1 := (M.fr one).part_laid off (b.take r)
    have p2 := (M.fr two).part_laid 0 (b.drop r)
    rw [t1] at p1
    rw [t2] at p2
    rw [p1, p2, List.take_append_drop]
end Go.Proofs.Ytdjhkacjgdnglaa
