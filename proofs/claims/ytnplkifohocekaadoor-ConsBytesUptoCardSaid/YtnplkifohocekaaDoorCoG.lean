/-
  Package cons, the laws: a machine of two frames; what is written into its first frame is read there.
-/
import Derived.Test.YtnplkifohocekaaDoorCoF
import Derived.Test.YtnplkifohocekaaDoorBg
set_option linter.unusedSimpArgs false
set_option linter.unusedVariables false
namespace Go.Proofs.YtnplkifohocekaaDoor.Co
open Go.RowKit Go.Lib Go.Proofs.YtnplkifohocekaaDoor.Bk
set_option maxHeartbeats 2000000
def begK : Nat → Mach
  | 0 => upTo ((2 : Nat) : Int) 2
  | k + 1 => ((begK k).alloc 1).2.2
theorem begK_ok : ∀ k, (begK k).ok 0
  | 0 => upTo_ok' 2 (by omega) (by omega)
  | k + 1 => Mach.alloc_ok (begK_ok k) 1
theorem begK_n : ∀ k, (begK k).n = 2
  | 0 => rfl
  | k + 1 => (Mach.alloc_vn _ _).trans (begK_n k)
set_option maxRecDepth 100000 in
theorem cBegin (w : World) : Calls Tryd.prog 12 #[] w fun e w' => ∃ B b Lr, e = .returned (.tuple #[.pointer (some ⟨B, 0, none⟩), .pointer (some ⟨b, 0, none⟩), .bool true]) ∧ Bg w w' B b (begK 2) Lr 0 := by
  have HN1 := hid (fun w => New_yes 2 w (by omega) (by omega) : ∀ w : World, Calls Tryd.prog 25 #[.int .i64 2] w fun e w' => ∃ v, e = .returned (.tuple #[v, .int .i64 0]) ∧ NewMach w (upTo ((2 : Nat) : Int) 2) v w')
  have HN2 := hid (fun w => rNew_yes 2 w (by omega) (by omega) : ∀ w : World, Calls Tryd.prog 34 #[.int .i64 2] w fun e w' => ∃ v, e = .returned (.tuple #[v, .int .i64 0]) ∧ NewRef w (upTo ((2 : Nat) : Int) 2) v w')
  go_enter Tryd.func12, Tryd.ntmps12
  go_wp2_with (first
    | (go_at_call 25; refine (HN1.out _).mono ?_; rintro e w1 ⟨v, rfl, B, rfl, hB, hM1, hg1⟩; have HB := hid hB; have HM1 := hid hM1; have HG1 := hid hg1; clear hM1 hg1 hB)
    | (go_at_call 34; refine (HN2.out _).mono ?_; rintro e w2 ⟨v, rfl, b, Lr, rfl, hr, hg2, hf⟩; have HO := hid (Bg.mk (w := w) (HM1.out.grown hg2 (by simp)) hr (begK_ok 0) HB.out (fun k hk => Nat.le_trans HG1.out.size (hf k hk)) (HG1.out.trans hg2)); clear hr hg2 hf)
    | fail)
  go_loopw [7] (fun i wr => ∃ (k : Nat) (Lr : Lay), i = .int .i64 k ∧ k ≤ 2 ∧ Bg w wr B b (begK k) Lr 0) (fun i _ => 2 - (Lib.intOf i).toNat)
  case atStart => exact ⟨0, Lr, rfl, by omega, HO.out⟩
  case round =>
    clear HO HM1 HG1 HB
    obtain ⟨k, Lr, rfl, hk, hbg⟩ := hrel
    have HO := hid hbg
    clear hbg
    by_cases hkn : k < 2
    · have hkn' : (k : Int) < 2 := by omega
      have HOk := hid HO.out.ok
      have HOk1 := hid (begK_ok (k + 1))
      have HN := hid (show (begK k).n ≤ 256 by rw [begK_n]; decide)
      have HE := hid (show begK (k + 1) = ((begK k).alloc 1).2.2 from rfl)
      obtain ⟨M, hM⟩ : ∃ M, begK k = M := ⟨_, rfl⟩
      rw [hM] at HO HOk HN HE
      clear hM
      go_wp2_with (first
        | (go_at_call 35; refine (Alloc_any B 1 _ M 0 HO.out.m HOk.out).mono ?_; rintro e w3 ⟨rfl, h3, g3⟩; have HM3 := hid h3; have HG3 := hid g3; have HR3 := hid (HO.out.r1 g3); clear h3 g3)
        | (go_at_call 36; refine (rAlloc b 1 _ M Lr HR3.out HN.out).mono ?_; rintro e w4 ⟨rfl, L4, h4, hn4, c4, f4⟩; have HO4 := hid (HO.out.step HM3.out HG3.out h4 c4 f4 (HE.out ▸ HOk1.out)); clear h4 hn4 c4 f4)
        | fail)
      refine ⟨⟨k + 1, L4, by congr 1, by omega, by rw [HE.out]; exact HO4.out⟩, by simp [Lib.intOf]; omega⟩
    · obtain rfl : k = 2 := by omega
      go_wp2
      go_ret3
      exact ⟨B, b, Lr, rfl, HO.out⟩
/-- the first frame's bytes -/
def pg (M : Mach) (k : Nat) : UInt8 := (M.fr 0).bs k
structure Good (M : Mach) : Prop where
  n : M.n = 2
  own : (M.fr 0).owner ≠ -1
theorem beg_good : Good (begK 2) := ⟨begK_n 2, by decide⟩
theorem beg_zero (k : Nat) : pg (begK 2) k = 0 := rfl
theorem Good.write {M : Mach} (h : Good M) (off : Nat) (b : List UInt8) (hb : off + b.length ≤ 256) :
    (M.write 0 off b).1 = 0 ∧ Good (M.write 0 off b).2 ∧ ∀ k, pg (M.write 0 off b).2 k = if off ≤ k ∧ k < off + b.length then b.getD (k - off) 0 else pg M k := by
  have h1 : M.is 0 = true := Mach.is_yes (by omega) (by rw [h.n]; omega)
  have h2 : inP (off : Int) (b.length : Int) = true := by unfold inP; simp; omega
  have e : M.write 0 off b = (0, M.upd 0 ((M.fr 0).laid off b)) := by
    unfold Mach.write
    rw [if_neg (by rw [h1]; decide), if_neg (by rw [h2]; decide)]
    simp only [Int.toNat_zero]
    rw [if_neg h.own]
    rfl
  rw [e]
  refine ⟨rfl, ⟨h.n, ?_⟩, fun k => ?_⟩
  · show ((M.upd 0 ((M.fr 0).laid off b)).fr 0).owner ≠ -1
    rw [Mach.upd_same]; exact h.own
  · show ((M.upd 0 ((M.fr 0).laid off b)).fr 0).bs k = _
    rw [Mach.upd_same]; rfl
theorem Good.read {M : Mach} (h : Good M) (off k : Nat) (hb : off + k ≤ 256) : ∃ bs : List UInt8, M.read 0 off k = (bs, 0) ∧ bs.length = k ∧ ∀ j, j < k → bs.getD j 0 = pg M (off + j) := by
  have h1 : M.is 0 = true := Mach.is_yes (by omega) (by rw [h.n]; omega)
  have h2 : inP (off : Int) (k : Int) = true := by unfold inP; simp; omega
  refine ⟨(M.fr 0).part off k, ?_, ?_, ?_⟩
  · unfold Mach.read
    rw [if_neg (by rw [h1]; decide), if_neg (by rw [h2]; decide)]
    rfl
  · simp [Fr.part]
  · intro j hj
    simp [Fr.part, List.getD, List.getElem?_map, List.getElem?_range, hj, pg]
theorem Good.word {M : Mach} (h : Good M) (off : Nat) (hb : off + 2 ≤ 256) : (M.read 0 off 2).2 = 0 ∧ wordOf (M.read 0 off 2) = ((pg M off).toNat : Int) + 256 * ((pg M (off + 1)).toNat : Int) := by
  obtain ⟨bs, e, hl, hg⟩ := h.read off 2 hb
  have e2 : M.read 0 off 2 = (bs, 0) := e
  rw [e2]
  obtain ⟨x, y, rfl⟩ : ∃ x y, bs = [x, y] := by
    match bs, hl with
    | [x, y], _ => exact ⟨x, y, rfl⟩
  have g0 := hg 0 (by omega)
  have g1 := hg 1 (by omega)
  simp only [List.getD_cons_zero, List.getD_cons_succ, Nat.add_zero] at g0 g1
  rw [← g0, ← g1]
  exact ⟨rfl, rfl⟩
/-- what was fed stands in the ring, in order, and its number is told -/
theorem Good.feed {M : Mach} (h : Good M) (P k : Nat) (b : List UInt8) (hk : k ≤ 64) (hkb : k ≤ b.length) :
    Good (feedM M 0 (P % 65536) k b) ∧ (∀ j, j < k → pg (feedM M 0 (P % 65536) k b) (160 + (P + j) % 64) = b.getD j 0) ∧
    pg (feedM M 0 (P % 65536) k b) 6 = UInt8.ofNat ((P + k) % 65536 % 256) ∧ pg (feedM M 0 (P % 65536) k b) 7 = UInt8.ofNat ((P + k) % 65536 / 256 % 256) := by
  have e64 : P % 65536 % 64 = P % 64 := by omega
  have ek : (P % 65536 + k) % 65536 = (P + k) % 65536 := by omega
  unfold feedM
  rw [e64, ek]
  obtain ⟨st, hst⟩ : ∃ st, min k (64 - P % 64) = st := ⟨_, rfl⟩
  rw [hst]
  have l1 : (b.take st).length = st := by rw [List.length_take]; omega
  have l2 : ((b.take k).drop st).length = k - st := by rw [List.length_drop, List.length_take]; omega
  obtain ⟨_, g1, p1⟩ := h.write (160 + P % 64) (b.take st) (by rw [l1]; omega)
  obtain ⟨_, g2, p2⟩ := g1.write 160 ((b.take k).drop st) (by rw [l2]; omega)
  obtain ⟨_, g3, p3⟩ := g2.write 6 (two ((P + k) % 65536)) (by rw [two_len]; omega)
  refine ⟨g3, fun j hj => ?_, ?_, ?_⟩
  · rw [p3, if_neg (by rw [two_len]; omega), p2, l2]
    by_cases hjs : j < st
    · rw [if_neg (by omega), p1, l1, if_pos (by omega)]
      rw [show 160 + (P + j) % 64 - (160 + P % 64) = j by omega]
      rw [List.getD_eq_getElem?_getD, List.getD_eq_getElem?_getD, List.getElem?_take, if_pos hjs]
    · rw [if_pos (by omega), show 160 + (P + j) % 64 - 160 = j - st by omega]
      rw [List.getD_eq_getElem?_getD, List.getD_eq_getElem?_getD, List.getElem?_drop, List.getElem?_take, if_pos (by omega), show st + (j - st) = j by omega]
  · rw [p3, if_pos (by rw [two_len]; omega)]
    rfl
  · rw [p3, if_pos (by rw [two_len]; omega)]
    rfl
end Go.Proofs.YtnplkifohocekaaDoor.Co
namespace Go.Proofs.YtnplkifohocekaaDoor.Co
open Go.RowKit Go.Lib Go.Proofs.YtnplkifohocekaaDoor.Bk Go.ChangeShapes Go.WideShapes Go.ChangeAt Go.Deep Flat
set_option maxHeartbeats 2000000
section
variable {H : Type} {enc : TypeId × Value → H} {P : Program} {w : World} {base : Nat} {spare : Nat → Bool} {held : Bool}
theorem came_ones {ts te : TypeId} (hs : P.underlying ts = some (.slice te)) (hone : P.cellsOf te = 1) {v : Value} (h : Flat.Came enc P w base spare held ts v) :
    ∃ p len cap, v = .slice p len cap ∧ len * P.bytesOf te ≤ reachBytes ∧ len ≤ maxLen ∧ len ≤ cap ∧
      ∀ i, i < len → ∃ b off u, p = some ⟨b, off, none⟩ ∧ b < w.heap.size ∧ w.cell? ⟨b, off + i, none⟩ = some u ∧ Flat.Came enc P w base spare held te u := by
  obtain ⟨fuel, x, h, hsz⟩ := h
  rcases open_slice hs h with ⟨hcs, _⟩ | ⟨a, len, cap, m, n, D, Pl, hcs, hlc, hl, hm, hmm, hx, hi⟩
  · simp only [List.cons.injEq, and_true] at hcs
    exact ⟨none, 0, 0, hcs, by simp [reachBytes], by unfold maxLen; omega, Nat.le_refl _, fun i hi => by omega⟩
  · simp only [List.cons.injEq, and_true] at hcs
    have hml : len ≤ m := by rw [hmm]; split <;> omega
    refine ⟨some a, len, cap, hcs, ?_, by omega, by omega, fun i hil => ?_⟩
    · have := hsz ((((List.range len).map D).length + ((List.range (m - len)).map fun j => D (len + j)).length) * P.bytesOf te) (by rw [hx]; simp [DataW.weights, hs])
      simp only [List.length_map, List.length_range] at this
      exact Nat.le_trans (Nat.mul_le_mul_right _ (by omega)) this
    · have one : ∀ i, i < len → ∃ u, w.cell? (a.add i) = some u ∧ Flat.Came enc P w base spare held te u := fun i hil => by
        obtain ⟨cs', hc, ht⟩ := hi i (by omega)
        rw [hone] at hc
        obtain ⟨_, hcl, hat⟩ := World.cells?_some hc
        obtain ⟨u, rfl⟩ : ∃ u, cs' = [u] := by
          match cs', hcl with
          | [u], _ => exact ⟨u, rfl⟩
        have := hat 0 (by omega)
        have e0 : (a.add (i * 1)).add 0 = a.add i := by simp [Addr.add]
        rw [e0] at this
        exact ⟨u, this, n, _, ht, fun k hk => hsz k (by
          rw [hx]
          simp only [DataW.weights, hs, List.mem_cons, List.mem_append]
          exact .inr (.inl (all_mem (List.mem_map.2 ⟨i, List.mem_range.2 hil, rfl⟩) k hk)))⟩
      obtain ⟨v0, hv0, _⟩ := one 0 (by omega)
      obtain ⟨b, off, spot⟩ := a
      obtain rfl : spot = none := by
        have : w.cell? (⟨b, off, spot⟩ : Addr) = some v0 := by simpa [Addr.add] using hv0
        exact World.cell?_spot this
      have eb : ∀ (o j : Nat), (⟨b, o, none⟩ : Addr).add j = ⟨b, o + j, none⟩ := fun o j => by unfold Addr.add; split <;> simp_all
      obtain ⟨s, hn, hw⟩ := one i hil
      rw [eb] at hn hv0
      exact ⟨b, off, s, rfl, World.block_lt_of_cell? w _ hn, hn, hw⟩
end
/-- a row of rows of bytes that came in -/
def PartsIn (w : World) (p : Option Addr) (ls : List (List UInt8)) : Prop := ∀ i, i < ls.length → ∃ b off q c, p = some ⟨b, off, none⟩ ∧ b < w.heap.size ∧ w.cell? ⟨b, off + i, none⟩ = some (.slice q (ls.getD i []).length c) ∧ BA w q (ls.getD i []) ∧ (ls.getD i []).length ≤ c ∧ (q = none → c = 0) ∧ (ls.getD i []).length ≤ 140737488351232 ∧ ∀ a, q = some a → 0 < (ls.getD i []).length → a.block < w.heap.size
theorem BA.lt {w : World} {q : Option Addr} {b : List UInt8} (h : BA w q b) : ∀ a, q = some a → 0 < b.length → a.block < w.heap.size := fun a ha hb => by
  obtain ⟨g, o, e, hc⟩ := h 0 hb
  rw [ha] at e
  cases e
  exact World.block_lt_of_cell? w _ hc
theorem came_parts {H : Type} {enc : TypeId × Value → H} {w : World} {v : Value} (h : Flat.Came enc Tryd.prog w 0 (fun _ => true) true 53 v) :
    ∃ p ls cap, v = .slice p (List.length (α := List UInt8) ls) cap ∧ PartsIn w p ls ∧ ls.length ≤ 5864062014805 := by
  obtain ⟨p, len, cap, rfl, hm, _, _, hi⟩ := came_ones Tryd.underlying53 (by kernel_rfl) h
  rw [show Tryd.prog.bytesOf 22 = 24 by kernel_rfl] at hm
  have : ∀ i, i < len → ∃ l : List UInt8, ∃ b off q c, p = some ⟨b, off, none⟩ ∧ b < w.heap.size ∧ w.cell? ⟨b, off + i, none⟩ = some (.slice q l.length c) ∧ BA w q l ∧ l.length ≤ c ∧ (q = none → c = 0) ∧ l.length ≤ 140737488351232 := fun i hil => by
    obtain ⟨b, off, u, e, hb, hc, hu⟩ := hi i hil
    obtain ⟨q, l, c, rfl, h1, h2, h3, h4⟩ := came_bytes hu
    exact ⟨l, b, off, q, c, e, hb, hc, h1, h4, h3, h2⟩
  obtain ⟨ls, hl, hp⟩ := exists_list (fun i (l : List UInt8) => ∃ b off q c, p = some ⟨b, off, none⟩ ∧ b < w.heap.size ∧ w.cell? ⟨b, off + i, none⟩ = some (.slice q l.length c) ∧ BA w q l ∧ l.length ≤ c ∧ (q = none → c = 0) ∧ l.length ≤ 140737488351232) len this
  subst hl
  refine ⟨p, ls, cap, rfl, fun i hil => ?_, by unfold reachBytes at hm; omega⟩
  have e : ls.getD i [] = ls[i] := by simp [List.getD, List.getElem?_eq_getElem hil]
  rw [e]
  obtain ⟨b, off, q, c, h1, h2, h3, h4, h5, h6, h7⟩ := hp i hil
  exact ⟨b, off, q, c, h1, h2, h3, h4, h5, h6, h7, BA.lt h4⟩
end Go.Proofs.YtnplkifohocekaaDoor.Co
namespace Go.Proofs.YtnplkifohocekaaDoor.Co
open Go.RowKit Go.Lib Go.Proofs.YtnplkifohocekaaDoor.Bk
set_option maxHeartbeats 2000000
/-- the law's memory: a machine, a view without rewrites, a console; all made behind W0 -/
structure LF (W0 w : World) (V G B C : Nat) (S : Nat → Prop) (n T : Nat) (M : Mach) (P : Nat) : Prop where
  fw : FW w V G B C S [] n T M 0 0 0 (.slice none 0 0) (.slice none 0 0) (P % 65536)
  good : Good M
  g : W0.grownBy w none
  lo : ∀ k, fset V G B C k → W0.heap.size ≤ k
variable {W0 w w' : World} {V G B C : Nat} {S : Nat → Prop} {n T : Nat} {M M' : Mach} {P : Nat}
def num4 (M : Mach) : Nat := (pg M 4).toNat + 256 * (pg M 5).toNat
theorem num4_lt (M : Mach) : num4 M < 65536 := by
  unfold num4
  have h1 := UInt8.toNat_lt (pg M 4)
  have h2 := UInt8.toNat_lt (pg M 5)
  omega
theorem LF.grown (h : LF W0 w V G B C S n T M P) (hg : w.grownBy w' none) : LF W0 w' V G B C S n T M P := ⟨h.fw.grown hg, h.good, h.g.trans hg, h.lo⟩
/-- a call of Feed -/
theorem lFeed (h : LF W0 w V G B C S n T M P) (hn : (n : Int) < 9223372036854775807) (p : Option Addr) (c : Nat) (b : List UInt8) (hb : BA w p b) (hbc : b.length ≤ c) (hpc : p = none → c = 0) (hfar : Far V G B C p b.length) (hbl : b.length ≤ 140737488355328) :
    Calls Tryd.prog 24 #[.pointer (some ⟨C, 0, none⟩), .pointer (some ⟨V, 0, none⟩), .slice p b.length c] w fun e w' => e = .returned (.tuple #[.int .i64 (fedN (P % 65536) (num4 M) b.length : Nat), .int .i64 0]) ∧
      LF W0 w' V G B C S (n + 1) T (feedM M 0 (P % 65536) (fedN (P % 65536) (num4 M) b.length) b) (P + fedN (P % 65536) (num4 M) b.length) := by
  refine (cFeed h.fw (fun p hp => by simp at hp) hn (by simp) (by omega) p c b hb hbc hpc hfar hbl).mono ?_
  rintro e w' ⟨r, hr, hc, hp⟩
  have hr2 : M.read 0 4 2 = r := hr
  obtain ⟨w1, w2⟩ := h.good.word 4 (by omega)
  have w1' : (M.read 0 4 2).2 = 0 := w1
  have w2' : wordOf (M.read 0 4 2) = ((pg M 4).toNat : Int) + 256 * ((pg M 5).toNat : Int) := w2
  rw [hr2] at w1' w2'
  rcases hp with ⟨h0, _⟩ | ⟨_, ix, k, hix, hk, rfl, hf⟩
  · exact absurd w1' h0
  · have e : ix = num4 M := by unfold num4; omega
    subst e
    subst hk
    have hk64 : fedN (P % 65536) (num4 M) b.length ≤ 64 := by unfold fedN; omega
    have hkb : fedN (P % 65536) (num4 M) b.length ≤ b.length := by unfold fedN; omega
    refine ⟨rfl, ⟨?_, (h.good.feed P _ b hk64 hkb).1, hc.grown h.g h.lo, h.lo⟩⟩
    have e3 : (P % 65536 + fedN (P % 65536) (num4 M) b.length) % 65536 = (P + fedN (P % 65536) (num4 M) b.length) % 65536 := by omega
    rw [e3] at hf
    exact hf
/-- a call of Read -/
theorem lRead (h : LF W0 w V G B C S n T M P) (off k : Nat) (hk : off + k ≤ 256) : Calls Tryd.prog 20 #[.pointer (some ⟨B, 0, none⟩), .int .i64 0, .int .i64 (off : Int), .int .i64 (k : Int)] w fun e w' =>
    ∃ q c, e = .returned (.tuple #[.slice q k c, .int .i64 0]) ∧ LF W0 w' V G B C S n T M P ∧ w.heap.size ≤ w'.heap.size ∧ (0 < k → ∃ g, q = some ⟨g, 0, none⟩ ∧ w.heap.size ≤ g ∧ ∀ j, j < k → w'.cell? ⟨g, j, none⟩ = some (.int .u8 (pg M (off + j)).toNat)) := by
  refine (Read_all B 0 off k w M 0 h.fw.mach h.fw.ok (by omega)).mono ?_
  rintro e w' ⟨v, rfl, hf, hg⟩
  obtain ⟨bs, e1, hl, hb⟩ := h.good.read off k hk
  have e2 : M.read 0 off k = (bs, 0) := e1
  rw [e2] at hf ⊢
  obtain ⟨q, c, rfl, hq⟩ := hf
  simp only at hq
  refine ⟨q, c, by simp only [hl], h.grown hg, hg.size, fun h0 => ?_⟩
  rcases hq with hq | ⟨g, rfl, ⟨hg1, _⟩, hc⟩
  · rw [hq] at hl; simp at hl; omega
  · exact ⟨g, rfl, hg1, fun j hj => by rw [hc j (by omega), hb j hj]⟩
/-- a call of Write -/
theorem lWrite (h : LF W0 w V G B C S n T M P) (off : Nat) (b : List UInt8) (p : Option Addr) (c : Nat) (hoff : off + b.length ≤ 256) (hb : BA w p b) (hf : ∀ a, p = some a → 0 < b.length → a.block ≠ B) :
    Calls Tryd.prog 22 #[.pointer (some ⟨B, 0, none⟩), .int .i64 0, .int .i64 (off : Int), .slice p b.length c] w fun e w' => e = .returned (.int .i64 0) ∧ LF W0 w' V G B C S n T (M.write 0 off b).2 P := by
  refine (Write_any B 0 off _ b w M 0 h.fw.mach h.fw.ok (by omega) (Co.BA.is hb c hf) (by omega)).mono ?_
  rintro e w' ⟨rfl, hm, hg⟩
  obtain ⟨h1, h2, _⟩ := h.good.write off b hoff
  obtain ⟨x, y⟩ := h.fw.left hm hg (Mach.write_ok h.fw.ok _ _ _)
  exact ⟨by rw [h1], x, h2, y.grown h.g h.lo, h.lo⟩
theorem num4_wr (h : Good M) (a b : Nat) : num4 (M.write 0 ((4 : Nat) : Int) [UInt8.ofNat a, UInt8.ofNat b]).2 = a % 256 + 256 * (b % 256) := by
  obtain ⟨_, _, h2⟩ := h.write 4 [UInt8.ofNat a, UInt8.ofNat b] (by simp)
  have h4 := h2 4
  have h5 := h2 5
  unfold num4
  rw [h4, h5, if_pos (by simp), if_pos (by simp)]
  simp only [Nat.sub_self, List.getD_cons_zero, show 5 - 4 = 1 from rfl, List.getD_cons_succ]
  rw [UInt8.toNat_ofNat', UInt8.toNat_ofNat']
/-- a row of two bytes, written at 4 -/
theorem lNum (h : LF W0 w V G B C S n T M P) (g c a b : Nat) (ha : a < 256) (hb : b < 256) (h0 : w.cell? ⟨g, 0, none⟩ = some (.int .u8 a)) (h1 : w.cell? ⟨g, 1, none⟩ = some (.int .u8 b)) (hg : g ≠ B) :
    Calls Tryd.prog 22 #[.pointer (some ⟨B, 0, none⟩), .int .i64 0, .int .i64 4, .slice (some ⟨g, 0, none⟩) 2 c] w fun e w' => ∃ M2, e = .returned (.int .i64 0) ∧ LF W0 w' V G B C S n T M2 P ∧ num4 M2 = a + 256 * b := by
  refine (show Calls _ _ _ _ _ from lWrite h 4 [UInt8.ofNat a, UInt8.ofNat b] (some ⟨g, 0, none⟩) c (by simp) (fun kk hkk => ?_) (fun a ha _ => by cases ha; exact hg)).mono ?_
  · refine ⟨g, 0, rfl, ?_⟩
    rcases (show kk = 0 ∨ kk = 1 by simp at hkk; omega) with rfl | rfl
    · simp only [Nat.zero_add, List.getD_cons_zero]
      rw [h0, UInt8.toNat_ofNat', Nat.mod_eq_of_lt ha]
    · simp only [Nat.zero_add, List.getD_cons_succ, List.getD_cons_zero]
      rw [h1, UInt8.toNat_ofNat', Nat.mod_eq_of_lt hb]
  · rintro e w' ⟨rfl, h1⟩
    exact ⟨_, rfl, h1, by rw [num4_wr h.good, Nat.mod_eq_of_lt ha, Nat.mod_eq_of_lt hb]⟩
end Go.Proofs.YtnplkifohocekaaDoor.Co
