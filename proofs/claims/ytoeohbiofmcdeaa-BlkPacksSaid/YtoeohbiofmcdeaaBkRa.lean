/-
  Package blk: the reference's Pack.
-/
import Derived.Test.YtoeohbiofmcdeaaBkY
import Derived.Test.YtoeohbiofmcdeaaBkK
import Derived.Deep.Cut
set_option linter.unusedSimpArgs false
set_option linter.unusedVariables false
namespace Go.Proofs.Ytoeohbiofmcdeaa.Bk
open Go.RowKit Gen
set_option maxHeartbeats 4000000

/-- two rows of bytes and an error -/
def PackR (x y : List UInt8) (k : Int) (w : World) (e : Ending) (w' : World) : Prop := ∃ p c q d, e = .returned (.tuple #[.slice p x.length c, .slice q y.length d, .int .i64 k]) ∧ BA w' p x ∧ BA w' q y ∧ w.grownBy w' none
theorem PackR.no {w w' : World} {k : Int} (hg : w.grownBy w' none) : PackR [] [] k w (.returned (.tuple #[.slice none 0 0, .slice none 0 0, .int .i64 k])) w' := ⟨none, 0, none, 0, rfl, BA.nil _ _, BA.nil _ _, hg⟩
theorem PackR.of {x y : List UInt8} {w w' : World} {base : Nat} {v : Value} {q : Option Addr} {d n : Nat} (hx : x.length = 16) (ho : w'.ownsRow base 5 1 v 16 (bcells x)) (hn : y.length = n) (hy : BA w' q y) (hg : w.grownBy w' none) : PackR x y 0 w (.returned (.tuple #[v, .slice q n d, .int .i64 0])) w' := by
  rw [← hx] at ho
  subst hn
  obtain ⟨p, c, rfl, hb, _⟩ := own_ba2 ho
  exact ⟨p, c, q, d, rfl, hb, hy, hg⟩
/-- the numbers ahead of the segments -/
def Rq.head (r : Rq) (page : Int) : Bool := decide (0 ≤ r.op) && decide (r.op ≤ 2) && fitsV r.id 65536 && fitsV r.sec 4294967296 && pageOk page
theorem ok_head (r : Rq) (page : Int) : (r.ok && pageOk page) = (r.head page && r.segs.all Seg.ok) := by
  simp only [Rq.ok, Rq.head, Bool.and_assoc]
  rw [Bool.and_comm (r.segs.all Seg.ok)]
theorem all_ok_next {l : List Seg} {k : Nat} {s : Seg} (h : l[k]? = some s) (ha : (l.take k).all Seg.ok = true) (hs : s.ok = true) : (l.take (k + 1)).all Seg.ok = true := by rw [take_next h, List.all_append, ha]; simp [hs]
theorem back_next {l : List Seg} {k : Nat} {s : Seg} (h : l[k]? = some s) : (l.take (k + 1)).any Seg.back = ((l.take k).any Seg.back || s.back) := by
  rw [take_next h, List.any_append]; simp
set_option maxRecDepth 100000 in
theorem rPack_head (r : Rq) (page : Int) (p : Option Addr) (c : Nat) (w : World) (h : r.head page = false) : Calls Try.prog 13 #[r.val p c, .int .i64 page] w (PackR [] [] 1 w) := by
  obtain ⟨op, id, sec, segs⟩ := r
  simp only [Rq.val, Rq.head, fitsV, pageOk] at *
  generalize segs.length = n
  obtain ⟨W, hW⟩ : ∃ W, w.alloc (.cells #[.int .i64 op, .int .i64 id, .int .i64 sec, .slice p n c] 24) = W := ⟨_, rfl⟩
  have HG0 := hid (show w.grownBy W none from hW ▸ World.grownBy_alloc _ _ _)
  have HRW := hid (rowQ hW)
  have HKB := hid (show w.heap.size < W.heap.size from HRW.out.lt)
  have c0 := HRW.out.cell (k := 0) (by omega); have c1 := HRW.out.cell (k := 1) (by omega); have c2 := HRW.out.cell (k := 2) (by omega); have c3 := HRW.out.cell (k := 3) (by omega)
  simp only [rqV] at c0 c1 c2 c3
  obtain ⟨b0, hb0⟩ : ∃ b, decide (op < 0) = b := ⟨_, rfl⟩
  obtain ⟨b1, hb1⟩ : ∃ b, decide (2 < op) = b := ⟨_, rfl⟩
  obtain ⟨b2, hb2⟩ : ∃ b, decide (id < 0) = b := ⟨_, rfl⟩
  obtain ⟨b3, hb3⟩ : ∃ b, decide (65536 ≤ id) = b := ⟨_, rfl⟩
  obtain ⟨b4, hb4⟩ : ∃ b, decide (sec < 0) = b := ⟨_, rfl⟩
  obtain ⟨b5, hb5⟩ : ∃ b, decide (4294967296 ≤ sec) = b := ⟨_, rfl⟩
  obtain ⟨b6, hb6⟩ : ∃ b, decide (page < -1) = b := ⟨_, rfl⟩
  obtain ⟨b7, hb7⟩ : ∃ b, decide (255 < page) = b := ⟨_, rfl⟩
  have hh : (b0 = true) ∨ (b0 = false ∧ b1 = true) ∨ (b0 = false ∧ b1 = false ∧ b2 = true) ∨ (b0 = false ∧ b1 = false ∧ b2 = false ∧ b3 = true) ∨ (b0 = false ∧ b1 = false ∧ b2 = false ∧ b3 = false ∧ b4 = true) ∨ (b0 = false ∧ b1 = false ∧ b2 = false ∧ b3 = false ∧ b4 = false ∧ b5 = true) ∨ (b0 = false ∧ b1 = false ∧ b2 = false ∧ b3 = false ∧ b4 = false ∧ b5 = false ∧ b6 = true) ∨ (b0 = false ∧ b1 = false ∧ b2 = false ∧ b3 = false ∧ b4 = false ∧ b5 = false ∧ b6 = false ∧ b7 = true) := by
    subst hb0 hb1 hb2 hb3 hb4 hb5 hb6 hb7
    simp only [decide_eq_true_eq, decide_eq_false_iff_not]
    by_cases x0 : op < 0 <;> by_cases x1 : 2 < op <;> by_cases x2 : id < 0 <;> by_cases x3 : 65536 ≤ id <;> by_cases x4 : sec < 0 <;> by_cases x5 : 4294967296 ≤ sec <;> by_cases x6 : page < -1 <;> by_cases x7 : 255 < page <;> simp [x0, x1, x2, x3, x4, x5, x6, x7]
    simp at h
    omega
  clear h
  rcases hh with rfl | ⟨rfl, rfl⟩ | ⟨rfl, rfl, rfl⟩ | ⟨rfl, rfl, rfl, rfl⟩ | ⟨rfl, rfl, rfl, rfl, rfl⟩ | ⟨rfl, rfl, rfl, rfl, rfl, rfl⟩ | ⟨rfl, rfl, rfl, rfl, rfl, rfl, rfl⟩ | ⟨rfl, rfl, rfl, rfl, rfl, rfl, rfl, rfl⟩
  all_goals
    go_enter Try.func13, Try.ntmps13
    go_wp2
    refine bodyPost_ret (v := .tuple #[.slice none 0 0, .slice none 0 0, .int .i64 1]) (by simp [results, Try.results13, go_sem, Act.put]) rfl (.no HG0.out)
set_option maxRecDepth 100000 in
theorem rPack_seg (r : Rq) (page : Int) (p : Option Addr) (c : Nat) (w : World) (h : SA w p r.segs) (hl : r.segs.length ≤ 281474976710656) (hh : r.head page = true) (hbad : r.segs.all Seg.ok = false) : Calls Try.prog 13 #[r.val p c, .int .i64 page] w (PackR [] [] 1 w) := by
  obtain ⟨op, id, sec, segs⟩ := r
  simp only [Rq.val] at *
  simp only [Rq.head, fitsV, pageOk, Bool.and_eq_true, decide_eq_true_eq, Bool.or_eq_true] at hh
  obtain ⟨⟨⟨⟨o0, o2⟩, i0, i1⟩, s0, s1⟩, hpg⟩ := hh
  have b0 : decide (op < 0) = false := by simp; omega
  have b1 : decide (2 < op) = false := by simp; omega
  have b2 : decide (id < 0) = false := by simp; omega
  have b3 : decide (65536 ≤ id) = false := by simp; omega
  have b4 : decide (sec < 0) = false := by simp; omega
  have b5 : decide (4294967296 ≤ sec) = false := by simp; omega
  have b6 : decide (page < -1) = false := by simp; omega
  have b7 : decide (255 < page) = false := by simp; omega
  obtain ⟨n, hn⟩ : ∃ n, segs.length = n := ⟨_, rfl⟩
  have HN := hid hn
  have HS := hid h
  have HBAD := hid hbad
  rw [hn] at hl ⊢
  clear h hn hpg hbad o0 o2 i0 i1 s0 s1
  obtain ⟨W, hW⟩ : ∃ W, w.alloc (.cells #[.int .i64 op, .int .i64 id, .int .i64 sec, .slice p n c] 24) = W := ⟨_, rfl⟩
  have HG0 := hid (show w.grownBy W none from hW ▸ World.grownBy_alloc _ _ _)
  have HRW := hid (rowQ hW)
  have HKB := hid (show w.heap.size < W.heap.size from HRW.out.lt)
  have c0 := HRW.out.cell (k := 0) (by omega); have c1 := HRW.out.cell (k := 1) (by omega); have c2 := HRW.out.cell (k := 2) (by omega); have c3 := HRW.out.cell (k := 3) (by omega)
  simp only [rqV] at c0 c1 c2 c3
  go_enter Try.func13, Try.ntmps13
  go_wp2
  go_loopw [7, 8] (fun v i wr => ∃ k : Nat, i = .int .i64 k ∧ k ≤ n ∧ (∃ o : Bool, v = .bool o) ∧ (segs.take k).all Seg.ok = true ∧ W.grownBy wr none) (fun _ i _ => n - (intOf i).toNat)
  case atStart => exact ⟨0, rfl, by omega, ⟨true, rfl⟩, by simp, grownBy_refl _ _⟩
  case round =>
    obtain ⟨k, rfl, hk, ⟨o, rfl⟩, ha, hg⟩ := hrel
    have HRk := hid (HRW.out.grown hg (by simp))
    have c0 := HRk.out.cell (k := 0) (by omega); have c1 := HRk.out.cell (k := 1) (by omega); have c2 := HRk.out.cell (k := 2) (by omega); have c3 := HRk.out.cell (k := 3) (by omega)
    simp only [rqV] at c0 c1 c2 c3
    have HA := hid ha
    have HG := hid hg
    clear ha
    by_cases hlt : k < n
    · have hlt' : (k : Int) < n := by omega
      have hk0 : (0 : Int) ≤ k := by omega
      obtain ⟨s, hs⟩ : ∃ s, segs[k]? = some s := ⟨_, List.getElem?_eq_getElem (by rw [HN.out]; exact hlt)⟩
      obtain ⟨bb, oo, rfl, x0, x1, x2⟩ := (HS.out.grown (HG0.out.trans hg)) k s hs
      have HSk := hid hs
      clear hg
      obtain ⟨r, f, g⟩ := s
      simp only at x0 x1 x2
      obtain ⟨y0, hy0⟩ : ∃ b, decide (r < 0) = b := ⟨_, rfl⟩
      obtain ⟨y1, hy1⟩ : ∃ b, decide (255 < r) = b := ⟨_, rfl⟩
      obtain ⟨y2, hy2⟩ : ∃ b, decide (f < 0) = b := ⟨_, rfl⟩
      obtain ⟨y3, hy3⟩ : ∃ b, decide (3 < f) = b := ⟨_, rfl⟩
      obtain ⟨y4, hy4⟩ : ∃ b, decide (g < 0) = b := ⟨_, rfl⟩
      obtain ⟨y5, hy5⟩ : ∃ b, decide (3 < g) = b := ⟨_, rfl⟩
      have hsk : (y0 = true) ∨ (y0 = false ∧ y1 = true) ∨ (y0 = false ∧ y1 = false ∧ y2 = true) ∨ (y0 = false ∧ y1 = false ∧ y2 = false ∧ y3 = true) ∨ (y0 = false ∧ y1 = false ∧ y2 = false ∧ y3 = false ∧ y4 = true) ∨ (y0 = false ∧ y1 = false ∧ y2 = false ∧ y3 = false ∧ y4 = false ∧ y5 = true) ∨ (y0 = false ∧ y1 = false ∧ y2 = false ∧ y3 = false ∧ y4 = false ∧ y5 = false ∧ Seg.ok ⟨r, f, g⟩ = true) := by
        subst hy0 hy1 hy2 hy3 hy4 hy5
        simp only [decide_eq_true_eq, decide_eq_false_iff_not, Seg.ok, fitsV, Bool.and_eq_true]
        omega
      clear hs
      rcases hsk with rfl | ⟨rfl, rfl⟩ | ⟨rfl, rfl, rfl⟩ | ⟨rfl, rfl, rfl, rfl⟩ | ⟨rfl, rfl, rfl, rfl, rfl⟩ | ⟨rfl, rfl, rfl, rfl, rfl, rfl⟩ | ⟨rfl, rfl, rfl, rfl, rfl, rfl, hok⟩
      rotate_left 6
      · have HOK := hid hok
        clear hok
        cases o with
        | true =>
          obtain ⟨fg, hfg⟩ : ∃ b, decide (f ≤ g) = b := ⟨_, rfl⟩
          cases fg
          all_goals
            go_wp2
            go_roundw
            case rel => exact ⟨k + 1, by go_num, hlt, ⟨_, rfl⟩, all_ok_next HSk.out HA.out HOK.out, HG.out.trans (World.grownBy_alloc _ _ none)⟩
            case measure => simp [intOf]; omega
        | false =>
          go_wp2
          go_roundw
          case rel => exact ⟨k + 1, by go_num, hlt, ⟨_, rfl⟩, all_ok_next HSk.out HA.out HOK.out, HG.out.trans (World.grownBy_alloc _ _ none)⟩
          case measure => simp [intOf]; omega
      all_goals
        go_wp2
        refine bodyPost_ret (v := .tuple #[.slice none 0 0, .slice none 0 0, .int .i64 1]) (by simp [results, Try.results13, go_sem, Act.put]) rfl (.no (HG0.out.trans (HG.out.trans (World.grownBy_alloc _ _ none))))
    · exfalso
      have e := HA.out
      rw [take_all (by rw [HN.out]; omega), HBAD.out] at e
      cases e
end Go.Proofs.Ytoeohbiofmcdeaa.Bk
