/-
  Package blk: the reference's Pack where it tells a malformed request.
-/
import Derived.Test.YtoeohbiofmcdeaaBkRa
import Derived.Test.YtoeohbiofmcdeaaBkK
import Derived.Deep.Cut
set_option linter.unusedSimpArgs false
set_option linter.unusedVariables false
namespace Go.Proofs.Ytoeohbiofmcdeaa.Bk
open Go.RowKit Gen
set_option maxHeartbeats 4000000

set_option maxRecDepth 100000 in
theorem rPack_form (r : Rq) (page : Int) (p : Option Addr) (c : Nat) (w : World) (h : SA w p r.segs) (hl : r.segs.length ≤ 281474976710656) (hh : r.head page = true) (hall : r.segs.all Seg.ok = true) (hno : rqForm r page = false) : Calls Try.prog 13 #[r.val p c, .int .i64 page] w (PackR [] [] 4 w) := by
  obtain ⟨op, id, sec, segs⟩ := r
  simp only [Rq.val] at *
  simp only [Rq.head, fitsV, pageOk, Bool.and_eq_true, decide_eq_true_eq, Bool.or_eq_true] at hh
  obtain ⟨⟨⟨⟨o0, o2⟩, i0, i1⟩, s0, s1⟩, hpg⟩ := hh
  have b0 : decide (op < 0) = false := by simp; omega
  have b1 : decide (2 < op) = false := by simp; omega
  have b2 : decide (id < 0) = false := by simp; omega
  have b3 : decide (65536 ≤ id) = false := by simp; omega
  have b4 : decide (sec < 0) = false := by simp; omega
  have b5 : decide (4294967296 ≤ sec) = false := by simp; omega
  have b6 : decide (page < -1) = false := by simp; omega
  have b7 : decide (255 < page) = false := by simp; omega
  unfold rqForm at hno
  simp only at hno
  obtain ⟨n, hn⟩ : ∃ n, segs.length = n := ⟨_, rfl⟩
  have HN := hid hn
  have HS := hid h
  have HALL := hid hall
  rw [hn] at hl hno ⊢
  have M4 := hid fun w' => rMany op n 4 w'
  have M16 := hid fun w' => rMany op n 16 w'
  have hfin : (segs.any Seg.back = true) ∨ (segs.any Seg.back = false ∧ page = -1 ∧ manyV op n 4 = false) ∨ (segs.any Seg.back = false ∧ 0 ≤ page ∧ op = 2) ∨ (segs.any Seg.back = false ∧ 0 ≤ page ∧ op ≠ 2 ∧ manyV op n 16 = false) := by
    cases hb : segs.any Seg.back with
    | true => exact .inl rfl
    | false =>
      rw [hb] at hno
      simp only [Bool.not_false, Bool.and_true] at hno
      by_cases e : page = -1
      · rw [e, mayV_self _ _ o0] at hno
        exact .inr (.inl ⟨rfl, e, by simpa [o2] using hno⟩)
      · have hp0 : 0 ≤ page := by omega
        obtain ⟨q, rfl⟩ : ∃ q : Nat, page = q := ⟨page.toNat, by omega⟩
        rw [mayV_page _ _ _ o0] at hno
        by_cases e2 : op = 2
        · exact .inr (.inr (.inl ⟨rfl, hp0, e2⟩))
        · have : op ≤ 1 := by omega
          exact .inr (.inr (.inr ⟨rfl, hp0, e2, by simpa [this] using hno⟩))
  have HFIN := hid hfin
  clear h hn hpg hall hno o0 o2 i0 i1 s0 s1 hfin
  obtain ⟨W, hW⟩ : ∃ W, w.alloc (.cells #[.int .i64 op, .int .i64 id, .int .i64 sec, .slice p n c] 24) = W := ⟨_, rfl⟩
  have HG0 := hid (show w.grownBy W none from hW ▸ World.grownBy_alloc _ _ _)
  have HRW := hid (rowQ hW)
  have HKB := hid (show w.heap.size < W.heap.size from HRW.out.lt)
  have c0 := HRW.out.cell (k := 0) (by omega); have c1 := HRW.out.cell (k := 1) (by omega); have c2 := HRW.out.cell (k := 2) (by omega); have c3 := HRW.out.cell (k := 3) (by omega)
  simp only [rqV] at c0 c1 c2 c3
  go_enter Try.func13, Try.ntmps13
  go_wp2
  go_loopw [7, 8] (fun v i wr => ∃ k : Nat, i = .int .i64 k ∧ k ≤ n ∧ (∃ o : Bool, v = .bool o ∧ o = !((segs.take k).any Seg.back)) ∧ (segs.take k).all Seg.ok = true ∧ W.grownBy wr none) (fun _ i _ => n - (intOf i).toNat)
  case atStart => exact ⟨0, rfl, by omega, ⟨true, rfl, by simp⟩, by simp, grownBy_refl _ _⟩
  case round =>
    obtain ⟨k, rfl, hk, ⟨o, rfl, hob⟩, ha, hg⟩ := hrel
    have HRk := hid (HRW.out.grown hg (by simp))
    have c0 := HRk.out.cell (k := 0) (by omega); have c1 := HRk.out.cell (k := 1) (by omega); have c2 := HRk.out.cell (k := 2) (by omega); have c3 := HRk.out.cell (k := 3) (by omega)
    simp only [rqV] at c0 c1 c2 c3
    have HA := hid ha
    have HG := hid hg
    clear ha
    by_cases hlt : k < n
    · have hlt' : (k : Int) < n := by omega
      have hk0 : (0 : Int) ≤ k := by omega
      obtain ⟨s, hs⟩ : ∃ s, segs[k]? = some s := ⟨_, List.getElem?_eq_getElem (by rw [HN.out]; exact hlt)⟩
      obtain ⟨bb, oo, rfl, x0, x1, x2⟩ := (HS.out.grown (HG0.out.trans hg)) k s hs
      have HSk := hid hs
      clear hg
      have hok := ok_at HALL.out hs
      obtain ⟨r, f, g⟩ := s
      simp only at x0 x1 x2
      have HOK := hid hok
      simp only [Seg.ok, fitsV, Bool.and_eq_true, decide_eq_true_eq] at hok
      obtain ⟨⟨⟨r0, r1⟩, f0, f1⟩, g0, g1⟩ := hok
      have y0 : decide (r < 0) = false := by simp; omega
      have y1 : decide (255 < r) = false := by simp; omega
      have y2 : decide (f < 0) = false := by simp; omega
      have y3 : decide (3 < f) = false := by simp; omega
      have y4 : decide (g < 0) = false := by simp; omega
      have y5 : decide (3 < g) = false := by simp; omega
      clear hs r0 r1 f0 f1 g0 g1
      have HOB := hid hob
      clear hob
      obtain ⟨fg, hfg⟩ : ∃ b, decide (f ≤ g) = b := ⟨_, rfl⟩
      have HNX := hid (show (!((segs.take (k + 1)).any Seg.back)) = (o && fg) by
        rw [back_next HSk.out, Bool.not_or, ← HOB.out, ← hfg]
        congr 1
        simp only [Seg.back]
        by_cases q : f ≤ g <;> simp [q] <;> omega)
      cases o with
      | true =>
        cases fg
        all_goals
          go_wp2
          go_roundw
          case rel => exact ⟨k + 1, by go_num, hlt, ⟨_, rfl, by rw [HNX.out]; rfl⟩, all_ok_next HSk.out HA.out HOK.out, HG.out.trans (World.grownBy_alloc _ _ none)⟩
          case measure => simp [intOf]; omega
      | false =>
        go_wp2
        go_roundw
        case rel => exact ⟨k + 1, by go_num, hlt, ⟨_, rfl, by rw [HNX.out]; rfl⟩, all_ok_next HSk.out HA.out HOK.out, HG.out.trans (World.grownBy_alloc _ _ none)⟩
        case measure => simp [intOf]; omega
    · have hge : decide ((k : Int) < n) = false := by simp; omega
      have hge2 : ¬ ((k : Int) < n) := by omega
      rw [take_all (by rw [HN.out]; omega)] at hob
      clear hg
      rcases HFIN.out with hb | ⟨hb, hpg, hm⟩ | ⟨hb, hpg, hop⟩ | ⟨hb, hpg, hop, hm⟩
      · obtain rfl : o = false := by rw [hob, hb]; rfl
        clear hb hob
        go_wp2
        refine bodyPost_ret (v := .tuple #[.slice none 0 0, .slice none 0 0, .int .i64 4]) (by simp [results, Try.results13, go_sem, Act.put]) rfl (.no (HG0.out.trans HG.out))
      · obtain rfl : o = true := by rw [hob, hb]; rfl
        clear hob
        have q0 : decide (page < 0) = true := by simp; omega
        have q1 : decide (0 ≤ page) = false := by simp; omega
        have HM := hid fun w' => hm ▸ M4.out w'
        clear hb hpg hm b6 b7
        go_wp2_with (go_at_call 35; refine (HM.out _).mono ?_; rintro e w' ⟨rfl, rfl⟩)
        refine bodyPost_ret (v := .tuple #[.slice none 0 0, .slice none 0 0, .int .i64 4]) (by simp [results, Try.results13, go_sem, Act.put]) rfl (.no (HG0.out.trans HG.out))
      · obtain rfl : o = true := by rw [hob, hb]; rfl
        clear hob
        have q0 : decide (page < 0) = false := by simp; omega
        have q1 : decide (0 ≤ page) = true := by simp; omega
        have q2 : (op == 2) = true := by simp [hop]
        clear hb hpg hop b6 b7
        go_wp2
        refine bodyPost_ret (v := .tuple #[.slice none 0 0, .slice none 0 0, .int .i64 4]) (by simp [results, Try.results13, go_sem, Act.put]) rfl (.no (HG0.out.trans HG.out))
      · obtain rfl : o = true := by rw [hob, hb]; rfl
        clear hob
        have q0 : decide (page < 0) = false := by simp; omega
        have q1 : decide (0 ≤ page) = true := by simp; omega
        have q2 : (op == 2) = false := by simp [hop]
        have HM := hid fun w' => hm ▸ M16.out w'
        clear hb hpg hop hm b6 b7
        go_wp2_with (go_at_call 35; refine (HM.out _).mono ?_; rintro e w' ⟨rfl, rfl⟩)
        refine bodyPost_ret (v := .tuple #[.slice none 0 0, .slice none 0 0, .int .i64 4]) (by simp [results, Try.results13, go_sem, Act.put]) rfl (.no (HG0.out.trans HG.out))
end Go.Proofs.Ytoeohbiofmcdeaa.Bk
