/-
  Package blk: the program's Pack.
-/
import Derived.Test.YtoeohbiofmcdeaaBkT
import Derived.Test.YtoeohbiofmcdeaaBkU
import Derived.Test.YtoeohbiofmcdeaaBkM
import Derived.BigRegion
import Derived.BigQuiet
import Derived.Deep.RegionHeld3
set_option linter.unusedSimpArgs false
set_option linter.unusedVariables false
namespace Go.Proofs.Ytoeohbiofmcdeaa.Bk
open Go.RowKit Gen
set_option maxHeartbeats 4000000

/-- two rows of bytes and an error -/
def PackQ (x y : List UInt8) (k : Int) (w : World) (e : Ending) (w' : World) : Prop := ∃ p c q d, e = .returned (.tuple #[.slice p x.length c, .slice q y.length d, .int .i64 k]) ∧ BA w' p x ∧ BA w' q y ∧ x.length ≤ c ∧ c ≤ 9223372036854775807 ∧ y.length ≤ d ∧ d ≤ 9223372036854775807 ∧ w.grownBy w' none
theorem PackQ.no {w w' : World} {k : Int} (hg : w.grownBy w' none) : PackQ [] [] k w (.returned (.tuple #[.slice none 0 0, .slice none 0 0, .int .i64 k])) w' := ⟨none, 0, none, 0, rfl, BA.nil _ _, BA.nil _ _, Nat.le_refl _, by omega, Nat.le_refl _, by omega, hg⟩
def pageOk (page : Int) : Bool := decide (page = -1) || fitsV page 256
set_option maxRecDepth 100000 in
theorem bPack_arg (r : Rq) (hf : r.fits) (page : Int) (hp : I64 page) (p : Option Addr) (c : Nat) (w : World) (h : SA w p r.segs) (hl : r.segs.length ≤ 9223372036854775000) (hno : (r.ok && pageOk page) = false) :
    Calls Try.prog 8 #[r.val p c, .int .i64 page] w (PackQ [] [] 1 w) := by
  have H1 := hid fun w' (h' : SA w' p r.segs) => bFitsRq r hf p c w' h' hl
  have H2 := hid fun w' => bFits8 page w' hp
  generalize r.ok = b1 at *
  obtain ⟨op, id, sec, segs⟩ := r
  simp only [Rq.val] at *
  generalize segs.length = n at *
  have HS := hid h
  clear h hl hf
  obtain ⟨W, hW⟩ : ∃ W, w.alloc (.cells #[.int .i64 op, .int .i64 id, .int .i64 sec, .slice p n c] 24) = W := ⟨_, rfl⟩
  have HG0 := hid (show w.grownBy W none from hW ▸ World.grownBy_alloc _ _ _)
  have HRW := hid (rowQ hW)
  have c0 := HRW.out.cell (k := 0) (by omega); have c1 := HRW.out.cell (k := 1) (by omega); have c2 := HRW.out.cell (k := 2) (by omega); have c3 := HRW.out.cell (k := 3) (by omega)
  simp only [rqV] at c0 c1 c2 c3
  cases b1 with
  | false =>
    clear hno
    go_enter Try.func8, Try.ntmps8
    go_wp2_with (go_at_call 22; refine (H1.out _ (HS.out.grown HG0.out)).mono ?_; rintro e w2 ⟨rfl, g2⟩; replace HRW := hid (HRW.out.grown g2 (by simp)); replace HG0 := hid (HG0.out.trans g2); clear c0 c1 c2 c3; have c0 := HRW.out.cell (k := 0) (by omega); have c1 := HRW.out.cell (k := 1) (by omega); have c2 := HRW.out.cell (k := 2) (by omega); have c3 := HRW.out.cell (k := 3) (by omega); (simp only [rqV] at c0 c1 c2 c3); clear g2; clear H1)
    refine bodyPost_ret (v := .tuple #[.slice none 0 0, .slice none 0 0, .int .i64 1]) (by simp [results, Try.results8, go_sem, Act.put]) rfl (.no HG0.out)
  | true =>
    simp only [Bool.true_and, pageOk, Bool.or_eq_false_iff, decide_eq_false_iff_not] at hno
    obtain ⟨hp1, hp2⟩ := hno
    have b0 : (page != -1) = true := by simpa using hp1
    rw [hp2] at H2
    clear hp1 hp2 hp
    go_enter Try.func8, Try.ntmps8
    go_wp2_with (first
      | (go_at_call 22; refine (H1.out _ (HS.out.grown HG0.out)).mono ?_; rintro e w2 ⟨rfl, g2⟩; replace HRW := hid (HRW.out.grown g2 (by simp)); replace HG0 := hid (HG0.out.trans g2); clear c0 c1 c2 c3; have c0 := HRW.out.cell (k := 0) (by omega); have c1 := HRW.out.cell (k := 1) (by omega); have c2 := HRW.out.cell (k := 2) (by omega); have c3 := HRW.out.cell (k := 3) (by omega); (simp only [rqV] at c0 c1 c2 c3); clear g2; clear H1)
      | (go_at_call 23; refine (H2.out _).mono ?_; rintro e w3 ⟨rfl, rfl⟩))
    refine bodyPost_ret (v := .tuple #[.slice none 0 0, .slice none 0 0, .int .i64 1]) (by simp [results, Try.results8, go_sem, Act.put]) rfl (.no HG0.out)
set_option maxRecDepth 100000 in
theorem bPack_form (r : Rq) (hf : r.fits) (page : Int) (hp : I64 page) (p : Option Addr) (c : Nat) (w : World) (h : SA w p r.segs) (hl : r.segs.length ≤ 9223372036854775000) (hok : r.ok = true) (hpg : pageOk page = true) (hno : rqForm r page = false) :
    Calls Try.prog 8 #[r.val p c, .int .i64 page] w (PackQ [] [] 4 w) := by
  have H1 := hid fun w' (h' : SA w' p r.segs) => hok ▸ bFitsRq r hf p c w' h' hl
  have H2 := hid fun w' => bFits8 page w' hp
  have H3 := hid fun w' => bMay r.op r.segs.length page w'
  have H4 := hid fun w' (h' : SA w' p r.segs) => sHas_back r.segs p c w' h' hl
  unfold rqForm at hno
  clear hf hok
  obtain ⟨op, id, sec, segs⟩ := r
  simp only [Rq.val] at *
  generalize mayV op segs.length page = b3 at *
  generalize segs.any Seg.back = b4 at *
  generalize segs.length = n at *
  have HS := hid h
  clear h hl
  obtain ⟨W, hW⟩ : ∃ W, w.alloc (.cells #[.int .i64 op, .int .i64 id, .int .i64 sec, .slice p n c] 24) = W := ⟨_, rfl⟩
  have HG0 := hid (show w.grownBy W none from hW ▸ World.grownBy_alloc _ _ _)
  have HRW := hid (rowQ hW)
  have c0 := HRW.out.cell (k := 0) (by omega); have c1 := HRW.out.cell (k := 1) (by omega); have c2 := HRW.out.cell (k := 2) (by omega); have c3 := HRW.out.cell (k := 3) (by omega)
  simp only [rqV] at c0 c1 c2 c3
  have hpp : (page != -1) = false ∨ ((page != -1) = true ∧ fitsV page 256 = true) := by
    by_cases e : page = -1
    · exact .inl (by simp [e])
    · exact .inr ⟨by simpa using e, by simpa [pageOk, e] using hpg⟩
  clear hpg hp
  have hb : b3 = false ∨ (b3 = true ∧ b4 = true) := by cases b3 <;> cases b4 <;> simp at hno ⊢
  clear hno
  rcases hpp with b0 | ⟨b0, hp2⟩
  · clear H2
    rcases hb with rfl | ⟨rfl, rfl⟩
    all_goals
      go_enter Try.func8, Try.ntmps8
      go_wp2_with (first
        | (go_at_call 22; refine (H1.out _ (HS.out.grown HG0.out)).mono ?_; rintro e w2 ⟨rfl, g2⟩; replace HRW := hid (HRW.out.grown g2 (by simp)); replace HG0 := hid (HG0.out.trans g2); clear c0 c1 c2 c3; have c0 := HRW.out.cell (k := 0) (by omega); have c1 := HRW.out.cell (k := 1) (by omega); have c2 := HRW.out.cell (k := 2) (by omega); have c3 := HRW.out.cell (k := 3) (by omega); (simp only [rqV] at c0 c1 c2 c3); clear g2; clear H1)
        | (go_at_call 24; refine (H3.out _).mono ?_; rintro e w3 ⟨rfl, rfl⟩)
        | (go_at_call 25; refine (H4.out _ (HS.out.grown HG0.out)).mono ?_; rintro e w2 ⟨rfl, g2⟩; replace HRW := hid (HRW.out.grown g2 (by simp)); replace HG0 := hid (HG0.out.trans g2); clear c0 c1 c2 c3; have c0 := HRW.out.cell (k := 0) (by omega); have c1 := HRW.out.cell (k := 1) (by omega); have c2 := HRW.out.cell (k := 2) (by omega); have c3 := HRW.out.cell (k := 3) (by omega); (simp only [rqV] at c0 c1 c2 c3); clear g2; clear H4))
      refine bodyPost_ret (v := .tuple #[.slice none 0 0, .slice none 0 0, .int .i64 4]) (by simp [results, Try.results8, go_sem, Act.put]) rfl (.no HG0.out)
  · rw [hp2] at H2
    clear hp2
    rcases hb with rfl | ⟨rfl, rfl⟩
    all_goals
      go_enter Try.func8, Try.ntmps8
      go_wp2_with (first
        | (go_at_call 22; refine (H1.out _ (HS.out.grown HG0.out)).mono ?_; rintro e w2 ⟨rfl, g2⟩; replace HRW := hid (HRW.out.grown g2 (by simp)); replace HG0 := hid (HG0.out.trans g2); clear c0 c1 c2 c3; have c0 := HRW.out.cell (k := 0) (by omega); have c1 := HRW.out.cell (k := 1) (by omega); have c2 := HRW.out.cell (k := 2) (by omega); have c3 := HRW.out.cell (k := 3) (by omega); (simp only [rqV] at c0 c1 c2 c3); clear g2; clear H1)
        | (go_at_call 23; refine (H2.out _).mono ?_; rintro e w3 ⟨rfl, rfl⟩)
        | (go_at_call 24; refine (H3.out _).mono ?_; rintro e w3 ⟨rfl, rfl⟩)
        | (go_at_call 25; refine (H4.out _ (HS.out.grown HG0.out)).mono ?_; rintro e w2 ⟨rfl, g2⟩; replace HRW := hid (HRW.out.grown g2 (by simp)); replace HG0 := hid (HG0.out.trans g2); clear c0 c1 c2 c3; have c0 := HRW.out.cell (k := 0) (by omega); have c1 := HRW.out.cell (k := 1) (by omega); have c2 := HRW.out.cell (k := 2) (by omega); have c3 := HRW.out.cell (k := 3) (by omega); (simp only [rqV] at c0 c1 c2 c3); clear g2; clear H4))
      refine bodyPost_ret (v := .tuple #[.slice none 0 0, .slice none 0 0, .int .i64 4]) (by simp [results, Try.results8, go_sem, Act.put]) rfl (.no HG0.out)
end Go.Proofs.Ytoeohbiofmcdeaa.Bk
